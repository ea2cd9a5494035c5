/- A cell of an array of two numbers that is a value. -/
import Derived.Test.YtecdelmcnbgglaaGa
namespace Go.Proofs.Ytecdelmcnbgglaa
open Go.RowKit

theorem idx0 (x y : Int) (w : World) : (Instr.index 58 (.agg #[.int .i64 x, .int .i64 y]) (.int .i64 0)).run Try.prog w = .ok (.int .i64 x) w := by
  first
    | kernel_rfl
    | rfl
    | (obtain ⟨i3, hi, hz0, hz1, hz2⟩ := info_parts Try.info3
       simp [Instr.index, asIntOf, run_underlying Try.underlying58, sizeOf, typeInfo, hi, hz1, go_sem])
theorem idx1 (x y : Int) (w : World) : (Instr.index 58 (.agg #[.int .i64 x, .int .i64 y]) (.int .i64 1)).run Try.prog w = .ok (.int .i64 y) w := by
  first
    | kernel_rfl
    | rfl
    | (obtain ⟨i3, hi, hz0, hz1, hz2⟩ := info_parts Try.info3
       simp [Instr.index, asIntOf, run_underlying Try.underlying58, sizeOf, typeInfo, hi, hz1, go_sem])
end Go.Proofs.Ytecdelmcnbgglaa
