/- Contracts of the functions that copy arguments: ends. -/
import Derived.Test.YtndgbildkeglfaaTo
import Derived.Handy
namespace Go.Proofs.Ytndgbildkeglfaa
open Go.RowKit

theorem toEnd_any (x y : Int) (w : World) :
    Calls Try.prog 116 #[.agg #[.int .i64 x, .int .i64 y]] w fun e w' => e = .returned (.agg #[.int .i64 x, .int .i64 y]) ∧ Ext w w' ∧ w'.heap.size = w.heap.size + 3 := by
  go_enter Try.func116, Try.ntmps116
  go_wp2
  refine bodyPost_ret (v := .agg #[.int .i64 x, .int .i64 y]) (by simp [results, Try.results116, go_sem]) rfl ⟨rfl, ?_, by simp⟩
  exact (((Ext.rfl' w).alloc' _).alloc' _).alloc' _

theorem Try.info44 : (Try.prog.info? 44).map (fun i => (i.zero, i.size, i.bytes)) = some (some (.agg #[.int .i64 0, .int .i64 0]), 2, 16) := by kernel_rfl

/-- Cell j of a row of ends, k of which are copied. -/
def ecell (l : List (Int × Int)) (j : Nat) : Value := .int .i64 (if j % 2 = 0 then gn l (j / 2) else gp l (j / 2))
def ecopied (l : List (Int × Int)) (k : Nat) (j : Nat) : Value := if j < k * 2 then ecell l j else .int .i64 0

theorem ecopied_step {w : World} {b : Nat} {l : List (Int × Int)} {k n : Nat} (h : w.rowIs b 44 n (ecopied l k)) :
    ((w.setCell ⟨b, k * 2, none⟩ (.int .i64 (gn l k))).setCell ⟨b, k * 2 + 1, none⟩ (.int .i64 (gp l k))).rowIs b 44 n (ecopied l (k + 1)) :=
  ((h.set _ _).set _ _).congr fun i _ => by
    simp only [ecopied]
    by_cases e : i = k * 2 + 1
    · subst e
      rw [if_pos rfl, if_pos (by omega)]
      simp only [ecell]
      rw [if_neg (by omega)]
      congr 2; omega
    · rw [if_neg e]
      by_cases e2 : i = k * 2
      · subst e2
        rw [if_pos rfl, if_pos (by omega)]
        simp only [ecell]
        rw [if_pos (by omega)]
        congr 2; omega
      · rw [if_neg e2]
        by_cases hlt : i < k * 2
        · rw [if_pos hlt, if_pos (by omega)]
        · rw [if_neg hlt, if_neg (by omega)]

theorem emade (w : World) (n : Nat) : (w.alloc (.cells (madeCells #[.int .i64 0, .int .i64 0] (n * 2)) 44)).rowIs w.heap.size 44 (n * 2) (fun _ => .int .i64 0) :=
  ⟨_, Go.Deep.blk_alloc_new _ _, size_madeCells _ _, fun i hi => by
    simp only [madeCells]
    have h2 : i % 2 = 0 ∨ i % 2 = 1 := by omega
    rcases h2 with h2 | h2 <;> simp [hi, h2]⟩

set_option maxHeartbeats 400000 in
set_option maxRecDepth 100000 in
theorem toEndS_any {w : World} {v : Value} {l : List (Int × Int)} (h : EndSl w v l) (hs : l.length ≤ 1048576) :
    Calls Try.prog 105 #[v] w fun e w' => e = .returned (.slice (some ⟨w.heap.size, 0, none⟩) l.length l.length) ∧ Ext w w' ∧ w.heap.size + 1 ≤ w'.heap.size ∧ w'.rowIs w.heap.size 44 (l.length * 2) (ecopied l l.length) := by
  obtain ⟨a, b, o, c, rfl, ha, h3, h4, hc⟩ := h
  unfold maxLen at h4
  have Hc := Lib.hid hc
  have Ha := Lib.hid ha
  clear hc ha
  obtain ⟨i0, hi, hz0, hz1, hz2⟩ := info_parts Try.info44
  have hmk : ∀ u : World, (Instr.makeSlice 70 (.int .i64 (l.length : Int)) (.int .i64 (l.length : Int))).run Try.prog u =
      .ok (.slice (some ⟨u.heap.size, 0, none⟩) l.length l.length) (u.alloc (.cells (madeCells #[.int .i64 0, .int .i64 0] (l.length * 2)) 44)) := fun u => by
    have h := run_make (P := Try.prog) u 70 44 i0 _ Try.underlying70 hi hz0 .i64 .i64 l.length l.length (by omega) (Int.le_refl _) (by rw [hz2]; omega) (by omega)
    simpa [hz1, Value.cells] using h
  go_enter Try.func105, Try.ntmps105
  go_wp2
  clear hmk hi hz0 hz1 hz2
  go_loopg [4] l.length (fun g i wr => ∃ k : Nat, k ≤ l.length ∧ g = l.length - k ∧ i = .int .i64 k ∧ Hid (Ext w wr ∧ w.heap.size + 1 ≤ wr.heap.size ∧ wr.rowIs w.heap.size 44 (l.length * 2) (ecopied l k)))
  case atStart => exact ⟨0, Nat.zero_le _, rfl, rfl, (Ext.rfl' w).alloc' _, by simp, (emade w _).congr fun i _ => by simp [ecopied]⟩
  case round =>
    obtain ⟨k, hk, rfl, rfl, Hr⟩ := hrel
    by_cases hlt : k < l.length
    · obtain ⟨hc1, hc2, _, _⟩ := Hc.out k hlt
      obtain rfl := Ha.out (by omega)
      obtain ⟨he, hsz, hrow⟩ := Hr.out
      have hc1' := he.cell' hc1
      have hc2' := he.cell' hc2
      have Hrow := Lib.hid hrow
      clear hrow hc1 hc2
      go_wp2_with (go_at_call 116; (with_reducible refine (toEnd_any _ _ _).mono ?_); rintro e w1 ⟨rfl, he1, hsz1⟩; obtain ⟨f1, f2, f3, f4⟩ := row_two (row_ext Hrow.out he1) (show k * 2 + 1 < l.length * 2 by omega); have He1 := Lib.hid he1; clear he1)
      go_roundg (l.length - (k + 1))
      case measure => omega
      case rel => exact ⟨k + 1, by omega, rfl, by go_num, (((he.trans' He1.out).store (Nat.le_refl _) _).store (Nat.le_refl _) _), by simp; omega, ecopied_step (row_ext Hrow.out He1.out)⟩
    · go_wp2
      go_ret
      obtain rfl : k = l.length := by omega
      obtain ⟨he, hsz, hrow⟩ := Hr.out
      exact ⟨rfl, he, hsz, hrow⟩
end Go.Proofs.Ytndgbildkeglfaa
