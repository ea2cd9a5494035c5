/- The contract of slices.Repeat of a list with the one element -1. -/
import Derived.Test.YtkpdbceglejbnaaJd
import Derived.Laws.CopyOwn
import Derived.Deep.RegionLaw
import Derived.Shelf.Bits.Mul64
namespace Go.Proofs.Ytkpdbceglejbnaa
open Go.RowKit

set_option maxHeartbeats 1600000 in
theorem mul64_any (x y : Nat) (hx : x < 18446744073709551616) (hy : y < 18446744073709551616) (w : World) :
    Calls Try.prog 177 #[.int .u64 x, .int .u64 y] w fun e w' => e = .returned (.tuple #[.int .u64 ((x * y / 18446744073709551616 : Nat) : Int), .int .u64 ((x * y % 18446744073709551616 : Nat) : Int)]) ∧ w = w' := by
  obtain ⟨bd, bt, bw, hhi⟩ := Lib.mul64_hi x y hx hy
  have ba := Lib.half_mul_le (a := x / 4294967296) (b := y / 4294967296) (by omega) (by omega)
  have bb := Lib.half_mul_le (a := x / 4294967296) (b := y % 4294967296) (by omega) (by omega)
  have bc := Lib.half_mul_le (a := x % 4294967296) (b := y / 4294967296) (by omega) (by omega)
  have ba' : x / 4294967296 * (y / 4294967296) < 18446744073709551616 := by omega
  have bb' : x / 4294967296 * (y % 4294967296) < 18446744073709551616 := by omega
  have bc' : x % 4294967296 * (y / 4294967296) < 18446744073709551616 := by omega
  have bh1 : x / 4294967296 * (y / 4294967296) + (x / 4294967296 * (y % 4294967296) + x % 4294967296 * (y % 4294967296) / 4294967296) / 4294967296 < 18446744073709551616 := by omega
  have bh : x / 4294967296 * (y / 4294967296) + (x / 4294967296 * (y % 4294967296) + x % 4294967296 * (y % 4294967296) / 4294967296) / 4294967296 + ((x / 4294967296 * (y % 4294967296) + x % 4294967296 * (y % 4294967296) / 4294967296) % 4294967296 + x % 4294967296 * (y / 4294967296)) / 4294967296 < 18446744073709551616 := by omega
  go_enter Try.func177, Try.ntmps177
  go_wp2
  simp only [Mul64.maskN x hx, Mul64.maskN y hy, Mul64.divN, Mul64.mulN, Mul64.addN, Mul64.wrapN _ bd, Mul64.wrapN _ bb', Mul64.wrapN _ bt, Mul64.maskN _ bt, Mul64.wrapN _ bc', Mul64.wrapN _ bw, Mul64.wrapN _ ba', Mul64.wrapN _ bh1, Mul64.wrapN _ bh, Mul64.wrapM (x * y)]
  rw [hhi]
  go_ret2
  exact ⟨rfl, rfl⟩

set_option maxHeartbeats 1600000 in
theorem mul_any (n : Nat) (hn : n ≤ 1048576) (w : World) :
    Calls Try.prog 139 #[.int .u64 1, .int .u64 n] w fun e w' => e = .returned (.tuple #[.int .u64 0, .int .u64 n]) ∧ w = w' := by
  have e1 : 1 * n / 18446744073709551616 = 0 := by omega
  have e2 : 1 * n % 18446744073709551616 = n := by omega
  have H : Calls Try.prog 177 #[.int .u64 1, .int .u64 n] w fun e w' => e = .returned (.tuple #[.int .u64 0, .int .u64 n]) ∧ w = w' := by
    have := mul64_any 1 n (by omega) (by omega) w
    rw [e1, e2] at this; exact this
  have HH := Lib.hid H
  clear e1 e2 H
  go_enter Try.func139, Try.ntmps139
  go_wp2_with (go_at_call 177; (with_reducible refine HH.out.mono ?_); rintro e w' ⟨rfl, rfl⟩)
  go_ret2
  exact ⟨rfl, rfl⟩

/-- The row once k cells have been written. -/
def repRow (n k : Nat) : List Value := List.replicate k (.int .i64 (-1)) ++ List.replicate (n - k) (.int .i64 0)
theorem repRow_len {n k : Nat} (h : k ≤ n) : (repRow n k).length = n := by simp [repRow]; omega
theorem repRow_splice {n k m : Nat} (h : k + m ≤ n) : splice (repRow n k) k (List.replicate m (.int .i64 (-1))) = repRow n (k + m) := by
  unfold splice repRow
  rw [List.take_left' (by simp), List.length_replicate, List.drop_append, List.drop_replicate, List.drop_replicate, List.length_replicate, ← List.append_assoc, ← List.append_assoc, List.replicate_append_replicate, List.append_assoc]
  have e1 : k - (k + m) = 0 := by omega
  have e2 : n - k - (k + m - k) = n - (k + m) := by omega
  rw [e1, e2]; simp

theorem repRow_made (n : Nat) : madeCells #[Value.int .i64 0] n = (repRow n 0).toArray := by
  apply Array.ext
  · simp [repRow, madeCells]
  · intro i h1 h2
    simp [repRow, madeCells, Nat.mod_one]
theorem rep_one {m : Nat} : ∀ v ∈ List.replicate m (Value.int .i64 (-1)), v.oneCell' = true := fun v hv => by
  obtain rfl := List.eq_of_mem_replicate hv; rfl
theorem one_src {w : World} {xb : Nat} (h : w.cell? ⟨xb, 0, none⟩ = some (.int .i64 (-1))) : ∀ j v, (List.replicate 1 (Value.int .i64 (-1)))[j]? = some v → w.cell? ((⟨xb, 0, none⟩ : Addr).add j) = some v := fun j v hv => by
  have hj : j < 1 := by have := (List.getElem?_eq_some_iff.1 hv).1; simpa using this
  obtain rfl : j = 0 := by omega
  rw [add_plain]
  rw [h, ← hv]; rfl
theorem rep_src {w : World} {b n k m : Nat} (h : w.heap[b]? = some (.cells (repRow n k).toArray 3 (0, 0))) (hm : m ≤ k) : ∀ j v, (List.replicate m (Value.int .i64 (-1)))[j]? = some v → w.cell? ((⟨b, 0, none⟩ : Addr).add j) = some v := fun j v hv => by
  have hj : j < m := by have := (List.getElem?_eq_some_iff.1 hv).1; simpa using this
  have hr : w.rowIs b 3 (repRow n k).length (fun i => (repRow n k).getD i undef) := ⟨_, h, by simp, fun i hi => by simp [hi]⟩
  rw [add_plain, Nat.zero_add, hr.cell (by simp [repRow]; omega), ← hv]
  simp [repRow, hj, show j < k by omega, List.getElem?_append_left]

set_option maxHeartbeats 3200000 in
set_option maxRecDepth 100000 in
theorem repeat_any {w : World} {xb n : Nat} (h0 : 1 ≤ n) (hn : n ≤ 40) (hc : w.cell? ⟨xb, 0, none⟩ = some (.int .i64 (-1))) :
    Calls Try.prog 173 #[.slice (some ⟨xb, 0, none⟩) 1 1, .int .i64 n] w fun e w' => ∃ b, e = .returned (.slice (some ⟨b, 0, none⟩) n n) ∧ Ext w w' ∧ w'.rowIs b 3 n (fun _ => .int .i64 (-1)) ∧ w.heap.size ≤ b := by
  have hmk := run_make_row' (P := Try.prog) 26 3 (.int .i64 0) 8 Try.underlying26 Try.info3 rfl .i64 .i64 n (by omega) (by omega)
  have E0 := Lib.hid (show Below w.heap.size w (w.alloc (.cells (madeCells #[.int .i64 0] n) 3)) from ⟨rfl, rfl, rfl, by simp, fun _ hk => heap_alloc_old _ _ hk⟩)
  have H0 := Lib.hid (show (w.alloc (.cells (madeCells #[.int .i64 0] n) 3)).heap[w.heap.size]? = some (.cells (repRow n 0).toArray 3 (0, 0)) by
    rw [heap_alloc_new, repRow_made])
  have hc0 := Lib.hid (show (w.alloc (.cells (madeCells #[.int .i64 0] n) 3)).cell? ⟨xb, 0, none⟩ = some (.int .i64 (-1)) from ((Ext.rfl' w).alloc' _).cell' hc)
  have HSZ := Lib.hid (show (Try.prog.info? 3).map (·.size) = some 1 by kernel_rfl)
  have hml : (1 : Nat) = Nat.min 1 n := by simp [Nat.min_def]; omega
  have HML := Lib.hid hml
  clear hml
  go_enter Try.func173, Try.ntmps173
  go_wp2_with (first | (go_at_call 139; (with_reducible refine (mul_any n (by omega) _).mono ?_); rintro e w' ⟨rfl, rfl⟩) | ((with_reducible show wpList _ _ _ _ _ _); refine wpList_copy_splice rfl (.tmp 31) (.tmp 32) 26 26 rfl 3 Try.underlying26 HSZ.out (some ⟨w.heap.size, 0, none⟩) (some ⟨xb, 0, none⟩) n n 1 1 rfl rfl w.heap.size 0 (repRow n 0) 3 H0.out (List.replicate 1 (.int .i64 (-1))) HML.out (fun _ => ⟨rfl, ⟨xb, 0, none⟩, rfl, one_src hc0.out⟩) (by rw [repRow_len (by omega)]; simp; omega) rep_one w.heap.size w E0.out (Nat.le_refl _) ?_))
  intro w2 hg2 hb2
  rw [show [Value.int .i64 (-1)] = List.replicate 1 (Value.int .i64 (-1)) from rfl, repRow_splice (n := n) (k := 0) (m := 1) (by omega)] at hg2
  have HB2 := Lib.hid hb2
  clear hb2
  go_wp2
  go_loopg [8] (n - 1) (fun g k wr => ∃ j : Nat, 1 ≤ j ∧ j ≤ n ∧ g = n - j ∧ k = .int .i64 j ∧ Hid (wr.heap[w.heap.size]? = some (.cells (repRow n j).toArray 3 (0, 0)) ∧ Below w.heap.size w wr))
  case atStart => exact ⟨1, Nat.le_refl _, h0, rfl, rfl, hg2.out, HB2.out⟩
  case round =>
    obtain ⟨j, hj1, hj, rfl, rfl, Hr⟩ := hrel
    by_cases hlt : j < n
    · obtain ⟨m, hm⟩ : ∃ m, m = Nat.min j (n - j) := ⟨_, rfl⟩
      have hm2 : m ≤ n - j ∧ m ≤ j ∧ 1 ≤ m := by rw [hm]; refine ⟨Nat.min_le_right _ _, Nat.min_le_left _ _, ?_⟩; simp [Nat.min_def]; split <;> omega
      have HM := Lib.hid hm
      have HM2 := Lib.hid hm2
      clear hm hm2
      go_wp2_with fail
      go_region_law (first | (refine step_copy_splice rfl (.tmp 41) (.tmp 44) 26 26 rfl 3 Try.underlying26 HSZ.out (some ⟨w.heap.size, j, none⟩) (some ⟨w.heap.size, 0, none⟩) (n - j) (n - j) j n (by simp [Act.eval, Act.put]; omega) (by simp [Act.eval, Act.put]) w.heap.size j (repRow n j) 3 Hr.out.1 (List.replicate m (.int .i64 (-1))) (by rw [List.length_replicate]; exact HM.out) (fun _ => ⟨rfl, ⟨w.heap.size, 0, none⟩, rfl, rep_src Hr.out.1 (by have := HM2.out; omega)⟩) (by rw [repRow_len (by omega), List.length_replicate]; have := HM2.out; omega) rep_one w.heap.size w (by obtain ⟨a, b, c, d, e⟩ := Hr.out.2; exact ⟨a, b, c, d, e⟩) (Nat.le_refl _) ?_; intro w4 hg4 hb4; rw [repRow_splice (by have := HM2.out; omega)] at hg4; have HB4 := Lib.hid hb4; clear hb4))
      go_wp2
      have hm2 := HM2.out
      have hw : IntKind.i64.wrap ((j : Int) + (m : Int)) = ((j + m : Nat) : Int) := by rw [IntKind.wrap_i64]; omega
      go_roundg (n - (j + m))
      case measure => omega
      case rel => exact ⟨j + m, by omega, by omega, rfl, by rw [hw], hg4.out, HB4.out⟩
    · obtain rfl : j = n := by omega
      go_wp2
      go_ret
      refine ⟨w.heap.size, rfl, ?_, ⟨_, Hr.out.1, by simp [repRow], fun i hi => by simp [repRow, hi]⟩, Nat.le_refl _⟩
      obtain ⟨a, b, c, d, e⟩ := Hr.out.2
      exact ⟨a, b, c, d, e⟩
end Go.Proofs.Ytkpdbceglejbnaa
