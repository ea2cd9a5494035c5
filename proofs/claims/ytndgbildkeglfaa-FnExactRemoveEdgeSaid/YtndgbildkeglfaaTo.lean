/- Contracts of the functions that copy arguments: the copy reads as the original and lies in new blocks. -/
import Derived.Test.YtndgbildkeglfaaKit
namespace Go.Proofs.Ytndgbildkeglfaa
open Go.RowKit

theorem Try.info3 : (Try.prog.info? 3).map (fun i => (i.zero, i.size, i.bytes)) = some (some (.int .i64 0), 1, 8) := by kernel_rfl
theorem Try.info70 : (Try.prog.info? 70).map (fun i => (i.zero, i.size, i.bytes)) = some (some (.slice none 0 0), 1, 24) := by kernel_rfl

/-- k of the n numbers of l, the others are zero. -/
def copied (l : List Int) (k : Nat) (i : Nat) : Value := if i < k then .int .i64 (gi l i) else .int .i64 0

theorem copied_step {w : World} {b : Nat} {l : List Int} {k n : Nat} (h : w.rowIs b 3 n (copied l k)) : (w.setCell ⟨b, k, none⟩ (.int .i64 (gi l k))).rowIs b 3 n (copied l (k + 1)) :=
  (h.set k _).congr fun i _ => by
    simp only [copied]
    by_cases e : i = k
    · subst e; simp
    · rw [if_neg e]
      by_cases hlt : i < k
      · rw [if_pos hlt, if_pos (by omega)]
      · rw [if_neg hlt, if_neg (by omega)]

set_option maxHeartbeats 400000 in
set_option maxRecDepth 100000 in
theorem toIntS_any {w : World} {v : Value} {l : List Int} (h : IntSl w v l) (hs : l.length ≤ 1048576) :
    Calls Try.prog 54 #[v] w fun e w' => e = .returned (.slice (some ⟨w.heap.size, 0, none⟩) l.length l.length) ∧ Ext w w' ∧ w'.heap.size = w.heap.size + 1 ∧ w'.rowIs w.heap.size 3 l.length (copied l l.length) := by
  obtain ⟨a, b, o, c, rfl, ha, h3, h4, hc⟩ := h
  unfold maxLen at h4
  have Hc := Lib.hid hc
  have Ha := Lib.hid ha
  clear hc ha
  have hmk := run_make_row' (P := Try.prog) 23 3 (.int .i64 0) 8 Try.underlying23 Try.info3 rfl .i64 .i64 l.length (by omega) (by omega)
  go_enter Try.func54, Try.ntmps54
  go_wp2
  clear hmk
  go_loopg [4] l.length (fun g i wr => ∃ k : Nat, k ≤ l.length ∧ g = l.length - k ∧ i = .int .i64 k ∧ Hid (Ext w wr ∧ wr.heap.size = w.heap.size + 1 ∧ wr.rowIs w.heap.size 3 l.length (copied l k)))
  case atStart => exact ⟨0, Nat.zero_le _, rfl, rfl, (Ext.rfl' w).alloc' _, by simp, (World.rowIs_made w _ _ _).congr fun i _ => by simp [copied]⟩
  case round =>
    obtain ⟨k, hk, rfl, rfl, Hr⟩ := hrel
    by_cases hlt : k < l.length
    · obtain ⟨x, hc, rfl, _⟩ := Hc.out k hlt
      obtain rfl := Ha.out (by omega)
      obtain ⟨he, hsz, hrow⟩ := Hr.out
      have hc' := he.cell' hc
      have hst := hrow.cell hlt
      have hfr := hrow.frozen k
      have hnext := Lib.hid (copied_step hrow)
      clear hrow hc
      go_wp2
      go_roundg (l.length - (k + 1))
      case measure => omega
      case rel => exact ⟨k + 1, by omega, rfl, by go_num, he.store (Nat.le_refl _) _, by simp [hsz], hnext.out⟩
    · go_wp2
      go_ret
      obtain rfl : k = l.length := by omega
      obtain ⟨he, hsz, hrow⟩ := Hr.out
      exact ⟨rfl, he, hsz, hrow⟩
end Go.Proofs.Ytndgbildkeglfaa
