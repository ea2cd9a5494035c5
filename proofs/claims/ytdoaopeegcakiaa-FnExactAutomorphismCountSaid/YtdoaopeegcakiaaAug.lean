/- The contract of the model's isBefore. -/
import Derived.Test.YtdoaopeegcakiaaAue
import Derived.Test.YtdoaopeegcakiaaAuf
namespace Go.Proofs.Ytdoaopeegcakiaa
open Go.RowKit

theorem drop_cons_gi {l : List Int} {i : Nat} (h : i < l.length) : l.drop i = gi l i :: l.drop (i + 1) := by
  rw [List.drop_eq_getElem_cons h]; simp [gi, List.getD, h]
theorem bool_ofw {b c : Bool} (h : b = c) : Ending.returned (.bool b) = .returned (.bool c) := by rw [h]
theorem before_drop {a b : List Int} : ∀ i, i ≤ a.length → i ≤ b.length → (∀ j, j < i → gi a j = gi b j) → before a b = before (a.drop i) (b.drop i)
  | 0, _, _, _ => by simp
  | i + 1, ha, hb, h => by
    rw [before_drop i (by omega) (by omega) fun j hj => h j (by omega), drop_cons_gi (l := a) (by omega), drop_cons_gi (l := b) (by omega)]
    simp only [before, if_pos (h i (by omega))]
theorem before_at {a b : List Int} {i : Nat} (ha : i < a.length) (hb : i < b.length) (h : ∀ j, j < i → gi a j = gi b j) (hn : gi a i ≠ gi b i) : before a b = decide (gi a i < gi b i) := by
  rw [before_drop i (by omega) (by omega) h, drop_cons_gi ha, drop_cons_gi hb]
  simp only [before, if_neg hn]
theorem before_end {a b : List Int} {i : Nat} (ha : i ≤ a.length) (hb : i ≤ b.length) (he : i = a.length ∨ i = b.length) (h : ∀ j, j < i → gi a j = gi b j) : before a b = decide (a.length < b.length) := by
  rw [before_drop i ha hb h]
  rcases he with rfl | rfl
  · rw [List.drop_length]
    by_cases e : a.length < b.length
    · rw [drop_cons_gi e, decide_eq_true e]; rfl
    · rw [List.drop_eq_nil_of_le (by omega), decide_eq_false e]; rfl
  · rw [List.drop_length, decide_eq_false (by omega)]
    cases a.drop b.length <;> rfl

set_option maxHeartbeats 1600000 in
set_option maxRecDepth 100000 in
theorem isBefore_any {w : World} {v1 v2 : Value} {l1 l2 : List Int} (h1 : IntSl w v1 l1) (h2 : IntSl w v2 l2) :
    Calls Try.prog 80 #[v1, v2] w fun e w' => e = .returned (.bool (before l1 l2)) ∧ Ext w w' := by
  obtain ⟨a, b, o, c, rfl, ha, hl, hm, hc⟩ := h1
  obtain ⟨a2, b2, o2, c2, rfl, ha2, hl2, hm2, hc2⟩ := h2
  unfold maxLen at hm hm2
  have Ha := Lib.hid ha
  have Ha2 := Lib.hid ha2
  have Hc := Lib.hid hc
  have Hc2 := Lib.hid hc2
  clear ha ha2 hc hc2
  go_enter Try.func80, Try.ntmps80
  go_wp2
  go_loopg [5] l1.length (fun g i wr => ∃ k : Nat, k ≤ l1.length ∧ k ≤ l2.length ∧ g = l1.length - k ∧ i = .int .i64 (k : Int) ∧ Hid (Ext w wr ∧ ∀ j, j < k → gi l1 j = gi l2 j))
  case atStart => exact ⟨0, Nat.zero_le _, Nat.zero_le _, rfl, rfl, Ext.rfl' _, fun j hj => absurd hj (by omega)⟩
  case round =>
    obtain ⟨k, hk1, hk2, rfl, rfl, Hr⟩ := hrel
    by_cases x1 : k < l1.length
    · by_cases x2 : k < l2.length
      · obtain ⟨_, r1, rfl, _⟩ := Hc.out k x1
        obtain ⟨_, r2, rfl, _⟩ := Hc2.out k x2
        obtain rfl := Ha.out (by omega)
        obtain rfl := Ha2.out (by omega)
        have r1' := Hr.out.1.cell' r1
        have r2' := Hr.out.1.cell' r2
        clear r1 r2
        by_cases e : gi l1 k = gi l2 k
        · have e1 : (gi l1 k != gi l2 k) = false := by simp [e]
          have HE := Lib.hid e
          clear e
          go_wp2
          go_quiet (fail)
          go_wp2
          go_roundg (l1.length - (k + 1))
          case measure => omega
          case rel =>
            refine ⟨k + 1, by omega, by omega, rfl, by go_num, Hr.out.1.drewN' _, fun j hj => ?_⟩
            by_cases ej : j = k
            · subst ej; exact HE.out
            · exact Hr.out.2 j (by omega)
        · have e1 : (gi l1 k != gi l2 k) = true := by simp [e]
          have HB := Lib.hid (before_at x1 x2 Hr.out.2 e)
          clear e
          go_wp2
          go_quiet (fail)
          go_wp2
          go_quiet (fail)
          go_wp2
          go_ret
          exact ⟨bool_ofw HB.out.symm, (Hr.out.1.drewN' _).drewN' _⟩
      · have HB := Lib.hid (before_end (by omega) (by omega) (.inr (by omega)) Hr.out.2)
        go_wp2
        go_ret
        exact ⟨bool_ofw (by rw [HB.out]), Hr.out.1⟩
    · have HB := Lib.hid (before_end (by omega) (by omega) (.inl (by omega)) Hr.out.2)
      go_wp2
      go_ret
      exact ⟨bool_ofw (by rw [HB.out]), Hr.out.1⟩
end Go.Proofs.Ytdoaopeegcakiaa
