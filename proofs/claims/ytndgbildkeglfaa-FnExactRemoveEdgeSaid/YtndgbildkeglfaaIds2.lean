/- Contracts of the program's own functions that check identifiers and inputs. -/
import Derived.Test.YtndgbildkeglfaaIds
namespace Go.Proofs.Ytndgbildkeglfaa
open Go.RowKit

set_option maxHeartbeats 400000 in
set_option maxRecDepth 100000 in
theorem areIds_any {w : World} {v : Value} {l : List Int} (n : Int) (h : IntSl w v l) : Calls Try.prog 69 #[v, .int .i64 n] w fun e w' => e = .returned (.bool (dec (IdsOK l n))) ∧ w = w' := by
  have HI := Lib.hid h
  obtain ⟨a, b, o, c, rfl, ha, hl, hm, hc⟩ := h
  unfold maxLen at hm
  have Hc := Lib.hid hc
  have Ha := Lib.hid ha
  clear hc ha
  by_cases h0 : l.length = 0
  · have h0b : ((l.length : Int) == 0) = true := beq_iff_eq.2 (by omega)
    have H0 := Lib.hid h0
    clear h0
    go_enter Try.func69, Try.ntmps69
    go_wp2
    go_ret
    exact ⟨ret_t ⟨.inl H0.out, fun i hi => absurd hi (by have := H0.out; omega)⟩, rfl⟩
  · have h0b : ((l.length : Int) == 0) = false := beq_eq_false_iff_ne.2 (by omega)
    have H0 := Lib.hid h0
    clear h0
    by_cases hn : (l.length : Int) = n
    · have hnb : ((l.length : Int) != n) = false := by rw [bne_eq_false_iff_eq]; exact hn
      have Hn := Lib.hid hn
      clear hn
      go_enter Try.func69, Try.ntmps69
      go_wp2
      go_loop [16] (fun i => ∃ k : Nat, k ≤ l.length ∧ i = .int .i64 k ∧ Hid (∀ j, j < k → IdOK l j)) (fun i => l.length - (intOf i).toNat)
      case atStart => exact ⟨0, Nat.zero_le _, rfl, fun j hj => absurd hj (by omega)⟩
      case round =>
        obtain ⟨k, hk, rfl, Hr⟩ := hrel
        by_cases hlt : k < l.length
        · obtain ⟨y, hc, rfl, _⟩ := Hc.out k hlt
          obtain rfl := Ha.out (by omega)
          by_cases g1 : gi l k < 1
          · have G1 := Lib.hid g1
            go_wp2
            go_ret
            exact ⟨ret_f (fun h => absurd (h.2 k hlt).1.1 (by have := G1.out; omega)), rfl⟩
          · by_cases g2 : 999999 < gi l k
            · have G2 := Lib.hid g2
              go_wp2
              go_ret
              exact ⟨ret_f (fun h => absurd (h.2 k hlt).1.2 (by have := G2.out; omega)), rfl⟩
            · have He := Lib.hid (show InB (gi l k) 1 999999 from ⟨by omega, by omega⟩)
              by_cases hh : Has (l.take k) (gi l k)
              · have Hhb := Lib.hid (dec_true hh)
                have Hh := Lib.hid hh
                clear hh
                go_wp2_with (go_at_call 107; (with_reducible refine (contains_any _ (HI.out.take hk)).mono ?_); rintro e w' ⟨rfl, rfl⟩; rw [Hhb.out])
                go_ret
                exact ⟨ret_f (fun h => (h.2 k hlt).2 Hh.out), rfl⟩
              · have Hhb := Lib.hid (dec_false hh)
                have Hh := Lib.hid hh
                clear hh
                go_wp2_with (go_at_call 107; (with_reducible refine (contains_any _ (HI.out.take hk)).mono ?_); rintro e w' ⟨rfl, rfl⟩; rw [Hhb.out])
                go_round
                case rel =>
                  refine ⟨k + 1, by omega, by go_num, fun j hj => ?_⟩
                  by_cases e : j = k
                  · subst e; exact ⟨He.out, Hh.out⟩
                  · exact Hr.out j (by omega)
                case measure => simp [intOf]; omega
        · obtain rfl : k = l.length := by omega
          go_wp2
          go_ret
          exact ⟨ret_t ⟨.inr Hn.out, Hr.out⟩, rfl⟩
    · have hnb : ((l.length : Int) != n) = true := by rw [bne_iff_ne]; exact hn
      have Hn := Lib.hid hn
      clear hn
      go_enter Try.func69, Try.ntmps69
      go_wp2
      go_ret
      exact ⟨ret_f (fun h => h.1.elim H0.out Hn.out), rfl⟩

def InputsOK (l : List Int) (n : Int) : Prop := (l.length : Int) = n ∧ AllIn l 0 9

set_option maxHeartbeats 400000 in
set_option maxRecDepth 100000 in
theorem areInputs_any {w : World} {v : Value} {l : List Int} (n : Int) (h : IntSl w v l) : Calls Try.prog 70 #[v, .int .i64 n] w fun e w' => e = .returned (.bool (dec (InputsOK l n))) ∧ w = w' := by
  obtain ⟨a, b, o, c, rfl, ha, hl, hm, hc⟩ := h
  unfold maxLen at hm
  have Hc := Lib.hid hc
  have Ha := Lib.hid ha
  clear hc ha
  by_cases hn : (l.length : Int) = n
  · have hnb : ((l.length : Int) != n) = false := by rw [bne_eq_false_iff_eq]; exact hn
    have Hn := Lib.hid hn
    clear hn
    go_enter Try.func70, Try.ntmps70
    go_wp2
    go_loop [13] (fun i => ∃ k : Nat, k ≤ l.length ∧ i = .int .i64 k ∧ Hid (∀ j, j < k → 0 ≤ gi l j ∧ gi l j ≤ 9)) (fun i => l.length - (intOf i).toNat)
    case atStart => exact ⟨0, Nat.zero_le _, rfl, fun j hj => absurd hj (by omega)⟩
    case round =>
      obtain ⟨k, hk, rfl, Hr⟩ := hrel
      by_cases hlt : k < l.length
      · obtain ⟨y, hc, rfl, _⟩ := Hc.out k hlt
        obtain rfl := Ha.out (by omega)
        by_cases g1 : gi l k < 0
        · have G1 := Lib.hid g1
          go_wp2
          go_ret
          exact ⟨ret_f (fun h => absurd (h.2 k hlt).1 (by have := G1.out; omega)), rfl⟩
        · by_cases g2 : 9 < gi l k
          · have G2 := Lib.hid g2
            go_wp2
            go_ret
            exact ⟨ret_f (fun h => absurd (h.2 k hlt).2 (by have := G2.out; omega)), rfl⟩
          · have He := Lib.hid (show 0 ≤ gi l k ∧ gi l k ≤ 9 from ⟨by omega, by omega⟩)
            go_wp2
            go_round
            case rel =>
              refine ⟨k + 1, by omega, by go_num, fun j hj => ?_⟩
              by_cases e : j = k
              · subst e; exact He.out
              · exact Hr.out j (by omega)
            case measure => simp [intOf]; omega
      · obtain rfl : k = l.length := by omega
        go_wp2
        go_ret
        exact ⟨ret_t ⟨Hn.out, Hr.out⟩, rfl⟩
  · have hnb : ((l.length : Int) != n) = true := by rw [bne_iff_ne]; exact hn
    have Hn := Lib.hid hn
    clear hn
    go_enter Try.func70, Try.ntmps70
    go_wp2
    go_ret
    exact ⟨ret_f (fun h => Hn.out h.1), rfl⟩
end Go.Proofs.Ytndgbildkeglfaa
