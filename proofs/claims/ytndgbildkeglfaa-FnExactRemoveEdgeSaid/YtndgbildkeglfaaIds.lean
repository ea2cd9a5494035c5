/- Contracts of the functions that check identifiers and inputs. -/
import Derived.Test.YtndgbildkeglfaaIn
namespace Go.Proofs.Ytndgbildkeglfaa
open Go.RowKit

def IdOK (l : List Int) (i : Nat) : Prop := InB (gi l i) 1 999999 ∧ ¬ Has (l.take i) (gi l i)
def IdsOK (l : List Int) (n : Int) : Prop := (l.length = 0 ∨ (l.length : Int) = n) ∧ ∀ i, i < l.length → IdOK l i

set_option maxHeartbeats 400000 in
set_option maxRecDepth 100000 in
theorem neIds_any {w : World} {v : Value} {l : List Int} (n : Int) (h : IntSl w v l) : Calls Try.prog 104 #[v, .int .i64 n] w fun e w' => e = .returned (.bool (dec (IdsOK l n))) ∧ w = w' := by
  have HI := Lib.hid h
  obtain ⟨a, b, o, c, rfl, ha, hl, hm, hc⟩ := h
  unfold maxLen at hm
  have Hc := Lib.hid hc
  have Ha := Lib.hid ha
  clear hc ha
  go_enter Try.func104, Try.ntmps104
  go_wp2
  go_loop [9] (fun i => ∃ k : Nat, k ≤ l.length ∧ i = .int .i64 k ∧ Hid (∀ j, j < k → IdOK l j)) (fun i => l.length - (intOf i).toNat)
  case atStart => exact ⟨0, Nat.zero_le _, rfl, fun j hj => absurd hj (by omega)⟩
  case round =>
    obtain ⟨k, hk, rfl, Hr⟩ := hrel
    by_cases hlt : k < l.length
    · obtain ⟨y, hc, rfl, _⟩ := Hc.out k hlt
      obtain rfl := Ha.out (by omega)
      by_cases he : InB (gi l k) 1 999999
      · have Heb := Lib.hid (dec_true he)
        have He := Lib.hid he
        clear he
        by_cases hh : Has (l.take k) (gi l k)
        · have Hhb := Lib.hid (dec_true hh)
          have Hh := Lib.hid hh
          clear hh
          go_wp2_with (first | (go_at_call 88; (with_reducible refine (l1In_any _ _ _ _).mono ?_); rintro e w' ⟨rfl, rfl⟩; rw [Heb.out]) | (go_at_call 109; (with_reducible refine (l1Has_any _ (HI.out.take hk)).mono ?_); rintro e w' ⟨rfl, rfl⟩; rw [Hhb.out]))
          go_ret
          exact ⟨ret_f (fun h => (h.2 k hlt).2 Hh.out), rfl⟩
        · have Hhb := Lib.hid (dec_false hh)
          have Hh := Lib.hid hh
          clear hh
          go_wp2_with (first | (go_at_call 88; (with_reducible refine (l1In_any _ _ _ _).mono ?_); rintro e w' ⟨rfl, rfl⟩; rw [Heb.out]) | (go_at_call 109; (with_reducible refine (l1Has_any _ (HI.out.take hk)).mono ?_); rintro e w' ⟨rfl, rfl⟩; rw [Hhb.out]))
          go_round
          case rel =>
            refine ⟨k + 1, by omega, by go_num, fun j hj => ?_⟩
            by_cases e : j = k
            · subst e; exact ⟨He.out, Hh.out⟩
            · exact Hr.out j (by omega)
          case measure => simp [intOf]; omega
      · have Heb := Lib.hid (dec_false he)
        have He := Lib.hid he
        clear he
        go_wp2_with (first | (go_at_call 88; (with_reducible refine (l1In_any _ _ _ _).mono ?_); rintro e w' ⟨rfl, rfl⟩; rw [Heb.out]))
        go_ret
        exact ⟨ret_f (fun h => He.out (h.2 k hlt).1), rfl⟩
    · obtain rfl : k = l.length := by omega
      by_cases h0 : l.length = 0
      · have h0b : ((l.length : Int) == 0) = true := beq_iff_eq.2 (by omega)
        have H0 := Lib.hid h0
        clear h0
        go_wp2
        go_ret
        exact ⟨ret_t ⟨.inl H0.out, Hr.out⟩, rfl⟩
      · have h0b : ((l.length : Int) == 0) = false := beq_eq_false_iff_ne.2 (by omega)
        by_cases hn : (l.length : Int) = n
        · have hnb : ((l.length : Int) == n) = true := beq_iff_eq.2 (by omega)
          have Hn := Lib.hid hn
          clear hn
          go_wp2
          go_ret
          exact ⟨ret_t ⟨.inr Hn.out, Hr.out⟩, rfl⟩
        · have hnb : ((l.length : Int) == n) = false := beq_eq_false_iff_ne.2 (by omega)
          have Hn := Lib.hid hn
          clear hn
          go_wp2
          go_ret
          exact ⟨ret_f (fun h => h.1.elim h0 Hn.out), rfl⟩

/-- The first place of x in l. -/
def FirstAt (l : List Int) (x : Int) (r : Int) : Prop := (r = -1 ∧ ¬ Has l x) ∨ ∃ k : Nat, r = k ∧ k < l.length ∧ gi l k = x ∧ ∀ j, j < k → gi l j ≠ x

set_option maxRecDepth 100000 in
theorem index_any {w : World} {v : Value} {l : List Int} (x : Int) (h : IntSl w v l) : Calls Try.prog 117 #[v, .int .i64 x] w fun e w' => ∃ r : Int, e = .returned (.int .i64 r) ∧ w = w' ∧ FirstAt l x r := by
  obtain ⟨a, b, o, c, rfl, ha, hl, hm, hc⟩ := h
  unfold maxLen at hm
  have Hc := Lib.hid hc
  have Ha := Lib.hid ha
  clear hc ha
  go_enter Try.func117, Try.ntmps117
  go_wp2
  go_loop [8] (fun i => ∃ k : Nat, k ≤ l.length ∧ i = .int .i64 k ∧ Hid (∀ j, j < k → gi l j ≠ x)) (fun i => l.length - (intOf i).toNat)
  case atStart => exact ⟨0, Nat.zero_le _, rfl, fun j hj => absurd hj (by omega)⟩
  case round =>
    obtain ⟨k, hk, rfl, Hr⟩ := hrel
    by_cases hlt : k < l.length
    · obtain ⟨y, hc, rfl, _⟩ := Hc.out k hlt
      obtain rfl := Ha.out (by omega)
      by_cases he : gi l k = x
      · have heb : (x == gi l k) = true := by simp [he]
        have He := Lib.hid he
        clear he
        go_wp2
        go_ret
        exact ⟨k, rfl, rfl, .inr ⟨k, rfl, hlt, He.out, Hr.out⟩⟩
      · have heb : (x == gi l k) = false := by simp; exact fun e => he e.symm
        have He := Lib.hid he
        clear he
        go_wp2
        go_round
        case rel =>
          refine ⟨k + 1, by omega, by go_num, fun j hj => ?_⟩
          by_cases e : j = k
          · subst e; exact He.out
          · exact Hr.out j (by omega)
        case measure => simp [intOf]; omega
    · go_wp2
      go_ret
      obtain rfl : k = l.length := by omega
      exact ⟨-1, rfl, rfl, .inl ⟨rfl, fun ⟨j, h1, h2⟩ => Hr.out j h1 h2⟩⟩

theorem contains_any {w : World} {v : Value} {l : List Int} (x : Int) (h : IntSl w v l) : Calls Try.prog 107 #[v, .int .i64 x] w fun e w' => e = .returned (.bool (dec (Has l x))) ∧ w = w' := by
  have HI := Lib.hid h
  obtain ⟨a, b, o, c, rfl, ha, hl, hm, hc⟩ := h
  unfold maxLen at hm
  clear hc ha
  go_enter Try.func107, Try.ntmps107
  go_wp2_with fail
  (with_reducible refine (index_any _ HI.out).mono ?_)
  rintro e w' ⟨r, rfl, rfl, hr⟩
  rcases hr with ⟨rfl, hn⟩ | ⟨k, rfl, hk, he, _⟩
  · have Hn := Lib.hid hn
    clear hn
    go_wp2
    go_ret
    exact ⟨ret_f Hn.out, rfl⟩
  · have He := Lib.hid he
    clear he
    go_wp2
    go_ret
    exact ⟨ret_t ⟨k, hk, He.out⟩, rfl⟩
end Go.Proofs.Ytndgbildkeglfaa
