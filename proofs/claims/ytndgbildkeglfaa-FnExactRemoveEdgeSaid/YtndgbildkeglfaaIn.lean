/- Contracts of the functions that look for a number in a list or hold all of its numbers against bounds. -/
import Derived.Test.YtndgbildkeglfaaEq3
namespace Go.Proofs.Ytndgbildkeglfaa
open Go.RowKit

/-- Whether p holds, as a Bool that no rewriting looks into. -/
noncomputable def dec (p : Prop) : Bool := @decide p (Classical.propDecidable p)
theorem dec_true {p : Prop} (h : p) : dec p = true := @decide_eq_true p (Classical.propDecidable p) h
theorem dec_false {p : Prop} (h : ¬p) : dec p = false := @decide_eq_false p (Classical.propDecidable p) h
theorem dec_iff {p : Prop} : dec p = true ↔ p := ⟨fun h => @of_decide_eq_true p (Classical.propDecidable p) h, dec_true⟩
theorem dec_not {p : Prop} : dec p = false ↔ ¬p := ⟨fun h => @of_decide_eq_false p (Classical.propDecidable p) h, dec_false⟩
theorem dec_congr {p q : Prop} (h : p ↔ q) : dec p = dec q := by rw [propext h]
theorem ret_t {p : Prop} (h : p) : Ending.returned (.bool true) = .returned (.bool (dec p)) := by rw [dec_true h]
theorem ret_f {p : Prop} (h : ¬p) : Ending.returned (.bool false) = .returned (.bool (dec p)) := by rw [dec_false h]

theorem gi_take {l : List Int} {k j : Nat} (h : j < k) : gi (l.take k) j = gi l j := by
  simp [gi, h]
theorem IntSl.take {w : World} {a : Option Addr} {n c k : Nat} {l : List Int} (h : IntSl w (.slice a n c) l) (hk : k ≤ l.length) : IntSl w (.slice a k c) (l.take k) := by
  obtain ⟨a', b, o, c', e, h2, h3, h4, h5⟩ := h
  cases e
  have hl : (l.take k).length = k := by simp; omega
  refine ⟨a, b, o, c, by rw [hl], fun h => h2 (by omega), by omega, h4, fun i hi => ?_⟩
  obtain ⟨x, hx, hr⟩ := h5 i (by omega)
  exact ⟨x, hx, by show _ ∧ _; rw [gi_take (by omega)]; exact hr⟩

def InB (n lo hi : Int) : Prop := lo ≤ n ∧ n ≤ hi
theorem l1In_any (n lo hi : Int) (w : World) : Calls Try.prog 88 #[.int .i64 n, .int .i64 lo, .int .i64 hi] w fun e w' => e = .returned (.bool (dec (InB n lo hi))) ∧ w = w' := by
  by_cases h1 : lo ≤ n
  · by_cases h2 : n ≤ hi
    · have e := Lib.hid (dec_true (p := InB n lo hi) ⟨h1, h2⟩)
      go_enter Try.func88, Try.ntmps88
      go_wp2
      go_ret
      exact ⟨ret_bool e.out.symm, rfl⟩
    · have e := Lib.hid (dec_false (p := InB n lo hi) (fun h => h2 h.2))
      go_enter Try.func88, Try.ntmps88
      go_wp2
      go_ret
      exact ⟨ret_bool e.out.symm, rfl⟩
  · have e := Lib.hid (dec_false (p := InB n lo hi) (fun h => h1 h.1))
    go_enter Try.func88, Try.ntmps88
    go_wp2
    go_ret
    exact ⟨ret_bool e.out.symm, rfl⟩

def Has (l : List Int) (x : Int) : Prop := ∃ j, j < l.length ∧ gi l j = x

set_option maxRecDepth 100000 in
theorem l1Has_any {w : World} {v : Value} {l : List Int} (x : Int) (h : IntSl w v l) : Calls Try.prog 109 #[v, .int .i64 x] w fun e w' => e = .returned (.bool (dec (Has l x))) ∧ w = w' := by
  obtain ⟨a, b, o, c, rfl, ha, hl, hm, hc⟩ := h
  unfold maxLen at hm
  have Hc := Lib.hid hc
  have Ha := Lib.hid ha
  clear hc ha
  go_enter Try.func109, Try.ntmps109
  go_wp2
  go_loop [9] (fun i => ∃ k : Nat, k ≤ l.length ∧ i = .int .i64 k ∧ Hid (∀ j, j < k → gi l j ≠ x)) (fun i => l.length - (intOf i).toNat)
  case atStart => exact ⟨0, Nat.zero_le _, rfl, fun j hj => absurd hj (by omega)⟩
  case round =>
    obtain ⟨k, hk, rfl, Hr⟩ := hrel
    by_cases hlt : k < l.length
    · obtain ⟨y, hc, rfl, _⟩ := Hc.out k hlt
      obtain rfl := Ha.out (by omega)
      by_cases he : gi l k = x
      · have heb : (gi l k == x) = true := by simp [he]
        have He := Lib.hid he
        clear he
        go_wp2
        go_ret
        exact ⟨ret_t ⟨k, hlt, He.out⟩, rfl⟩
      · have heb : (gi l k == x) = false := by simp [he]
        have He := Lib.hid he
        clear he
        go_wp2
        go_round
        case rel =>
          refine ⟨k + 1, by omega, by go_num, fun j hj => ?_⟩
          by_cases e : j = k
          · subst e; exact He.out
          · exact Hr.out j (by omega)
        case measure => simp [intOf]; omega
    · go_wp2
      go_ret
      obtain rfl : k = l.length := by omega
      exact ⟨ret_f (fun ⟨j, h1, h2⟩ => Hr.out j h1 h2), rfl⟩

def AllIn (l : List Int) (lo hi : Int) : Prop := ∀ j, j < l.length → lo ≤ gi l j ∧ gi l j ≤ hi

set_option maxRecDepth 100000 in
theorem l1All_any {w : World} {v : Value} {l : List Int} (lo hi : Int) (h : IntSl w v l) : Calls Try.prog 74 #[v, .int .i64 lo, .int .i64 hi] w fun e w' => e = .returned (.bool (dec (AllIn l lo hi))) ∧ w = w' := by
  obtain ⟨a, b, o, c, rfl, ha, hl, hm, hc⟩ := h
  unfold maxLen at hm
  have Hc := Lib.hid hc
  have Ha := Lib.hid ha
  clear hc ha
  go_enter Try.func74, Try.ntmps74
  go_wp2
  go_loop [11] (fun i => ∃ k : Nat, k ≤ l.length ∧ i = .int .i64 k ∧ Hid (∀ j, j < k → lo ≤ gi l j ∧ gi l j ≤ hi)) (fun i => l.length - (intOf i).toNat)
  case atStart => exact ⟨0, Nat.zero_le _, rfl, fun j hj => absurd hj (by omega)⟩
  case round =>
    obtain ⟨k, hk, rfl, Hr⟩ := hrel
    by_cases hlt : k < l.length
    · obtain ⟨y, hc, rfl, _⟩ := Hc.out k hlt
      obtain rfl := Ha.out (by omega)
      by_cases he : lo ≤ gi l k ∧ gi l k ≤ hi
      · have Heb := Lib.hid (dec_true (p := InB (gi l k) lo hi) he)
        have He := Lib.hid he
        clear he
        go_wp2_with (go_at_call 88; (with_reducible refine (l1In_any _ _ _ _).mono ?_); rintro e w' ⟨rfl, rfl⟩; rw [Heb.out])
        go_round
        case rel =>
          refine ⟨k + 1, by omega, by go_num, fun j hj => ?_⟩
          by_cases e : j = k
          · subst e; exact He.out
          · exact Hr.out j (by omega)
        case measure => simp [intOf]; omega
      · have Heb := Lib.hid (dec_false (p := InB (gi l k) lo hi) he)
        have He := Lib.hid he
        clear he
        go_wp2_with (go_at_call 88; (with_reducible refine (l1In_any _ _ _ _).mono ?_); rintro e w' ⟨rfl, rfl⟩; rw [Heb.out])
        go_ret
        exact ⟨ret_f (fun h => He.out (h k hlt)), rfl⟩
    · go_wp2
      go_ret
      obtain rfl : k = l.length := by omega
      exact ⟨ret_t Hr.out, rfl⟩
end Go.Proofs.Ytndgbildkeglfaa
