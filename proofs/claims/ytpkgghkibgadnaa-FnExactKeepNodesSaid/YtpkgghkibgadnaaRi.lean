/- Increasing lists: the model and the program answer the same. -/
import Derived.Test.YtpkgghkibgadnaaKg
import Derived.RegionTactic
namespace Go.Proofs.Ytpkgghkibgadnaa
open Go.RowKit

def IncAt (l : List Int) (lo hi : Int) (j : Nat) : Prop := InB (gi l j) lo hi ∧ (0 < j → gi l (j - 1) < gi l j)
/-- A strictly increasing list of numbers from lo to hi. -/
def Inc (l : List Int) (lo hi : Int) : Prop := ∀ j, j < l.length → IncAt l lo hi j

set_option maxHeartbeats 800000 in
set_option maxRecDepth 100000 in
theorem l1Rising_any {w : World} {v : Value} {l : List Int} (lo hi : Int) (h : IntSl w v l) : Calls Try.prog 26 #[v, .int .i64 lo, .int .i64 hi] w fun e w' => e = .returned (.bool (dec (Inc l lo hi))) ∧ w = w' := by
  obtain ⟨a, b, o, c, rfl, ha, hl, hm, hc⟩ := h
  unfold maxLen at hm
  have Hc := Lib.hid hc
  have Ha := Lib.hid ha
  clear hc ha
  go_enter Try.func26, Try.ntmps26
  go_wp2
  go_loop [11] (fun i => ∃ k : Nat, k ≤ l.length ∧ i = .int .i64 k ∧ Hid (∀ j, j < k → IncAt l lo hi j)) (fun i => l.length - (intOf i).toNat)
  case atStart => exact ⟨0, Nat.zero_le _, rfl, fun j hj => absurd hj (by omega)⟩
  case round =>
    obtain ⟨k, hk, rfl, Hr⟩ := hrel
    by_cases hlt : k < l.length
    · obtain ⟨y, hc, rfl, _⟩ := Hc.out k hlt
      obtain rfl := Ha.out (by omega)
      by_cases he : InB (gi l k) lo hi
      · have Heb := Lib.hid (dec_true he)
        have He := Lib.hid he
        clear he
        cases k with
        | zero =>
          rw [Nat.add_zero] at hc
          go_wp2_with (go_at_call 51; (with_reducible refine (l1In_any _ _ _ _).mono ?_); rintro e w' ⟨rfl, rfl⟩; rw [Heb.out])
          go_round
          case rel => exact ⟨1, by omega, by go_num, fun j hj => by
            obtain rfl : j = 0 := by omega
            exact ⟨He.out, fun h => absurd h (by omega)⟩⟩
          case measure => simp [intOf] <;> omega
        | succ k =>
          obtain ⟨z, hc2, rfl, _⟩ := Hc.out k (by omega)
          by_cases hs : gi l k < gi l (k + 1)
          · have hsb : decide (gi l (k + 1) ≤ gi l k) = false := by simpa using hs
            have Hs := Lib.hid hs
            clear hs
            go_wp2_with (go_at_call 51; (with_reducible refine (l1In_any _ _ _ _).mono ?_); rintro e w' ⟨rfl, rfl⟩; rw [Heb.out])
            go_round
            case rel =>
              refine ⟨k + 1 + 1, by omega, by go_num, fun j hj => ?_⟩
              by_cases e : j = k + 1
              · subst e; exact ⟨He.out, fun _ => Hs.out⟩
              · exact Hr.out j (by omega)
            case measure => simp [intOf] <;> omega
          · have hsb : decide (gi l (k + 1) ≤ gi l k) = true := by simpa using hs
            have Hs := Lib.hid hs
            clear hs
            go_wp2_with (go_at_call 51; (with_reducible refine (l1In_any _ _ _ _).mono ?_); rintro e w' ⟨rfl, rfl⟩; rw [Heb.out])
            go_ret
            exact ⟨ret_f (fun h => by have h2 := (h _ hlt).2 (by omega); rw [Nat.add_sub_cancel] at h2; have := Hs.out; omega), rfl⟩
      · have Heb := Lib.hid (dec_false he)
        have He := Lib.hid he
        clear he
        go_wp2_with (go_at_call 51; (with_reducible refine (l1In_any _ _ _ _).mono ?_); rintro e w' ⟨rfl, rfl⟩; rw [Heb.out])
        go_ret
        exact ⟨ret_f (fun h => He.out (h k hlt).1), rfl⟩
    · go_wp2
      go_ret
      obtain rfl : k = l.length := by omega
      exact ⟨ret_t Hr.out, rfl⟩

set_option maxHeartbeats 800000 in
set_option maxRecDepth 100000 in
theorem isIncreasing_any {w : World} {v : Value} {l : List Int} (lo hi : Int) (h : IntSl w v l) : Calls Try.prog 30 #[v, .int .i64 lo, .int .i64 hi] w fun e w' => e = .returned (.bool (dec (Inc l lo hi))) ∧ w = w' := by
  obtain ⟨a, b, o, c, rfl, ha, hl, hm, hc⟩ := h
  unfold maxLen at hm
  have Hc := Lib.hid hc
  have Ha := Lib.hid ha
  clear hc ha
  go_enter Try.func30, Try.ntmps30
  go_wp2
  go_loop [11] (fun i => ∃ k : Nat, k ≤ l.length ∧ i = .int .i64 k ∧ Hid (∀ j, j < k → IncAt l lo hi j)) (fun i => l.length - (intOf i).toNat)
  case atStart => exact ⟨0, Nat.zero_le _, rfl, fun j hj => absurd hj (by omega)⟩
  case round =>
    obtain ⟨k, hk, rfl, Hr⟩ := hrel
    by_cases hlt : k < l.length
    · obtain ⟨y, hc, rfl, _⟩ := Hc.out k hlt
      obtain rfl := Ha.out (by omega)
      by_cases he : InB (gi l k) lo hi
      · have Heb := Lib.hid (dec_true he)
        have He := Lib.hid he
        clear he
        cases k with
        | zero =>
          rw [Nat.add_zero] at hc
          go_wp2_with (go_at_call 61; (with_reducible refine (isBetween_any _ _ _ _).mono ?_); rintro e w' ⟨rfl, rfl⟩; rw [Heb.out])
          go_round
          case rel => exact ⟨1, by omega, by go_num, fun j hj => by
            obtain rfl : j = 0 := by omega
            exact ⟨He.out, fun h => absurd h (by omega)⟩⟩
          case measure => simp [intOf] <;> omega
        | succ k =>
          obtain ⟨z, hc2, rfl, _⟩ := Hc.out k (by omega)
          by_cases hs : gi l k < gi l (k + 1)
          · have hsb : decide (gi l (k + 1) ≤ gi l k) = false := by simpa using hs
            have Hs := Lib.hid hs
            clear hs
            go_wp2_with (go_at_call 61; (with_reducible refine (isBetween_any _ _ _ _).mono ?_); rintro e w' ⟨rfl, rfl⟩; rw [Heb.out])
            go_round
            case rel =>
              refine ⟨k + 1 + 1, by omega, by go_num, fun j hj => ?_⟩
              by_cases e : j = k + 1
              · subst e; exact ⟨He.out, fun _ => Hs.out⟩
              · exact Hr.out j (by omega)
            case measure => simp [intOf] <;> omega
          · have hsb : decide (gi l (k + 1) ≤ gi l k) = true := by simpa using hs
            have Hs := Lib.hid hs
            clear hs
            go_wp2_with (go_at_call 61; (with_reducible refine (isBetween_any _ _ _ _).mono ?_); rintro e w' ⟨rfl, rfl⟩; rw [Heb.out])
            go_ret
            exact ⟨ret_f (fun h => by have h2 := (h _ hlt).2 (by omega); rw [Nat.add_sub_cancel] at h2; have := Hs.out; omega), rfl⟩
      · have Heb := Lib.hid (dec_false he)
        have He := Lib.hid he
        clear he
        go_wp2_with (go_at_call 61; (with_reducible refine (isBetween_any _ _ _ _).mono ?_); rintro e w' ⟨rfl, rfl⟩; rw [Heb.out])
        go_ret
        exact ⟨ret_f (fun h => He.out (h k hlt).1), rfl⟩
    · go_wp2
      go_ret
      obtain rfl : k = l.length := by omega
      exact ⟨ret_t Hr.out, rfl⟩
end Go.Proofs.Ytpkgghkibgadnaa
