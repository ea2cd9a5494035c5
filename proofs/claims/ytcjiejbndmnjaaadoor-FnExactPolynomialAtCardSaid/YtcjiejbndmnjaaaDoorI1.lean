/- Contracts of small functions on integers, in the model and in the program. -/
import Derived.Test.YtcjiejbndmnjaaaDoorB2
import Derived.Test.YtcjiejbndmnjaaaDoorNumA
namespace Go.Proofs.YtcjiejbndmnjaaaDoor
open Go.RowKit

theorem Ext.of_eq {w w' : World} (h : w = w') : Ext w w' := h ▸ Ext.rfl' w
theorem ret_ib {a : Int} {b c : Bool} (h : b = c) : Ending.returned (.tuple #[.int .i64 a, .bool b]) = .returned (.tuple #[.int .i64 a, .bool c]) := by rw [h]
theorem ret_ia {a a' : Int} {b b' : Bool} (h : a = a') (k : b = b') : Ending.returned (.tuple #[.int .i64 a, .bool b]) = .returned (.tuple #[.int .i64 a', .bool b']) := by rw [h, k]
theorem ret_i {a a' : Int} (h : a = a') : Ending.returned (.int .i64 a) = .returned (.int .i64 a') := by rw [h]
theorem dec_inB {n lo hi : Int} (h : dec (InB n lo hi) = true) : lo ≤ n ∧ n ≤ hi := dec_iff.1 h
open Classical in
/-- a where P holds, and 0 elsewhere. -/
noncomputable def ifP (P : Prop) (a : Int) : Int := if P then a else 0
theorem ifP_t {P : Prop} {a : Int} (h : P) : ifP P a = a := if_pos h
theorem ifP_f {P : Prop} {a : Int} (h : ¬P) : ifP P a = 0 := if_neg h

set_option maxRecDepth 100000 in
theorem isBetween_any (n lo hi : Int) (w : World) : Calls Tryd.prog 25 #[.int .i64 n, .int .i64 lo, .int .i64 hi] w fun e w' => e = .returned (.bool (dec (InB n lo hi))) ∧ w = w' := by
  by_cases h1 : lo ≤ n
  · have d1 : decide (lo ≤ n) = true := by simpa using h1
    by_cases h2 : n ≤ hi
    · have e := Lib.hid (dec_true (p := InB n lo hi) ⟨h1, h2⟩)
      have d2 : decide (n ≤ hi) = true := by simpa using h2
      go_enter Tryd.func25, Tryd.ntmps25
      go_wp2
      go_ret
      exact ⟨ret_bool e.out.symm, rfl⟩
    · have e := Lib.hid (dec_false (p := InB n lo hi) (fun h => h2 h.2))
      have d2 : decide (n ≤ hi) = false := by simpa using h2
      go_enter Tryd.func25, Tryd.ntmps25
      go_wp2
      go_ret
      exact ⟨ret_bool e.out.symm, rfl⟩
  · have e := Lib.hid (dec_false (p := InB n lo hi) (fun h => h1 h.1))
    have d1 : decide (lo ≤ n) = false := by simpa using h1
    go_enter Tryd.func25, Tryd.ntmps25
    go_wp2
    go_ret
    exact ⟨ret_bool e.out.symm, rfl⟩

/-- A whole number. -/
def Wh (n : Int) : Prop := InB n 0 1000000000000
set_option maxRecDepth 100000 in
theorem isWhole_any (n : Int) (w : World) : Calls Tryd.prog 19 #[.int .i64 n] w fun e w' => e = .returned (.bool (dec (Wh n))) ∧ w = w' := by
  go_enter Tryd.func19, Tryd.ntmps19
  go_wp2_with (go_at_call 25; (with_reducible refine (isBetween_any _ _ _ _).mono ?_); rintro e w' ⟨rfl, rfl⟩)
  go_ret
  exact ⟨rfl, rfl⟩
set_option maxRecDepth 100000 in
theorem nuWhole_any (n : Int) (w : World) : Calls Tryd.prog 17 #[.int .i64 n] w fun e w' => e = .returned (.bool (dec (Wh n))) ∧ w = w' := by
  go_enter Tryd.func17, Tryd.ntmps17
  go_wp2_with (go_at_call 23; (with_reducible refine (l1In_any _ _ _ _).mono ?_); rintro e w' ⟨rfl, rfl⟩)
  go_ret
  exact ⟨rfl, rfl⟩

end Go.Proofs.YtcjiejbndmnjaaaDoor
