/- The kinds of tasks as values behind an interface; their names; the law on names. -/
import Derived.Test.YtkpdbceglejbnaaKa
namespace Go.Proofs.Ytkpdbceglejbnaa
open Go.RowKit

abbrev Bt := List UInt8
abbrev bt (l : Bt) : ByteArray := ⟨l.toArray⟩
def tkLead : Bt := [108, 101, 97, 100, 101, 114]
def tkCol : Bt := [99, 111, 108, 111, 117, 114, 105, 110, 103]
def tkNam : Bt := [110, 97, 109, 101, 115]
abbrev kL : Value := .iface 122 (.agg #[])
abbrev kC : Value := .iface 123 (.agg #[])
abbrev kN : Value := .iface 124 (.agg #[])

set_option maxRecDepth 100000 in
theorem taskKind_1 (w : World) : Calls Try.prog 54 #[.int .i64 1] w fun e w' => e = .returned (.tuple #[kL, .bool true]) ∧ w = w' := by
  go_enter Try.func54, Try.ntmps54
  go_wp2
  go_ret2
  exact ⟨rfl, rfl⟩
set_option maxRecDepth 100000 in
theorem taskKind_2 (w : World) : Calls Try.prog 54 #[.int .i64 2] w fun e w' => e = .returned (.tuple #[kC, .bool true]) ∧ w = w' := by
  go_enter Try.func54, Try.ntmps54
  go_wp2
  go_ret2
  exact ⟨rfl, rfl⟩
set_option maxRecDepth 100000 in
theorem taskKind_3 (w : World) : Calls Try.prog 54 #[.int .i64 3] w fun e w' => e = .returned (.tuple #[kN, .bool true]) ∧ w = w' := by
  go_enter Try.func54, Try.ntmps54
  go_wp2
  go_ret2
  exact ⟨rfl, rfl⟩
set_option maxRecDepth 100000 in
theorem taskKind_f {t : Int} (h : ¬ InB t 1 3) (w : World) : Calls Try.prog 54 #[.int .i64 t] w fun e w' => e = .returned (.tuple #[.nilIface, .bool false]) ∧ w = w' := by
  have c1 : ¬ t = 1 := fun e => h ⟨by omega, by omega⟩
  have c2 : ¬ t = 2 := fun e => h ⟨by omega, by omega⟩
  have c3 : ¬ t = 3 := fun e => h ⟨by omega, by omega⟩
  clear h
  go_enter Try.func54, Try.ntmps54
  go_wp2
  go_ret2
  exact ⟨rfl, rfl⟩
theorem three_cases {t : Int} (h : InB t 1 3) : t = 1 ∨ t = 2 ∨ t = 3 := by unfold InB at h; omega
set_option maxRecDepth 100000 in
theorem imTask_any (t : Int) (w : World) : Calls Try.prog 53 #[.int .i64 t] w fun e w' => e = .returned (.bool (dec (InB t 1 3))) ∧ w = w' := by
  go_enter Try.func53, Try.ntmps53
  go_wp2_with (go_at_call 103; (with_reducible refine (l1In_any t _ _ _).mono ?_); rintro e w' ⟨rfl, rfl⟩)
  go_ret
  exact ⟨rfl, rfl⟩

set_option maxRecDepth 100000 in
theorem name_1 (w : World) : Calls Try.prog 231 #[.agg #[]] w fun e w' => e = .returned (.string (bt tkLead)) ∧ Ext w w' := by
  go_enter Try.func231, Try.ntmps231
  go_wp2
  go_ret
  exact ⟨rfl, (Ext.rfl' w).alloc' _⟩
set_option maxRecDepth 100000 in
theorem name_2 (w : World) : Calls Try.prog 234 #[.agg #[]] w fun e w' => e = .returned (.string (bt tkCol)) ∧ Ext w w' := by
  go_enter Try.func234, Try.ntmps234
  go_wp2
  go_ret
  exact ⟨rfl, (Ext.rfl' w).alloc' _⟩
set_option maxRecDepth 100000 in
theorem name_3 (w : World) : Calls Try.prog 239 #[.agg #[]] w fun e w' => e = .returned (.string (bt tkNam)) ∧ Ext w w' := by
  go_enter Try.func239, Try.ntmps239
  go_wp2
  go_ret
  exact ⟨rfl, (Ext.rfl' w).alloc' _⟩

set_option maxHeartbeats 800000 in
set_option maxRecDepth 100000 in
theorem implName_1 (w : World) : Calls Try.prog 16 #[.int .i64 1] w fun e w' => e = .returned (.tuple #[.string (bt tkLead), .bool true]) ∧ Ext w w' := by
  go_enter Try.func16, Try.ntmps16
  go_wp2_with (first | (go_at_call 54; (with_reducible refine (taskKind_1 _).mono ?_); rintro e _ ⟨rfl, rfl⟩) | (go_at_call 231; (with_reducible refine (name_1 _).mono ?_); rintro e w1 ⟨rfl, hx⟩; have K := Lib.hid hx; clear hx))
  go_ret2
  exact ⟨rfl, K.out⟩
set_option maxHeartbeats 800000 in
set_option maxRecDepth 100000 in
theorem specName_1 (w : World) : Calls Try.prog 15 #[.int .i64 1] w fun e w' => e = .returned (.tuple #[.string (bt tkLead), .bool true]) ∧ Ext w w' := by
  have hb := Lib.hid (dec_true (p := InB (1 : Int) 1 3) ⟨by omega, by omega⟩)
  go_enter Try.func15, Try.ntmps15
  go_wp2_with (go_at_call 53; (with_reducible refine (imTask_any _ _).mono ?_); rintro e _ ⟨rfl, rfl⟩; rw [hb.out])
  go_ret2
  exact ⟨rfl, (Ext.rfl' w).alloc' _⟩
set_option maxHeartbeats 800000 in
set_option maxRecDepth 100000 in
theorem implName_2 (w : World) : Calls Try.prog 16 #[.int .i64 2] w fun e w' => e = .returned (.tuple #[.string (bt tkCol), .bool true]) ∧ Ext w w' := by
  go_enter Try.func16, Try.ntmps16
  go_wp2_with (first | (go_at_call 54; (with_reducible refine (taskKind_2 _).mono ?_); rintro e _ ⟨rfl, rfl⟩) | (go_at_call 234; (with_reducible refine (name_2 _).mono ?_); rintro e w1 ⟨rfl, hx⟩; have K := Lib.hid hx; clear hx))
  go_ret2
  exact ⟨rfl, K.out⟩
set_option maxHeartbeats 800000 in
set_option maxRecDepth 100000 in
theorem specName_2 (w : World) : Calls Try.prog 15 #[.int .i64 2] w fun e w' => e = .returned (.tuple #[.string (bt tkCol), .bool true]) ∧ Ext w w' := by
  have hb := Lib.hid (dec_true (p := InB (2 : Int) 1 3) ⟨by omega, by omega⟩)
  go_enter Try.func15, Try.ntmps15
  go_wp2_with (go_at_call 53; (with_reducible refine (imTask_any _ _).mono ?_); rintro e _ ⟨rfl, rfl⟩; rw [hb.out])
  go_ret2
  exact ⟨rfl, (Ext.rfl' w).alloc' _⟩
set_option maxHeartbeats 800000 in
set_option maxRecDepth 100000 in
theorem implName_3 (w : World) : Calls Try.prog 16 #[.int .i64 3] w fun e w' => e = .returned (.tuple #[.string (bt tkNam), .bool true]) ∧ Ext w w' := by
  go_enter Try.func16, Try.ntmps16
  go_wp2_with (first | (go_at_call 54; (with_reducible refine (taskKind_3 _).mono ?_); rintro e _ ⟨rfl, rfl⟩) | (go_at_call 239; (with_reducible refine (name_3 _).mono ?_); rintro e w1 ⟨rfl, hx⟩; have K := Lib.hid hx; clear hx))
  go_ret2
  exact ⟨rfl, K.out⟩
set_option maxHeartbeats 800000 in
set_option maxRecDepth 100000 in
theorem specName_3 (w : World) : Calls Try.prog 15 #[.int .i64 3] w fun e w' => e = .returned (.tuple #[.string (bt tkNam), .bool true]) ∧ Ext w w' := by
  have hb := Lib.hid (dec_true (p := InB (3 : Int) 1 3) ⟨by omega, by omega⟩)
  go_enter Try.func15, Try.ntmps15
  go_wp2_with (go_at_call 53; (with_reducible refine (imTask_any _ _).mono ?_); rintro e _ ⟨rfl, rfl⟩; rw [hb.out])
  go_ret2
  exact ⟨rfl, (Ext.rfl' w).alloc' _⟩
set_option maxHeartbeats 800000 in
set_option maxRecDepth 100000 in
theorem implName_no {t : Int} (h : ¬ InB t 1 3) (w : World) : Calls Try.prog 16 #[.int .i64 t] w fun e w' => e = .returned (.tuple #[.string (bt []), .bool false]) ∧ Ext w w' := by
  go_enter Try.func16, Try.ntmps16
  go_wp2_with (go_at_call 54; (with_reducible refine (taskKind_f h _).mono ?_); rintro e _ ⟨rfl, rfl⟩)
  go_ret2
  exact ⟨rfl, Ext.rfl' w⟩
set_option maxHeartbeats 800000 in
set_option maxRecDepth 100000 in
theorem specName_no {t : Int} (h : ¬ InB t 1 3) (w : World) : Calls Try.prog 15 #[.int .i64 t] w fun e w' => e = .returned (.tuple #[.string (bt []), .bool false]) ∧ Ext w w' := by
  have hb := Lib.hid (dec_false h)
  clear h
  go_enter Try.func15, Try.ntmps15
  go_wp2_with (go_at_call 53; (with_reducible refine (imTask_any _ _).mono ?_); rintro e _ ⟨rfl, rfl⟩; rw [hb.out])
  go_ret2
  exact ⟨rfl, Ext.rfl' w⟩

set_option maxHeartbeats 800000 in
set_option maxRecDepth 100000 in
theorem walk_TaskName {w : World} (t : Int) : Calls Try.prog 3 #[.int .i64 t] w fun e w' => e = .returned (.bool true) ∧ Ext w w' := by
  by_cases hc : InB t 1 3
  · rcases three_cases hc with rfl | rfl | rfl
    · go_enter Try.func3, Try.ntmps3
      go_wp2_with (first | (go_at_call 15; (with_reducible refine (specName_1 _).mono ?_); rintro e w1 ⟨rfl, hx⟩; have K := Lib.hid hx; clear hx) | (go_at_call 16; (with_reducible refine (implName_1 _).mono ?_); rintro e w2 ⟨rfl, hx⟩; have K2 := Lib.hid (K.out.trans' hx); clear hx))
      go_ret
      exact ⟨rfl, K2.out⟩
    · go_enter Try.func3, Try.ntmps3
      go_wp2_with (first | (go_at_call 15; (with_reducible refine (specName_2 _).mono ?_); rintro e w1 ⟨rfl, hx⟩; have K := Lib.hid hx; clear hx) | (go_at_call 16; (with_reducible refine (implName_2 _).mono ?_); rintro e w2 ⟨rfl, hx⟩; have K2 := Lib.hid (K.out.trans' hx); clear hx))
      go_ret
      exact ⟨rfl, K2.out⟩
    · go_enter Try.func3, Try.ntmps3
      go_wp2_with (first | (go_at_call 15; (with_reducible refine (specName_3 _).mono ?_); rintro e w1 ⟨rfl, hx⟩; have K := Lib.hid hx; clear hx) | (go_at_call 16; (with_reducible refine (implName_3 _).mono ?_); rintro e w2 ⟨rfl, hx⟩; have K2 := Lib.hid (K.out.trans' hx); clear hx))
      go_ret
      exact ⟨rfl, K2.out⟩
  · go_enter Try.func3, Try.ntmps3
    go_wp2_with (first | (go_at_call 15; (with_reducible refine (specName_no hc _).mono ?_); rintro e w1 ⟨rfl, hx⟩; have K := Lib.hid hx; clear hx) | (go_at_call 16; (with_reducible refine (implName_no hc _).mono ?_); rintro e w2 ⟨rfl, hx⟩; have K2 := Lib.hid (K.out.trans' hx); clear hx))
    go_ret
    exact ⟨rfl, K2.out⟩
end Go.Proofs.Ytkpdbceglejbnaa
