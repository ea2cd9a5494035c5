/- Names of faults: the model's and the program's. -/
import Derived.Test.YtecgajpjcaemmaaDoorKa
namespace Go.Proofs.YtecgajpjcaemmaaDoor
open Go.RowKit

abbrev Bt := List UInt8
abbrev bt (l : Bt) : ByteArray := ⟨l.toArray⟩

/-- An error of the program's own with its text. -/
def SenAt (w : World) (g : Nat) (t : Bt) : Prop := ∃ a : Addr, w.cell? ⟨g, 0, none⟩ = some (.iface 168 (.pointer (some a))) ∧ w.cell? a = some (.string (bt t))
def tOk : Bt := [111, 107]
def tLong : Bt := [108, 111, 110, 103]
def tWord : Bt := [119, 111, 114, 100]
def tMany : Bt := [109, 97, 110, 121]
def tEnd : Bt := [101, 110, 100]
def tId : Bt := [105, 100]
structure Sen (w : World) : Prop where
  e1 : SenAt w 0 tLong
  e2 : SenAt w 1 tWord
  e3 : SenAt w 2 tMany
  e4 : SenAt w 3 tEnd
  e5 : SenAt w 4 tId
theorem SenAt.ext {w w' : World} {g : Nat} {t : Bt} (h : SenAt w g t) (he : Ext w w') : SenAt w' g t := let ⟨a, h1, h2⟩ := h; ⟨a, he.cell' h1, he.cell' h2⟩
theorem Sen.ext {w w' : World} (h : Sen w) (he : Ext w w') : Sen w' := ⟨h.e1.ext he, h.e2.ext he, h.e3.ext he, h.e4.ext he, h.e5.ext he⟩

set_option maxHeartbeats 800000 in
set_option maxRecDepth 100000 in
theorem implFault_0 (w : World) (_h : Sen w) :
    Calls Tryd.prog 23 #[.int .i64 0] w fun e w' => e = .returned (.tuple #[.string (bt tOk), .bool true]) ∧ Ext w w' := by
  go_enter Tryd.func23, Tryd.ntmps23
  go_wp2
  go_ret2
  exact ⟨rfl, Ext.rfl' w⟩
set_option maxHeartbeats 800000 in
set_option maxRecDepth 100000 in
theorem specFault_0 (w : World) :
    Calls Tryd.prog 22 #[.int .i64 0] w fun e w' => e = .returned (.tuple #[.string (bt tOk), .bool true]) ∧ Ext w w' := by
  have hb := Lib.hid (dec_true (p := InB (0 : Int) 0 5) ⟨by omega, by omega⟩)
  go_enter Tryd.func22, Tryd.ntmps22
  go_wp2_with (go_at_call 57; (with_reducible refine (l1In_any _ _ _ _).mono ?_); rintro e w' ⟨rfl, rfl⟩; rw [hb.out])
  go_ret2
  exact ⟨rfl, (Ext.rfl' w).alloc' _⟩
set_option maxHeartbeats 800000 in
set_option maxRecDepth 100000 in
theorem implFault_1 (w : World) (h : Sen w) :
    Calls Tryd.prog 23 #[.int .i64 1] w fun e w' => e = .returned (.tuple #[.string (bt tLong), .bool true]) ∧ Ext w w' := by
  obtain ⟨a, h1, h2⟩ := h.e1
  go_enter Tryd.func23, Tryd.ntmps23
  go_wp2
  go_ret2
  exact ⟨rfl, Ext.rfl' w⟩
set_option maxHeartbeats 800000 in
set_option maxRecDepth 100000 in
theorem specFault_1 (w : World) :
    Calls Tryd.prog 22 #[.int .i64 1] w fun e w' => e = .returned (.tuple #[.string (bt tLong), .bool true]) ∧ Ext w w' := by
  have hb := Lib.hid (dec_true (p := InB (1 : Int) 0 5) ⟨by omega, by omega⟩)
  go_enter Tryd.func22, Tryd.ntmps22
  go_wp2_with (go_at_call 57; (with_reducible refine (l1In_any _ _ _ _).mono ?_); rintro e w' ⟨rfl, rfl⟩; rw [hb.out])
  go_ret2
  exact ⟨rfl, (Ext.rfl' w).alloc' _⟩
set_option maxHeartbeats 800000 in
set_option maxRecDepth 100000 in
theorem implFault_2 (w : World) (h : Sen w) :
    Calls Tryd.prog 23 #[.int .i64 2] w fun e w' => e = .returned (.tuple #[.string (bt tWord), .bool true]) ∧ Ext w w' := by
  obtain ⟨a, h1, h2⟩ := h.e2
  go_enter Tryd.func23, Tryd.ntmps23
  go_wp2
  go_ret2
  exact ⟨rfl, Ext.rfl' w⟩
set_option maxHeartbeats 800000 in
set_option maxRecDepth 100000 in
theorem specFault_2 (w : World) :
    Calls Tryd.prog 22 #[.int .i64 2] w fun e w' => e = .returned (.tuple #[.string (bt tWord), .bool true]) ∧ Ext w w' := by
  have hb := Lib.hid (dec_true (p := InB (2 : Int) 0 5) ⟨by omega, by omega⟩)
  go_enter Tryd.func22, Tryd.ntmps22
  go_wp2_with (go_at_call 57; (with_reducible refine (l1In_any _ _ _ _).mono ?_); rintro e w' ⟨rfl, rfl⟩; rw [hb.out])
  go_ret2
  exact ⟨rfl, (Ext.rfl' w).alloc' _⟩
set_option maxHeartbeats 800000 in
set_option maxRecDepth 100000 in
theorem implFault_3 (w : World) (h : Sen w) :
    Calls Tryd.prog 23 #[.int .i64 3] w fun e w' => e = .returned (.tuple #[.string (bt tMany), .bool true]) ∧ Ext w w' := by
  obtain ⟨a, h1, h2⟩ := h.e3
  go_enter Tryd.func23, Tryd.ntmps23
  go_wp2
  go_ret2
  exact ⟨rfl, Ext.rfl' w⟩
set_option maxHeartbeats 800000 in
set_option maxRecDepth 100000 in
theorem specFault_3 (w : World) :
    Calls Tryd.prog 22 #[.int .i64 3] w fun e w' => e = .returned (.tuple #[.string (bt tMany), .bool true]) ∧ Ext w w' := by
  have hb := Lib.hid (dec_true (p := InB (3 : Int) 0 5) ⟨by omega, by omega⟩)
  go_enter Tryd.func22, Tryd.ntmps22
  go_wp2_with (go_at_call 57; (with_reducible refine (l1In_any _ _ _ _).mono ?_); rintro e w' ⟨rfl, rfl⟩; rw [hb.out])
  go_ret2
  exact ⟨rfl, (Ext.rfl' w).alloc' _⟩
set_option maxHeartbeats 800000 in
set_option maxRecDepth 100000 in
theorem implFault_4 (w : World) (h : Sen w) :
    Calls Tryd.prog 23 #[.int .i64 4] w fun e w' => e = .returned (.tuple #[.string (bt tEnd), .bool true]) ∧ Ext w w' := by
  obtain ⟨a, h1, h2⟩ := h.e4
  go_enter Tryd.func23, Tryd.ntmps23
  go_wp2
  go_ret2
  exact ⟨rfl, Ext.rfl' w⟩
set_option maxHeartbeats 800000 in
set_option maxRecDepth 100000 in
theorem specFault_4 (w : World) :
    Calls Tryd.prog 22 #[.int .i64 4] w fun e w' => e = .returned (.tuple #[.string (bt tEnd), .bool true]) ∧ Ext w w' := by
  have hb := Lib.hid (dec_true (p := InB (4 : Int) 0 5) ⟨by omega, by omega⟩)
  go_enter Tryd.func22, Tryd.ntmps22
  go_wp2_with (go_at_call 57; (with_reducible refine (l1In_any _ _ _ _).mono ?_); rintro e w' ⟨rfl, rfl⟩; rw [hb.out])
  go_ret2
  exact ⟨rfl, (Ext.rfl' w).alloc' _⟩
set_option maxHeartbeats 800000 in
set_option maxRecDepth 100000 in
theorem implFault_5 (w : World) (h : Sen w) :
    Calls Tryd.prog 23 #[.int .i64 5] w fun e w' => e = .returned (.tuple #[.string (bt tId), .bool true]) ∧ Ext w w' := by
  obtain ⟨a, h1, h2⟩ := h.e5
  go_enter Tryd.func23, Tryd.ntmps23
  go_wp2
  go_ret2
  exact ⟨rfl, Ext.rfl' w⟩
set_option maxHeartbeats 800000 in
set_option maxRecDepth 100000 in
theorem specFault_5 (w : World) :
    Calls Tryd.prog 22 #[.int .i64 5] w fun e w' => e = .returned (.tuple #[.string (bt tId), .bool true]) ∧ Ext w w' := by
  have hb := Lib.hid (dec_true (p := InB (5 : Int) 0 5) ⟨by omega, by omega⟩)
  go_enter Tryd.func22, Tryd.ntmps22
  go_wp2_with (go_at_call 57; (with_reducible refine (l1In_any _ _ _ _).mono ?_); rintro e w' ⟨rfl, rfl⟩; rw [hb.out])
  go_ret2
  exact ⟨rfl, (Ext.rfl' w).alloc' _⟩
set_option maxHeartbeats 800000 in
set_option maxRecDepth 100000 in
theorem implFault_no (c : Int) (hc : ¬ InB c 0 5) (w : World) :
    Calls Tryd.prog 23 #[.int .i64 c] w fun e w' => e = .returned (.tuple #[.string (bt []), .bool false]) ∧ Ext w w' := by
  have c0 : ¬ c = 0 := fun e => hc ⟨by omega, by omega⟩
  have c1 : ¬ c = 1 := fun e => hc ⟨by omega, by omega⟩
  have c2 : ¬ c = 2 := fun e => hc ⟨by omega, by omega⟩
  have c3 : ¬ c = 3 := fun e => hc ⟨by omega, by omega⟩
  have c4 : ¬ c = 4 := fun e => hc ⟨by omega, by omega⟩
  have c5 : ¬ c = 5 := fun e => hc ⟨by omega, by omega⟩
  clear hc
  go_enter Tryd.func23, Tryd.ntmps23
  go_wp2
  go_ret2
  exact ⟨rfl, Ext.rfl' w⟩
set_option maxHeartbeats 800000 in
set_option maxRecDepth 100000 in
theorem specFault_no (c : Int) (hc : ¬ InB c 0 5) (w : World) :
    Calls Tryd.prog 22 #[.int .i64 c] w fun e w' => e = .returned (.tuple #[.string (bt []), .bool false]) ∧ Ext w w' := by
  have hb := Lib.hid (dec_false hc)
  clear hc
  go_enter Tryd.func22, Tryd.ntmps22
  go_wp2_with (go_at_call 57; (with_reducible refine (l1In_any _ _ _ _).mono ?_); rintro e w' ⟨rfl, rfl⟩; rw [hb.out])
  go_ret2
  exact ⟨rfl, Ext.rfl' w⟩
theorem six_cases (c : Int) (h : InB c 0 5) : c = 0 ∨ c = 1 ∨ c = 2 ∨ c = 3 ∨ c = 4 ∨ c = 5 := by
  unfold InB at h; omega
set_option maxHeartbeats 800000 in
set_option maxRecDepth 100000 in
theorem walk_FaultName (c : Int) (w : World) (h : Sen w) : Calls Tryd.prog 6 #[.int .i64 c] w fun e w' => e = .returned (.bool true) ∧ Ext w w' := by
  have H := Lib.hid h
  clear h
  by_cases hc : InB c 0 5
  · rcases six_cases c hc with rfl | rfl | rfl | rfl | rfl | rfl
    · go_enter Tryd.func6, Tryd.ntmps6
      go_wp2_with (first | (go_at_call 22; (with_reducible refine (specFault_0 _).mono ?_); rintro e w1 ⟨rfl, hx⟩; have K := Lib.hid hx; clear hx) | (go_at_call 23; (with_reducible refine (implFault_0 _ (H.out.ext K.out)).mono ?_); rintro e w2 ⟨rfl, hx⟩; have K2 := Lib.hid (K.out.trans' hx); clear hx))
      go_ret
      exact ⟨rfl, K2.out⟩
    · go_enter Tryd.func6, Tryd.ntmps6
      go_wp2_with (first | (go_at_call 22; (with_reducible refine (specFault_1 _).mono ?_); rintro e w1 ⟨rfl, hx⟩; have K := Lib.hid hx; clear hx) | (go_at_call 23; (with_reducible refine (implFault_1 _ (H.out.ext K.out)).mono ?_); rintro e w2 ⟨rfl, hx⟩; have K2 := Lib.hid (K.out.trans' hx); clear hx))
      go_ret
      exact ⟨rfl, K2.out⟩
    · go_enter Tryd.func6, Tryd.ntmps6
      go_wp2_with (first | (go_at_call 22; (with_reducible refine (specFault_2 _).mono ?_); rintro e w1 ⟨rfl, hx⟩; have K := Lib.hid hx; clear hx) | (go_at_call 23; (with_reducible refine (implFault_2 _ (H.out.ext K.out)).mono ?_); rintro e w2 ⟨rfl, hx⟩; have K2 := Lib.hid (K.out.trans' hx); clear hx))
      go_ret
      exact ⟨rfl, K2.out⟩
    · go_enter Tryd.func6, Tryd.ntmps6
      go_wp2_with (first | (go_at_call 22; (with_reducible refine (specFault_3 _).mono ?_); rintro e w1 ⟨rfl, hx⟩; have K := Lib.hid hx; clear hx) | (go_at_call 23; (with_reducible refine (implFault_3 _ (H.out.ext K.out)).mono ?_); rintro e w2 ⟨rfl, hx⟩; have K2 := Lib.hid (K.out.trans' hx); clear hx))
      go_ret
      exact ⟨rfl, K2.out⟩
    · go_enter Tryd.func6, Tryd.ntmps6
      go_wp2_with (first | (go_at_call 22; (with_reducible refine (specFault_4 _).mono ?_); rintro e w1 ⟨rfl, hx⟩; have K := Lib.hid hx; clear hx) | (go_at_call 23; (with_reducible refine (implFault_4 _ (H.out.ext K.out)).mono ?_); rintro e w2 ⟨rfl, hx⟩; have K2 := Lib.hid (K.out.trans' hx); clear hx))
      go_ret
      exact ⟨rfl, K2.out⟩
    · go_enter Tryd.func6, Tryd.ntmps6
      go_wp2_with (first | (go_at_call 22; (with_reducible refine (specFault_5 _).mono ?_); rintro e w1 ⟨rfl, hx⟩; have K := Lib.hid hx; clear hx) | (go_at_call 23; (with_reducible refine (implFault_5 _ (H.out.ext K.out)).mono ?_); rintro e w2 ⟨rfl, hx⟩; have K2 := Lib.hid (K.out.trans' hx); clear hx))
      go_ret
      exact ⟨rfl, K2.out⟩
  · go_enter Tryd.func6, Tryd.ntmps6
    go_wp2_with (first | (go_at_call 22; (with_reducible refine (specFault_no c hc _).mono ?_); rintro e w1 ⟨rfl, hx⟩; have K := Lib.hid hx; clear hx) | (go_at_call 23; (with_reducible refine (implFault_no c hc _).mono ?_); rintro e w2 ⟨rfl, hx⟩; have K2 := Lib.hid (K.out.trans' hx); clear hx))
    go_ret
    exact ⟨rfl, K2.out⟩
end Go.Proofs.YtecgajpjcaemmaaDoor
