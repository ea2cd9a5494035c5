/- The guards of UnfoldNetwork: hasView, isViewDepth, and the model's neNode, viDepth (copied from Vm, Vo, Vs, which cannot be imported beside Ke). -/
import Derived.Test.YtgacbfblpkikkaaUz
namespace Go.Proofs.Ytgacbfblpkikkaa
open Go.RowKit

set_option maxRecDepth 100000 in
theorem viewDepth_any (t : Int) (w : World) : Calls Try.prog 112 #[.int .i64 t] w fun e w' => e = .returned (.bool (dec (InB t 0 80))) ∧ w = w' := by
  go_enter Try.func112, Try.ntmps112
  go_wp2_with (go_at_call 104; (with_reducible refine (isBetween_any t _ _ _).mono ?_); rintro e w' ⟨rfl, rfl⟩)
  go_ret
  exact ⟨rfl, rfl⟩

set_option maxRecDepth 100000 in
theorem viDepth_any (t : Int) (w : World) : Calls Try.prog 65 #[.int .i64 t] w fun e w' => e = .returned (.bool (dec (InB t 0 80))) ∧ w = w' := by
  go_enter Try.func65, Try.ntmps65
  go_wp2_with (go_at_call 99; (with_reducible refine (l1In_any t _ _ _).mono ?_); rintro e w' ⟨rfl, rfl⟩)
  go_ret
  exact ⟨rfl, rfl⟩

theorem bool_of {b c : Bool} (h : b = c) : Ending.returned (.bool b) = .returned (.bool c) := by rw [h]
def HVOK (N : Net) (x t : Int) : Prop := NodeAns N x ∧ InB t 0 80

set_option maxHeartbeats 1600000 in
set_option maxRecDepth 100000 in
theorem hasView_any {w : World} {v : Value} {N : Net} (x t : Int) (h : NetAt w v N) :
    Calls Try.prog 67 #[v, .int .i64 x, .int .i64 t] w fun e w' => e = .returned (.bool (dec (HVOK N x t))) ∧ Ext w w' := by
  have HN := Lib.hid h
  obtain ⟨v0, v1, v2, rfl, -, -, -⟩ := h
  have HX := Lib.hid (boxed_ext w v0 v1 v2 29)
  have HR := Lib.hid (row3_made w v0 v1 v2 29)
  obtain ⟨p0, p1, p2, -, -, -⟩ := row3_facts HR.out
  by_cases hg : Good N
  case neg =>
    have G := Lib.hid (dec_false hg)
    have D := Lib.hid (dec_false (p := HVOK N x t) fun h => hg h.1.1)
    clear hg
    go_enter Try.func67, Try.ntmps67
    go_wp2_with (go_at_call 76; (with_reducible refine (isNetwork_any (HN.out.ext HX.out)).mono ?_); rintro e w1 ⟨rfl, hw⟩; rw [G.out]; have K1 := Lib.hid (HX.out.trans' hw); clear hw)
    go_ret
    exact ⟨bool_of D.out.symm, K1.out⟩
  have G := Lib.hid (dec_true hg)
  by_cases hx : NodeOK N x
  case neg =>
    have GX := Lib.hid (dec_false hx)
    have D := Lib.hid (dec_false (p := HVOK N x t) fun h => hx h.1.2)
    clear hg hx
    go_enter Try.func67, Try.ntmps67
    go_wp2_with fail
    (with_reducible refine (isNetwork_any (HN.out.ext HX.out)).mono ?_)
    rintro e w1 ⟨rfl, hw⟩
    rw [G.out]
    have K1 := Lib.hid (HX.out.trans' hw)
    obtain ⟨q0, q1, q2, -, -, -⟩ := row3_facts (row_ext HR.out hw)
    clear hw p0 p1 p2
    go_wp2_with (go_at_call 77; (with_reducible refine (hasNode_any x (HN.out.ext K1.out)).mono ?_); rintro e w2 ⟨rfl, hw⟩; rw [GX.out]; have K2 := Lib.hid (K1.out.trans' hw); clear hw)
    go_ret
    exact ⟨bool_of D.out.symm, K2.out⟩
  have GX := Lib.hid (dec_true hx)
  have D := Lib.hid (show dec (InB t 0 80) = dec (HVOK N x t) from dec_congr ⟨fun h => ⟨⟨hg, hx⟩, h⟩, fun h => h.2⟩)
  clear hg hx
  go_enter Try.func67, Try.ntmps67
  go_wp2_with fail
  (with_reducible refine (isNetwork_any (HN.out.ext HX.out)).mono ?_)
  rintro e w1 ⟨rfl, hw⟩
  rw [G.out]
  have K1 := Lib.hid (HX.out.trans' hw)
  obtain ⟨q0, q1, q2, -, -, -⟩ := row3_facts (row_ext HR.out hw)
  clear hw p0 p1 p2
  go_wp2_with (first | (go_at_call 77; (with_reducible refine (hasNode_any x (HN.out.ext K1.out)).mono ?_); rintro e w2 ⟨rfl, hw⟩; rw [GX.out]; have K2 := Lib.hid (K1.out.trans' hw); clear hw) | (go_at_call 112; (with_reducible refine (viewDepth_any _ _).mono ?_); rintro e w3 ⟨rfl, rfl⟩; rw [D.out]))
  go_ret
  exact ⟨rfl, K2.out⟩

set_option maxHeartbeats 800000 in
set_option maxRecDepth 100000 in
theorem neNode_any {w : World} {v : Value} {N : Net} (x : Int) (h : NetAt w v N) :
    Calls Try.prog 64 #[v, .int .i64 x] w fun e w' => e = .returned (.bool (dec (NodeAns N x))) ∧ Ext w w' := by
  have HN := Lib.hid h
  obtain ⟨v0, v1, v2, rfl, hE, hI, hP⟩ := h
  clear hI hP
  obtain ⟨a, b, o, c, rfl, ha, hl, hm, hc⟩ := hE
  unfold maxLen at hm
  clear ha hc
  have HX := Lib.hid (boxed_ext w (.slice a N.ends.length c) v1 v2 29)
  have HR := Lib.hid (row3_made w (.slice a N.ends.length c) v1 v2 29)
  obtain ⟨p0, p1, p2, -, -, -⟩ := row3_facts HR.out
  by_cases hg : Good N
  · have G := Lib.hid (dec_true hg)
    have D := Lib.hid (show dec (InB x 0 ((N.ends.length : Int) - 1)) = dec (NodeAns N x) from dec_congr ⟨fun h => ⟨hg, h.1, by have := h.2; omega⟩, fun h => ⟨h.2.1, by have := h.2.2; omega⟩⟩)
    clear hg
    go_enter Try.func64, Try.ntmps64
    go_wp2_with fail
    (with_reducible refine (neGood_any (HN.out.ext HX.out)).mono ?_)
    rintro e w1 ⟨rfl, hw⟩
    rw [G.out]
    have K1 := Lib.hid (HX.out.trans' hw)
    obtain ⟨q0, q1, q2, -, -, -⟩ := row3_facts (row_ext HR.out hw)
    clear hw p0 p1 p2
    go_wp2_with (go_at_call 99; (with_reducible refine (l1In_any x _ _ _).mono ?_); rintro e w' ⟨rfl, rfl⟩; rw [D.out])
    go_ret
    exact ⟨rfl, K1.out⟩
  · have G := Lib.hid (dec_false hg)
    have D := Lib.hid (dec_false (p := NodeAns N x) fun h => hg h.1)
    clear hg
    go_enter Try.func64, Try.ntmps64
    go_wp2_with (go_at_call 74; (with_reducible refine (neGood_any (HN.out.ext HX.out)).mono ?_); rintro e w1 ⟨rfl, hw⟩; rw [G.out]; have K1 := Lib.hid (HX.out.trans' hw); clear hw)
    go_ret
    exact ⟨bool_of D.out.symm, K1.out⟩

end Go.Proofs.Ytgacbfblpkikkaa
