/- PortText: the model and the program write an end alike. -/
import Derived.Test.YtecgajpjcaemmaaDoorSb
namespace Go.Proofs.YtecgajpjcaemmaaDoor
open Go.RowKit

set_option maxHeartbeats 800000 in
set_option maxRecDepth 100000 in
theorem txEnd_core (a b : Nat) (A B : Bs) (w : World) (hA : ∀ w' : World, Calls Tryd.prog 80 #[.int .i64 a] w' fun e w'' => e = .returned (.string (bs A)) ∧ Ext w' w'')
    (hB : ∀ w' : World, Calls Tryd.prog 80 #[.int .i64 b] w' fun e w'' => e = .returned (.string (bs B)) ∧ Ext w' w'') (ha6 : A.length ≤ 6) (hb6 : B.length ≤ 6) :
    Calls Tryd.prog 40 #[.agg #[.int .i64 a, .int .i64 b]] w fun e w' => e = .returned (.string (bs (A ++ [46] ++ B))) ∧ Ext w w' := by
  have HA := Lib.hid hA
  have HB := Lib.hid hB
  clear hA hB
  have HX := Lib.hid ((Ext.rfl' w).alloc' (.cells #[.int .i64 (a : Int), .int .i64 (b : Int)] 26))
  have s0 : ∀ x : Wx (w.alloc (.cells #[.int .i64 (a : Int), .int .i64 (b : Int)] 26)), x.w.cell? ⟨w.heap.size, 0, none⟩ = some (.int .i64 (a : Int)) := fun x => x.ok.cell' (by simp)
  have s1 : ∀ x : Wx (w.alloc (.cells #[.int .i64 (a : Int), .int .i64 (b : Int)] 26)), x.w.cell? ⟨w.heap.size, 1, none⟩ = some (.int .i64 (b : Int)) := fun x => x.ok.cell' (by simp)
  have q1 : (9223372036854775807 ≤ A.length) = False := eq_false (by omega)
  have q2 : (9223372036854775807 < A.length + 1) = False := eq_false (by omega)
  have q3 : (9223372036854775807 < A.length + 1 + B.length) = False := eq_false (by omega)
  go_enter Tryd.func40, Tryd.ntmps40
  go_wp2_with fail
  refine wp_region_ext (by kernel_rfl) (by kernel_rfl) ?_
  repeat (go_big_quiet_step (first | (go_at_call 80; with_reducible exact in_ext (HA.out _)) | (go_at_call 80; with_reducible exact in_ext (HB.out _))))
  refine wpQuiet_nil ?_
  rintro _ ⟨⟨wq, hq⟩, rfl⟩
  have HY := Lib.hid (HX.out.trans' hq)
  clear hq
  go_wp2
  go_ret
  exact ⟨by rw [← bs_app, ← bs_app]; rfl, HY.out⟩
theorem txEnd_any (a b : Nat) (ha : a ≤ 999999) (hb : b ≤ 999999) (w : World) :
    Calls Tryd.prog 40 #[.agg #[.int .i64 a, .int .i64 b]] w fun e w' => e = .returned (.string (bs (endT (a, b)))) ∧ Ext w w' :=
  txEnd_core a b _ _ w (fun w' => l1Num_any a (by omega) w') (fun w' => l1Num_any b (by omega) w') (dec_len6 a ha) (dec_len6 b hb)

theorem txSix_any (x : Int) (w : World) : Calls Tryd.prog 39 #[.int .i64 x] w fun e w' => e = .returned (.bool (dec (InB x 0 999999))) ∧ w = w' := by
  go_enter Tryd.func39, Tryd.ntmps39
  go_wp2_with (go_at_call 57; (with_reducible refine (l1In_any _ _ _ _).mono ?_); rintro e w' ⟨rfl, rfl⟩)
  go_ret
  exact ⟨rfl, rfl⟩

def EndIn (x y : Int) : Prop := InB x 0 999999 ∧ InB y 0 999999
noncomputable def ptAns (x y : Int) : Ending := if dec (EndIn x y) then .returned (.tuple #[.string (bs (endT (x, y))), .bool true]) else .returned (.tuple #[.string (bs []), .bool false])
theorem ptAns_t {x y : Int} (h : EndIn x y) : ptAns x y = .returned (.tuple #[.string (bs (endT (x, y))), .bool true]) := by unfold ptAns; rw [dec_true h]; rfl
theorem ptAns_f {x y : Int} (h : ¬ EndIn x y) : ptAns x y = .returned (.tuple #[.string (bs []), .bool false]) := by unfold ptAns; rw [dec_false h]; rfl

set_option maxHeartbeats 800000 in
set_option maxRecDepth 100000 in
theorem specPort_any (x y : Int) (w : World) : Calls Tryd.prog 11 #[.agg #[.int .i64 x, .int .i64 y]] w fun e w' => e = ptAns x y ∧ Ext w w' := by
  have HX := Lib.hid ((Ext.rfl' w).alloc' (.cells #[.int .i64 x, .int .i64 y] 26))
  by_cases h1 : InB x 0 999999
  · have b1 := Lib.hid (dec_true h1)
    by_cases h2 : InB y 0 999999
    · have b2 := Lib.hid (dec_true h2)
      have Ha := Lib.hid (ptAns_t ⟨h1, h2⟩)
      obtain ⟨a, rfl⟩ := Int.eq_ofNat_of_zero_le h1.1
      obtain ⟨b, rfl⟩ := Int.eq_ofNat_of_zero_le h2.1
      have ha : a ≤ 999999 := by have := h1.2; omega
      have hb : b ≤ 999999 := by have := h2.2; omega
      clear h1 h2
      go_enter Tryd.func11, Tryd.ntmps11
      go_wp2_with (first | (go_at_call 39; (with_reducible refine (txSix_any _ _).mono ?_); rintro e w' ⟨rfl, rfl⟩; first | rw [b1.out] | rw [b2.out]) | (go_at_call 40; (with_reducible refine (txEnd_any a b ha hb _).mono ?_); rintro e w2 ⟨rfl, hy⟩; have HY := Lib.hid (HX.out.trans' hy); clear hy))
      go_ret2
      exact ⟨Ha.out.symm, HY.out⟩
    · have b2 := Lib.hid (dec_false h2)
      have Ha := Lib.hid (ptAns_f (x := x) (y := y) fun h => h2 h.2)
      clear h1 h2
      go_enter Tryd.func11, Tryd.ntmps11
      go_wp2_with (go_at_call 39; (with_reducible refine (txSix_any _ _).mono ?_); rintro e w' ⟨rfl, rfl⟩; first | rw [b1.out] | rw [b2.out])
      go_ret2
      exact ⟨Ha.out.symm, HX.out⟩
  · have b1 := Lib.hid (dec_false h1)
    have Ha := Lib.hid (ptAns_f (x := x) (y := y) fun h => h1 h.1)
    clear h1
    go_enter Tryd.func11, Tryd.ntmps11
    go_wp2_with (go_at_call 39; (with_reducible refine (txSix_any _ _).mono ?_); rintro e w' ⟨rfl, rfl⟩; rw [b1.out])
    go_ret2
    exact ⟨Ha.out.symm, HX.out⟩
theorem six_of {x : Int} (h : InB x 0 999999) : Six x := h
theorem int2_in {w : World} {b : Nat} {x y : Int} (h0 : w.cell? ⟨b, 0, none⟩ = some (.int .i64 x)) (h1 : w.cell? ⟨b, 1, none⟩ = some (.int .i64 y)) (hx : InB x 0 999999) (hy : InB y 0 999999) : IntSl w (.slice (some ⟨b, 0, none⟩) 2 2) [x, y] := by
  refine ⟨_, b, 0, 2, rfl, fun _ => rfl, Nat.le_refl _, by unfold maxLen; omega, fun i hi => ?_⟩
  have hi2 : i < 2 := hi
  have hx1 := hx.1; have hx2 := hx.2; have hy1 := hy.1; have hy2 := hy.2
  rcases (by omega : i = 0 ∨ i = 1) with rfl | rfl
  · exact ⟨_, h0, rfl, by show inI64 x; unfold inI64; omega⟩
  · exact ⟨_, h1, rfl, by show inI64 y; unfold inI64; omega⟩

set_option maxHeartbeats 800000 in
set_option maxRecDepth 100000 in
theorem implPort_any (x y : Int) (w : World) (hL : Pw w) : Calls Tryd.prog 13 #[.agg #[.int .i64 x, .int .i64 y]] w fun e w' => e = ptAns x y ∧ Ext w w' := by
  have HX := Lib.hid ((Ext.rfl' w).alloc' (.cells #[.int .i64 x, .int .i64 y] 26))
  by_cases h1 : InB x 0 999999
  · have b1 := Lib.hid (dec_true h1)
    by_cases h2 : InB y 0 999999
    · have b2 := Lib.hid (dec_true h2)
      have Ha := Lib.hid (ptAns_t ⟨h1, h2⟩)
      have HW := Lib.hid (HX.out.alloc' (.cells #[.int .i64 x, .int .i64 y] 3))
      have HJ := Lib.hid (joinNumbers_any (l := [x, y]) 46 (int2_in (w := (w.alloc (.cells #[.int .i64 x, .int .i64 y] 26)).alloc (.cells #[.int .i64 x, .int .i64 y] 3)) (b := w.heap.size + 1) (by simp) (by simp) h1 h2) (by simp) (by simpa using ⟨six_of h1, six_of h2⟩) (hL.ext HW.out))
      clear h1 h2
      go_enter Tryd.func13, Tryd.ntmps13
      go_wp2_with (first | (go_at_call 41; (with_reducible refine (isBetween_any _ _ _ _).mono ?_); rintro e w' ⟨rfl, rfl⟩; first | rw [b1.out] | rw [b2.out]) | (go_at_call 42; refine (HJ.out).mono ?_; rintro e w2 ⟨rfl, hy⟩; have HY := Lib.hid (HW.out.trans' hy); clear hy))
      go_ret2
      exact ⟨by rw [Ha.out, endT_ints]; rfl, HY.out⟩
    · have b2 := Lib.hid (dec_false h2)
      have Ha := Lib.hid (ptAns_f (x := x) (y := y) fun h => h2 h.2)
      clear h1 h2
      go_enter Tryd.func13, Tryd.ntmps13
      go_wp2_with (go_at_call 41; (with_reducible refine (isBetween_any _ _ _ _).mono ?_); rintro e w' ⟨rfl, rfl⟩; first | rw [b1.out] | rw [b2.out])
      go_ret2
      exact ⟨Ha.out.symm, HX.out⟩
  · have b1 := Lib.hid (dec_false h1)
    have Ha := Lib.hid (ptAns_f (x := x) (y := y) fun h => h1 h.1)
    clear h1
    go_enter Tryd.func13, Tryd.ntmps13
    go_wp2_with (go_at_call 41; (with_reducible refine (isBetween_any _ _ _ _).mono ?_); rintro e w' ⟨rfl, rfl⟩; rw [b1.out])
    go_ret2
    exact ⟨Ha.out.symm, HX.out⟩

set_option maxHeartbeats 800000 in
set_option maxRecDepth 100000 in
theorem walk_PortText (x y : Int) (w : World) (hL : Pw w) : Calls Tryd.prog 3 #[.agg #[.int .i64 x, .int .i64 y]] w fun e w' => e = .returned (.bool true) ∧ Ext w w' := by
  have H := Lib.hid hL
  have HX := Lib.hid ((Ext.rfl' w).alloc' (.cells #[.int .i64 x, .int .i64 y] 23))
  have q0 := Lib.hid (show ∀ w', Ext (w.alloc (.cells #[.int .i64 x, .int .i64 y] 23)) w' → w'.cell? ⟨w.heap.size, 0, none⟩ = some (.int .i64 x) ∧ w'.cell? ⟨w.heap.size, 1, none⟩ = some (.int .i64 y) from fun w' h => ⟨h.cell' (by simp), h.cell' (by simp)⟩)
  clear hL
  by_cases h : EndIn x y
  · have Ha := Lib.hid (ptAns_t h)
    clear h
    go_enter Tryd.func3, Tryd.ntmps3
    go_wp2_with (go_at_call 12; (with_reducible refine (toEnd_any x y _).mono ?_); rintro e w1 ⟨rfl, hx, _⟩; have K1 := Lib.hid hx; clear hx)
    go_wp2_with (go_at_call 11; (with_reducible refine (specPort_any x y _).mono ?_); rintro e w2 ⟨he, hx⟩; rw [Ha.out] at he; subst he; have K2 := Lib.hid (K1.out.trans' hx); clear hx; obtain ⟨c0, c1⟩ := q0.out _ K2.out)
    go_wp2_with (go_at_call 12; (with_reducible refine (toEnd_any x y _).mono ?_); rintro e w3 ⟨rfl, hx, _⟩; have K3 := Lib.hid (K2.out.trans' hx); clear hx)
    go_wp2_with (go_at_call 13; (with_reducible refine (implPort_any x y _ (H.out.ext (HX.out.trans' K3.out))).mono ?_); rintro e w4 ⟨he, hx⟩; rw [Ha.out] at he; subst he; have K4 := Lib.hid (HX.out.trans' (K3.out.trans' hx)); clear hx)
    go_ret
    exact ⟨rfl, K4.out⟩
  · have Ha := Lib.hid (ptAns_f h)
    clear h
    go_enter Tryd.func3, Tryd.ntmps3
    go_wp2_with (go_at_call 12; (with_reducible refine (toEnd_any x y _).mono ?_); rintro e w1 ⟨rfl, hx, _⟩; have K1 := Lib.hid hx; clear hx)
    go_wp2_with (go_at_call 11; (with_reducible refine (specPort_any x y _).mono ?_); rintro e w2 ⟨he, hx⟩; rw [Ha.out] at he; subst he; have K2 := Lib.hid (K1.out.trans' hx); clear hx; obtain ⟨c0, c1⟩ := q0.out _ K2.out)
    go_wp2_with (go_at_call 12; (with_reducible refine (toEnd_any x y _).mono ?_); rintro e w3 ⟨rfl, hx, _⟩; have K3 := Lib.hid (K2.out.trans' hx); clear hx)
    go_wp2_with (go_at_call 13; (with_reducible refine (implPort_any x y _ (H.out.ext (HX.out.trans' K3.out))).mono ?_); rintro e w4 ⟨he, hx⟩; rw [Ha.out] at he; subst he; have K4 := Lib.hid (HX.out.trans' (K3.out.trans' hx)); clear hx)
    go_ret
    exact ⟨rfl, K4.out⟩
end Go.Proofs.YtecgajpjcaemmaaDoor
