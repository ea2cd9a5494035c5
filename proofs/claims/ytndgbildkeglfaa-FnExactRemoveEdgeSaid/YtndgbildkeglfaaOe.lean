/- Contracts of nePort and of both OtherEnd. -/
import Derived.Test.YtndgbildkeglfaaNe2
namespace Go.Proofs.Ytndgbildkeglfaa
open Go.RowKit

def OtherOK (N : Net) (v i : Int) : Prop := Good N ∧ PortOK N.ends v i

theorem eqEnd_same (x y : Int) (w : World) : Calls Try.prog 36 #[.agg #[.int .i64 x, .int .i64 y], .agg #[.int .i64 x, .int .i64 y]] w fun e w' => e = .returned (.bool true) ∧ Ext w w' :=
  (eqEnd_any x y x y w).mono fun _ _ ⟨he, hx⟩ => ⟨by rw [he]; simp, hx⟩

set_option maxHeartbeats 1600000 in
set_option maxRecDepth 100000 in
theorem nePort_any {w : World} {v : Value} {N : Net} (x y : Int) (h : NetAt w v N) :
    Calls Try.prog 77 #[v, .int .i64 x, .int .i64 y] w fun e w' => e = .returned (.bool (dec (OtherOK N x y))) ∧ Ext w w' := by
  have HN := Lib.hid h
  obtain ⟨v0, v1, v2, rfl, hE, hI, hP⟩ := h
  clear hI hP
  obtain ⟨a, b, o, c, rfl, ha, hl, hm, hc⟩ := hE
  unfold maxLen at hm
  have Hc := Lib.hid hc
  have Ha := Lib.hid ha
  clear hc ha
  have HX := Lib.hid (boxed_ext w (.slice a N.ends.length c) v1 v2 30)
  have HR := Lib.hid (boxed_row w (.slice a N.ends.length c) v1 v2 30)
  by_cases hg : Good N
  · have G := Lib.hid (dec_true hg)
    by_cases hx : InB x 0 (N.ends.length - 1)
    · obtain ⟨xx, rfl⟩ := Int.eq_ofNat_of_zero_le hx.1
      have hxl : xx < N.ends.length := by have := hx.2; omega
      obtain ⟨z, hz, hz2⟩ := Hc.out xx hxl
      obtain ⟨a', b', o', c', rfl, _, hl', hm', _⟩ := hz2
      unfold maxLen at hm'
      obtain rfl := Ha.out (by omega)
      have HZ := Lib.hid (HX.out.cell' hz)
      have X := Lib.hid (dec_true hx)
      have hfin := Lib.hid (dec_congr (p := InB y 0 ((gr N.ends xx).length - 1)) (q := OtherOK N xx y) ⟨fun h => ⟨hg, by omega, by omega, h.1, by have := h.2; simp only [Int.toNat_natCast]; omega⟩, fun h => ⟨h.2.2.2.1, by have := h.2.2.2.2; simp only [Int.toNat_natCast] at this; omega⟩⟩)
      clear hz hg hx
      go_enter Try.func77, Try.ntmps77
      go_wp2_with (first | (go_at_call 66; (with_reducible refine (neGood_any (HN.out.ext HX.out)).mono ?_); rintro e w1 ⟨rfl, hw⟩; rw [G.out]; have K1 := Lib.hid (HX.out.trans' hw); obtain ⟨p0, p1, p2, _, _, _⟩ := row3_facts (row_ext HR.out hw); have hz1 := hw.cell' HZ.out; clear hw) | (go_at_call 88; (with_reducible refine (l1In_any _ _ _ _).mono ?_); rintro e w1 ⟨rfl, rfl⟩; rw [X.out]) | (go_at_call 88; (with_reducible refine (l1In_any _ _ _ _).mono ?_); rintro e w1 ⟨rfl, rfl⟩))
      go_ret
      exact ⟨ret_bool hfin.out, K1.out⟩
    · have X := Lib.hid (dec_false hx)
      have HF := Lib.hid (show ¬ OtherOK N x y from fun h => hx ⟨h.2.1, by have := h.2.2.1; omega⟩)
      clear hg hx
      go_enter Try.func77, Try.ntmps77
      go_wp2_with (first | (go_at_call 66; (with_reducible refine (neGood_any (HN.out.ext HX.out)).mono ?_); rintro e w1 ⟨rfl, hw⟩; rw [G.out]; have K1 := Lib.hid (HX.out.trans' hw); obtain ⟨p0, p1, p2, _, _, _⟩ := row3_facts (row_ext HR.out hw); clear hw) | (go_at_call 88; (with_reducible refine (l1In_any _ _ _ _).mono ?_); rintro e w1 ⟨rfl, rfl⟩; rw [X.out]))
      go_ret
      exact ⟨ret_f HF.out, K1.out⟩
  · have G := Lib.hid (dec_false hg)
    have HF := Lib.hid (show ¬ OtherOK N x y from fun h => hg h.1)
    clear hg
    go_enter Try.func77, Try.ntmps77
    go_wp2_with (first | (go_at_call 66; (with_reducible refine (neGood_any (HN.out.ext HX.out)).mono ?_); rintro e w1 ⟨rfl, hw⟩; rw [G.out]; have K1 := Lib.hid (HX.out.trans' hw); clear hw))
    go_ret
    exact ⟨ret_f HF.out, K1.out⟩
end Go.Proofs.Ytndgbildkeglfaa
