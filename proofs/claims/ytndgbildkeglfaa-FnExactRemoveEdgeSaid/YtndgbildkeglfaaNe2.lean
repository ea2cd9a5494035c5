/- The contract of the model's neGood and IsNetwork. -/
import Derived.Test.YtndgbildkeglfaaNe
namespace Go.Proofs.Ytndgbildkeglfaa
open Go.RowKit

set_option maxHeartbeats 1600000 in
set_option maxRecDepth 100000 in
theorem neGood_any {w : World} {v : Value} {N : Net} (h : NetAt w v N) :
    Calls Try.prog 66 #[v] w fun e w' => e = .returned (.bool (dec (Good N))) ∧ Ext w w' := by
  by_cases hb : InB N.ends.length 1 40
  · by_cases h2 : IdsOK N.ids N.ends.length
    · by_cases h3 : (N.inputs.length : Int) = N.ends.length
      · by_cases h4 : AllIn N.inputs 0 9
        · exact neGood_loops h hb h2 h3 h4
        · obtain ⟨v0, v1, v2, rfl, hE, hI, hP⟩ := h
          have HI := Lib.hid hI
          have HP := Lib.hid hP
          obtain ⟨a, b, o, c, rfl, _, hl, hm, _⟩ := hE
          obtain ⟨a1, b1, o1, c1, rfl, _, hl1, hm1, _⟩ := hI
          obtain ⟨a2, b2, o2, c2, rfl, _, hl2, hm2, _⟩ := hP
          unfold maxLen at hm hm1 hm2
          have HB := Lib.hid (dec_true hb)
          have H2 := Lib.hid (dec_true h2)
          have H4 := Lib.hid (dec_false h4)
          have h3b : ((N.inputs.length : Int) != (N.ends.length : Int)) = false := by rw [bne_eq_false_iff_eq]; exact h3
          have HF := Lib.hid (show ¬ Good N from fun h => h4 h.2.2.2.2)
          have HX := Lib.hid (boxed_ext w (.slice a N.ends.length c) (.slice a1 N.ids.length c1) (.slice a2 N.inputs.length c2) 30)
          clear hb h2 h3 h4
          go_enter Try.func66, Try.ntmps66
          go_wp2_with (first | (go_at_call 88; (with_reducible refine (l1In_any _ _ _ _).mono ?_); rintro e w1 ⟨rfl, rfl⟩; rw [HB.out]) | (go_at_call 104; (with_reducible refine (neIds_any _ (HI.out.ext HX.out)).mono ?_); rintro e w1 ⟨rfl, rfl⟩; rw [H2.out]) | (go_at_call 74; (with_reducible refine (l1All_any _ _ (HP.out.ext HX.out)).mono ?_); rintro e w1 ⟨rfl, rfl⟩; rw [H4.out]))
          go_ret
          exact ⟨ret_f HF.out, HX.out⟩
      · obtain ⟨v0, v1, v2, rfl, hE, hI, hP⟩ := h
        have HI := Lib.hid hI
        obtain ⟨a, b, o, c, rfl, _, hl, hm, _⟩ := hE
        obtain ⟨a1, b1, o1, c1, rfl, _, hl1, hm1, _⟩ := hI
        obtain ⟨a2, b2, o2, c2, rfl, _, hl2, hm2, _⟩ := hP
        unfold maxLen at hm hm1 hm2
        have HB := Lib.hid (dec_true hb)
        have H2 := Lib.hid (dec_true h2)
        have h3b : ((N.inputs.length : Int) != (N.ends.length : Int)) = true := by rw [bne_iff_ne]; exact h3
        have HF := Lib.hid (show ¬ Good N from fun h => h3 h.2.2.2.1)
        have HX := Lib.hid (boxed_ext w (.slice a N.ends.length c) (.slice a1 N.ids.length c1) (.slice a2 N.inputs.length c2) 30)
        clear hb h2 h3
        go_enter Try.func66, Try.ntmps66
        go_wp2_with (first | (go_at_call 88; (with_reducible refine (l1In_any _ _ _ _).mono ?_); rintro e w1 ⟨rfl, rfl⟩; rw [HB.out]) | (go_at_call 104; (with_reducible refine (neIds_any _ (HI.out.ext HX.out)).mono ?_); rintro e w1 ⟨rfl, rfl⟩; rw [H2.out]))
        go_ret
        exact ⟨ret_f HF.out, HX.out⟩
    · obtain ⟨v0, v1, v2, rfl, hE, hI, hP⟩ := h
      have HI := Lib.hid hI
      obtain ⟨a, b, o, c, rfl, _, hl, hm, _⟩ := hE
      obtain ⟨a1, b1, o1, c1, rfl, _, hl1, hm1, _⟩ := hI
      unfold maxLen at hm hm1
      have HB := Lib.hid (dec_true hb)
      have H2 := Lib.hid (dec_false h2)
      have HF := Lib.hid (show ¬ Good N from fun h => h2 h.2.2.1)
      have HX := Lib.hid (boxed_ext w (.slice a N.ends.length c) (.slice a1 N.ids.length c1) v2 30)
      clear hb h2
      go_enter Try.func66, Try.ntmps66
      go_wp2_with (first | (go_at_call 88; (with_reducible refine (l1In_any _ _ _ _).mono ?_); rintro e w1 ⟨rfl, rfl⟩; rw [HB.out]) | (go_at_call 104; (with_reducible refine (neIds_any _ (HI.out.ext HX.out)).mono ?_); rintro e w1 ⟨rfl, rfl⟩; rw [H2.out]))
      go_ret
      exact ⟨ret_f HF.out, HX.out⟩
  · obtain ⟨v0, v1, v2, rfl, hE, hI, hP⟩ := h
    obtain ⟨a, b, o, c, rfl, _, hl, hm, _⟩ := hE
    unfold maxLen at hm
    have HB := Lib.hid (dec_false hb)
    have HF := Lib.hid (show ¬ Good N from fun h => hb ⟨by have := h.1.1; omega, by have := h.1.2; omega⟩)
    have HX := Lib.hid (boxed_ext w (.slice a N.ends.length c) v1 v2 30)
    clear hb
    go_enter Try.func66, Try.ntmps66
    go_wp2_with (first | (go_at_call 88; (with_reducible refine (l1In_any _ _ _ _).mono ?_); rintro e w1 ⟨rfl, rfl⟩; rw [HB.out]))
    go_ret
    exact ⟨ret_f HF.out, HX.out⟩

theorem specIsNetwork_any {w : World} {v : Value} {N : Net} (h : NetAt w v N) :
    Calls Try.prog 20 #[v] w fun e w' => e = .returned (.bool (dec (Good N))) ∧ Ext w w' := by
  have HN := Lib.hid h
  obtain ⟨v0, v1, v2, rfl, hE, hI, hP⟩ := h
  clear hE hI hP
  have HX := Lib.hid (boxed_ext w v0 v1 v2 30)
  go_enter Try.func20, Try.ntmps20
  go_wp2_with (first | (go_at_call 66; (with_reducible refine (neGood_any (HN.out.ext HX.out)).mono ?_); rintro e w1 ⟨rfl, hw⟩; have HW := Lib.hid hw; clear hw))
  go_ret
  exact ⟨rfl, HX.out.trans' HW.out⟩
end Go.Proofs.Ytndgbildkeglfaa
