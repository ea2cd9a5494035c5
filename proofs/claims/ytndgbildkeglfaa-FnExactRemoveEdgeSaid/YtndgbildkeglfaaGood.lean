/- The contract of the program's own IsNetwork. -/
import Derived.Test.YtndgbildkeglfaaMut
namespace Go.Proofs.Ytndgbildkeglfaa
open Go.RowKit

/-- What a network has to fulfil. -/
def Good (N : Net) : Prop := (1 ≤ N.ends.length ∧ N.ends.length ≤ 40) ∧ EndsOK N.ends ∧ IdsOK N.ids N.ends.length ∧ InputsOK N.inputs N.ends.length

set_option maxHeartbeats 1600000 in
set_option maxRecDepth 100000 in
theorem isNetwork_any {w : World} {v : Value} {N : Net} (h : NetAt w v N) :
    Calls Try.prog 22 #[v] w fun e w' => e = .returned (.bool (dec (Good N))) ∧ Ext w w' := by
  obtain ⟨v0, v1, v2, rfl, hE, hI, hP⟩ := h
  have HE := Lib.hid hE
  have HI := Lib.hid hI
  have HP := Lib.hid hP
  obtain ⟨a, b, o, c, rfl, _, hl, hm, _⟩ := hE
  unfold maxLen at hm
  clear hI hP
  have HX := Lib.hid ((Ext.rfl' w).alloc' (.cells #[.slice a N.ends.length c, v1, v2] 30))
  have hA := row3_made w (.slice a N.ends.length c) v1 v2 30
  have HA := Lib.hid hA
  clear hA
  by_cases g1 : N.ends.length < 1
  · have G1 := Lib.hid g1
    go_enter Try.func22, Try.ntmps22
    go_wp2
    go_ret
    exact ⟨ret_f (fun h => absurd h.1.1 (by have := G1.out; omega)), HX.out⟩
  · by_cases g2 : 40 < N.ends.length
    · have G2 := Lib.hid g2
      go_enter Try.func22, Try.ntmps22
      go_wp2
      go_ret
      exact ⟨ret_f (fun h => absurd h.1.2 (by have := G2.out; omega)), HX.out⟩
    · have Hl := Lib.hid (show 1 ≤ N.ends.length ∧ N.ends.length ≤ 40 by omega)
      by_cases e1 : EndsOK N.ends
      · have E1 := Lib.hid (dec_true e1)
        have He1 := Lib.hid e1
        clear e1
        by_cases e2 : IdsOK N.ids N.ends.length
        · have E2 := Lib.hid (dec_true e2)
          have He2 := Lib.hid e2
          clear e2
          have e3 := Lib.hid (dec_congr (p := InputsOK N.inputs N.ends.length) (q := Good N) ⟨fun h => ⟨Hl.out, He1.out, He2.out, h⟩, fun h => h.2.2.2⟩)
          go_enter Try.func22, Try.ntmps22
          go_wp2_with (first | (go_at_call 68; (with_reducible refine (mutual_any (HE.out.ext HX.out)).mono ?_); rintro e w1 ⟨rfl, hw1⟩; rw [E1.out]; have K1 := Lib.hid (HX.out.trans' hw1); obtain ⟨p0, p1, p2, _, _, _⟩ := row3_facts (row_ext HA.out hw1); clear hw1) | (go_at_call 69; (with_reducible refine (areIds_any _ (HI.out.ext K1.out)).mono ?_); rintro e w1 ⟨rfl, rfl⟩; rw [E2.out]) | (go_at_call 70; (with_reducible refine (areInputs_any _ (HP.out.ext K1.out)).mono ?_); rintro e w1 ⟨rfl, rfl⟩))
          go_ret
          exact ⟨ret_bool e3.out, K1.out⟩
        · have E2 := Lib.hid (dec_false e2)
          have He2 := Lib.hid e2
          clear e2
          go_enter Try.func22, Try.ntmps22
          go_wp2_with (first | (go_at_call 68; (with_reducible refine (mutual_any (HE.out.ext HX.out)).mono ?_); rintro e w1 ⟨rfl, hw1⟩; rw [E1.out]; have K1 := Lib.hid (HX.out.trans' hw1); obtain ⟨p0, p1, p2, _, _, _⟩ := row3_facts (row_ext HA.out hw1); clear hw1) | (go_at_call 69; (with_reducible refine (areIds_any _ (HI.out.ext K1.out)).mono ?_); rintro e w1 ⟨rfl, rfl⟩; rw [E2.out]))
          go_ret
          exact ⟨ret_f (fun h => He2.out h.2.2.1), K1.out⟩
      · have E1 := Lib.hid (dec_false e1)
        have He1 := Lib.hid e1
        clear e1
        go_enter Try.func22, Try.ntmps22
        go_wp2_with (first | (go_at_call 68; (with_reducible refine (mutual_any (HE.out.ext HX.out)).mono ?_); rintro e w1 ⟨rfl, hw1⟩; rw [E1.out]; have K1 := Lib.hid (HX.out.trans' hw1); obtain ⟨p0, p1, p2, _, _, _⟩ := row3_facts (row_ext HA.out hw1); clear hw1))
        go_ret
        exact ⟨ret_f (fun h => He1.out h.2.1), K1.out⟩
end Go.Proofs.Ytndgbildkeglfaa
