/- StepValues: what the program and the model answer. -/
import Derived.Test.YtbddjejpacaglaaGreatDoorVrc
import Derived.Test.YtbddjejpacaglaaGreatDoorVrd
namespace Go.Proofs.YtbddjejpacaglaaGreatDoor
open Go.RowKit

def AskB (l : List (Int × Int)) (N : Net) (s : List Int) : Prop := ProgOK l ∧ ValsOK N s
theorem own_nilV (w : World) : OwnI w (.slice none 0 0) [] [] := ⟨⟨0, Nat.le_refl _, by unfold maxLen; omega, .inl ⟨rfl, rfl, none, ⟨rfl, rfl⟩, rfl⟩⟩, fun i hi => absurd hi (by simp)⟩
set_option maxHeartbeats 1600000 in
set_option maxRecDepth 100000 in
theorem vaAsked_any {w : World} {pv vn vs : Value} {l : List (Int × Int)} {N : Net} {s : List Int} (h0 : EndSl w pv l) (h : NetAt w vn N) (hs : IntSl w vs s) :
    Calls Tryz.prog 32 #[pv, vn, vs] w fun e w' => e = .returned (.bool (dec (AskB l N s))) ∧ Ext w w' := by
  have HPV := Lib.hid h0
  have HN := Lib.hid h
  have HS := Lib.hid hs
  obtain ⟨v0, v1, v2, rfl, hE, -, -⟩ := h
  obtain ⟨a, _, _, c, rfl, -, hl, hm, -⟩ := hE
  obtain ⟨sa, _, _, sc, rfl, -, hsl, hsm, -⟩ := hs
  unfold maxLen at hm hsm
  have HX := Lib.hid ((Ext.rfl' w).alloc' (.cells #[.slice a N.ends.length c, v1, v2] 35))
  have R := Lib.hid (row3_made w (.slice a N.ends.length c) v1 v2 35)
  by_cases hp : ProgOK l
  · have P := Lib.hid (dec_true hp)
    by_cases hg : Good N
    · have G := Lib.hid (dec_true hg)
      by_cases hn : s.length = N.ends.length
      · have bn : ((s.length : Int) == (N.ends.length : Int)) = true := beq_iff_eq.2 (by omega)
        by_cases hv : AllIn s (-1000000) 1000000
        · have V := Lib.hid (dec_true hv)
          have D := Lib.hid (dec_true (p := AskB l N s) ⟨hp, hg, hn, hv⟩)
          clear hp hg hn hv
          go_enter Tryz.func32, Tryz.ntmps32
          go_wp2_with (first | (go_at_call 53; (with_reducible refine (vaGood_any (HPV.out.ext HX.out)).mono ?_); rintro e w1 ⟨rfl, hx⟩; rw [P.out]; have K1 := Lib.hid (HX.out.trans' hx); obtain ⟨f0, f1, f2, -, -, -⟩ := row3_facts (row_ext R.out hx); clear hx) | (go_at_call 54; (with_reducible refine (neGood_any (HN.out.ext K1.out)).mono ?_); rintro e w2 ⟨rfl, hx⟩; rw [G.out]; have K2 := Lib.hid (K1.out.trans' hx); have g0 := hx.cell' f0; clear hx f0 f1 f2) | (go_at_call 55; (with_reducible refine (vaValues_any (HS.out.ext K2.out)).mono ?_); rintro e _ ⟨rfl, rfl⟩; rw [V.out]))
          go_ret
          exact ⟨ret_bool D.out.symm, K2.out⟩
        · have V := Lib.hid (dec_false hv)
          have D := Lib.hid (dec_false (p := AskB l N s) fun h => hv h.2.2.2)
          clear hp hg hn hv
          go_enter Tryz.func32, Tryz.ntmps32
          go_wp2_with (first | (go_at_call 53; (with_reducible refine (vaGood_any (HPV.out.ext HX.out)).mono ?_); rintro e w1 ⟨rfl, hx⟩; rw [P.out]; have K1 := Lib.hid (HX.out.trans' hx); obtain ⟨f0, f1, f2, -, -, -⟩ := row3_facts (row_ext R.out hx); clear hx) | (go_at_call 54; (with_reducible refine (neGood_any (HN.out.ext K1.out)).mono ?_); rintro e w2 ⟨rfl, hx⟩; rw [G.out]; have K2 := Lib.hid (K1.out.trans' hx); have g0 := hx.cell' f0; clear hx f0 f1 f2) | (go_at_call 55; (with_reducible refine (vaValues_any (HS.out.ext K2.out)).mono ?_); rintro e _ ⟨rfl, rfl⟩; rw [V.out]))
          go_ret
          exact ⟨ret_bool D.out.symm, K2.out⟩
      · have bn : ((s.length : Int) == (N.ends.length : Int)) = false := beq_eq_false_iff_ne.2 (by omega)
        have D := Lib.hid (dec_false (p := AskB l N s) fun h => hn h.2.2.1)
        clear hp hg hn
        go_enter Tryz.func32, Tryz.ntmps32
        go_wp2_with (first | (go_at_call 53; (with_reducible refine (vaGood_any (HPV.out.ext HX.out)).mono ?_); rintro e w1 ⟨rfl, hx⟩; rw [P.out]; have K1 := Lib.hid (HX.out.trans' hx); obtain ⟨f0, f1, f2, -, -, -⟩ := row3_facts (row_ext R.out hx); clear hx) | (go_at_call 54; (with_reducible refine (neGood_any (HN.out.ext K1.out)).mono ?_); rintro e w2 ⟨rfl, hx⟩; rw [G.out]; have K2 := Lib.hid (K1.out.trans' hx); have g0 := hx.cell' f0; clear hx f0 f1 f2))
        go_ret
        exact ⟨ret_bool D.out.symm, K2.out⟩
    · have G := Lib.hid (dec_false hg)
      have D := Lib.hid (dec_false (p := AskB l N s) fun h => hg h.2.1)
      clear hp hg
      go_enter Tryz.func32, Tryz.ntmps32
      go_wp2_with (first | (go_at_call 53; (with_reducible refine (vaGood_any (HPV.out.ext HX.out)).mono ?_); rintro e w1 ⟨rfl, hx⟩; rw [P.out]; have K1 := Lib.hid (HX.out.trans' hx); obtain ⟨f0, f1, f2, -, -, -⟩ := row3_facts (row_ext R.out hx); clear hx) | (go_at_call 54; (with_reducible refine (neGood_any (HN.out.ext K1.out)).mono ?_); rintro e w2 ⟨rfl, hx⟩; rw [G.out]; have K2 := Lib.hid (K1.out.trans' hx); have g0 := hx.cell' f0; clear hx f0 f1 f2))
      go_ret
      exact ⟨ret_bool D.out.symm, K2.out⟩
  · have P := Lib.hid (dec_false hp)
    have D := Lib.hid (dec_false (p := AskB l N s) fun h => hp h.1)
    clear hp
    go_enter Tryz.func32, Tryz.ntmps32
    go_wp2_with (first | (go_at_call 53; (with_reducible refine (vaGood_any (HPV.out.ext HX.out)).mono ?_); rintro e w1 ⟨rfl, hx⟩; rw [P.out]; have K1 := Lib.hid (HX.out.trans' hx); obtain ⟨f0, f1, f2, -, -, -⟩ := row3_facts (row_ext R.out hx); clear hx))
    go_ret
    exact ⟨ret_bool D.out.symm, K1.out⟩

set_option maxHeartbeats 1600000 in
set_option maxRecDepth 100000 in
theorem specStepValues_any {w : World} {pv vn vs : Value} {l : List (Int × Int)} {N : Net} {s : List Int} (r : Int) (h0 : EndSl w pv l) (h : NetAt w vn N) (hs : IntSl w vs s) :
    Calls Tryz.prog 9 #[pv, vn, .int .i64 r, vs] w fun e w' => ∃ v' bs, e = .returned (.tuple #[v', .bool (dec (StepB l N r s))]) ∧ Ext w w' ∧ OwnI w' v' (stepAns l N r s) bs ∧ Fresh w bs := by
  have HPV := Lib.hid h0
  have HN := Lib.hid h
  have HS := Lib.hid hs
  obtain ⟨v0, v1, v2, rfl, -, -, -⟩ := h
  have HX := Lib.hid ((Ext.rfl' w).alloc' (.cells #[v0, v1, v2] 35))
  have R := Lib.hid (row3_made w v0 v1 v2 35)
  obtain ⟨e0, e1, e2, -, -, -⟩ := row3_facts R.out
  by_cases ha : AskB l N s
  · have A := Lib.hid (dec_true ha)
    by_cases hi : InB r 1 2000
    · have I := Lib.hid (dec_true hi)
      have D := Lib.hid (show StepB l N r s from ⟨ha.1, ha.2, hi⟩)
      have HP := Lib.hid ha.1
      have HVL := Lib.hid ha.2
      clear ha hi
      go_enter Tryz.func9, Tryz.ntmps9
      go_wp2_with (first | (go_at_call 32; (with_reducible refine (vaAsked_any (HPV.out.ext HX.out) (HN.out.ext HX.out) (HS.out.ext HX.out)).mono ?_); rintro e w1 ⟨rfl, hx⟩; rw [A.out]; have K1 := Lib.hid (HX.out.trans' hx); have f0 := hx.cell' e0; have f1 := hx.cell' e1; have f2 := hx.cell' e2; clear hx e0 e1 e2) | (go_at_call 33; (with_reducible refine (l1In_any _ _ _ _).mono ?_); rintro e _ ⟨rfl, rfl⟩; rw [I.out]) | (go_at_call 34; (with_reducible refine (vaStep_any (HPV.out.ext K1.out) HP.out (HN.out.ext K1.out) (HS.out.ext K1.out) HVL.out r).mono ?_); rintro e w2 ⟨v', bs, rfl, hx, ho, hf⟩; have K2 := Lib.hid (K1.out.trans' hx); have O2 := Lib.hid ho; have F2 := Lib.hid (Fresh.of hf K1.out.size); clear hx ho hf))
      go_ret2
      exact ⟨_, bs, by rw [dec_true D.out]; rfl, K2.out, by rw [stepAns_t D.out]; exact O2.out, F2.out⟩
    · have I := Lib.hid (dec_false hi)
      have D := Lib.hid (show ¬ StepB l N r s from fun h => hi h.2.2)
      clear ha hi
      go_enter Tryz.func9, Tryz.ntmps9
      go_wp2_with (first | (go_at_call 32; (with_reducible refine (vaAsked_any (HPV.out.ext HX.out) (HN.out.ext HX.out) (HS.out.ext HX.out)).mono ?_); rintro e w1 ⟨rfl, hx⟩; rw [A.out]; have K1 := Lib.hid (HX.out.trans' hx); have f0 := hx.cell' e0; have f1 := hx.cell' e1; have f2 := hx.cell' e2; clear hx e0 e1 e2) | (go_at_call 33; (with_reducible refine (l1In_any _ _ _ _).mono ?_); rintro e _ ⟨rfl, rfl⟩; rw [I.out]))
      go_ret2
      exact ⟨_, [], by rw [dec_false D.out]; rfl, K1.out, by rw [stepAns_f D.out]; exact own_nilV _, Fresh.nil _⟩
  · have A := Lib.hid (dec_false ha)
    have D := Lib.hid (show ¬ StepB l N r s from fun h => ha ⟨h.1, h.2.1⟩)
    clear ha
    go_enter Tryz.func9, Tryz.ntmps9
    go_wp2_with (first | (go_at_call 32; (with_reducible refine (vaAsked_any (HPV.out.ext HX.out) (HN.out.ext HX.out) (HS.out.ext HX.out)).mono ?_); rintro e w1 ⟨rfl, hx⟩; rw [A.out]; have K1 := Lib.hid (HX.out.trans' hx); have f0 := hx.cell' e0; have f1 := hx.cell' e1; have f2 := hx.cell' e2; clear hx e0 e1 e2))
    go_ret2
    exact ⟨_, [], by rw [dec_false D.out]; rfl, K1.out, by rw [stepAns_f D.out]; exact own_nilV _, Fresh.nil _⟩

set_option maxHeartbeats 1600000 in
set_option maxRecDepth 100000 in
theorem implStepValues_any {w : World} {pv vn vs : Value} {l : List (Int × Int)} {N : Net} {s : List Int} (r : Int) (h0 : EndSl w pv l) (h : NetAt w vn N) (hs : IntSl w vs s) (hP : Pw w) :
    Calls Tryz.prog 13 #[pv, vn, .int .i64 r, vs] w fun e w' => ∃ v' bs, e = .returned (.tuple #[v', .bool (dec (StepB l N r s))]) ∧ Ext w w' ∧ OwnI w' v' (stepAns l N r s) bs ∧ Fresh w bs := by
  have HPV := Lib.hid h0
  have HN := Lib.hid h
  have HS := Lib.hid hs
  obtain ⟨v0, v1, v2, rfl, -, -, -⟩ := h
  have HX := Lib.hid ((Ext.rfl' w).alloc' (.cells #[v0, v1, v2] 35))
  have R := Lib.hid (row3_made w v0 v1 v2 35)
  obtain ⟨e0, e1, e2, -, -, -⟩ := row3_facts R.out
  have HPW := Lib.hid hP
  by_cases hp : ProgOK l
  · have P := Lib.hid (dec_true hp)
    have HP := Lib.hid hp
    by_cases hv : ValsOK N s
    · have A := Lib.hid (dec_true hv)
      have HVL := Lib.hid hv
      by_cases hi : InB r 1 2000
      · have I := Lib.hid (dec_true hi)
        have D := Lib.hid (show StepB l N r s from ⟨hp, hv, hi⟩)
        clear hp hv hi
        go_enter Tryz.func13, Tryz.ntmps13
        go_wp2_with fail
        (with_reducible refine (rulesOf_any (HPV.out.ext HX.out) (HPW.out.ext HX.out)).mono ?_)
        rintro e w1 ⟨rv, rfl, hx, hr⟩
        rw [P.out]
        have K1 := Lib.hid (HX.out.trans' hx)
        have f0 := hx.cell' e0
        have f1 := hx.cell' e1
        have f2 := hx.cell' e2
        obtain ⟨b, B, rfl, -, -, hR⟩ := hr HP.out
        have HR1 := Lib.hid hR
        clear hx hr hR e0 e1 e2
        go_wp2_with (first | (go_at_call 38; (with_reducible refine (hasValues_any (HN.out.ext K1.out) (HS.out.ext K1.out)).mono ?_); rintro e w2 ⟨rfl, hx⟩; rw [A.out]; have K2 := Lib.hid (K1.out.trans' hx); have HR2 := Lib.hid (HR1.out.ext hx); have g0 := hx.cell' f0; have g1 := hx.cell' f1; have g2 := hx.cell' f2; clear hx f0 f1 f2) | (go_at_call 39; (with_reducible refine (isBetweenK_any _ _ _ _).mono ?_); rintro e _ ⟨rfl, rfl⟩; rw [I.out]) | (go_at_call 40; (with_reducible refine (nextValues_any HR2.out HP.out (HN.out.ext K2.out) (HS.out.ext K2.out) HVL.out r).mono ?_); rintro e w3 ⟨v', bs, rfl, hx, ho, hf⟩; have K3 := Lib.hid (K2.out.trans' hx); have O3 := Lib.hid ho; have F3 := Lib.hid (Fresh.of hf K2.out.size); clear hx ho hf))
        go_ret2
        exact ⟨_, bs, by rw [dec_true D.out]; rfl, K3.out, by rw [stepAns_t D.out]; exact O3.out, F3.out⟩
      · have I := Lib.hid (dec_false hi)
        have D := Lib.hid (show ¬ StepB l N r s from fun h => hi h.2.2)
        clear hp hv hi
        go_enter Tryz.func13, Tryz.ntmps13
        go_wp2_with fail
        (with_reducible refine (rulesOf_any (HPV.out.ext HX.out) (HPW.out.ext HX.out)).mono ?_)
        rintro e w1 ⟨rv, rfl, hx, hr⟩
        rw [P.out]
        have K1 := Lib.hid (HX.out.trans' hx)
        have f0 := hx.cell' e0
        have f1 := hx.cell' e1
        have f2 := hx.cell' e2
        obtain ⟨b, B, rfl, -, -, hR⟩ := hr HP.out
        have HR1 := Lib.hid hR
        clear hx hr hR e0 e1 e2
        go_wp2_with (first | (go_at_call 38; (with_reducible refine (hasValues_any (HN.out.ext K1.out) (HS.out.ext K1.out)).mono ?_); rintro e w2 ⟨rfl, hx⟩; rw [A.out]; have K2 := Lib.hid (K1.out.trans' hx); have HR2 := Lib.hid (HR1.out.ext hx); have g0 := hx.cell' f0; have g1 := hx.cell' f1; have g2 := hx.cell' f2; clear hx f0 f1 f2) | (go_at_call 39; (with_reducible refine (isBetweenK_any _ _ _ _).mono ?_); rintro e _ ⟨rfl, rfl⟩; rw [I.out]))
        go_ret2
        exact ⟨_, [], by rw [dec_false D.out]; rfl, K2.out, by rw [stepAns_f D.out]; exact own_nilV _, Fresh.nil _⟩
    · have A := Lib.hid (dec_false hv)
      have D := Lib.hid (show ¬ StepB l N r s from fun h => hv h.2.1)
      clear hp hv
      go_enter Tryz.func13, Tryz.ntmps13
      go_wp2_with fail
      (with_reducible refine (rulesOf_any (HPV.out.ext HX.out) (HPW.out.ext HX.out)).mono ?_)
      rintro e w1 ⟨rv, rfl, hx, hr⟩
      rw [P.out]
      have K1 := Lib.hid (HX.out.trans' hx)
      have f0 := hx.cell' e0
      have f1 := hx.cell' e1
      have f2 := hx.cell' e2
      obtain ⟨b, B, rfl, -, -, hR⟩ := hr HP.out
      have HR1 := Lib.hid hR
      clear hx hr hR e0 e1 e2
      go_wp2_with (first | (go_at_call 38; (with_reducible refine (hasValues_any (HN.out.ext K1.out) (HS.out.ext K1.out)).mono ?_); rintro e w2 ⟨rfl, hx⟩; rw [A.out]; have K2 := Lib.hid (K1.out.trans' hx); have HR2 := Lib.hid (HR1.out.ext hx); have g0 := hx.cell' f0; have g1 := hx.cell' f1; have g2 := hx.cell' f2; clear hx f0 f1 f2))
      go_ret2
      exact ⟨_, [], by rw [dec_false D.out]; rfl, K2.out, by rw [stepAns_f D.out]; exact own_nilV _, Fresh.nil _⟩
  · have P := Lib.hid (dec_false hp)
    have D := Lib.hid (show ¬ StepB l N r s from fun h => hp h.1)
    clear hp
    go_enter Tryz.func13, Tryz.ntmps13
    go_wp2_with fail
    (with_reducible refine (rulesOf_any (HPV.out.ext HX.out) (HPW.out.ext HX.out)).mono ?_)
    rintro e w1 ⟨rv, rfl, hx, hr⟩
    rw [P.out]
    have K1 := Lib.hid (HX.out.trans' hx)
    have f0 := hx.cell' e0
    have f1 := hx.cell' e1
    have f2 := hx.cell' e2
    clear hx hr e0 e1 e2
    go_wp2_with fail
    go_ret2
    exact ⟨_, [], by rw [dec_false D.out]; rfl, K1.out, by rw [stepAns_f D.out]; exact own_nilV _, Fresh.nil _⟩

theorem specStepV {w : World} {pv vn vs : Value} {l : List (Int × Int)} {N : Net} {s : List Int} (r : Int) (h0 : EndSl w pv l) (h : NetAt w vn N) (hs : IntSl w vs s) (_ : s.length ≤ 1048576) :
    Calls Tryz.prog 9 #[pv, vn, .int .i64 r, vs] w fun e w' => ∃ v' bs, e = .returned (.tuple #[v', .bool (dec (StepB l N r s))]) ∧ Ext w w' ∧ OwnI w' v' (stepAns l N r s) bs ∧ Fresh w bs := specStepValues_any r h0 h hs
theorem implStepV {w : World} {pv vn vs : Value} {l : List (Int × Int)} {N : Net} {s : List Int} (r : Int) (h0 : EndSl w pv l) (h : NetAt w vn N) (hs : IntSl w vs s) (_ : s.length ≤ 1048576) (hP : Pw w) :
    Calls Tryz.prog 13 #[pv, vn, .int .i64 r, vs] w fun e w' => ∃ v' bs, e = .returned (.tuple #[v', .bool (dec (StepB l N r s))]) ∧ Ext w w' ∧ OwnI w' v' (stepAns l N r s) bs ∧ Fresh w bs := implStepValues_any r h0 h hs hP
end Go.Proofs.YtbddjejpacaglaaGreatDoor
