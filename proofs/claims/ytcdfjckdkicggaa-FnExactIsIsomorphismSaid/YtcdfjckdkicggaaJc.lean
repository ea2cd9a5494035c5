/- The contracts of the model's isIs and IsIsomorphism. -/
import Derived.Test.YtcdfjckdkicggaaJb
import Derived.BigQuiet
namespace Go.Proofs.Ytcdfjckdkicggaa
open Go.RowKit

def IsoRest (A B : Net) (f : List Int) : Prop := IsoPm A B f ∧ ∀ v, v < A.ends.length → IsoAt A B f v

set_option maxHeartbeats 6400000 in
set_option maxRecDepth 100000 in
theorem isIs_any {w : World} {va vb vf : Value} {A B : Net} {f : List Int} (h : NetAt w va A) (k : NetAt w vb B) (hf : IntSl w vf f) (ga : GoodW A) (gb : GoodW B) :
    Calls Try.prog 50 #[va, vb, vf] w fun e w' => e = .returned (.bool (dec (IsoRest A B f))) ∧ Ext w w' := by
  have HF := Lib.hid hf
  have GA := Lib.hid ga
  have GB := Lib.hid gb
  have h40 := ga.most
  have HAI := Lib.hid ga.ilen
  have HBI := Lib.hid gb.ilen
  clear ga gb
  obtain ⟨v0, v1, v2, rfl, hEa, hIa, hPa⟩ := h
  obtain ⟨u0, u1, u2, rfl, hEb, hIb, hPb⟩ := k
  obtain ⟨ea, eb, eo, ec, rfl, hea, hel, hem, hec⟩ := hEa
  obtain ⟨fa, fb, fo, fc, rfl, hfa, hfl, hfm, hfc⟩ := hEb
  obtain ⟨la, lb, lo, lc, rfl, hla, hll, hlm, hlc⟩ := hf
  obtain ⟨ia, ib, io, ic, rfl, hia, hil, him, hic⟩ := hIa
  obtain ⟨ja, jb, jo, jc, rfl, hja, hjl, hjm, hjc⟩ := hIb
  obtain ⟨pa, pb, po, pc, rfl, hpa, hpl, hpm, hpc⟩ := hPa
  obtain ⟨qa, qb, qo, qc, rfl, hqa, hql, hqm, hqc⟩ := hPb
  unfold maxLen at hem hfm hlm him hjm hpm hqm
  have HEA := Lib.hid hea
  have HEC := Lib.hid hec
  have HFA := Lib.hid hfa
  have HFC := Lib.hid hfc
  have HLA := Lib.hid hla
  have HLC := Lib.hid hlc
  have HIA := Lib.hid hia
  have HIC := Lib.hid hic
  have HJA := Lib.hid hja
  have HJC := Lib.hid hjc
  have HPA := Lib.hid hpa
  have HPC := Lib.hid hpc
  have HQA := Lib.hid hqa
  have HQC := Lib.hid hqc
  clear hea hec hfa hfc hla hlc hia hic hja hjc hpa hpc hqa hqc
  obtain ⟨W1, hW1⟩ : ∃ W1, W1 = (w.alloc (.cells #[.slice ea A.ends.length ec, .slice ia A.ids.length ic, .slice pa A.inputs.length pc] 31)).alloc (.cells #[.slice fa B.ends.length fc, .slice ja B.ids.length jc, .slice qa B.inputs.length qc] 31) := ⟨_, rfl⟩
  have EW := Lib.hid (show Ext w W1 by rw [hW1]; exact (boxed_ext _ _ _ _ _).trans' (boxed_ext _ _ _ _ _))
  have RA := Lib.hid (show W1.rowIs w.heap.size 31 3 (tri (.slice ea A.ends.length ec) (.slice ia A.ids.length ic) (.slice pa A.inputs.length pc)) by rw [hW1]; exact (boxed_row _ _ _ _ _).alloc _)
  have RB := Lib.hid (show W1.rowIs (w.heap.size + 1) 31 3 (tri (.slice fa B.ends.length fc) (.slice ja B.ids.length jc) (.slice qa B.inputs.length qc)) by rw [hW1]; simpa using boxed_row (boxed w (.slice ea A.ends.length ec) (.slice ia A.ids.length ic) (.slice pa A.inputs.length pc) 31) (.slice fa B.ends.length fc) (.slice ja B.ids.length jc) (.slice qa B.inputs.length qc) 31)
  obtain ⟨p0, p1, p2, -, -, -⟩ := row3_facts RA.out
  obtain ⟨q0, q1, q2, -, -, -⟩ := row3_facts RB.out
  rw [hW1] at p0 p1 p2 q0 q1 q2
  by_cases hl : A.ends.length = B.ends.length
  case neg =>
    have E := Lib.hid (dec_false (p := IsoRest A B f) fun h => hl h.1.1)
    have hlb : ((A.ends.length : Int) != (B.ends.length : Int)) = true := by simp; omega
    clear hl
    go_enter Try.func50, Try.ntmps50
    go_wp2_with fail
    rw [← hW1]
    go_ret
    exact ⟨ret_bool E.out.symm, EW.out⟩
  have hlb : ((A.ends.length : Int) != (B.ends.length : Int)) = false := by simp; omega
  have HLE := Lib.hid hl
  clear hl
  by_cases hd : A.ids.length = B.ids.length
  case neg =>
    have E := Lib.hid (dec_false (p := IsoRest A B f) fun h => hd (ids_same GA.out GB.out h.1 (h.2 0 GA.out.one)))
    have hdb : ((A.ids.length : Int) != (B.ids.length : Int)) = true := by simp; omega
    clear hd
    go_enter Try.func50, Try.ntmps50
    go_wp2_with fail
    rw [← hW1]
    go_ret
    exact ⟨ret_bool E.out.symm, EW.out⟩
  have hdb : ((A.ids.length : Int) != (B.ids.length : Int)) = false := by simp; omega
  have HDE := Lib.hid hd
  clear hd
  by_cases hp : PermOK f A.ends.length
  case neg =>
    have DP := Lib.hid (dec_false hp)
    have E := Lib.hid (dec_false (p := IsoRest A B f) fun h => hp h.1.2)
    clear hp
    go_enter Try.func50, Try.ntmps50
    go_wp2_with fail
    rw [← hW1]
    clear hW1 p0 p1 p2 q0 q1 q2
    (with_reducible refine (nePerm_any A.ends.length (by omega) (HF.out.ext EW.out)).mono ?_)
    rintro e w3 ⟨rfl, rfl⟩
    rw [DP.out]
    go_wp2
    go_ret
    exact ⟨ret_bool E.out.symm, EW.out⟩
  have DP := Lib.hid (dec_true hp)
  have HP := Lib.hid hp
  have HFL := Lib.hid hp.1
  clear hp
  go_enter Try.func50, Try.ntmps50
  go_wp2_with fail
  rw [← hW1]
  clear hW1 p0 p1 p2 q0 q1 q2
  (with_reducible refine (nePerm_any A.ends.length (by omega) (HF.out.ext EW.out)).mono ?_)
  rintro e w3 ⟨rfl, rfl⟩
  rw [DP.out]
  go_wp2_with fail
  go_loopg [37] A.ends.length (fun g i wr => ∃ k : Nat, k ≤ A.ends.length ∧ g = A.ends.length - k ∧ i = .int .i64 k ∧ Hid (Ext W1 wr ∧ ∀ j, j < k → IsoAt A B f j))
  case atStart => exact ⟨0, Nat.zero_le _, rfl, rfl, Ext.rfl' _, fun j hj => absurd hj (by omega)⟩
  case round =>
    obtain ⟨y, hk, rfl, rfl, Hr⟩ := hrel
    by_cases hlt : y < A.ends.length
    · obtain ⟨z, hz, hzn⟩ := perm_range HP.out hlt
      have hyf : y < f.length := by have := HFL.out; omega
      obtain ⟨_, hfy, rfl, _⟩ := HLC.out y hyf
      rw [hz] at hfy
      have HZ := Lib.hid hz
      have hzB : z < B.ends.length := by have := HLE.out; omega
      have HZI := Lib.hid (show (gi f y).toNat = z by rw [hz]; simp)
      clear hz
      obtain rfl := HLA.out (by omega)
      obtain rfl := HEA.out (by omega)
      obtain rfl := HFA.out (by omega)
      have hyi : y < A.inputs.length := by have := HAI.out; omega
      have hzi : z < B.inputs.length := by have := HBI.out; omega
      obtain rfl := HPA.out (by omega)
      obtain rfl := HQA.out (by omega)
      have EWR := Lib.hid (EW.out.trans' Hr.out.1)
      have c1 := EWR.out.cell' hfy
      obtain ⟨_, hra, hrowa⟩ := HEC.out y hlt
      obtain ⟨aa, ab, ao, ac, rfl, haa, hal, ham, hac⟩ := hrowa
      obtain ⟨_, hrb, hrowb⟩ := HFC.out z hzB
      obtain ⟨ba, bb, bo, bc, rfl, hba, hbl, hbm, hbc⟩ := hrowb
      obtain ⟨_, hxa, rfl, -⟩ := HPC.out y hyi
      obtain ⟨_, hxb, rfl, -⟩ := HQC.out z hzi
      unfold maxLen at ham hbm
      have HAA := Lib.hid haa
      have HAC := Lib.hid hac
      have HBA := Lib.hid hba
      have HBC := Lib.hid hbc
      have HRA0 := Lib.hid hra
      have HRB0 := Lib.hid hrb
      have HRA := Lib.hid (EWR.out.cell' hra)
      have HRB := Lib.hid (EWR.out.cell' hrb)
      have HXA := Lib.hid (EWR.out.cell' hxa)
      have HXB := Lib.hid (EWR.out.cell' hxb)
      obtain ⟨p0, p1, p2, -, -, -⟩ := row3_facts (row_ext RA.out Hr.out.1)
      obtain ⟨q0, q1, q2, -, -, -⟩ := row3_facts (row_ext RB.out Hr.out.1)
      have P0 : ∀ x' : Wx wr, x'.w.cell? ⟨w.heap.size, 0, none⟩ = some (.slice (some ⟨eb, eo, none⟩) A.ends.length ec) := fun x' => x'.ok.cell' p0
      have P1 : ∀ x' : Wx wr, x'.w.cell? ⟨w.heap.size, 1, none⟩ = some (.slice ia A.ids.length ic) := fun x' => x'.ok.cell' p1
      have P2 : ∀ x' : Wx wr, x'.w.cell? ⟨w.heap.size, 2, none⟩ = some (.slice (some ⟨pb, po, none⟩) A.inputs.length pc) := fun x' => x'.ok.cell' p2
      have Q0 : ∀ x' : Wx wr, x'.w.cell? ⟨w.heap.size + 1, 0, none⟩ = some (.slice (some ⟨fb, fo, none⟩) B.ends.length fc) := fun x' => x'.ok.cell' q0
      have Q1 : ∀ x' : Wx wr, x'.w.cell? ⟨w.heap.size + 1, 1, none⟩ = some (.slice ja B.ids.length jc) := fun x' => x'.ok.cell' q1
      have Q2 : ∀ x' : Wx wr, x'.w.cell? ⟨w.heap.size + 1, 2, none⟩ = some (.slice (some ⟨qb, qo, none⟩) B.inputs.length qc) := fun x' => x'.ok.cell' q2
      have X0 : ∀ x' : Wx wr, x'.w.cell? ⟨eb, eo + y, none⟩ = some (.slice aa (gr A.ends y).length ac) := fun x' => x'.ok.cell' HRA.out
      have X1 : ∀ x' : Wx wr, x'.w.cell? ⟨fb, fo + z, none⟩ = some (.slice ba (gr B.ends z).length bc) := fun x' => x'.ok.cell' HRB.out
      obtain ⟨xA, hxA⟩ : ∃ d, d = gi A.inputs y := ⟨_, rfl⟩
      obtain ⟨xB, hxB⟩ : ∃ d, d = gi B.inputs z := ⟨_, rfl⟩
      have X2 : ∀ x' : Wx wr, x'.w.cell? ⟨pb, po + y, none⟩ = some (.int .i64 xA) := fun x' => by rw [hxA]; exact x'.ok.cell' HXA.out
      have X3 : ∀ x' : Wx wr, x'.w.cell? ⟨qb, qo + z, none⟩ = some (.int .i64 xB) := fun x' => by rw [hxB]; exact x'.ok.cell' HXB.out
      have HMK := Lib.hid (show IsoMk A B y (gi f y) ↔ (gr A.ends y).length = (gr B.ends z).length ∧ xA = xB ∧ idOf A y = idOf B z by
        unfold IsoMk rw'
        rw [HZ.out, Int.toNat_natCast, ← hxA, ← hxB])
      clear haa hac hba hbc hfy hra hrb p0 p1 p2 q0 q1 q2 hxA hxB hxa hxb
      by_cases hm1 : (gr A.ends y).length = (gr B.ends z).length
      case neg =>
        have hb1 : (((gr A.ends y).length : Int) != ((gr B.ends z).length : Int)) = true := by simp; omega
        have E := Lib.hid (dec_false (p := IsoRest A B f) fun h => hm1 (HMK.out.1 (h.2 y hlt).1).1)
        clear hm1
        go_wp2_with fail
        refine wp_region_ext (by kernel_rfl) (by kernel_rfl) ?_
        repeat (go_big_quiet_step (fail))
        refine wpQuiet_nil ?_
        rintro wq ⟨⟨_, hq⟩, rfl⟩
        have HY := Lib.hid hq
        have EWQ := Lib.hid (EWR.out.trans' hq)
        clear hq
        go_wp2
        go_ret
        exact ⟨ret_bool E.out.symm, EWQ.out⟩
      have hb1 : (((gr A.ends y).length : Int) != ((gr B.ends z).length : Int)) = false := by simp; omega
      have HLL := Lib.hid hm1
      clear hm1
      by_cases hm2 : xA = xB
      case neg =>
        have hb2 : (xA != xB) = true := by simpa using hm2
        have E := Lib.hid (dec_false (p := IsoRest A B f) fun h => hm2 (HMK.out.1 (h.2 y hlt).1).2.1)
        clear hm2
        go_wp2_with fail
        refine wp_region_ext (by kernel_rfl) (by kernel_rfl) ?_
        repeat (go_big_quiet_step (fail))
        refine wpQuiet_nil ?_
        rintro wq ⟨⟨_, hq⟩, rfl⟩
        have HY := Lib.hid hq
        have EWQ := Lib.hid (EWR.out.trans' hq)
        clear hq
        go_wp2
        go_ret
        exact ⟨ret_bool E.out.symm, EWQ.out⟩
      have hb2 : (xA != xB) = false := by simpa using hm2
      have HM2 := Lib.hid hm2
      clear hm2
      by_cases hi0 : A.ids.length = 0
      · have hcb : decide (0 < A.ids.length) = false := decide_eq_false (by omega)
        have MM := Lib.hid (HMK.out.2 ⟨HLL.out, HM2.out, by unfold idOf; rw [if_pos hi0, if_pos (by have := HDE.out; omega)]⟩)
        clear hi0
        go_wp2_with fail
        refine wp_region_ext (by kernel_rfl) (by kernel_rfl) ?_
        repeat (go_big_quiet_step (fail))
        refine wpQuiet_nil ?_
        rintro wq ⟨⟨_, hq⟩, rfl⟩
        have HY := Lib.hid hq
        have EWQ := Lib.hid (EWR.out.trans' hq)
        clear hq
        clear hcb hb1 hb2
        have q0 := (P0 ⟨wq, HY.out⟩ : wq.cell? ⟨w.heap.size, 0, none⟩ = _)
        have q1 := HY.out.cell' HRA.out
        have hLL : (gr A.ends y).length = (gr B.ends z).length := HLL.out
        go_wp2
        clear q0 q1
        go_loopg [93] (gr A.ends y).length (fun g i wx => ∃ j : Nat, j ≤ (gr A.ends y).length ∧ g = (gr A.ends y).length - j ∧ i = .int .i64 j ∧ Hid (Ext wq wx ∧ ∀ t, t < j → IsoEnd A B f y (gi f y) t))
        case atStart => exact ⟨0, Nat.zero_le _, rfl, rfl, Ext.rfl' _, fun t ht => absurd ht (by omega)⟩
        case round =>
          obtain ⟨j, hj, rfl, rfl, Hs⟩ := hrel
          by_cases hjt : j < (gr A.ends y).length
          · obtain rfl := HBA.out (by omega)
            obtain rfl := HAA.out (by omega)
            have EX := Lib.hid (EWQ.out.trans' Hs.out.1)
            obtain ⟨e1, e2, -⟩ := HBC.out j (by omega)
            obtain ⟨f1, f2, -⟩ := HAC.out j hjt
            have hl0 := GA.out.leads.node y hlt j hjt
            obtain ⟨zz, hzz⟩ := Int.eq_ofNat_of_zero_le hl0.1
            have hzzn : zz < A.ends.length := by omega
            have hzzf : zz < f.length := by have := HFL.out; omega
            obtain ⟨_, g1, rfl, _⟩ := HLC.out zz hzzf
            rw [hzz] at f1
            have HZZ := Lib.hid hzz
            clear hzz hl0
            obtain ⟨nB, hnB⟩ : ∃ d, d = gn (gr B.ends z) j := ⟨_, rfl⟩
            obtain ⟨pB, hpB⟩ : ∃ d, d = gp (gr B.ends z) j := ⟨_, rfl⟩
            obtain ⟨pA, hpA⟩ : ∃ d, d = gp (gr A.ends y) j := ⟨_, rfl⟩
            obtain ⟨nA, hnA⟩ : ∃ d, d = gi f zz := ⟨_, rfl⟩
            rw [← hnB] at e1
            rw [← hpB] at e2
            rw [← hpA] at f2
            rw [← hnA] at g1
            have HIE := Lib.hid (show IsoEnd A B f y (gi f y) j ↔ nA = nB ∧ pA = pB by
              unfold IsoEnd rw'; rw [HZI.out, HZZ.out, Int.toNat_natCast, hnA, hnB, hpA, hpB])
            clear hnA hnB hpA hpB
            have s1 := EX.out.cell' f1
            have s2 := EX.out.cell' f2
            have FX := Lib.hid (HY.out.trans' Hs.out.1)
            obtain ⟨W2, hW2⟩ : ∃ W2, W2 = wr.alloc (.cells #[.int .i64 zz, .int .i64 pA] 69) := ⟨_, rfl⟩
            have E2 := Lib.hid (show Ext wr W2 by rw [hW2]; exact (Ext.rfl' _).alloc' _)
            have R2 := Lib.hid (show W2.rowIs wr.heap.size 69 2 (duo (.int .i64 zz) (.int .i64 pA)) by rw [hW2]; exact duo_made _ _ _ _)
            obtain ⟨r0, r1, -, -⟩ := duo_facts R2.out
            have EX2 := Lib.hid (EX.out.trans' E2.out)
            have T0 : ∀ x' : Wx W2, x'.w.cell? ⟨w.heap.size + 1, 0, none⟩ = some (.slice (some ⟨fb, fo, none⟩) B.ends.length fc) := fun x' => Q0 ⟨x'.w, FX.out.trans' (E2.out.trans' x'.ok)⟩
            have T1 : ∀ x' : Wx W2, x'.w.cell? ⟨fb, fo + z, none⟩ = some (.slice (some ⟨bb, bo, none⟩) (gr B.ends z).length bc) := fun x' => x'.ok.cell' (EX2.out.cell' HRB0.out)
            have T4 : ∀ x' : Wx W2, x'.w.cell? ⟨wr.heap.size, 0, none⟩ = some (.int .i64 zz) := fun x' => x'.ok.cell' r0
            have T5 : ∀ x' : Wx W2, x'.w.cell? ⟨wr.heap.size, 1, none⟩ = some (.int .i64 pA) := fun x' => x'.ok.cell' r1
            have T6 : ∀ x' : Wx W2, x'.w.cell? ⟨lb, lo + zz, none⟩ = some (.int .i64 nA) := fun x' => x'.ok.cell' (EX2.out.cell' g1)
            have T2 : ∀ x' : Wx W2, x'.w.cell? ⟨bb, bo + j * 2, none⟩ = some (.int .i64 nB) := fun x' => x'.ok.cell' (EX2.out.cell' e1)
            have T3 : ∀ x' : Wx W2, x'.w.cell? ⟨bb, bo + j * 2 + 1, none⟩ = some (.int .i64 pB) := fun x' => x'.ok.cell' (EX2.out.cell' e2)
            clear e1 e2 f1 f2 g1 r0 r1
            by_cases hE1 : nA = nB
            · subst hE1
              by_cases hE2 : pA = pB
              · subst hE2
                have HI := Lib.hid (HIE.out.2 ⟨rfl, rfl⟩)
                go_wp2_with fail
                rw [← hW2]
                clear hW2 s1 s2
                refine wp_region_ext (by kernel_rfl) (by kernel_rfl) ?_
                repeat (go_big_quiet_step (fail))
                refine wpQuiet_nil ?_
                rintro wz ⟨⟨_, hz2⟩, rfl⟩
                have HZ2 := Lib.hid hz2
                clear hz2
                go_wp2
                go_roundg ((gr A.ends y).length - (j + 1))
                case measure => omega
                case rel =>
                  refine ⟨j + 1, by omega, rfl, by go_num, (Hs.out.1.trans' E2.out).trans' HZ2.out, fun t ht => ?_⟩
                  by_cases e : t = j
                  · subst e; exact HI.out
                  · exact Hs.out.2 t (by omega)
              · have hvb : (pB == pA) = false := beq_eq_false_iff_ne.2 fun e => hE2 e.symm
                have E := Lib.hid (dec_false (p := IsoRest A B f) fun h => hE2 (HIE.out.1 ((h.2 y hlt).2 j (by omega))).2)
                clear hE2
                go_wp2_with fail
                rw [← hW2]
                clear hW2 s1 s2
                refine wp_region_ext (by kernel_rfl) (by kernel_rfl) ?_
                repeat (go_big_quiet_step (fail))
                refine wpQuiet_nil ?_
                rintro wz ⟨⟨_, hz2⟩, rfl⟩
                have HZ2 := Lib.hid hz2
                clear hz2
                go_wp2
                go_ret
                exact ⟨ret_bool E.out.symm, EX2.out.trans' HZ2.out⟩
            · have hvb : (nB == nA) = false := beq_eq_false_iff_ne.2 fun e => hE1 e.symm
              have E := Lib.hid (dec_false (p := IsoRest A B f) fun h => hE1 (HIE.out.1 ((h.2 y hlt).2 j (by omega))).1)
              clear hE1
              go_wp2_with fail
              rw [← hW2]
              clear hW2 s1 s2
              refine wp_region_ext (by kernel_rfl) (by kernel_rfl) ?_
              repeat (go_big_quiet_step (fail))
              refine wpQuiet_nil ?_
              rintro wz ⟨⟨_, hz2⟩, rfl⟩
              have HZ2 := Lib.hid hz2
              clear hz2
              go_wp2
              go_ret
              exact ⟨ret_bool E.out.symm, EX2.out.trans' HZ2.out⟩
          · obtain rfl : j = (gr A.ends y).length := by omega
            go_wp2
            go_roundg (A.ends.length - (y + 1))
            case measure => omega
            case rel =>
              refine ⟨y + 1, by omega, rfl, by go_num, Hr.out.1.trans' (HY.out.trans' Hs.out.1), fun t ht => ?_⟩
              by_cases e : t = y
              · subst e; exact ⟨MM.out, fun i hi => Hs.out.2 i (by omega)⟩
              · exact Hr.out.2 t (by omega)
      · have hcb : decide (0 < A.ids.length) = true := decide_eq_true (by omega)
        have hna := GA.out.idl.resolve_left hi0
        obtain rfl := HIA.out (by omega)
        obtain rfl := HJA.out (by have := HDE.out; omega)
        have hyd : y < A.ids.length := by omega
        have hzd : z < B.ids.length := by have := HDE.out; omega
        obtain ⟨_, hda, rfl, -⟩ := HIC.out y hyd
        obtain ⟨_, hdb', rfl, -⟩ := HJC.out z hzd
        obtain ⟨dA, hdA⟩ : ∃ d, d = gi A.ids y := ⟨_, rfl⟩
        obtain ⟨dB, hdB⟩ : ∃ d, d = gi B.ids z := ⟨_, rfl⟩
        have X4 : ∀ x' : Wx wr, x'.w.cell? ⟨ib, io + y, none⟩ = some (.int .i64 dA) := fun x' => by rw [hdA]; exact x'.ok.cell' (EWR.out.cell' hda)
        have X5 : ∀ x' : Wx wr, x'.w.cell? ⟨jb, jo + z, none⟩ = some (.int .i64 dB) := fun x' => by rw [hdB]; exact x'.ok.cell' (EWR.out.cell' hdb')
        have HID := Lib.hid (show idOf A y = idOf B z ↔ dA = dB by
          unfold idOf
          rw [if_neg hi0, if_neg (by have := HDE.out; omega), Int.toNat_natCast, Int.toNat_natCast, ← hdA, ← hdB])
        clear hda hdb' hdA hdB hi0 hna
        by_cases hm3 : dA = dB
        · have hb3 : (dA != dB) = false := by simpa using hm3
          have MM := Lib.hid (HMK.out.2 ⟨HLL.out, HM2.out, HID.out.2 hm3⟩)
          clear hm3
          go_wp2_with fail
          refine wp_region_ext (by kernel_rfl) (by kernel_rfl) ?_
          repeat (go_big_quiet_step (fail))
          refine wpQuiet_nil ?_
          rintro wq ⟨⟨_, hq⟩, rfl⟩
          have HY := Lib.hid hq
          have EWQ := Lib.hid (EWR.out.trans' hq)
          clear hq
          clear hcb hb1 hb2 hb3
          have q0 := (P0 ⟨wq, HY.out⟩ : wq.cell? ⟨w.heap.size, 0, none⟩ = _)
          have q1 := HY.out.cell' HRA.out
          have hLL : (gr A.ends y).length = (gr B.ends z).length := HLL.out
          go_wp2
          clear q0 q1
          go_loopg [93] (gr A.ends y).length (fun g i wx => ∃ j : Nat, j ≤ (gr A.ends y).length ∧ g = (gr A.ends y).length - j ∧ i = .int .i64 j ∧ Hid (Ext wq wx ∧ ∀ t, t < j → IsoEnd A B f y (gi f y) t))
          case atStart => exact ⟨0, Nat.zero_le _, rfl, rfl, Ext.rfl' _, fun t ht => absurd ht (by omega)⟩
          case round =>
            obtain ⟨j, hj, rfl, rfl, Hs⟩ := hrel
            by_cases hjt : j < (gr A.ends y).length
            · obtain rfl := HBA.out (by omega)
              obtain rfl := HAA.out (by omega)
              have EX := Lib.hid (EWQ.out.trans' Hs.out.1)
              obtain ⟨e1, e2, -⟩ := HBC.out j (by omega)
              obtain ⟨f1, f2, -⟩ := HAC.out j hjt
              have hl0 := GA.out.leads.node y hlt j hjt
              obtain ⟨zz, hzz⟩ := Int.eq_ofNat_of_zero_le hl0.1
              have hzzn : zz < A.ends.length := by omega
              have hzzf : zz < f.length := by have := HFL.out; omega
              obtain ⟨_, g1, rfl, _⟩ := HLC.out zz hzzf
              rw [hzz] at f1
              have HZZ := Lib.hid hzz
              clear hzz hl0
              obtain ⟨nB, hnB⟩ : ∃ d, d = gn (gr B.ends z) j := ⟨_, rfl⟩
              obtain ⟨pB, hpB⟩ : ∃ d, d = gp (gr B.ends z) j := ⟨_, rfl⟩
              obtain ⟨pA, hpA⟩ : ∃ d, d = gp (gr A.ends y) j := ⟨_, rfl⟩
              obtain ⟨nA, hnA⟩ : ∃ d, d = gi f zz := ⟨_, rfl⟩
              rw [← hnB] at e1
              rw [← hpB] at e2
              rw [← hpA] at f2
              rw [← hnA] at g1
              have HIE := Lib.hid (show IsoEnd A B f y (gi f y) j ↔ nA = nB ∧ pA = pB by
                unfold IsoEnd rw'; rw [HZI.out, HZZ.out, Int.toNat_natCast, hnA, hnB, hpA, hpB])
              clear hnA hnB hpA hpB
              have s1 := EX.out.cell' f1
              have s2 := EX.out.cell' f2
              have FX := Lib.hid (HY.out.trans' Hs.out.1)
              obtain ⟨W2, hW2⟩ : ∃ W2, W2 = wr.alloc (.cells #[.int .i64 zz, .int .i64 pA] 69) := ⟨_, rfl⟩
              have E2 := Lib.hid (show Ext wr W2 by rw [hW2]; exact (Ext.rfl' _).alloc' _)
              have R2 := Lib.hid (show W2.rowIs wr.heap.size 69 2 (duo (.int .i64 zz) (.int .i64 pA)) by rw [hW2]; exact duo_made _ _ _ _)
              obtain ⟨r0, r1, -, -⟩ := duo_facts R2.out
              have EX2 := Lib.hid (EX.out.trans' E2.out)
              have T0 : ∀ x' : Wx W2, x'.w.cell? ⟨w.heap.size + 1, 0, none⟩ = some (.slice (some ⟨fb, fo, none⟩) B.ends.length fc) := fun x' => Q0 ⟨x'.w, FX.out.trans' (E2.out.trans' x'.ok)⟩
              have T1 : ∀ x' : Wx W2, x'.w.cell? ⟨fb, fo + z, none⟩ = some (.slice (some ⟨bb, bo, none⟩) (gr B.ends z).length bc) := fun x' => x'.ok.cell' (EX2.out.cell' HRB0.out)
              have T4 : ∀ x' : Wx W2, x'.w.cell? ⟨wr.heap.size, 0, none⟩ = some (.int .i64 zz) := fun x' => x'.ok.cell' r0
              have T5 : ∀ x' : Wx W2, x'.w.cell? ⟨wr.heap.size, 1, none⟩ = some (.int .i64 pA) := fun x' => x'.ok.cell' r1
              have T6 : ∀ x' : Wx W2, x'.w.cell? ⟨lb, lo + zz, none⟩ = some (.int .i64 nA) := fun x' => x'.ok.cell' (EX2.out.cell' g1)
              have T2 : ∀ x' : Wx W2, x'.w.cell? ⟨bb, bo + j * 2, none⟩ = some (.int .i64 nB) := fun x' => x'.ok.cell' (EX2.out.cell' e1)
              have T3 : ∀ x' : Wx W2, x'.w.cell? ⟨bb, bo + j * 2 + 1, none⟩ = some (.int .i64 pB) := fun x' => x'.ok.cell' (EX2.out.cell' e2)
              clear e1 e2 f1 f2 g1 r0 r1
              by_cases hE1 : nA = nB
              · subst hE1
                by_cases hE2 : pA = pB
                · subst hE2
                  have HI := Lib.hid (HIE.out.2 ⟨rfl, rfl⟩)
                  go_wp2_with fail
                  rw [← hW2]
                  clear hW2 s1 s2
                  refine wp_region_ext (by kernel_rfl) (by kernel_rfl) ?_
                  repeat (go_big_quiet_step (fail))
                  refine wpQuiet_nil ?_
                  rintro wz ⟨⟨_, hz2⟩, rfl⟩
                  have HZ2 := Lib.hid hz2
                  clear hz2
                  go_wp2
                  go_roundg ((gr A.ends y).length - (j + 1))
                  case measure => omega
                  case rel =>
                    refine ⟨j + 1, by omega, rfl, by go_num, (Hs.out.1.trans' E2.out).trans' HZ2.out, fun t ht => ?_⟩
                    by_cases e : t = j
                    · subst e; exact HI.out
                    · exact Hs.out.2 t (by omega)
                · have hvb : (pB == pA) = false := beq_eq_false_iff_ne.2 fun e => hE2 e.symm
                  have E := Lib.hid (dec_false (p := IsoRest A B f) fun h => hE2 (HIE.out.1 ((h.2 y hlt).2 j (by omega))).2)
                  clear hE2
                  go_wp2_with fail
                  rw [← hW2]
                  clear hW2 s1 s2
                  refine wp_region_ext (by kernel_rfl) (by kernel_rfl) ?_
                  repeat (go_big_quiet_step (fail))
                  refine wpQuiet_nil ?_
                  rintro wz ⟨⟨_, hz2⟩, rfl⟩
                  have HZ2 := Lib.hid hz2
                  clear hz2
                  go_wp2
                  go_ret
                  exact ⟨ret_bool E.out.symm, EX2.out.trans' HZ2.out⟩
              · have hvb : (nB == nA) = false := beq_eq_false_iff_ne.2 fun e => hE1 e.symm
                have E := Lib.hid (dec_false (p := IsoRest A B f) fun h => hE1 (HIE.out.1 ((h.2 y hlt).2 j (by omega))).1)
                clear hE1
                go_wp2_with fail
                rw [← hW2]
                clear hW2 s1 s2
                refine wp_region_ext (by kernel_rfl) (by kernel_rfl) ?_
                repeat (go_big_quiet_step (fail))
                refine wpQuiet_nil ?_
                rintro wz ⟨⟨_, hz2⟩, rfl⟩
                have HZ2 := Lib.hid hz2
                clear hz2
                go_wp2
                go_ret
                exact ⟨ret_bool E.out.symm, EX2.out.trans' HZ2.out⟩
            · obtain rfl : j = (gr A.ends y).length := by omega
              go_wp2
              go_roundg (A.ends.length - (y + 1))
              case measure => omega
              case rel =>
                refine ⟨y + 1, by omega, rfl, by go_num, Hr.out.1.trans' (HY.out.trans' Hs.out.1), fun t ht => ?_⟩
                by_cases e : t = y
                · subst e; exact ⟨MM.out, fun i hi => Hs.out.2 i (by omega)⟩
                · exact Hr.out.2 t (by omega)
        · have hb3 : (dA != dB) = true := by simpa using hm3
          have E := Lib.hid (dec_false (p := IsoRest A B f) fun h => hm3 (HID.out.1 (HMK.out.1 (h.2 y hlt).1).2.2))
          clear hm3
          go_wp2_with fail
          refine wp_region_ext (by kernel_rfl) (by kernel_rfl) ?_
          repeat (go_big_quiet_step (fail))
          refine wpQuiet_nil ?_
          rintro wq ⟨⟨_, hq⟩, rfl⟩
          have HY := Lib.hid hq
          have EWQ := Lib.hid (EWR.out.trans' hq)
          clear hq
          go_wp2
          go_ret
          exact ⟨ret_bool E.out.symm, EWQ.out⟩
    · obtain rfl : y = A.ends.length := by omega
      have hyf : ¬ A.ends.length < f.length := by have := HFL.out; omega
      have E := Lib.hid (dec_true (p := IsoRest A B f) ⟨⟨HLE.out, HP.out⟩, Hr.out.2⟩)
      go_wp2
      go_ret
      exact ⟨ret_bool E.out.symm, EW.out.trans' Hr.out.1⟩

set_option maxHeartbeats 1600000 in
set_option maxRecDepth 100000 in
theorem specIsIso_any {w : World} {va vb vf : Value} {A B : Net} {f : List Int} (h : NetAt w va A) (k : NetAt w vb B) (hf : IntSl w vf f) :
    Calls Try.prog 22 #[va, vb, vf] w fun e w' => e = .returned (.tuple #[.bool (dec (IsoAns A B f)), .bool (dec (IsoB A B))]) ∧ Ext w w' := by
  have HA := Lib.hid h
  have HB := Lib.hid k
  have HF := Lib.hid hf
  obtain ⟨v0, v1, v2, rfl, -, -, -⟩ := h
  obtain ⟨u0, u1, u2, rfl, -, -, -⟩ := k
  obtain ⟨W1, hW1⟩ : ∃ W1, W1 = (w.alloc (.cells #[v0, v1, v2] 31)).alloc (.cells #[u0, u1, u2] 31) := ⟨_, rfl⟩
  have EW := Lib.hid (show Ext w W1 by rw [hW1]; exact (boxed_ext _ _ _ _ _).trans' (boxed_ext _ _ _ _ _))
  have RA := Lib.hid (show W1.rowIs w.heap.size 31 3 (tri v0 v1 v2) by rw [hW1]; exact (boxed_row _ _ _ _ _).alloc _)
  have RB := Lib.hid (show W1.rowIs (w.heap.size + 1) 31 3 (tri u0 u1 u2) by rw [hW1]; simpa using boxed_row (boxed w v0 v1 v2 31) u0 u1 u2 31)
  obtain ⟨p0, p1, p2, -, -, -⟩ := row3_facts RA.out
  rw [hW1] at p0 p1 p2
  by_cases ha : Good A
  case neg =>
    have DA := Lib.hid (dec_false ha)
    have D := Lib.hid (dec_false (p := IsoB A B) fun h => ha h.1)
    have E := Lib.hid (iso_f (A := A) (B := B) (f := f) fun h => ha h.1)
    clear ha
    go_enter Try.func22, Try.ntmps22
    go_wp2_with fail
    rw [← hW1]
    clear hW1 p0 p1 p2
    (with_reducible refine (neGood_any (HA.out.ext EW.out)).mono ?_)
    rintro e w1 ⟨rfl, hx1⟩
    rw [DA.out]
    have K1 := Lib.hid hx1
    obtain ⟨q0, q1, q2, -, -, -⟩ := row3_facts (row_ext RB.out hx1)
    obtain ⟨p0, p1, p2, -, -, -⟩ := row3_facts (row_ext RA.out hx1)
    clear hx1
    go_wp2
    go_ret2
    exact ⟨ret_bb E.out.symm D.out.symm, EW.out.trans' K1.out⟩
  by_cases hb : Good B
  case neg =>
    have DA := Lib.hid (dec_true ha)
    have DB := Lib.hid (dec_false hb)
    have D := Lib.hid (dec_false (p := IsoB A B) fun h => hb h.2)
    have E := Lib.hid (iso_f (A := A) (B := B) (f := f) fun h => hb h.2)
    clear ha hb
    go_enter Try.func22, Try.ntmps22
    go_wp2_with fail
    rw [← hW1]
    clear hW1 p0 p1 p2
    (with_reducible refine (neGood_any (HA.out.ext EW.out)).mono ?_)
    rintro e w1 ⟨rfl, hx1⟩
    rw [DA.out]
    have K1 := Lib.hid hx1
    obtain ⟨q0, q1, q2, -, -, -⟩ := row3_facts (row_ext RB.out hx1)
    obtain ⟨p0, p1, p2, -, -, -⟩ := row3_facts (row_ext RA.out hx1)
    clear hx1
    go_wp2_with fail
    (with_reducible refine (neGood_any (HB.out.ext (EW.out.trans' K1.out))).mono ?_)
    rintro e w2 ⟨rfl, hx2⟩
    rw [DB.out]
    have K2 := Lib.hid (K1.out.trans' hx2)
    clear p0 p1 p2 q0 q1 q2
    obtain ⟨q0, q1, q2, -, -, -⟩ := row3_facts (row_ext RB.out K2.out)
    obtain ⟨p0, p1, p2, -, -, -⟩ := row3_facts (row_ext RA.out K2.out)
    clear hx2
    go_wp2
    go_ret2
    exact ⟨ret_bb E.out.symm D.out.symm, EW.out.trans' K2.out⟩
  have DA := Lib.hid (dec_true ha)
  have DB := Lib.hid (dec_true hb)
  have HGG := Lib.hid (show IsoB A B from ⟨ha, hb⟩)
  have D := Lib.hid (dec_true HGG.out)
  have GA := Lib.hid (good_w ha)
  have GB := Lib.hid (good_w hb)
  have E := Lib.hid (show dec (IsoRest A B f) = dec (IsoAns A B f) from dec_congr ⟨fun h => ⟨HGG.out, h⟩, fun h => h.2⟩)
  clear ha hb
  go_enter Try.func22, Try.ntmps22
  go_wp2_with fail
  rw [← hW1]
  clear hW1 p0 p1 p2
  (with_reducible refine (neGood_any (HA.out.ext EW.out)).mono ?_)
  rintro e w1 ⟨rfl, hx1⟩
  rw [DA.out]
  have K1 := Lib.hid hx1
  obtain ⟨q0, q1, q2, -, -, -⟩ := row3_facts (row_ext RB.out hx1)
  obtain ⟨p0, p1, p2, -, -, -⟩ := row3_facts (row_ext RA.out hx1)
  clear hx1
  go_wp2_with fail
  (with_reducible refine (neGood_any (HB.out.ext (EW.out.trans' K1.out))).mono ?_)
  rintro e w2 ⟨rfl, hx2⟩
  rw [DB.out]
  have K2 := Lib.hid (K1.out.trans' hx2)
  clear p0 p1 p2 q0 q1 q2
  obtain ⟨q0, q1, q2, -, -, -⟩ := row3_facts (row_ext RB.out K2.out)
  obtain ⟨p0, p1, p2, -, -, -⟩ := row3_facts (row_ext RA.out K2.out)
  clear hx2
  go_wp2_with fail
  (with_reducible refine (isIs_any (HA.out.ext (EW.out.trans' K2.out)) (HB.out.ext (EW.out.trans' K2.out)) (HF.out.ext (EW.out.trans' K2.out)) GA.out GB.out).mono ?_)
  rintro e w3 ⟨rfl, hx3⟩
  rw [E.out]
  have K3 := Lib.hid (K2.out.trans' hx3)
  clear hx3
  go_wp2
  go_ret2
  exact ⟨ret_bb rfl D.out.symm, EW.out.trans' K3.out⟩
theorem isIsoL_any {w : World} {va vb vf : Value} {A B : Net} {f : List Int} (h : NetAt w va A) (k : NetAt w vb B) (hf : IntSl w vf f) (_ : f.length ≤ 1048576) :
    Calls Try.prog 24 #[va, vb, vf] w fun e w' => e = .returned (.tuple #[.bool (dec (IsoAns A B f)), .bool (dec (IsoB A B))]) ∧ Ext w w' := isIso_any h k hf
theorem specIsIsoL_any {w : World} {va vb vf : Value} {A B : Net} {f : List Int} (h : NetAt w va A) (k : NetAt w vb B) (hf : IntSl w vf f) (_ : f.length ≤ 1048576) :
    Calls Try.prog 22 #[va, vb, vf] w fun e w' => e = .returned (.tuple #[.bool (dec (IsoAns A B f)), .bool (dec (IsoB A B))]) ∧ Ext w w' := specIsIso_any h k hf
end Go.Proofs.Ytcdfjckdkicggaa
