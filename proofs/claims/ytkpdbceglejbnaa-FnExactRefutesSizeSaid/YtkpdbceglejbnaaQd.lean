/- The contract of the model's coMap. -/
import Derived.Test.YtkpdbceglejbnaaQb
namespace Go.Proofs.Ytkpdbceglejbnaa
open Go.RowKit

/-- The j-th ends of a node and of its image z agree. -/
def PmE (A B : Net) (m : List Int) (v z j : Nat) : Prop := gi m (gn (gr A.ends v) j).toNat = gn (gr B.ends z) j ∧ gp (gr A.ends v) j = gp (gr B.ends z) j
theorem pmAt_iff {A B : Net} {m : List Int} {v z : Nat} (hz : gi m v = (z : Int)) (hzB : z < B.ends.length) :
    PmAt A B m v ↔ (gr A.ends v).length = (gr B.ends z).length ∧ gi A.inputs v = gi B.inputs z ∧ ∀ j, j < (gr A.ends v).length → PmE A B m v z j := by
  unfold PmAt NdIn
  rw [hz, Int.toNat_natCast]
  constructor
  · rintro ⟨-, h2, h3⟩
    refine ⟨by rw [← h3, length_under], h2, fun j hj => ?_⟩
    obtain ⟨e1, e2⟩ := under_at m (gr A.ends v) j hj
    rw [h3] at e1 e2
    exact ⟨e1.symm, e2.symm⟩
  · rintro ⟨h1, h2, h3⟩
    refine ⟨⟨by omega, by omega⟩, h2, ends_eq (by rw [length_under]; exact h1) fun i hi => ?_⟩
    rw [length_under] at hi
    obtain ⟨e1, e2⟩ := under_at m (gr A.ends v) i hi
    rw [e1, e2]
    exact h3 i hi
theorem pm_all {A B : Net} {m : List Int} (h : PmOK A B m) : AllIn m 0 ((B.ends.length : Int) - 1) := fun j hj => by
  have := h.node (v := j) (by have := h.1; omega)
  unfold NdIn at this
  omega

set_option maxHeartbeats 6400000 in
set_option maxRecDepth 100000 in
theorem coMap_any {w : World} {va vb vf : Value} {A B : Net} {m : List Int} (h : NetAt w va A) (k : NetAt w vb B) (hf : IntSl w vf m) (ga : GoodW A) (gb : GoodW B) :
    Calls Try.prog 145 #[va, vb, vf] w fun e w' => e = .returned (.bool (dec (PmOK A B m))) ∧ Ext w w' := by
  have HF := Lib.hid hf
  have GA := Lib.hid ga
  have GB := Lib.hid gb
  have h40 := ga.most
  have h41 := gb.most
  have h11 := gb.one
  have HAI := Lib.hid ga.ilen
  have HBI := Lib.hid gb.ilen
  clear ga gb
  obtain ⟨v0, v1, v2, rfl, hEa, -, hPa⟩ := h
  obtain ⟨u0, u1, u2, rfl, hEb, -, hPb⟩ := k
  obtain ⟨ea, eb, eo, ec, rfl, hea, hel, hem, hec⟩ := hEa
  obtain ⟨fa, fb, fo, fc, rfl, hfa, hfl, hfm, hfc⟩ := hEb
  obtain ⟨la, lb, lo, lc, rfl, hla, hll, hlm, hlc⟩ := hf
  obtain ⟨pa, pb, po, pc, rfl, hpa, hpl, hpm, hpc⟩ := hPa
  obtain ⟨qa, qb, qo, qc, rfl, hqa, hql, hqm, hqc⟩ := hPb
  unfold maxLen at hem hfm hlm hpm hqm
  have HEA := Lib.hid hea
  have HEC := Lib.hid hec
  have HFA := Lib.hid hfa
  have HFC := Lib.hid hfc
  have HLA := Lib.hid hla
  have HLC := Lib.hid hlc
  have HPA := Lib.hid hpa
  have HPC := Lib.hid hpc
  have HQA := Lib.hid hqa
  have HQC := Lib.hid hqc
  clear hea hec hfa hfc hla hlc hpa hpc hqa hqc
  obtain ⟨W1, hW1⟩ : ∃ W1, W1 = (w.alloc (.cells #[.slice ea A.ends.length ec, v1, .slice pa A.inputs.length pc] 34)).alloc (.cells #[.slice fa B.ends.length fc, u1, .slice qa B.inputs.length qc] 34) := ⟨_, rfl⟩
  have EW := Lib.hid (show Ext w W1 by rw [hW1]; exact (boxed_ext _ _ _ _ _).trans' (boxed_ext _ _ _ _ _))
  have RA := Lib.hid (show W1.rowIs w.heap.size 34 3 (tri (.slice ea A.ends.length ec) v1 (.slice pa A.inputs.length pc)) by rw [hW1]; exact (boxed_row _ _ _ _ _).alloc _)
  have RB := Lib.hid (show W1.rowIs (w.heap.size + 1) 34 3 (tri (.slice fa B.ends.length fc) u1 (.slice qa B.inputs.length qc)) by rw [hW1]; simpa using boxed_row (boxed w (.slice ea A.ends.length ec) v1 (.slice pa A.inputs.length pc) 34) (.slice fa B.ends.length fc) u1 (.slice qa B.inputs.length qc) 34)
  obtain ⟨p0, p1, p2, -, -, -⟩ := row3_facts RA.out
  obtain ⟨q0, q1, q2, -, -, -⟩ := row3_facts RB.out
  rw [hW1] at p0 p1 p2 q0 q1 q2
  by_cases hl : m.length = A.ends.length
  case neg =>
    have E := Lib.hid (dec_false (p := PmOK A B m) fun h => hl h.1)
    have hlb : ((m.length : Int) != (A.ends.length : Int)) = true := by simp; omega
    clear hl
    go_enter Try.func145, Try.ntmps145
    go_wp2_with fail
    rw [← hW1]
    go_ret
    exact ⟨ret_bool E.out.symm, EW.out⟩
  have hlb : ((m.length : Int) != (A.ends.length : Int)) = false := by simp; omega
  have HLE := Lib.hid hl
  clear hl
  by_cases hp : AllIn m 0 ((B.ends.length : Int) - 1)
  case neg =>
    have DP := Lib.hid (dec_false hp)
    have E := Lib.hid (dec_false (p := PmOK A B m) fun h => hp (pm_all h))
    clear hp
    go_enter Try.func145, Try.ntmps145
    go_wp2_with fail
    rw [← hW1]
    clear hW1 p0 p1 p2 q0 q1 q2
    (with_reducible refine (l1All_any _ _ (HF.out.ext EW.out)).mono ?_)
    rintro e w3 ⟨rfl, rfl⟩
    rw [DP.out]
    go_wp2
    go_ret
    exact ⟨ret_bool E.out.symm, EW.out⟩
  have DP := Lib.hid (dec_true hp)
  have HP := Lib.hid hp
  clear hp
  go_enter Try.func145, Try.ntmps145
  go_wp2_with fail
  rw [← hW1]
  clear hW1 p0 p1 p2 q0 q1 q2
  (with_reducible refine (l1All_any _ _ (HF.out.ext EW.out)).mono ?_)
  rintro e w3 ⟨rfl, rfl⟩
  rw [DP.out]
  obtain ⟨p0, p1, p2, -, -, -⟩ := row3_facts RA.out
  go_wp2_with fail
  clear p0 p1 p2
  go_loopg [29] A.ends.length (fun g i wr => ∃ k : Nat, k ≤ A.ends.length ∧ g = A.ends.length - k ∧ i = .int .i64 k ∧ Hid (Ext W1 wr ∧ ∀ j, j < k → PmAt A B m j))
  case atStart => exact ⟨0, Nat.zero_le _, rfl, rfl, Ext.rfl' _, fun j hj => absurd hj (by omega)⟩
  case round =>
    obtain ⟨y, hk, rfl, rfl, Hr⟩ := hrel
    by_cases hlt : y < A.ends.length
    · have hyf : y < m.length := by have := HLE.out; omega
      obtain ⟨_, hfy, rfl, _⟩ := HLC.out y hyf
      obtain ⟨hz0, hz1⟩ := HP.out y hyf
      obtain ⟨z, hz⟩ := Int.eq_ofNat_of_zero_le hz0
      have hzB : z < B.ends.length := by omega
      rw [hz] at hfy
      have HZ := Lib.hid hz
      have HMK := Lib.hid (pmAt_iff (A := A) hz hzB)
      clear hz hz0 hz1
      obtain rfl := HLA.out (by omega)
      obtain rfl := HEA.out (by omega)
      obtain rfl := HFA.out (by omega)
      have hyi : y < A.inputs.length := by have := HAI.out; omega
      have hzi : z < B.inputs.length := by have := HBI.out; omega
      obtain rfl := HPA.out (by omega)
      obtain rfl := HQA.out (by omega)
      have EWR := Lib.hid (EW.out.trans' Hr.out.1)
      have XM := Lib.hid hfy
      obtain ⟨_, hra, hrowa⟩ := HEC.out y hlt
      obtain ⟨aa, ab, ao, ac, rfl, haa, hal, ham, hac⟩ := hrowa
      obtain ⟨_, hrb, hrowb⟩ := HFC.out z hzB
      obtain ⟨ba, bb, bo, bc, rfl, hba, hbl, hbm, hbc⟩ := hrowb
      obtain ⟨_, hxa, rfl, -⟩ := HPC.out y hyi
      obtain ⟨_, hxb, rfl, -⟩ := HQC.out z hzi
      unfold maxLen at ham hbm
      have HAA := Lib.hid haa
      have HAC := Lib.hid hac
      have HBA := Lib.hid hba
      have HBC := Lib.hid hbc
      have HRA0 := Lib.hid hra
      have HRB0 := Lib.hid hrb
      have HRA := Lib.hid (EWR.out.cell' hra)
      have HRB := Lib.hid (EWR.out.cell' hrb)
      obtain ⟨p0, p1, p2, -, -, -⟩ := row3_facts (row_ext RA.out Hr.out.1)
      obtain ⟨q0, q1, q2, -, -, -⟩ := row3_facts (row_ext RB.out Hr.out.1)
      have P0 : ∀ x' : Wx wr, x'.w.cell? ⟨w.heap.size, 0, none⟩ = some (.slice (some ⟨eb, eo, none⟩) A.ends.length ec) := fun x' => x'.ok.cell' p0
      have P2 : ∀ x' : Wx wr, x'.w.cell? ⟨w.heap.size, 2, none⟩ = some (.slice (some ⟨pb, po, none⟩) A.inputs.length pc) := fun x' => x'.ok.cell' p2
      have Q0 : ∀ x' : Wx wr, x'.w.cell? ⟨w.heap.size + 1, 0, none⟩ = some (.slice (some ⟨fb, fo, none⟩) B.ends.length fc) := fun x' => x'.ok.cell' q0
      have Q2 : ∀ x' : Wx wr, x'.w.cell? ⟨w.heap.size + 1, 2, none⟩ = some (.slice (some ⟨qb, qo, none⟩) B.inputs.length qc) := fun x' => x'.ok.cell' q2
      have X1 : ∀ x' : Wx wr, x'.w.cell? ⟨fb, fo + z, none⟩ = some (.slice ba (gr B.ends z).length bc) := fun x' => x'.ok.cell' HRB.out
      have X4 : ∀ x' : Wx wr, x'.w.cell? ⟨lb, lo + y, none⟩ = some (.int .i64 z) := fun x' => x'.ok.cell' (EWR.out.cell' XM.out)
      obtain ⟨xA, hxA⟩ : ∃ d, d = gi A.inputs y := ⟨_, rfl⟩
      obtain ⟨xB, hxB⟩ : ∃ d, d = gi B.inputs z := ⟨_, rfl⟩
      have X2 : ∀ x' : Wx wr, x'.w.cell? ⟨pb, po + y, none⟩ = some (.int .i64 xA) := fun x' => by rw [hxA]; exact x'.ok.cell' (EWR.out.cell' hxa)
      have X3 : ∀ x' : Wx wr, x'.w.cell? ⟨qb, qo + z, none⟩ = some (.int .i64 xB) := fun x' => by rw [hxB]; exact x'.ok.cell' (EWR.out.cell' hxb)
      have HX2 := Lib.hid (show gi A.inputs y = gi B.inputs z ↔ xA = xB by rw [hxA, hxB])
      have r0 := HRA.out
      clear haa hac hba hbc hfy hra hrb p0 p1 p2 q0 q1 q2 hxA hxB hxa hxb
      by_cases hm1 : (gr A.ends y).length = (gr B.ends z).length
      case neg =>
        have hb1 : (((gr A.ends y).length : Int) != ((gr B.ends z).length : Int)) = true := by simp; omega
        have E := Lib.hid (dec_false (p := PmOK A B m) fun h => hm1 (HMK.out.1 (h.2 y hlt)).1)
        clear hm1
        go_wp2_with fail
        refine wp_region_ext (by kernel_rfl) (by kernel_rfl) ?_
        repeat (go_big_quiet_step (fail))
        refine wpQuiet_nil ?_
        rintro wq ⟨⟨_, hq⟩, rfl⟩
        have EWQ := Lib.hid (EWR.out.trans' hq)
        clear hq
        go_wp2
        go_ret
        exact ⟨ret_bool E.out.symm, EWQ.out⟩
      have hb1 : (((gr A.ends y).length : Int) != ((gr B.ends z).length : Int)) = false := by simp; omega
      have HLL := Lib.hid hm1
      clear hm1
      by_cases hm2 : xA = xB
      case neg =>
        have hb2 : (xA != xB) = true := by simpa using hm2
        have E := Lib.hid (dec_false (p := PmOK A B m) fun h => hm2 (HX2.out.1 (HMK.out.1 (h.2 y hlt)).2.1))
        clear hm2
        go_wp2_with fail
        refine wp_region_ext (by kernel_rfl) (by kernel_rfl) ?_
        repeat (go_big_quiet_step (fail))
        refine wpQuiet_nil ?_
        rintro wq ⟨⟨_, hq⟩, rfl⟩
        have EWQ := Lib.hid (EWR.out.trans' hq)
        clear hq
        go_wp2
        go_ret
        exact ⟨ret_bool E.out.symm, EWQ.out⟩
      have hb2 : (xA != xB) = false := by simpa using hm2
      have HM2 := Lib.hid (HX2.out.2 hm2)
      clear hm2
      go_wp2_with fail
      refine wp_region_ext (by kernel_rfl) (by kernel_rfl) ?_
      repeat (go_big_quiet_step (fail))
      refine wpQuiet_nil ?_
      rintro wq ⟨⟨_, hq⟩, rfl⟩
      have HY := Lib.hid hq
      have EWQ := Lib.hid (EWR.out.trans' hq)
      clear hq
      clear hb1 hb2
      go_wp2
      go_loopg [64] (gr A.ends y).length (fun g i wx => ∃ j : Nat, j ≤ (gr A.ends y).length ∧ g = (gr A.ends y).length - j ∧ i = .int .i64 j ∧ Hid (Ext wq wx ∧ ∀ t, t < j → PmE A B m y z t))
      case atStart => exact ⟨0, Nat.zero_le _, rfl, rfl, Ext.rfl' _, fun t ht => absurd ht (by omega)⟩
      case round =>
        obtain ⟨j, hj, rfl, rfl, Hs⟩ := hrel
        by_cases hjt : j < (gr A.ends y).length
        · have hjB : j < (gr B.ends z).length := by have := HLL.out; omega
          obtain rfl := HBA.out (by omega)
          obtain rfl := HAA.out (by omega)
          have EX := Lib.hid (EWQ.out.trans' Hs.out.1)
          obtain ⟨e1, e2, -⟩ := HBC.out j hjB
          obtain ⟨f1, f2, -⟩ := HAC.out j hjt
          have hl0 := GA.out.leads.node y hlt j hjt
          obtain ⟨zz, hzz⟩ := Int.eq_ofNat_of_zero_le hl0.1
          have hzzf : zz < m.length := by have := HLE.out; omega
          obtain ⟨_, g1, rfl, _⟩ := HLC.out zz hzzf
          rw [hzz] at f1
          have HZZ := Lib.hid hzz
          clear hzz hl0
          obtain ⟨nB, hnB⟩ : ∃ d, d = gn (gr B.ends z) j := ⟨_, rfl⟩
          obtain ⟨pB, hpB⟩ : ∃ d, d = gp (gr B.ends z) j := ⟨_, rfl⟩
          obtain ⟨pA, hpA⟩ : ∃ d, d = gp (gr A.ends y) j := ⟨_, rfl⟩
          obtain ⟨nA, hnA⟩ : ∃ d, d = gi m zz := ⟨_, rfl⟩
          rw [← hnB] at e1
          rw [← hpB] at e2
          rw [← hpA] at f2
          rw [← hnA] at g1
          have HIE := Lib.hid (show PmE A B m y z j ↔ nA = nB ∧ pA = pB by
            unfold PmE; rw [HZZ.out, Int.toNat_natCast, hnA, hnB, hpA, hpB])
          clear hnA hnB hpA hpB
          have s1 := EX.out.cell' f1
          have s2 := EX.out.cell' f2
          have FX := Lib.hid (HY.out.trans' Hs.out.1)
          obtain ⟨W2, hW2⟩ : ∃ W2, W2 = wr.alloc (.cells #[.int .i64 zz, .int .i64 pA] 95) := ⟨_, rfl⟩
          have E2 := Lib.hid (show Ext wr W2 by rw [hW2]; exact (Ext.rfl' _).alloc' _)
          have R2 := Lib.hid (show W2.rowIs wr.heap.size 95 2 (duo (.int .i64 zz) (.int .i64 pA)) by rw [hW2]; exact duo_made _ _ _ _)
          obtain ⟨r0, r1, -, -⟩ := duo_facts R2.out
          have EX2 := Lib.hid (EX.out.trans' E2.out)
          have T0 : ∀ x' : Wx W2, x'.w.cell? ⟨w.heap.size + 1, 0, none⟩ = some (.slice (some ⟨fb, fo, none⟩) B.ends.length fc) := fun x' => Q0 ⟨x'.w, FX.out.trans' (E2.out.trans' x'.ok)⟩
          have T1 : ∀ x' : Wx W2, x'.w.cell? ⟨fb, fo + z, none⟩ = some (.slice (some ⟨bb, bo, none⟩) (gr B.ends z).length bc) := fun x' => x'.ok.cell' (EX2.out.cell' HRB0.out)
          have T4 : ∀ x' : Wx W2, x'.w.cell? ⟨wr.heap.size, 0, none⟩ = some (.int .i64 zz) := fun x' => x'.ok.cell' r0
          have T5 : ∀ x' : Wx W2, x'.w.cell? ⟨wr.heap.size, 1, none⟩ = some (.int .i64 pA) := fun x' => x'.ok.cell' r1
          have T6 : ∀ x' : Wx W2, x'.w.cell? ⟨lb, lo + zz, none⟩ = some (.int .i64 nA) := fun x' => x'.ok.cell' (EX2.out.cell' g1)
          have T7 : ∀ x' : Wx W2, x'.w.cell? ⟨lb, lo + y, none⟩ = some (.int .i64 z) := fun x' => x'.ok.cell' (EX2.out.cell' XM.out)
          have T2 : ∀ x' : Wx W2, x'.w.cell? ⟨bb, bo + j * 2, none⟩ = some (.int .i64 nB) := fun x' => x'.ok.cell' (EX2.out.cell' e1)
          have T3 : ∀ x' : Wx W2, x'.w.cell? ⟨bb, bo + j * 2 + 1, none⟩ = some (.int .i64 pB) := fun x' => x'.ok.cell' (EX2.out.cell' e2)
          clear e1 e2 f1 f2 g1 r0 r1
          by_cases hE1 : nA = nB
          · subst hE1
            by_cases hE2 : pA = pB
            · subst hE2
              have HI := Lib.hid (HIE.out.2 ⟨rfl, rfl⟩)
              go_wp2_with fail
              rw [← hW2]
              clear hW2 s1 s2
              refine wp_region_ext (by kernel_rfl) (by kernel_rfl) ?_
              repeat (go_big_quiet_step (fail))
              refine wpQuiet_nil ?_
              rintro wz ⟨⟨_, hz2⟩, rfl⟩
              have HZ2 := Lib.hid hz2
              clear hz2
              go_wp2
              go_roundg ((gr A.ends y).length - (j + 1))
              case measure => omega
              case rel =>
                refine ⟨j + 1, by omega, rfl, by go_num, (Hs.out.1.trans' E2.out).trans' HZ2.out, fun t ht => ?_⟩
                by_cases e : t = j
                · subst e; exact HI.out
                · exact Hs.out.2 t (by omega)
            · have hvb : (pB == pA) = false := beq_eq_false_iff_ne.2 fun e => hE2 e.symm
              have E := Lib.hid (dec_false (p := PmOK A B m) fun h => hE2 (HIE.out.1 ((HMK.out.1 (h.2 y hlt)).2.2 j hjt)).2)
              clear hE2
              go_wp2_with fail
              rw [← hW2]
              clear hW2 s1 s2
              refine wp_region_ext (by kernel_rfl) (by kernel_rfl) ?_
              repeat (go_big_quiet_step (fail))
              refine wpQuiet_nil ?_
              rintro wz ⟨⟨_, hz2⟩, rfl⟩
              have HZ2 := Lib.hid hz2
              clear hz2
              go_wp2
              go_ret
              exact ⟨ret_bool E.out.symm, EX2.out.trans' HZ2.out⟩
          · have hvb : (nB == nA) = false := beq_eq_false_iff_ne.2 fun e => hE1 e.symm
            have E := Lib.hid (dec_false (p := PmOK A B m) fun h => hE1 (HIE.out.1 ((HMK.out.1 (h.2 y hlt)).2.2 j hjt)).1)
            clear hE1
            go_wp2_with fail
            rw [← hW2]
            clear hW2 s1 s2
            refine wp_region_ext (by kernel_rfl) (by kernel_rfl) ?_
            repeat (go_big_quiet_step (fail))
            refine wpQuiet_nil ?_
            rintro wz ⟨⟨_, hz2⟩, rfl⟩
            have HZ2 := Lib.hid hz2
            clear hz2
            go_wp2
            go_ret
            exact ⟨ret_bool E.out.symm, EX2.out.trans' HZ2.out⟩
        · obtain rfl : j = (gr A.ends y).length := by omega
          have MM := Lib.hid (HMK.out.2 ⟨HLL.out, HM2.out, fun t ht => Hs.out.2 t ht⟩)
          go_wp2
          go_roundg (A.ends.length - (y + 1))
          case measure => omega
          case rel =>
            refine ⟨y + 1, by omega, rfl, by go_num, Hr.out.1.trans' (HY.out.trans' Hs.out.1), fun t ht => ?_⟩
            by_cases e : t = y
            · subst e; exact MM.out
            · exact Hr.out.2 t (by omega)
    · obtain rfl : y = A.ends.length := by omega
      have E := Lib.hid (dec_true (p := PmOK A B m) ⟨HLE.out, Hr.out.2⟩)
      go_wp2
      go_ret
      exact ⟨ret_bool E.out.symm, EW.out.trans' Hr.out.1⟩
end Go.Proofs.Ytkpdbceglejbnaa
