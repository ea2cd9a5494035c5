/- The contracts of the model's coExtend and ExtendMap. -/
import Derived.Test.YtgacbfblpkikkaaQt
namespace Go.Proofs.Ytgacbfblpkikkaa
open Go.RowKit Go.Maps

def ExtE (A B : Net) (x : Nat) : Prop := ∃ F, extK A B x (wk A 0).length = some F ∧ PmOK A B F
def extL (A B : Net) (x : Nat) : List Int := (extK A B x (wk A 0).length).getD []
theorem extB_iff {A B : Net} {x : Nat} (hx : x < B.ends.length) : ExtB A B (x : Int) ↔ GC A ∧ Good B ∧ ExtE A B x :=
  ⟨fun h => ⟨h.1, h.2.1, by have := h.2.2.2; rw [Int.toNat_natCast] at this; exact this⟩, fun h => ⟨h.1, h.2.1, ⟨by omega, by omega⟩, by rw [Int.toNat_natCast]; exact h.2.2⟩⟩
theorem extAns_L {A B : Net} {x : Nat} (h : ExtB A B (x : Int)) : extAns A B (x : Int) = extL A B x := by unfold extAns extL; rw [if_pos (dec_true h), Int.toNat_natCast]
def minRow (k : Nat) : Nat → Value := fun i => .int .i64 (if i < k then -1 else 0)
theorem min_step {w : World} {b n k : Nat} (h : w.rowIs b 3 n (minRow k)) : (w.setCell ⟨b, k, none⟩ (.int .i64 (-1))).rowIs b 3 n (minRow (k + 1)) :=
  (h.set k _).congr fun i _ => by
    unfold minRow
    by_cases e : i = k
    · subst e; simp
    · by_cases e2 : i < k
      · simp [e, e2, show i < k + 1 by omega]
      · simp [e, e2, show ¬ i < k + 1 by omega]

set_option maxHeartbeats 6400000 in
set_option maxRecDepth 100000 in
theorem coExtend_any {w : World} {va vb : Value} {A B : Net} (z0 : Nat) (hz0B : z0 < B.ends.length) (h : NetAt w va A) (k : NetAt w vb B) (ga : GoodW A) (gb : GoodW B) :
    Calls Try.prog 85 #[va, vb, .int .i64 z0] w fun e w' => ∃ v' bs, e = .returned (.tuple #[v', .bool (dec (ExtE A B z0))]) ∧ Ext w w' ∧ Fresh w bs ∧ (ExtE A B z0 → OwnI w' v' (extL A B z0) bs) := by
  have GA := Lib.hid ga
  have GB := Lib.hid gb
  clear ga gb
  have HA := Lib.hid h
  have HB := Lib.hid k
  obtain ⟨v0, v1, v2, rfl, hEa, -, -⟩ := h
  obtain ⟨u0, u1, u2, rfl, hEb, -, -⟩ := k
  obtain ⟨ea, eb, eo, ec, rfl, hea, hel, hem, hec⟩ := hEa
  obtain ⟨fa, fb, fo, fc, rfl, hfa, hfl, hfm, hfc⟩ := hEb
  unfold maxLen at hem hfm
  have HEA := Lib.hid hea
  have HEC := Lib.hid hec
  have HFA := Lib.hid hfa
  have HFC := Lib.hid hfc
  clear hea hec hfa hfc
  obtain ⟨W1, hW1⟩ : ∃ W1, W1 = (w.alloc (.cells #[.slice ea A.ends.length ec, v1, v2] 29)).alloc (.cells #[.slice fa B.ends.length fc, u1, u2] 29) := ⟨_, rfl⟩
  have EW := Lib.hid (show Ext w W1 by rw [hW1]; exact (boxed_ext _ _ _ _ _).trans' (boxed_ext _ _ _ _ _))
  have RA := Lib.hid (show W1.rowIs w.heap.size 29 3 (tri (.slice ea A.ends.length ec) v1 v2) by rw [hW1]; exact (boxed_row _ _ _ _ _).alloc _)
  have RB := Lib.hid (show W1.rowIs (w.heap.size + 1) 29 3 (tri (.slice fa B.ends.length fc) u1 u2) by rw [hW1]; simpa using boxed_row (boxed w (.slice ea A.ends.length ec) v1 v2 29) (.slice fa B.ends.length fc) u1 u2 29)
  obtain ⟨p0, p1, p2, -, -, -⟩ := row3_facts RA.out
  obtain ⟨q0, q1, q2, -, -, -⟩ := row3_facts RB.out
  rw [hW1] at p0 p1 p2 q0 q1 q2
  have hA1 := GA.out.one
  have hA40 := GA.out.most
  have hB40 := GB.out.most
  obtain ⟨L, hL⟩ : ∃ L, L = wk A 0 := ⟨_, rfl⟩
  have HL := Lib.hid hL
  have hLn : L.length ≤ 40 := by have := wkTo_len GA.out.leads (v := 0) (by omega) A.ends.length; rw [hL]; unfold wk; omega
  clear hL
  have hmk := run_make_row' (P := Try.prog) 23 3 (.int .i64 0) 8 Try.underlying23 Try.info3 rfl .i64 .i64 A.ends.length (by omega) (by omega)
  have ZW := Lib.hid (show W1.heap.size = w.heap.size + 1 + 1 by rw [hW1]; simp)
  go_enter Try.func85, Try.ntmps85
  go_wp2_with fail
  rw [← hW1]
  clear hW1 p0 p1 p2 q0 q1 q2 hmk
  obtain ⟨mb, hmb⟩ : ∃ mb, mb = w.heap.size + 1 + 1 := ⟨_, rfl⟩
  have HGE := Lib.hid (show W1.heap.size ≤ mb by rw [ZW.out]; omega)
  have HMB := Lib.hid (show mb = W1.heap.size by rw [ZW.out]; exact hmb)
  rw [← hmb]
  clear hmb
  go_loopg [20] A.ends.length (fun g i wr => ∃ k : Nat, k ≤ A.ends.length ∧ g = A.ends.length - k ∧ i = .int .i64 k ∧ Hid (Ext W1 wr ∧ wr.rowIs mb 3 A.ends.length (minRow k)))
  case atStart => exact ⟨0, Nat.zero_le _, rfl, rfl, (Ext.rfl' _).alloc' _, by rw [HMB.out]; exact (World.rowIs_made _ _ _ _).congr fun i _ => by simp [minRow]⟩
  case round =>
    obtain ⟨k, hk, rfl, rfl, Hr⟩ := hrel
    by_cases hlt : k < A.ends.length
    case pos =>
      have f1 := Hr.out.2.cell hlt
      have f2 := Hr.out.2.frozen k
      go_wp2
      go_roundg (A.ends.length - (k + 1))
      case measure => omega
      case rel => exact ⟨k + 1, by omega, rfl, by go_num, Hr.out.1.store HGE.out _, min_step Hr.out.2⟩
    obtain rfl : k = A.ends.length := by omega
    have HR0 := Lib.hid (Hr.out.2.congr (g := fun _ => .int .i64 (-1)) fun i hi => by simp [minRow, hi])
    have HROW := Lib.hid (start_row (x := z0) HR0.out (by omega))
    have f1 := HR0.out.cell (show 0 < A.ends.length by omega)
    have f2 := HR0.out.frozen 0
    obtain ⟨W5, hW5⟩ : ∃ W5, W5 = wr.setCell ⟨mb, 0, none⟩ (.int .i64 z0) := ⟨_, rfl⟩
    have X5 := Lib.hid (show Ext W1 W5 by rw [hW5]; exact Hr.out.1.store HGE.out _)
    have HROW5 := Lib.hid (show W5.rowIs mb 3 A.ends.length (numRow ((List.replicate A.ends.length (-1)).set 0 (z0 : Int))) by rw [hW5]; exact HROW.out)
    have HLT5 := Lib.hid (show mb < W5.heap.size from HROW5.out.lt)
    obtain ⟨p0, p1, p2, -, -, -⟩ := row3_facts (row_ext RA.out X5.out)
    rw [hW5] at p0 p1 p2
    go_wp2_with fail
    rw [← hW5]
    clear hW5 p0 p1 p2 f1 f2
    (with_reducible refine (coReach0 (HA.out.ext (EW.out.trans' X5.out)) GA.out).mono ?_)
    rintro e w6 ⟨vn, bn, rfl, hx6, ho, hfr⟩
    rw [← HL.out] at ho
    obtain ⟨na, nc, rfl⟩ := ho.1.slice
    have K36 := Lib.hid (X5.out.trans' hx6)
    have HROW6 := Lib.hid (row_ext HROW5.out hx6)
    have HO6 := Lib.hid ho
    have HNB := Lib.hid (show mb ∉ bn from fun hb => by have := hfr.2 mb hb; have := HLT5.out; omega)
    clear hx6 ho hfr
    go_wp2_with fail
    go_loopg [33] L.length (fun g i wr => ∃ k : Nat, k ≤ L.length ∧ g = L.length - k ∧ i = .int .i64 k ∧ Hid (Ext W1 wr ∧ ∃ F, extK A B z0 k = some F ∧ wr.rowIs mb 3 A.ends.length (numRow F) ∧ OwnI wr (.slice na L.length nc) L bn))
    case atStart => exact ⟨0, Nat.zero_le _, rfl, rfl, K36.out, _, rfl, HROW6.out, HO6.out⟩
    case round =>
      obtain ⟨k, hk, rfl, rfl, Hr⟩ := hrel
      obtain ⟨hE, F, hF, hR, hO⟩ := Hr.out
      have HE := Lib.hid hE
      have HF := Lib.hid hF
      have HR := Lib.hid hR
      have HO := Lib.hid hO
      have AT := Lib.hid (ext_at GA.out GB.out hz0B k (by rw [← HL.out]; exact hk) F hF)
      have KR := Lib.hid (EW.out.trans' hE)
      clear hE hF hR hO Hr
      by_cases hlt : k < L.length
      · obtain ⟨wa1, wa2, wa3⟩ := wk_at (A := A) (k := k) GA.out.leads GA.out.one (by rw [← HL.out]; exact hlt)
        have hvr := wkTo_range GA.out.leads (v := 0) (by omega) k _ (gi_in wa1)
        have hvm := AT.out.got _ (gi_in wa1)
        rw [← wa2, ← HL.out] at hvr hvm
        obtain ⟨v, hv⟩ := Int.eq_ofNat_of_zero_le hvr.1
        rw [hv, Int.toNat_natCast] at hvm
        have hvn : v < A.ends.length := by omega
        have hnz := (AT.out.img.2 v hvn).resolve_left hvm
        obtain ⟨z, hz⟩ := Int.eq_ofNat_of_zero_le hnz.1
        have hzB : z < B.ends.length := by have := hnz.2; omega
        have HGO := Lib.hid (extK_go HF.out (show gi (wk A 0) k = (v : Int) by rw [← HL.out]; exact hv) hz)
        have HIMG := Lib.hid AT.out.img
        have HZ := Lib.hid hz
        obtain ⟨nb, no, hne, hnc, hcell⟩ : ∃ nb no, na = some ⟨nb, no, none⟩ ∧ nc ≤ maxLen ∧ wr.cell? ⟨nb, no + k, none⟩ = some (.int .i64 v) := by
          obtain ⟨a', b', o', c', e1, h1, h2, h3, h4⟩ := HO.out.read
          simp only [Value.slice.injEq] at e1
          obtain ⟨rfl, -, rfl⟩ := e1
          obtain ⟨_, h5, rfl, -⟩ := h4 k hlt
          rw [hv] at h5
          exact ⟨b', o', h1 (by omega), h3, h5⟩
        subst hne
        unfold maxLen at hnc
        clear hvr hvm hv hnz hz wa1 wa2 wa3
        obtain rfl := HEA.out (by omega)
        obtain rfl := HFA.out (by omega)
        obtain ⟨_, hra, hrowa⟩ := HEC.out v hvn
        obtain ⟨aa, ab, ao, ac, rfl, haa, hal, ham, hac⟩ := hrowa
        obtain ⟨_, hrb, hrowb⟩ := HFC.out z hzB
        obtain ⟨ba, bb, bo, bc', rfl, hba, hbl, hbm, hbc⟩ := hrowb
        unfold maxLen at ham hbm
        have HAA := Lib.hid haa
        have HAC := Lib.hid hac
        have HBA := Lib.hid hba
        have HBC := Lib.hid hbc
        have HRA := Lib.hid hra
        have HRB := Lib.hid hrb
        obtain ⟨p0, p1, p2, -, -, -⟩ := row3_facts (row_ext RA.out HE.out)
        obtain ⟨q0, q1, q2, -, -, -⟩ := row3_facts (row_ext RB.out HE.out)
        have P0 : ∀ x' : Wx wr, x'.w.cell? ⟨w.heap.size, 0, none⟩ = some (.slice (some ⟨eb, eo, none⟩) A.ends.length ec) := fun x' => x'.ok.cell' p0
        have Q0 : ∀ x' : Wx wr, x'.w.cell? ⟨w.heap.size + 1, 0, none⟩ = some (.slice (some ⟨fb, fo, none⟩) B.ends.length fc) := fun x' => x'.ok.cell' q0
        have X1' : ∀ x' : Wx wr, x'.w.cell? ⟨eb, eo + v, none⟩ = some (.slice aa (gr A.ends v).length ac) := fun x' => x'.ok.cell' (KR.out.cell' HRA.out)
        have X2' : ∀ x' : Wx wr, x'.w.cell? ⟨fb, fo + z, none⟩ = some (.slice ba (gr B.ends z).length bc') := fun x' => x'.ok.cell' (KR.out.cell' HRB.out)
        have X3' : ∀ x' : Wx wr, x'.w.cell? ⟨mb, v, none⟩ = some (.int .i64 z) := fun x' => x'.ok.cell' (by rw [HR.out.cell hvn]; unfold numRow; rw [HZ.out])
        clear haa hac hba hbc hra hrb p0 p1 p2 q0 q1 q2
        by_cases hm1 : (gr A.ends v).length = (gr B.ends z).length
        case neg =>
          have hb1 : (((gr A.ends v).length : Int) != ((gr B.ends z).length : Int)) = true := by simp; omega
          have E := Lib.hid (show ¬ ExtE A B z0 from fun h => by
            obtain ⟨G, hG, -⟩ := h
            have e1 := HGO.out
            rw [if_neg hm1] at e1
            rw [extK_none e1 _ (by rw [← HL.out]; omega)] at hG
            cases hG)
          clear hm1
          go_wp2_with fail
          refine wp_region_ext (by kernel_rfl) (by kernel_rfl) ?_
          repeat (go_big_quiet_step (fail))
          refine wpQuiet_nil ?_
          rintro wz ⟨⟨_, hz2⟩, rfl⟩
          have HZ2 := Lib.hid hz2
          clear hz2
          go_wp2
          go_ret2
          exact ⟨_, [], ret_mb (dec_false E.out).symm, KR.out.trans' HZ2.out, Fresh.nil _, fun h => absurd h E.out⟩
        have hb1 : (((gr A.ends v).length : Int) != ((gr B.ends z).length : Int)) = false := by simp; omega
        have HLL := Lib.hid hm1
        have HGO2 := Lib.hid (show extK A B z0 (k + 1) = some (extR F (gr A.ends v) (gr B.ends z) (gr A.ends v).length) by rw [HGO.out, if_pos hm1])
        clear hm1
        go_wp2_with fail
        refine wp_region_ext (by kernel_rfl) (by kernel_rfl) ?_
        repeat (go_big_quiet_step (fail))
        refine wpQuiet_nil ?_
        rintro wz ⟨⟨_, hz2⟩, rfl⟩
        have HZ2 := Lib.hid hz2
        clear hz2
        clear P0 Q0 X1' X2' X3' hb1
        have HE2 := Lib.hid (HE.out.trans' HZ2.out)
        have HR2 := Lib.hid (row_ext HR.out HZ2.out)
        have HO2 := Lib.hid (HO.out.ext HZ2.out)
        have h6 := GA.out.deg v hvn
        have HRJ := Lib.hid (show ∀ t, t < (gr A.ends v).length → 0 ≤ gn (gr A.ends v) t ∧ gn (gr A.ends v) t < (A.ends.length : Int) from GA.out.leads.node v hvn)
        have HIJ := Lib.hid (show ∀ t, t < (gr A.ends v).length → NdIn B (gn (gr B.ends z) t) from fun t ht => GB.out.leads.node z hzB t (by have := HLL.out; omega))
        have HFV := Lib.hid (show gi F v ≠ -1 by rw [HZ.out]; omega)
        have HKEEP := Lib.hid (show ∀ j, j ≤ (gr A.ends v).length → gi (extR F (gr A.ends v) (gr B.ends z) j) v = (z : Int) from fun j hj => by
          rw [extR_keep HFV.out j hj fun t ht => by have := HRJ.out t ht; have := HIMG.out.1; omega]; exact HZ.out)
        obtain ⟨p0, p1, p2, -, -, -⟩ := row3_facts (row_ext RA.out HE2.out)
        have r0 := (EW.out.trans' HE2.out).cell' HRA.out
        go_wp2_with fail
        clear p0 p1 p2 r0
        go_loopg [59] (gr A.ends v).length (fun g i wx => ∃ j : Nat, j ≤ (gr A.ends v).length ∧ g = (gr A.ends v).length - j ∧ i = .int .i64 j ∧ Hid (Ext W1 wx ∧ wx.rowIs mb 3 A.ends.length (numRow (extR F (gr A.ends v) (gr B.ends z) j)) ∧ OwnI wx (.slice (some ⟨nb, no, none⟩) L.length nc) L bn))
        case atStart => exact ⟨0, Nat.zero_le _, rfl, rfl, HE2.out, HR2.out, HO2.out⟩
        case round =>
          obtain ⟨j, hj, rfl, rfl, Hs⟩ := hrel
          by_cases hjt : j < (gr A.ends v).length
          · have hjB : j < (gr B.ends z).length := by have := HLL.out; omega
            obtain rfl := HAA.out (by omega)
            obtain rfl := HBA.out (by omega)
            obtain ⟨g1, g2, g3⟩ := Hs.out
            have SE := Lib.hid g1
            have SR := Lib.hid g2
            have SO := Lib.hid g3
            have KS := Lib.hid (EW.out.trans' g1)
            clear g1 g2 g3
            obtain ⟨e1, e2, -⟩ := HBC.out j hjB
            obtain ⟨f1, f2, -⟩ := HAC.out j hjt
            have hl0 := HRJ.out j hjt
            obtain ⟨zz, hzz⟩ := Int.eq_ofNat_of_zero_le hl0.1
            have hzn : zz < A.ends.length := by omega
            rw [hzz] at f1
            have HZZ := Lib.hid (show (gn (gr A.ends v) j).toNat = zz by rw [hzz, Int.toNat_natCast])
            clear hzz hl0
            have HIM := Lib.hid (extR_img HIMG.out (fun i hi => HRJ.out i hi) (fun i hi => HIJ.out i hi) j (by omega))
            have HKJ := Lib.hid (HKEEP.out j hj)
            obtain ⟨nB, hnB⟩ : ∃ d, d = gn (gr B.ends z) j := ⟨_, rfl⟩
            obtain ⟨pA, hpA⟩ : ∃ d, d = gp (gr A.ends v) j := ⟨_, rfl⟩
            obtain ⟨G, hG⟩ : ∃ G, G = extR F (gr A.ends v) (gr B.ends z) j := ⟨_, rfl⟩
            rw [← hG] at SR HIM HKJ
            rw [← hnB] at e1
            rw [← hpA] at f2
            have HEX := Lib.hid (show extR F (gr A.ends v) (gr B.ends z) (j + 1) = if gi G zz = -1 then G.set zz nB else G by simp only [extR]; rw [HZZ.out, ← hG, ← hnB])
            have HGL := Lib.hid HIM.out.1
            have hyr := HIM.out.2 zz hzn
            unfold NdIn at hyr
            clear hnB hpA hG
            have s1 := KS.out.cell' f1
            have s2 := KS.out.cell' f2
            obtain ⟨W2, hW2⟩ : ∃ W2, W2 = wr.alloc (.cells #[.int .i64 zz, .int .i64 pA] 76) := ⟨_, rfl⟩
            have E2 := Lib.hid (show Ext wr W2 by rw [hW2]; exact (Ext.rfl' _).alloc' _)
            have R2 := Lib.hid (show W2.rowIs wr.heap.size 76 2 (duo (.int .i64 zz) (.int .i64 pA)) by rw [hW2]; exact duo_made _ _ _ _)
            have SR2 := Lib.hid (row_ext SR.out E2.out)
            have SO2 := Lib.hid (SO.out.ext E2.out)
            have SE2 := Lib.hid (SE.out.trans' E2.out)
            have KS2 := Lib.hid (KS.out.trans' E2.out)
            have t2 := SR2.out.cell hzn
            unfold numRow at t2
            obtain ⟨y, hy⟩ : ∃ y, y = gi G zz := ⟨_, rfl⟩
            rw [← hy] at t2 HEX hyr
            rw [hW2] at t2
            have TB := Lib.hid e1
            clear e1 e2 f1 f2
            by_cases hy1 : y = -1
            · subst hy1
              have HEX2 := Lib.hid (show extR F (gr A.ends v) (gr B.ends z) (j + 1) = G.set zz nB by rw [HEX.out, if_pos rfl])
              have mkS : ∀ w' : World, Ext W2 w' → w'.cell? ⟨wr.heap.size, 0, none⟩ = some (.int .i64 zz) ∧ w'.cell? ⟨w.heap.size + 1, 0, none⟩ = some (.slice (some ⟨fb, fo, none⟩) B.ends.length fc) ∧ w'.cell? ⟨mb, v, none⟩ = some (.int .i64 z) ∧ w'.cell? ⟨fb, fo + z, none⟩ = some (.slice (some ⟨bb, bo, none⟩) (gr B.ends z).length bc') ∧ w'.cell? ⟨bb, bo + j * 2, none⟩ = some (.int .i64 nB) := fun w' hw => ⟨hw.cell' (duo_facts R2.out).1, hw.cell' (row3_facts (row_ext RB.out SE2.out)).1, hw.cell' (by rw [SR2.out.cell hvn]; unfold numRow; rw [HKJ.out]), hw.cell' (KS2.out.cell' HRB.out), hw.cell' (KS2.out.cell' TB.out)⟩
              clear hy HEX hyr
              go_wp2_with fail
              rw [← hW2]
              clear hW2 s1 s2 t2
              refine wp_region_gate (n := 16) (S := fun w' => w'.cell? ⟨wr.heap.size, 0, none⟩ = some (.int .i64 zz) ∧ w'.cell? ⟨w.heap.size + 1, 0, none⟩ = some (.slice (some ⟨fb, fo, none⟩) B.ends.length fc) ∧ w'.cell? ⟨mb, v, none⟩ = some (.int .i64 z) ∧ w'.cell? ⟨fb, fo + z, none⟩ = some (.slice (some ⟨bb, bo, none⟩) (gr B.ends z).length bc') ∧ w'.cell? ⟨bb, bo + j * 2, none⟩ = some (.int .i64 nB)) (by kernel_rfl) (mkS _ (Ext.rfl' W2).drew') (fun hHeld => ?_)
              refine wpAnyG_take (i := 0) (v := ?_) rfl (by decide +kernel) (by kernel_rfl) (by decide) (by kernel_rfl) (by kernel_rfl) (fun _ _ _ h => h) (Or.inl ⟨by rfl, ?_⟩) hHeld ?_
              rotate_left 1
              · (intro w' hSw; (try dsimp only at hSw); go_simp) <;> with_reducible rfl
              simp only [Act.put]
              refine wpAnyG_take (i := 1) (v := ?_) rfl (by decide +kernel) (by kernel_rfl) (by decide) (by kernel_rfl) (by kernel_rfl) (fun _ _ _ h => h) (Or.inl ⟨by rfl, ?_⟩) hHeld ?_
              rotate_left 1
              · (intro w' hSw; (try dsimp only at hSw); go_simp) <;> with_reducible rfl
              simp only [Act.put]
              refine wpAnyG_take (i := 2) (v := ?_) rfl (by decide +kernel) (by kernel_rfl) (by decide) (by kernel_rfl) (by kernel_rfl) (fun _ _ _ h => h) (Or.inl ⟨by rfl, ?_⟩) hHeld ?_
              rotate_left 1
              · (intro w' hSw; (try dsimp only at hSw); go_simp) <;> with_reducible rfl
              simp only [Act.put]
              refine wpAnyG_take (i := 3) (v := ?_) rfl (by decide +kernel) (by kernel_rfl) (by decide) (by kernel_rfl) (by kernel_rfl) (fun _ _ _ h => h) (Or.inl ⟨by rfl, ?_⟩) hHeld ?_
              rotate_left 1
              · (intro w' hSw; (try dsimp only at hSw); go_simp) <;> with_reducible rfl
              simp only [Act.put]
              refine wpAnyG_take (i := 4) (v := ?_) rfl (by decide +kernel) (by kernel_rfl) (by decide) (by kernel_rfl) (by kernel_rfl) (fun _ _ _ h => h) (Or.inl ⟨by rfl, ?_⟩) hHeld ?_
              rotate_left 1
              · (intro w' hSw; (try dsimp only at hSw); go_simp) <;> with_reducible rfl
              simp only [Act.put]
              refine wpAnyG_take (i := 5) (v := ?_) rfl (by decide +kernel) (by kernel_rfl) (by decide) (by kernel_rfl) (by kernel_rfl) (fun _ _ _ h => h) (Or.inl ⟨by rfl, ?_⟩) hHeld ?_
              rotate_left 1
              · (intro w' hSw; (try dsimp only at hSw); go_simp) <;> with_reducible rfl
              simp only [Act.put]
              refine wpAnyG_take (i := 6) (v := ?_) rfl (by decide +kernel) (by kernel_rfl) (by decide) (by kernel_rfl) (by kernel_rfl) (fun _ _ _ h => h) (Or.inl ⟨by rfl, ?_⟩) hHeld ?_
              rotate_left 1
              · (intro w' hSw; (try dsimp only at hSw); go_simp) <;> with_reducible rfl
              simp only [Act.put]
              refine wpAnyG_take (i := 7) (v := ?_) rfl (by decide +kernel) (by kernel_rfl) (by decide) (by kernel_rfl) (by kernel_rfl) (fun _ _ _ h => h) (Or.inl ⟨by rfl, ?_⟩) hHeld ?_
              rotate_left 1
              · (intro w' hSw; (try dsimp only at hSw); go_simp) <;> with_reducible rfl
              simp only [Act.put]
              refine wpAnyG_take (i := 8) (v := ?_) rfl (by decide +kernel) (by kernel_rfl) (by decide) (by kernel_rfl) (by kernel_rfl) (fun _ _ _ h => h) (Or.inl ⟨by rfl, ?_⟩) hHeld ?_
              rotate_left 1
              · (intro w' hSw; (try dsimp only at hSw); go_simp) <;> with_reducible rfl
              simp only [Act.put]
              refine wpAnyG_take (i := 9) (v := ?_) rfl (by decide +kernel) (by kernel_rfl) (by decide) (by kernel_rfl) (by kernel_rfl) (fun _ _ _ h => h) (Or.inl ⟨by rfl, ?_⟩) hHeld ?_
              rotate_left 1
              · (intro w' hSw; (try dsimp only at hSw); go_simp) <;> with_reducible rfl
              simp only [Act.put]
              refine wpAnyG_take (i := 10) (v := ?_) rfl (by decide +kernel) (by kernel_rfl) (by decide) (by kernel_rfl) (by kernel_rfl) (fun _ _ _ h => h) (Or.inl ⟨by rfl, ?_⟩) hHeld ?_
              rotate_left 1
              · (intro w' hSw; (try dsimp only at hSw); go_simp) <;> with_reducible rfl
              simp only [Act.put]
              refine wpAnyG_take (i := 11) (v := ?_) rfl (by decide +kernel) (by kernel_rfl) (by decide) (by kernel_rfl) (by kernel_rfl) (fun _ _ _ h => h) (Or.inl ⟨by rfl, ?_⟩) hHeld ?_
              rotate_left 1
              · (intro w' hSw; (try dsimp only at hSw); go_simp) <;> with_reducible rfl
              simp only [Act.put]
              refine wpAnyG_take (i := 12) (v := ?_) rfl (by decide +kernel) (by kernel_rfl) (by decide) (by kernel_rfl) (by kernel_rfl) (fun _ _ _ h => h) (Or.inl ⟨by rfl, ?_⟩) hHeld ?_
              rotate_left 1
              · (intro w' hSw; (try dsimp only at hSw); go_simp) <;> with_reducible rfl
              simp only [Act.put]
              refine wpAnyG_take (i := 13) (v := ?_) rfl (by decide +kernel) (by kernel_rfl) (by decide) (by kernel_rfl) (by kernel_rfl) (fun _ _ _ h => h) (Or.inl ⟨by rfl, ?_⟩) hHeld ?_
              rotate_left 1
              · (intro w' hSw; (try dsimp only at hSw); go_simp) <;> with_reducible rfl
              simp only [Act.put]
              refine wpAnyG_take (i := 14) (v := ?_) rfl (by decide +kernel) (by kernel_rfl) (by decide) (by kernel_rfl) (by kernel_rfl) (fun _ _ _ h => h) (Or.inl ⟨by rfl, ?_⟩) hHeld ?_
              rotate_left 1
              · (intro w' hSw; (try dsimp only at hSw); go_simp) <;> with_reducible rfl
              simp only [Act.put]
              refine wpAnyG_take (i := 15) (v := ?_) rfl (by decide +kernel) (by kernel_rfl) (by decide) (by kernel_rfl) (by kernel_rfl) (fun _ _ _ h => h) (Or.inl ⟨by rfl, ?_⟩) hHeld ?_
              rotate_left 1
              · (intro w' hSw; (try dsimp only at hSw); go_simp) <;> with_reducible rfl
              simp only [Act.put]
              have hcv := (row_ext SR2.out (Ext.rfl' W2).drew').cell hzn
              have hfr := (row_ext SR2.out (Ext.rfl' W2).drew').frozen zz
              refine wpAnyG_one (i := 16) rfl (by kernel_rfl) rfl (fun K hK => ?_)
              go_simp
              refine hK.out _ _ (fun h => absurd rfl h) (fun _ => ?_)
              clear hK K
              refine wpAnyG_done (by kernel_rfl) ?_ _
              clear hHeld mkS hcv hfr
              go_wp2
              go_roundg ((gr A.ends v).length - (j + 1))
              case measure => omega
              case rel => exact ⟨j + 1, by omega, rfl, by go_num, (SE2.out.store HGE.out _).drew', row_ext (by rw [HEX2.out]; exact numRow_set SR2.out HGL.out hzn) (Ext.rfl' _).drew', (keep_off SO2.out HNB.out).ext (Ext.rfl' _).drew'⟩
            · have HEX2 := Lib.hid (show extR F (gr A.ends v) (gr B.ends z) (j + 1) = G by rw [HEX.out, if_neg hy1])
              have hyb : ¬ y < 0 := by omega
              have hyb2 : decide (y < 0) = false := decide_eq_false hyb
              clear hy HEX hy1 hyr
              go_wp2_with fail
              rw [← hW2]
              clear hW2 s1 s2 t2
              go_roundg ((gr A.ends v).length - (j + 1))
              case measure => omega
              case rel => exact ⟨j + 1, by omega, rfl, by go_num, SE2.out, by rw [HEX2.out]; exact SR2.out, SO2.out⟩
          · obtain rfl : j = (gr A.ends v).length := by omega
            go_wp2
            go_roundg (L.length - (k + 1))
            case measure => omega
            case rel => exact ⟨k + 1, by omega, rfl, by go_num, Hs.out.1, _, HGO2.out, Hs.out.2.1, Hs.out.2.2⟩
      · obtain rfl : k = L.length := by omega
        have OF := Lib.hid (img_own HR.out AT.out.img hB40 hA40)
        obtain ⟨p0, p1, p2, -, -, -⟩ := row3_facts (row_ext RA.out HE.out)
        obtain ⟨q0, q1, q2, -, -, -⟩ := row3_facts (row_ext RB.out HE.out)
        go_wp2_with fail
        clear p0 p1 p2 q0 q1 q2
        (with_reducible refine (coMap_any (HA.out.ext KR.out) (HB.out.ext KR.out) OF.out.read GA.out GB.out).mono ?_)
        rintro e w7 ⟨rfl, hx7⟩
        have X7 := Lib.hid hx7
        have K7 := Lib.hid (KR.out.trans' hx7)
        clear hx7
        have HF' := Lib.hid (show extK A B z0 (wk A 0).length = some F by rw [← HL.out]; exact HF.out)
        have D := Lib.hid (show dec (PmOK A B F) = dec (ExtE A B z0) from dec_congr ⟨fun h => ⟨F, HF'.out, h⟩, fun h => by
          obtain ⟨G, hG, hp⟩ := h
          rw [HF'.out] at hG
          cases hG
          exact hp⟩)
        rw [D.out]
        go_wp2
        go_ret2
        exact ⟨_, [mb], rfl, K7.out, ⟨by simp, fun y hy => by
          simp only [List.mem_singleton] at hy
          subst hy
          have := HGE.out; have := EW.out.size; omega⟩, fun _ => by unfold extL; rw [HF'.out]; exact OF.out.ext X7.out⟩

set_option maxHeartbeats 3200000 in
set_option maxRecDepth 100000 in
theorem specExtendMap_any {w : World} {va vb : Value} {A B : Net} (x : Int) (h : NetAt w va A) (k : NetAt w vb B) :
    Calls Try.prog 39 #[va, vb, .int .i64 x] w fun e w' => ∃ v' bs, e = .returned (.tuple #[v', .bool (dec (ExtB A B x))]) ∧ Ext w w' ∧ OwnI w' v' (extAns A B x) bs ∧ Fresh w bs := by
  have HA := Lib.hid h
  have HB := Lib.hid k
  obtain ⟨v0, v1, v2, rfl, -, -, -⟩ := h
  obtain ⟨u0, u1, u2, rfl, -, -, -⟩ := k
  obtain ⟨W1, hW1⟩ : ∃ W1, W1 = (w.alloc (.cells #[v0, v1, v2] 29)).alloc (.cells #[u0, u1, u2] 29) := ⟨_, rfl⟩
  have EW := Lib.hid (show Ext w W1 by rw [hW1]; exact (boxed_ext _ _ _ _ _).trans' (boxed_ext _ _ _ _ _))
  have RA := Lib.hid (show W1.rowIs w.heap.size 29 3 (tri v0 v1 v2) by rw [hW1]; exact (boxed_row _ _ _ _ _).alloc _)
  have RB := Lib.hid (show W1.rowIs (w.heap.size + 1) 29 3 (tri u0 u1 u2) by rw [hW1]; simpa using boxed_row (boxed w v0 v1 v2 29) u0 u1 u2 29)
  obtain ⟨p0, p1, p2, -, -, -⟩ := row3_facts RA.out
  obtain ⟨q0, q1, q2, -, -, -⟩ := row3_facts RB.out
  rw [hW1] at p0 p1 p2 q0 q1 q2
  by_cases ha : Good A
  case neg =>
    have DA := Lib.hid (dec_false ha)
    have E := Lib.hid (show ¬ ExtB A B x from fun h => ha h.1.1)
    clear ha
    go_enter Try.func39, Try.ntmps39
    go_wp2_with fail
    rw [← hW1]
    clear hW1 p0 p1 p2 q0 q1 q2
    (with_reducible refine (neGood_any (HA.out.ext EW.out)).mono ?_)
    rintro e w1 ⟨rfl, hx1⟩
    rw [DA.out]
    have X1 := Lib.hid hx1
    have K1 := Lib.hid (EW.out.trans' hx1)
    clear hx1
    go_wp2
    go_ret2
    exact ⟨_, [], ret_mb (dec_false E.out).symm, K1.out, by rw [extAns_f E.out]; exact own_nilI _, Fresh.nil _⟩
  have DA := Lib.hid (dec_true ha)
  have HGA := Lib.hid ha
  have GA := Lib.hid (good_w ha)
  clear ha
  by_cases hn : NodeAns B x
  case neg =>
    have DN := Lib.hid (dec_false hn)
    have E := Lib.hid (show ¬ ExtB A B x from fun h => hn ⟨h.2.1, h.2.2.1⟩)
    clear hn
    go_enter Try.func39, Try.ntmps39
    go_wp2_with fail
    rw [← hW1]
    clear hW1 p0 p1 p2 q0 q1 q2
    (with_reducible refine (neGood_any (HA.out.ext EW.out)).mono ?_)
    rintro e w1 ⟨rfl, hx1⟩
    rw [DA.out]
    have X1 := Lib.hid hx1
    have K1 := Lib.hid (EW.out.trans' hx1)
    clear hx1
    obtain ⟨q0, q1, q2, -, -, -⟩ := row3_facts (row_ext RB.out X1.out)
    go_wp2_with fail
    clear q0 q1 q2
    (with_reducible refine (neNode_any x (HB.out.ext K1.out)).mono ?_)
    rintro e w2 ⟨rfl, hx2⟩
    rw [DN.out]
    have X2 := Lib.hid (X1.out.trans' hx2)
    have K2 := Lib.hid (K1.out.trans' hx2)
    clear hx2
    go_wp2
    go_ret2
    exact ⟨_, [], ret_mb (dec_false E.out).symm, K2.out, by rw [extAns_f E.out]; exact own_nilI _, Fresh.nil _⟩
  have DN := Lib.hid (dec_true hn)
  have HNN := Lib.hid hn
  have GB := Lib.hid (good_w hn.1)
  clear hn
  by_cases hc : Conn A
  case neg =>
    have DC := Lib.hid (dec_false hc)
    have E := Lib.hid (show ¬ ExtB A B x from fun h => hc h.1.2)
    clear hc
    go_enter Try.func39, Try.ntmps39
    go_wp2_with fail
    rw [← hW1]
    clear hW1 p0 p1 p2 q0 q1 q2
    (with_reducible refine (neGood_any (HA.out.ext EW.out)).mono ?_)
    rintro e w1 ⟨rfl, hx1⟩
    rw [DA.out]
    have X1 := Lib.hid hx1
    have K1 := Lib.hid (EW.out.trans' hx1)
    clear hx1
    obtain ⟨q0, q1, q2, -, -, -⟩ := row3_facts (row_ext RB.out X1.out)
    go_wp2_with fail
    clear q0 q1 q2
    (with_reducible refine (neNode_any x (HB.out.ext K1.out)).mono ?_)
    rintro e w2 ⟨rfl, hx2⟩
    rw [DN.out]
    have X2 := Lib.hid (X1.out.trans' hx2)
    have K2 := Lib.hid (K1.out.trans' hx2)
    clear hx2
    obtain ⟨p0, p1, p2, -, -, -⟩ := row3_facts (row_ext RA.out X2.out)
    go_wp2_with fail
    clear p0 p1 p2
    (with_reducible refine (coConnected_any (HA.out.ext K2.out) GA.out).mono ?_)
    rintro e w3 ⟨rfl, hx3⟩
    rw [DC.out]
    have X3 := Lib.hid (X2.out.trans' hx3)
    have K3 := Lib.hid (K2.out.trans' hx3)
    clear hx3
    go_wp2
    go_ret2
    exact ⟨_, [], ret_mb (dec_false E.out).symm, K3.out, by rw [extAns_f E.out]; exact own_nilI _, Fresh.nil _⟩
  have DC := Lib.hid (dec_true hc)
  have HGC := Lib.hid (show GC A from ⟨HGA.out, hc⟩)
  clear hc
  obtain ⟨z0, hz0⟩ := Int.eq_ofNat_of_zero_le HNN.out.2.1
  have hz0B : z0 < B.ends.length := by have := HNN.out.2.2; omega
  subst hz0
  go_enter Try.func39, Try.ntmps39
  go_wp2_with fail
  rw [← hW1]
  clear hW1 p0 p1 p2 q0 q1 q2
  (with_reducible refine (neGood_any (HA.out.ext EW.out)).mono ?_)
  rintro e w1 ⟨rfl, hx1⟩
  rw [DA.out]
  have X1 := Lib.hid hx1
  have K1 := Lib.hid (EW.out.trans' hx1)
  clear hx1
  obtain ⟨q0, q1, q2, -, -, -⟩ := row3_facts (row_ext RB.out X1.out)
  go_wp2_with fail
  clear q0 q1 q2
  (with_reducible refine (neNode_any (z0 : Int) (HB.out.ext K1.out)).mono ?_)
  rintro e w2 ⟨rfl, hx2⟩
  rw [DN.out]
  have X2 := Lib.hid (X1.out.trans' hx2)
  have K2 := Lib.hid (K1.out.trans' hx2)
  clear hx2
  obtain ⟨p0, p1, p2, -, -, -⟩ := row3_facts (row_ext RA.out X2.out)
  go_wp2_with fail
  clear p0 p1 p2
  (with_reducible refine (coConnected_any (HA.out.ext K2.out) GA.out).mono ?_)
  rintro e w3 ⟨rfl, hx3⟩
  rw [DC.out]
  have X3 := Lib.hid (X2.out.trans' hx3)
  have K3 := Lib.hid (K2.out.trans' hx3)
  clear hx3
  obtain ⟨p0, p1, p2, -, -, -⟩ := row3_facts (row_ext RA.out X3.out)
  obtain ⟨q0, q1, q2, -, -, -⟩ := row3_facts (row_ext RB.out X3.out)
  go_wp2_with fail
  clear p0 p1 p2 q0 q1 q2
  (with_reducible refine (coExtend_any z0 hz0B (HA.out.ext K3.out) (HB.out.ext K3.out) GA.out GB.out).mono ?_)
  rintro e w4 ⟨v', bs, rfl, hx4, hfr, ho⟩
  have K4 := Lib.hid (K3.out.trans' hx4)
  have HFR := Lib.hid (hfr.of K3.out.size)
  clear hx4 hfr
  by_cases he : ExtE A B z0
  · have D := Lib.hid (dec_true he)
    have HO := Lib.hid (ho he)
    have E := Lib.hid ((extB_iff hz0B).2 ⟨HGC.out, HNN.out.1, he⟩)
    clear he ho
    rw [D.out]
    go_wp2
    go_ret2
    exact ⟨_, bs, ret_mb (dec_true E.out).symm, K4.out, by rw [extAns_L E.out]; exact HO.out, HFR.out⟩
  · have D := Lib.hid (dec_false he)
    have E := Lib.hid (show ¬ ExtB A B (z0 : Int) from fun h => he ((extB_iff hz0B).1 h).2.2)
    clear he ho
    rw [D.out]
    go_wp2
    go_ret2
    exact ⟨_, [], ret_mb (dec_false E.out).symm, K4.out, by rw [extAns_f E.out]; exact own_nilI _, Fresh.nil _⟩
end Go.Proofs.Ytgacbfblpkikkaa
