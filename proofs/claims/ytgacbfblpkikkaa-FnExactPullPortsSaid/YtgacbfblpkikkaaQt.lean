/- The contract of the program's ExtendMap. -/
import Derived.Test.YtgacbfblpkikkaaQs
import Derived.Test.YtgacbfblpkikkaaQp
namespace Go.Proofs.Ytgacbfblpkikkaa
open Go.RowKit Go.Maps

theorem field_nodes (a b : Option Addr) (n c m d : Nat) (w : World) : (Instr.field 97 (.agg #[.slice a n c, .slice b m d]) 0).run Try.prog w = .ok (.slice a n c) w := by
  first | kernel_rfl | rfl | (unfold Instr.field; simp [go_sem, Try.underlying97])
theorem start_row {w : World} {b n x : Nat} (h : w.rowIs b 3 n (fun _ => .int .i64 (-1))) (hn : 0 < n) : (w.setCell ⟨b, 0, none⟩ (.int .i64 x)).rowIs b 3 n (numRow ((List.replicate n (-1)).set 0 (x : Int))) :=
  (h.set 0 _).congr fun i hi => by
    unfold numRow
    rw [setgi (by simpa using hn)]
    by_cases e : i = 0
    · subst e; simp
    · simp [e, gi, List.getD, hi]
theorem extK_go {A B : Net} {x k : Nat} {F : List Int} {v z : Nat} (h : extK A B x k = some F) (hv : gi (wk A 0) k = (v : Int)) (hz : gi F v = (z : Int)) :
    extK A B x (k + 1) = if (gr A.ends v).length = (gr B.ends z).length then some (extR F (gr A.ends v) (gr B.ends z) (gr A.ends v).length) else none := by
  have e1 : rw' A (v : Int) = gr A.ends v := by unfold rw'; rw [Int.toNat_natCast]
  have e2 : rw' B (gi F ((v : Int)).toNat) = gr B.ends z := by unfold rw'; rw [Int.toNat_natCast, hz, Int.toNat_natCast]
  simp only [extK]
  rw [h, hv]
  simp only
  rw [e1, e2]
theorem img_own {w : World} {B : Net} {b n : Nat} {F : List Int} (h : w.rowIs b 3 n (numRow F)) (hF : Img B F n) (hB : B.ends.length ≤ 40) (hn : n ≤ 40) : OwnI w (.slice (some ⟨b, 0, none⟩) n n) F [b] :=
  num_own h hF.1 (by omega) fun i hi => by
    have := hF.2 i (by have := hF.1; omega)
    unfold NdIn at this
    unfold inI64
    omega
theorem keep_off {w : World} {v : Value} {l : List Int} {bs : List Nat} {b i : Nat} {u : Value} (h : OwnI w v l bs) (hb : b ∉ bs) : OwnI (w.setCell ⟨b, i, none⟩ u) v l bs :=
  h.keep fun x hx => Below.heap_setCell _ _ _ _ fun e => hb (by have : x = b := e; rw [← this]; exact hx)

set_option maxHeartbeats 6400000 in
set_option maxRecDepth 100000 in
theorem extendMap_any {w : World} {va vb : Value} {A B : Net} (x : Int) (h : NetAt w va A) (k : NetAt w vb B) :
    Calls Try.prog 40 #[va, vb, .int .i64 x] w fun e w' => ∃ v' bs, e = .returned (.tuple #[v', .bool (dec (ExtB A B x))]) ∧ Ext w w' ∧ OwnI w' v' (extAns A B x) bs ∧ Fresh w bs := by
  have HA := Lib.hid h
  have HB := Lib.hid k
  obtain ⟨v0, v1, v2, rfl, hEa, -, -⟩ := h
  obtain ⟨u0, u1, u2, rfl, hEb, -, -⟩ := k
  obtain ⟨ea, eb, eo, ec, rfl, hea, hel, hem, hec⟩ := hEa
  obtain ⟨fa, fb, fo, fc, rfl, hfa, hfl, hfm, hfc⟩ := hEb
  unfold maxLen at hem hfm
  have HEA := Lib.hid hea
  have HEC := Lib.hid hec
  have HFA := Lib.hid hfa
  have HFC := Lib.hid hfc
  clear hea hec hfa hfc
  obtain ⟨W1, hW1⟩ : ∃ W1, W1 = (w.alloc (.cells #[.slice ea A.ends.length ec, v1, v2] 29)).alloc (.cells #[.slice fa B.ends.length fc, u1, u2] 29) := ⟨_, rfl⟩
  have EW := Lib.hid (show Ext w W1 by rw [hW1]; exact (boxed_ext _ _ _ _ _).trans' (boxed_ext _ _ _ _ _))
  have RA := Lib.hid (show W1.rowIs w.heap.size 29 3 (tri (.slice ea A.ends.length ec) v1 v2) by rw [hW1]; exact (boxed_row _ _ _ _ _).alloc _)
  have RB := Lib.hid (show W1.rowIs (w.heap.size + 1) 29 3 (tri (.slice fa B.ends.length fc) u1 u2) by rw [hW1]; simpa using boxed_row (boxed w (.slice ea A.ends.length ec) v1 v2 29) (.slice fa B.ends.length fc) u1 u2 29)
  obtain ⟨p0, p1, p2, -, -, -⟩ := row3_facts RA.out
  obtain ⟨q0, q1, q2, -, -, -⟩ := row3_facts RB.out
  rw [hW1] at p0 p1 p2 q0 q1 q2
  by_cases ha : GC A
  case neg =>
    have DA := Lib.hid (dec_false ha)
    have E := Lib.hid (show ¬ ExtB A B x from fun h => ha h.1)
    clear ha
    go_enter Try.func40, Try.ntmps40
    go_wp2_with fail
    rw [← hW1]
    clear hW1 p0 p1 p2 q0 q1 q2
    (with_reducible refine (isConnected_any (HA.out.ext EW.out)).mono ?_)
    rintro e w1 ⟨rfl, hx1⟩
    rw [DA.out]
    have X1 := Lib.hid hx1
    have K1 := Lib.hid (EW.out.trans' hx1)
    clear hx1
    go_wp2
    go_ret2
    exact ⟨_, [], ret_mb (dec_false E.out).symm, K1.out, by rw [extAns_f E.out]; exact own_nilI _, Fresh.nil _⟩
  have DA := Lib.hid (dec_true ha)
  have HGA := Lib.hid ha
  have GA := Lib.hid (good_w ha.1)
  clear ha
  by_cases hb : Good B
  case neg =>
    have DB := Lib.hid (dec_false hb)
    have E := Lib.hid (show ¬ ExtB A B x from fun h => hb h.2.1)
    clear hb
    go_enter Try.func40, Try.ntmps40
    go_wp2_with fail
    rw [← hW1]
    clear hW1 p0 p1 p2 q0 q1 q2
    (with_reducible refine (isConnected_any (HA.out.ext EW.out)).mono ?_)
    rintro e w1 ⟨rfl, hx1⟩
    rw [DA.out]
    have X1 := Lib.hid hx1
    have K1 := Lib.hid (EW.out.trans' hx1)
    clear hx1
    obtain ⟨q0, q1, q2, -, -, -⟩ := row3_facts (row_ext RB.out X1.out)
    go_wp2_with fail
    clear q0 q1 q2
    (with_reducible refine (isNetwork_any (HB.out.ext K1.out)).mono ?_)
    rintro e w2 ⟨rfl, hx2⟩
    rw [DB.out]
    have X2 := Lib.hid (X1.out.trans' hx2)
    have K2 := Lib.hid (K1.out.trans' hx2)
    clear hx2
    go_wp2
    go_ret2
    exact ⟨_, [], ret_mb (dec_false E.out).symm, K2.out, by rw [extAns_f E.out]; exact own_nilI _, Fresh.nil _⟩
  have DB := Lib.hid (dec_true hb)
  have HGB := Lib.hid hb
  have GB := Lib.hid (good_w hb)
  clear hb
  by_cases hnd : NodeOK B x
  case neg =>
    have DN := Lib.hid (dec_false hnd)
    have E := Lib.hid (show ¬ ExtB A B x from fun h => hnd h.2.2.1)
    clear hnd
    go_enter Try.func40, Try.ntmps40
    go_wp2_with fail
    rw [← hW1]
    clear hW1 p0 p1 p2 q0 q1 q2
    (with_reducible refine (isConnected_any (HA.out.ext EW.out)).mono ?_)
    rintro e w1 ⟨rfl, hx1⟩
    rw [DA.out]
    have X1 := Lib.hid hx1
    have K1 := Lib.hid (EW.out.trans' hx1)
    clear hx1
    obtain ⟨q0, q1, q2, -, -, -⟩ := row3_facts (row_ext RB.out X1.out)
    go_wp2_with fail
    clear q0 q1 q2
    (with_reducible refine (isNetwork_any (HB.out.ext K1.out)).mono ?_)
    rintro e w2 ⟨rfl, hx2⟩
    rw [DB.out]
    have X2 := Lib.hid (X1.out.trans' hx2)
    have K2 := Lib.hid (K1.out.trans' hx2)
    clear hx2
    obtain ⟨q0, q1, q2, -, -, -⟩ := row3_facts (row_ext RB.out X2.out)
    go_wp2_with fail
    clear q0 q1 q2
    (with_reducible refine (hasNode_any x (HB.out.ext K2.out)).mono ?_)
    rintro e w3 ⟨rfl, hx3⟩
    rw [DN.out]
    have X3 := Lib.hid (X2.out.trans' hx3)
    have K3 := Lib.hid (K2.out.trans' hx3)
    clear hx3
    go_wp2
    go_ret2
    exact ⟨_, [], ret_mb (dec_false E.out).symm, K3.out, by rw [extAns_f E.out]; exact own_nilI _, Fresh.nil _⟩
  have DN := Lib.hid (dec_true hnd)
  have HND := Lib.hid hnd
  obtain ⟨z0, hz0⟩ := Int.eq_ofNat_of_zero_le hnd.1
  have hz0B : z0 < B.ends.length := by have := hnd.2; omega
  subst hz0
  clear hnd
  have hA1 := GA.out.one
  have hA40 := GA.out.most
  have hB40 := GB.out.most
  obtain ⟨L, hL⟩ : ∃ L, L = wk A 0 := ⟨_, rfl⟩
  have HL := Lib.hid hL
  have hLn : L.length ≤ 40 := by have := wkTo_len GA.out.leads (v := 0) (by omega) A.ends.length; rw [hL]; unfold wk; omega
  have HLC := Lib.hid (show L.length = A.ends.length by rw [hL]; exact HGA.out.2)
  clear hL
  go_enter Try.func40, Try.ntmps40
  go_wp2_with fail
  rw [← hW1]
  clear hW1 p0 p1 p2 q0 q1 q2
  (with_reducible refine (isConnected_any (HA.out.ext EW.out)).mono ?_)
  rintro e w1 ⟨rfl, hx1⟩
  rw [DA.out]
  have X1 := Lib.hid hx1
  have K1 := Lib.hid (EW.out.trans' hx1)
  clear hx1
  obtain ⟨q0, q1, q2, -, -, -⟩ := row3_facts (row_ext RB.out X1.out)
  go_wp2_with fail
  clear q0 q1 q2
  (with_reducible refine (isNetwork_any (HB.out.ext K1.out)).mono ?_)
  rintro e w2 ⟨rfl, hx2⟩
  rw [DB.out]
  have X2 := Lib.hid (X1.out.trans' hx2)
  have K2 := Lib.hid (K1.out.trans' hx2)
  clear hx2
  obtain ⟨q0, q1, q2, -, -, -⟩ := row3_facts (row_ext RB.out X2.out)
  go_wp2_with fail
  clear q0 q1 q2
  (with_reducible refine (hasNode_any (z0 : Int) (HB.out.ext K2.out)).mono ?_)
  rintro e w3 ⟨rfl, hx3⟩
  rw [DN.out]
  have X3 := Lib.hid (X2.out.trans' hx3)
  have K3 := Lib.hid (K2.out.trans' hx3)
  clear hx3
  obtain ⟨p0, p1, p2, -, -, -⟩ := row3_facts (row_ext RA.out (X3.out.alloc' (.cells #[.int .i64 (-1)] 3)))
  go_wp2_with fail
  have C4 := Lib.hid (show (w3.alloc (.cells #[.int .i64 (-1)] 3)).cell? ⟨w3.heap.size, 0, none⟩ = some (.int .i64 (-1)) by simp)
  (with_reducible refine (repeat_any hA1 hA40 C4.out).mono ?_)
  rintro e w4 ⟨mb, rfl, hx4, hrow, hge⟩
  have X4 := Lib.hid ((X3.out.alloc' (.cells #[.int .i64 (-1)] 3)).trans' hx4)
  have K34 := Lib.hid (((Ext.rfl' w3).alloc' (.cells #[.int .i64 (-1)] 3)).trans' hx4)
  have HGE := Lib.hid (show w3.heap.size ≤ mb by simp at hge; omega)
  have HROW := Lib.hid (start_row (x := z0) hrow (by omega))
  have HLT := Lib.hid hrow.lt
  have f1 := hrow.cell (show 0 < A.ends.length by omega)
  have f2 := hrow.frozen 0
  clear hx4 hrow hge p0 p1 p2
  obtain ⟨W5, hW5⟩ : ∃ W5, W5 = w4.setCell ⟨mb, 0, none⟩ (.int .i64 z0) := ⟨_, rfl⟩
  have K35 := Lib.hid (show Ext w3 W5 by rw [hW5]; exact K34.out.store HGE.out _)
  have X5 := Lib.hid (X3.out.trans' K35.out)
  have HROW5 := Lib.hid (show W5.rowIs mb 3 A.ends.length (numRow ((List.replicate A.ends.length (-1)).set 0 (z0 : Int))) by rw [hW5]; exact HROW.out)
  have HLT5 := Lib.hid (show mb < W5.heap.size from HROW5.out.lt)
  obtain ⟨p0, p1, p2, -, -, -⟩ := row3_facts (row_ext RA.out X5.out)
  rw [hW5] at p0 p1 p2
  go_wp2_with fail
  rw [← hW5]
  clear hW5 p0 p1 p2 f1 f2
  (with_reducible refine (walkFrom0 (HA.out.ext (K3.out.trans' K35.out)) GA.out).mono ?_)
  rintro e w6 ⟨vn, vc, bn, bc, rfl, hx6, ho, hoc, hfr⟩
  obtain ⟨ca, cc, rfl⟩ := hoc.1.slice
  clear hoc
  rw [← HL.out] at ho
  obtain ⟨na, nc, rfl⟩ := ho.1.slice
  have K36 := Lib.hid (K35.out.trans' hx6)
  have HROW6 := Lib.hid (row_ext HROW5.out hx6)
  have HO6 := Lib.hid ho
  have HNB := Lib.hid (show mb ∉ bn from fun hb => by have := hfr.2 mb (by simp [hb]); have := HLT5.out; omega)
  clear hx6 ho hfr
  have hfld := field_nodes na ca L.length nc (code A 0).length cc
  go_wp2_with fail
  clear hfld
  go_loopg [41] L.length (fun g i wr => ∃ k : Nat, k ≤ L.length ∧ g = L.length - k ∧ i = .int .i64 k ∧ Hid (Ext w3 wr ∧ ∃ F, extK A B z0 k = some F ∧ wr.rowIs mb 3 A.ends.length (numRow F) ∧ OwnI wr (.slice na L.length nc) L bn))
  case atStart => exact ⟨0, Nat.zero_le _, rfl, rfl, K36.out, _, rfl, HROW6.out, HO6.out⟩
  case round =>
    obtain ⟨k, hk, rfl, rfl, Hr⟩ := hrel
    obtain ⟨hE, F, hF, hR, hO⟩ := Hr.out
    have HE := Lib.hid hE
    have HF := Lib.hid hF
    have HR := Lib.hid hR
    have HO := Lib.hid hO
    have AT := Lib.hid (ext_at GA.out GB.out hz0B k (by rw [← HL.out]; exact hk) F hF)
    have XR := Lib.hid (X3.out.trans' hE)
    have KR := Lib.hid (K3.out.trans' hE)
    clear hE hF hR hO Hr
    by_cases hlt : k < L.length
    · obtain ⟨wa1, wa2, wa3⟩ := wk_at (A := A) (k := k) GA.out.leads GA.out.one (by rw [← HL.out]; exact hlt)
      have hvr := wkTo_range GA.out.leads (v := 0) (by omega) k _ (gi_in wa1)
      have hvm := AT.out.got _ (gi_in wa1)
      rw [← wa2, ← HL.out] at hvr hvm
      obtain ⟨v, hv⟩ := Int.eq_ofNat_of_zero_le hvr.1
      rw [hv, Int.toNat_natCast] at hvm
      have hvn : v < A.ends.length := by omega
      have hnz := (AT.out.img.2 v hvn).resolve_left hvm
      obtain ⟨z, hz⟩ := Int.eq_ofNat_of_zero_le hnz.1
      have hzB : z < B.ends.length := by have := hnz.2; omega
      have HGO := Lib.hid (extK_go HF.out (show gi (wk A 0) k = (v : Int) by rw [← HL.out]; exact hv) hz)
      have HIMG := Lib.hid AT.out.img
      have HZ := Lib.hid hz
      obtain ⟨nb, no, hne, hnc, hcell⟩ : ∃ nb no, na = some ⟨nb, no, none⟩ ∧ nc ≤ maxLen ∧ wr.cell? ⟨nb, no + k, none⟩ = some (.int .i64 v) := by
        obtain ⟨a', b', o', c', e1, h1, h2, h3, h4⟩ := HO.out.read
        simp only [Value.slice.injEq] at e1
        obtain ⟨rfl, -, rfl⟩ := e1
        obtain ⟨_, h5, rfl, -⟩ := h4 k hlt
        rw [hv] at h5
        exact ⟨b', o', h1 (by omega), h3, h5⟩
      subst hne
      unfold maxLen at hnc
      clear hvr hvm hv hnz hz wa1 wa2 wa3
      obtain rfl := HEA.out (by omega)
      obtain rfl := HFA.out (by omega)
      obtain ⟨_, hra, hrowa⟩ := HEC.out v hvn
      obtain ⟨aa, ab, ao, ac, rfl, haa, hal, ham, hac⟩ := hrowa
      obtain ⟨_, hrb, hrowb⟩ := HFC.out z hzB
      obtain ⟨ba, bb, bo, bc', rfl, hba, hbl, hbm, hbc⟩ := hrowb
      unfold maxLen at ham hbm
      have HAA := Lib.hid haa
      have HAC := Lib.hid hac
      have HBA := Lib.hid hba
      have HBC := Lib.hid hbc
      obtain ⟨p0, p1, p2, -, -, -⟩ := row3_facts (row_ext RA.out XR.out)
      obtain ⟨q0, q1, q2, -, -, -⟩ := row3_facts (row_ext RB.out XR.out)
      have P0 : ∀ x' : Wx wr, x'.w.cell? ⟨w.heap.size, 0, none⟩ = some (.slice (some ⟨eb, eo, none⟩) A.ends.length ec) := fun x' => x'.ok.cell' p0
      have Q0 : ∀ x' : Wx wr, x'.w.cell? ⟨w.heap.size + 1, 0, none⟩ = some (.slice (some ⟨fb, fo, none⟩) B.ends.length fc) := fun x' => x'.ok.cell' q0
      have X1' : ∀ x' : Wx wr, x'.w.cell? ⟨eb, eo + v, none⟩ = some (.slice aa (gr A.ends v).length ac) := fun x' => x'.ok.cell' (KR.out.cell' hra)
      have X2' : ∀ x' : Wx wr, x'.w.cell? ⟨fb, fo + z, none⟩ = some (.slice ba (gr B.ends z).length bc') := fun x' => x'.ok.cell' (KR.out.cell' hrb)
      have X3' : ∀ x' : Wx wr, x'.w.cell? ⟨mb, v, none⟩ = some (.int .i64 z) := fun x' => x'.ok.cell' (by rw [HR.out.cell hvn]; unfold numRow; rw [HZ.out])
      clear haa hac hba hbc hra hrb p0 p1 p2 q0 q1 q2
      go_wp2_with fail
      refine wp_region_ext (by kernel_rfl) (by kernel_rfl) ?_
      repeat (go_big_quiet_step (fail))
      refine wpQuiet_nil ?_
      rintro wz ⟨⟨_, hz2⟩, rfl⟩
      have HZ2 := Lib.hid hz2
      clear hz2
      clear P0 Q0 X1' X2' X3'
      have HE2 := Lib.hid (HE.out.trans' HZ2.out)
      have HR2 := Lib.hid (row_ext HR.out HZ2.out)
      have HO2 := Lib.hid (HO.out.ext HZ2.out)
      by_cases hm1 : (gr A.ends v).length = (gr B.ends z).length
      case neg =>
        have hb1 : (((gr A.ends v).length : Int) != ((gr B.ends z).length : Int)) = true := by simp; omega
        have E := Lib.hid (show ¬ ExtB A B (z0 : Int) from fun h => by
          obtain ⟨G, hG, -⟩ := h.2.2.2
          have e1 := HGO.out
          rw [if_neg hm1] at e1
          rw [Int.toNat_natCast, extK_none e1 _ (by rw [← HL.out]; omega)] at hG
          cases hG)
        clear hm1
        go_wp2
        go_ret2
        exact ⟨_, [], ret_mb (dec_false E.out).symm, K3.out.trans' HE2.out, by rw [extAns_f E.out]; exact own_nilI _, Fresh.nil _⟩
      have hb1 : (((gr A.ends v).length : Int) != ((gr B.ends z).length : Int)) = false := by simp; omega
      have HLL := Lib.hid hm1
      have HGO2 := Lib.hid (show extK A B z0 (k + 1) = some (extR F (gr A.ends v) (gr B.ends z) (gr A.ends v).length) by rw [HGO.out, if_pos hm1])
      clear hm1
      have h6 := GA.out.deg v hvn
      have HRJ := Lib.hid (show ∀ t, t < (gr A.ends v).length → 0 ≤ gn (gr A.ends v) t ∧ gn (gr A.ends v) t < (A.ends.length : Int) from GA.out.leads.node v hvn)
      have HIJ := Lib.hid (show ∀ t, t < (gr A.ends v).length → NdIn B (gn (gr B.ends z) t) from fun t ht => GB.out.leads.node z hzB t (by have := HLL.out; omega))
      go_wp2_with fail
      clear hb1
      go_loopg [65] (gr A.ends v).length (fun g i wx => ∃ j : Nat, j ≤ (gr A.ends v).length ∧ g = (gr A.ends v).length - j ∧ i = .int .i64 j ∧ Hid (Ext w3 wx ∧ wx.rowIs mb 3 A.ends.length (numRow (extR F (gr A.ends v) (gr B.ends z) j)) ∧ OwnI wx (.slice (some ⟨nb, no, none⟩) L.length nc) L bn))
      case atStart => exact ⟨0, Nat.zero_le _, rfl, rfl, HE2.out, HR2.out, HO2.out⟩
      case round =>
        obtain ⟨j, hj, rfl, rfl, Hs⟩ := hrel
        by_cases hjt : j < (gr A.ends v).length
        · have hjB : j < (gr B.ends z).length := by have := HLL.out; omega
          obtain rfl := HAA.out (by omega)
          obtain rfl := HBA.out (by omega)
          obtain ⟨g1, g2, g3⟩ := Hs.out
          have SE := Lib.hid g1
          have SR := Lib.hid g2
          have SO := Lib.hid g3
          have KS := Lib.hid (K3.out.trans' g1)
          clear g1 g2 g3
          obtain ⟨e1, e2, -⟩ := HBC.out j hjB
          obtain ⟨f1, f2, -⟩ := HAC.out j hjt
          have hl0 := HRJ.out j hjt
          obtain ⟨zz, hzz⟩ := Int.eq_ofNat_of_zero_le hl0.1
          have hzn : zz < A.ends.length := by omega
          rw [hzz] at f1
          have HZZ := Lib.hid (show (gn (gr A.ends v) j).toNat = zz by rw [hzz, Int.toNat_natCast])
          clear hzz hl0
          have HIM := Lib.hid (extR_img HIMG.out (fun i hi => HRJ.out i hi) (fun i hi => HIJ.out i hi) j (by omega))
          obtain ⟨nB, hnB⟩ : ∃ d, d = gn (gr B.ends z) j := ⟨_, rfl⟩
          obtain ⟨pA, hpA⟩ : ∃ d, d = gp (gr A.ends v) j := ⟨_, rfl⟩
          obtain ⟨G, hG⟩ : ∃ G, G = extR F (gr A.ends v) (gr B.ends z) j := ⟨_, rfl⟩
          rw [← hG] at SR HIM
          rw [← hnB] at e1
          rw [← hpA] at f2
          have HEX := Lib.hid (show extR F (gr A.ends v) (gr B.ends z) (j + 1) = if gi G zz = -1 then G.set zz nB else G by simp only [extR]; rw [HZZ.out, ← hG, ← hnB])
          have HGL := Lib.hid HIM.out.1
          clear hnB hpA hG
          have s1 := KS.out.cell' f1
          have s2 := KS.out.cell' f2
          obtain ⟨W2, hW2⟩ : ∃ W2, W2 = wr.alloc (.cells #[.int .i64 zz, .int .i64 pA] 76) := ⟨_, rfl⟩
          have E2 := Lib.hid (show Ext wr W2 by rw [hW2]; exact (Ext.rfl' _).alloc' _)
          have R2 := Lib.hid (show W2.rowIs wr.heap.size 76 2 (duo (.int .i64 zz) (.int .i64 pA)) by rw [hW2]; exact duo_made _ _ _ _)
          have SR2 := Lib.hid (row_ext SR.out E2.out)
          have SO2 := Lib.hid (SO.out.ext E2.out)
          have SE2 := Lib.hid (SE.out.trans' E2.out)
          obtain ⟨r0, r1, -, -⟩ := duo_facts R2.out
          have t1 := E2.out.cell' (KS.out.cell' e1)
          have t2 := SR2.out.cell hzn
          have t3 := SR2.out.frozen zz
          unfold numRow at t2
          obtain ⟨y, hy⟩ : ∃ y, y = gi G zz := ⟨_, rfl⟩
          rw [← hy] at t2 HEX
          clear e1 e2 f1 f2
          by_cases hy1 : y = -1
          · subst hy1
            have HEX2 := Lib.hid (show extR F (gr A.ends v) (gr B.ends z) (j + 1) = G.set zz nB by rw [HEX.out, if_pos rfl])
            have t2' := t2
            rw [hW2] at t2'
            clear hy HEX
            go_wp2_with fail
            rw [← hW2]
            clear hW2 s1 s2 t2'
            go_region
            all_goals go_wp2
            go_roundg ((gr A.ends v).length - (j + 1))
            case measure => omega
            case rel => exact ⟨j + 1, by omega, rfl, by go_num, (SE2.out.store HGE.out _).drew', row_ext (by rw [HEX2.out]; exact numRow_set SR2.out HGL.out hzn) (Ext.rfl' _).drew', (keep_off SO2.out HNB.out).ext (Ext.rfl' _).drew'⟩
          · have HEX2 := Lib.hid (show extR F (gr A.ends v) (gr B.ends z) (j + 1) = G by rw [HEX.out, if_neg hy1])
            have hyb : (y == -1) = false := beq_eq_false_iff_ne.2 hy1
            have t2' := t2
            rw [hW2] at t2'
            clear hy HEX hy1
            go_wp2_with fail
            rw [← hW2]
            clear hW2 s1 s2 t2'
            go_roundg ((gr A.ends v).length - (j + 1))
            case measure => omega
            case rel => exact ⟨j + 1, by omega, rfl, by go_num, SE2.out, by rw [HEX2.out]; exact SR2.out, SO2.out⟩
        · obtain rfl : j = (gr A.ends v).length := by omega
          go_wp2
          go_roundg (L.length - (k + 1))
          case measure => omega
          case rel => exact ⟨k + 1, by omega, rfl, by go_num, Hs.out.1, _, HGO2.out, Hs.out.2.1, Hs.out.2.2⟩
    · obtain rfl : k = L.length := by omega
      have OF := Lib.hid (img_own HR.out AT.out.img hB40 hA40)
      obtain ⟨p0, p1, p2, -, -, -⟩ := row3_facts (row_ext RA.out XR.out)
      obtain ⟨q0, q1, q2, -, -, -⟩ := row3_facts (row_ext RB.out XR.out)
      go_wp2_with fail
      clear p0 p1 p2 q0 q1 q2
      (with_reducible refine (keepsPorts_any (HA.out.ext KR.out) (HB.out.ext KR.out) OF.out.read).mono ?_)
      rintro e w7 ⟨rfl, hx7⟩
      have X7 := Lib.hid hx7
      have K7 := Lib.hid (KR.out.trans' hx7)
      clear hx7
      have HF' := Lib.hid (show extK A B ((z0 : Int)).toNat (wk A 0).length = some F by rw [Int.toNat_natCast, ← HL.out]; exact HF.out)
      by_cases hp : PmAns A B F
      · have E := Lib.hid (show ExtB A B (z0 : Int) from ⟨HGA.out, HGB.out, HND.out, F, HF'.out, hp.ok⟩)
        have D := Lib.hid (dec_true hp)
        clear hp
        rw [D.out]
        go_wp2
        go_ret2
        exact ⟨_, [mb], ret_mb (dec_true E.out).symm, K7.out, by rw [extAns_t E.out HF'.out]; exact OF.out.ext X7.out, by simp, fun y hy => by
          simp only [List.mem_singleton] at hy
          subst hy
          have := HGE.out; have := K3.out.size; omega⟩
      · have E := Lib.hid (show ¬ ExtB A B (z0 : Int) from fun h => hp ⟨⟨HGA.out.1, HGB.out⟩, by
          obtain ⟨G, hG, hp⟩ := h.2.2.2
          rw [HF'.out] at hG
          cases hG
          exact hp⟩)
        have D := Lib.hid (dec_false hp)
        clear hp
        rw [D.out]
        go_wp2
        go_ret2
        exact ⟨_, [], ret_mb (dec_false E.out).symm, K7.out, by rw [extAns_f E.out]; exact own_nilI _, Fresh.nil _⟩
end Go.Proofs.Ytgacbfblpkikkaa
