/- InboxesOf: the contracts that its law takes. -/
import Derived.Test.YtdcgpodjoalokaaMs
namespace Go.Proofs.Ytdcgpodjoalokaa
open Go.RowKit

set_option maxHeartbeats 6400000 in
set_option maxRecDepth 100000 in
theorem implInboxesOf_any {w : World} {vm vn vs : Value} {M : Mach} {N : Net} {s : List Int} (h : MachAt w vm M) (k : NetAt w vn N) (hs : IntSl w vs s) (_ : s.length ≤ 1048576) : Calls Try.prog 38 #[vm, vn, vs] w fun e w' => ∃ v' bs, e = .returned (.tuple #[v', .bool (dec (Sts M N s))]) ∧ Ext w w' ∧ OwnII w' v' (ibAns M N s) bs ∧ Fresh w bs := by
  have HSS := Lib.hid hs
  obtain ⟨ssa, ssc, rfl⟩ := hs.isSlice
  obtain ⟨-, ssm, ssn⟩ := isLen hs
  unfold maxLen at ssm
  clear hs
  have HM := Lib.hid h
  have HN := Lib.hid k
  obtain ⟨a3, c3, a4, c4, a5, c5, a6, c6, rfl, h3, h4, -⟩ := h
  obtain ⟨v0, v1, v2, rfl, hE, -, hP⟩ := k
  obtain ⟨W1, hW1⟩ : ∃ W1, W1 = twoBox w (.int .i64 M.deg) (.int .i64 M.sts) (.int .i64 M.msgs) (.slice a3 M.start.length c3) (.slice a4 M.send.length c4) (.slice a5 M.cls.length c5) (.slice a6 M.out.length c6) v0 v1 v2 := ⟨_, rfl⟩
  have EW := Lib.hid (show Ext w W1 by rw [hW1]; exact twoBox_ext _ _ _ _ _ _ _ _ _ _ _)
  have RA := Lib.hid (show W1.rowIs w.heap.size 31 7 (sept (.int .i64 M.deg) (.int .i64 M.sts) (.int .i64 M.msgs) (.slice a3 M.start.length c3) (.slice a4 M.send.length c4) (.slice a5 M.cls.length c5) (.slice a6 M.out.length c6)) by rw [hW1]; exact twoBox_m _ _ _ _ _ _ _ _ _ _ _)
  have RB := Lib.hid (show W1.rowIs (w.heap.size + 1) 43 3 (tri v0 v1 v2) by rw [hW1]; exact twoBox_n _ _ _ _ _ _ _ _ _ _ _)
  have hsz : W1.heap.size = w.heap.size + 2 := by rw [hW1]; simp [twoBox]
  have HSZ := Lib.hid hsz
  have HE3 := Lib.hid (h3.ext EW.out)
  have HE4 := Lib.hid (h4.ext EW.out)
  have HNE := Lib.hid (hE.ext EW.out)
  have HNP := Lib.hid (hP.ext EW.out)
  obtain ⟨-, ms3, ns3⟩ := ssLen h3
  obtain ⟨-, ms4, ns4⟩ := ssLen h4
  unfold maxLen at ms3 ms4
  clear h3 h4 hE hP hsz
  obtain ⟨p0, p1, p2, p3, p4, p5, p6⟩ := row7_facts RA.out
  obtain ⟨q0, q1, q2, -, -, -⟩ := row3_facts RB.out
  unfold twoBox at hW1
  go_enter Try.func38, Try.ntmps38
  go_upto_region 1 with fail
  rw [← hW1]
  clear hW1
  go_wp2_with fail
  (with_reducible refine (areStatesOn_any (HM.out.ext EW.out) (HN.out.ext EW.out) (HSS.out.ext EW.out)).mono ?_)
  rintro e w2 ⟨rfl, hx⟩
  have Y1 := Lib.hid hx
  clear hx p0 p1 p2 p3 p4 p5 p6 q0 q1 q2
  obtain ⟨p0, p1, p2, p3, p4, p5, p6⟩ := row7_facts (row_ext RA.out Y1.out)
  obtain ⟨q0, q1, q2, -, -, -⟩ := row3_facts (row_ext RB.out Y1.out)
  have K1 := Lib.hid (EW.out.trans' Y1.out)
  by_cases e1 : Sts M N s
  case neg =>
    have D := Lib.hid (dec_false e1)
    have A := Lib.hid (ibAns_f e1)
    rw [D.out]
    clear e1
    go_wp2
    go_ret2
    exact ⟨_, [], ret_vb D.out.symm, K1.out, by rw [A.out]; exact own_nilIIm _, Fresh.nil _⟩
  have D := Lib.hid (dec_true e1)
  have A := Lib.hid (ibAns_t e1)
  have E1 := Lib.hid e1
  rw [D.out]
  clear e1
  go_wp2_with fail
  (with_reducible refine (inboxesOf_any (HM.out.ext K1.out) (HN.out.ext K1.out) (HSS.out.ext K1.out) E1.out).mono ?_)
  rintro e w3 ⟨v', bs, rfl, hx, ho, hf⟩
  have K3 := Lib.hid (K1.out.trans' hx)
  have HO := Lib.hid ho
  have HF := Lib.hid (hf.of K1.out.size)
  clear hx ho hf
  go_wp2
  go_ret2
  exact ⟨_, bs, ret_vb D.out.symm, K3.out, by rw [A.out]; exact HO.out, HF.out⟩

set_option maxHeartbeats 6400000 in
set_option maxRecDepth 100000 in
theorem specInboxesOf_any {w : World} {vm vn vs : Value} {M : Mach} {N : Net} {s : List Int} (h : MachAt w vm M) (k : NetAt w vn N) (hs : IntSl w vs s) (_ : s.length ≤ 1048576) : Calls Try.prog 36 #[vm, vn, vs] w fun e w' => ∃ v' bs, e = .returned (.tuple #[v', .bool (dec (Sts M N s))]) ∧ Ext w w' ∧ OwnII w' v' (ibAns M N s) bs ∧ Fresh w bs := by
  have HSS := Lib.hid hs
  obtain ⟨ssa, ssc, rfl⟩ := hs.isSlice
  obtain ⟨-, ssm, ssn⟩ := isLen hs
  unfold maxLen at ssm
  clear hs
  have HM := Lib.hid h
  have HN := Lib.hid k
  obtain ⟨a3, c3, a4, c4, a5, c5, a6, c6, rfl, h3, h4, -⟩ := h
  obtain ⟨v0, v1, v2, rfl, hE, -, hP⟩ := k
  obtain ⟨W1, hW1⟩ : ∃ W1, W1 = twoBox w (.int .i64 M.deg) (.int .i64 M.sts) (.int .i64 M.msgs) (.slice a3 M.start.length c3) (.slice a4 M.send.length c4) (.slice a5 M.cls.length c5) (.slice a6 M.out.length c6) v0 v1 v2 := ⟨_, rfl⟩
  have EW := Lib.hid (show Ext w W1 by rw [hW1]; exact twoBox_ext _ _ _ _ _ _ _ _ _ _ _)
  have RA := Lib.hid (show W1.rowIs w.heap.size 31 7 (sept (.int .i64 M.deg) (.int .i64 M.sts) (.int .i64 M.msgs) (.slice a3 M.start.length c3) (.slice a4 M.send.length c4) (.slice a5 M.cls.length c5) (.slice a6 M.out.length c6)) by rw [hW1]; exact twoBox_m _ _ _ _ _ _ _ _ _ _ _)
  have RB := Lib.hid (show W1.rowIs (w.heap.size + 1) 43 3 (tri v0 v1 v2) by rw [hW1]; exact twoBox_n _ _ _ _ _ _ _ _ _ _ _)
  have hsz : W1.heap.size = w.heap.size + 2 := by rw [hW1]; simp [twoBox]
  have HSZ := Lib.hid hsz
  have HE3 := Lib.hid (h3.ext EW.out)
  have HE4 := Lib.hid (h4.ext EW.out)
  have HNE := Lib.hid (hE.ext EW.out)
  have HNP := Lib.hid (hP.ext EW.out)
  obtain ⟨-, ms3, ns3⟩ := ssLen h3
  obtain ⟨-, ms4, ns4⟩ := ssLen h4
  unfold maxLen at ms3 ms4
  clear h3 h4 hE hP hsz
  obtain ⟨p0, p1, p2, p3, p4, p5, p6⟩ := row7_facts RA.out
  obtain ⟨q0, q1, q2, -, -, -⟩ := row3_facts RB.out
  unfold twoBox at hW1
  go_enter Try.func36, Try.ntmps36
  go_upto_region 1 with fail
  rw [← hW1]
  clear hW1
  go_wp2_with fail
  (with_reducible refine (maStates_any (HM.out.ext EW.out) (HN.out.ext EW.out) (HSS.out.ext EW.out)).mono ?_)
  rintro e w2 ⟨rfl, hx⟩
  have Y1 := Lib.hid hx
  clear hx p0 p1 p2 p3 p4 p5 p6 q0 q1 q2
  obtain ⟨p0, p1, p2, p3, p4, p5, p6⟩ := row7_facts (row_ext RA.out Y1.out)
  obtain ⟨q0, q1, q2, -, -, -⟩ := row3_facts (row_ext RB.out Y1.out)
  have K1 := Lib.hid (EW.out.trans' Y1.out)
  by_cases e1 : Sts M N s
  case neg =>
    have D := Lib.hid (dec_false e1)
    have A := Lib.hid (ibAns_f e1)
    rw [D.out]
    clear e1
    go_wp2
    go_ret2
    exact ⟨_, [], ret_vb D.out.symm, K1.out, by rw [A.out]; exact own_nilIIm _, Fresh.nil _⟩
  have D := Lib.hid (dec_true e1)
  have A := Lib.hid (ibAns_t e1)
  have E1 := Lib.hid e1
  rw [D.out]
  clear e1
  obtain ⟨ea, ec, hv0⟩ : ∃ ea ec, v0 = .slice ea N.ends.length ec := by obtain ⟨a, b, o, c, h, -⟩ := HNE.out; exact ⟨a, c, h⟩
  have hem : ec ≤ maxLen ∧ N.ends.length ≤ ec := by obtain ⟨a, b, o, c, h, -, h1, h2, -⟩ := HNE.out; rw [hv0] at h; simp only [Value.slice.injEq] at h; obtain ⟨rfl, -, rfl⟩ := h; exact ⟨h2, h1⟩
  subst hv0
  unfold maxLen at hem
  obtain ⟨hem1, hem2⟩ := hem
  have hn40 : N.ends.length ≤ 40 := E1.out.1.2.1.1.2
  obtain ⟨i0, hi, hz0, hz1, hz2⟩ := info_parts Try.infoTSIm
  have I0 := Lib.hid (And.intro hi (And.intro hz0 (And.intro hz1 hz2)))
  clear hi hz0 hz1 hz2
  go_wp2
  go_loopg [8, 18] N.ends.length (fun g t i wr => ∃ k : Nat, k ≤ N.ends.length ∧ g = N.ends.length - k ∧ i = .int .i64 k ∧ Hid (Ext w2 wr ∧ GrowI w2.heap.size wr t (inboxes M N s) k))
  case atStart => exact ⟨0, Nat.zero_le _, rfl, rfl, Ext.rfl' _, GrowI.nil _ _ _⟩
  case round =>
    obtain ⟨k, hk, rfl, rfl, Hr⟩ := hrel
    by_cases hlt : k < N.ends.length
    · obtain ⟨R, T, h1, h2, h3, h4⟩ := Hr.out.2
      obtain ⟨ga, gq, rfl⟩ := owns_slice h1
      have G1 := Lib.hid h1
      have G2 := Lib.hid h2
      have G3 := Lib.hid h3
      have G4 := Lib.hid h4
      have y0 := Hr.out.1.cell' p0
      have y1 := Hr.out.1.cell' p1
      have y2 := Hr.out.1.cell' p2
      have y3 := Hr.out.1.cell' p3
      have y4 := Hr.out.1.cell' p4
      have y5 := Hr.out.1.cell' p5
      have y6 := Hr.out.1.cell' p6
      have z0 := Hr.out.1.cell' q0
      have z1 := Hr.out.1.cell' q1
      have z2 := Hr.out.1.cell' q2
      have KR := Lib.hid (K1.out.trans' Hr.out.1)
      have HK := Lib.hid hlt
      clear h1 h2 h3 h4
      go_wp2_with fail
      (with_reducible refine (maInbox_any (HM.out.ext KR.out) (HN.out.ext KR.out) (HSS.out.ext KR.out) E1.out k HK.out).mono ?_)
      rintro e w3 ⟨x, bs, rfl, hx, ho, hf⟩
      obtain ⟨xa, xc, rfl⟩ := ho.read.isSlice
      have X3 := Lib.hid hx
      have HO := Lib.hid ho
      have HF := Lib.hid hf
      clear hx ho hf y0 y1 y2 y3 y4 y5 y6 z0 z1 z2
      go_wp2_with (at_builtin; refine wpList_app rfl (.tmp 21) (.tmp 27) 22 rfl w2.heap.size 24 i0 (.slice none 0 0) 1 24 Try.underlying22 I0.out.1 I0.out.2.1 I0.out.2.2.1 I0.out.2.2.2 rfl (by decide) (.slice ga k gq) k ((List.range k).map R) rfl (owns_ext G1.out (X3.out.alloc' _)) (some ⟨w3.heap.size, 0, none⟩) 1 1 [.slice xa (inboxL M N s k).length xc] rfl (src_one w3 _ 24 rfl) (by unfold maxLen; omega) (by omega) (Nat.le_trans Hr.out.1.size (Nat.le_trans X3.out.size (by simp))) ?_; intro v' w4 hg; have HGG := Lib.hid hg; clear hg)
      have X4 := Lib.hid (HGG.out.ext (Hr.out.1.trans' (X3.out.alloc' _)) fun b hb => (World.ownsRow.lt (owns_ext G1.out X3.out) b hb).1)
      have GN4 := Lib.hid (show GrowI w2.heap.size w4 v' (inboxes M N s) (k + 1) from
        GrowI.step (owns_ext G1.out (X3.out.alloc' _)) (fun i hi => ((G2.out i hi).ext X3.out).ext ((Ext.rfl' _).alloc' _)) G3.out G4.out (bs := bs) (by rw [gr_inboxes _ _ _ _ HK.out]; exact HO.out.ext ((Ext.rfl' _).alloc' _))
          (fun b hb => ⟨Nat.le_trans Hr.out.1.size (HF.out.2 b hb), fun hm => by
            obtain ⟨i, hi, hbi⟩ := List.mem_flatMap.1 hm
            have := (G2.out i (List.mem_range.1 hi)).1.lt b hbi
            have := HF.out.2 b hb
            omega⟩) HGG.out)
      clear HGG
      go_wp2
      go_roundg (N.ends.length - (k + 1))
      case measure => omega
      case rel => exact ⟨k + 1, by omega, rfl, by go_num, X4.out, GN4.out⟩
    · obtain rfl : k = N.ends.length := by omega
      obtain ⟨bs, ho, hnd, hge⟩ := GrowI.done (l := inboxes M N s) (by rw [length_inboxes]; exact Hr.out.2)
      have HO := Lib.hid ho
      have HF := Lib.hid (show Fresh w bs from ⟨hnd, fun b hb => Nat.le_trans K1.out.size (hge b hb)⟩)
      clear ho hnd hge
      go_wp2
      go_ret2
      exact ⟨_, bs, ret_vb D.out.symm, K1.out.trans' Hr.out.1, by rw [A.out]; exact HO.out, HF.out⟩

end Go.Proofs.Ytdcgpodjoalokaa
