/- The contracts of both AddEdge, whatever the arguments. -/
import Derived.Test.YtndgbildkeglfaaAe
namespace Go.Proofs.Ytndgbildkeglfaa
open Go.RowKit

set_option maxHeartbeats 1600000 in
set_option maxRecDepth 100000 in
theorem specAddEdge_any {w : World} {v : Value} {N : Net} (x z : Int) (h : NetAt w v N) :
    Calls Try.prog 47 #[v, .int .i64 x, .int .i64 z] w fun e w' => ∃ v' bs, e = .returned (.tuple #[v', .bool (dec (JoinB N x z))]) ∧ Ext w w' ∧ OwnNet w' v' (joinAns N x z) bs ∧ Fresh w bs := by
  have HN := Lib.hid h
  obtain ⟨v0, v1, v2, rfl, hE, hI, hP⟩ := h
  obtain ⟨ea, _, _, ec, rfl, -, -, em, -⟩ := hE
  unfold maxLen at em
  clear hI hP
  have HX := Lib.hid (boxed2_ext w (.slice ea N.ends.length ec) v1 v2)
  have HR := Lib.hid (boxed2_row w (.slice ea N.ends.length ec) v1 v2)
  have HQ := Lib.hid (boxed2_res w (.slice ea N.ends.length ec) v1 v2)
  by_cases hg : NodeAns N x
  · have G := Lib.hid (dec_true hg)
    have Gs := Lib.hid (good_small hg.1)
    have h40 := hg.1.1
    obtain ⟨h41, h42⟩ := h40
    obtain ⟨k, rfl, hk⟩ := node_nat hg
    have hin : Hid (dec (InB z 0 ((N.ends.length : Int) - 1)) = dec (NodeOK N z)) := dec_congr ⟨fun j => ⟨j.1, by have := j.2; omega⟩, fun j => ⟨j.1, by have := j.2; omega⟩⟩
    have HG := Lib.hid hg
    clear hg
    by_cases hn : NodeOK N z
    · have G2 := Lib.hid (dec_true hn)
      obtain ⟨l, rfl, hl⟩ := node_nat ⟨HG.out.1, hn⟩
      have GB : Hid (Good (joinNet N k l) ↔ JoinB N k l) := ⟨fun j => ⟨HG.out, hn, j⟩, fun j => j.2.2⟩
      clear hn
      go_enter Try.func47, Try.ntmps47
      go_wp2_with fail
      (with_reducible refine (neNode_any _ (HN.out.ext HX.out)).mono ?_)
      rintro e w1 ⟨rfl, hw⟩
      rw [G.out]
      have K1 := Lib.hid (HX.out.trans' hw)
      have Q1 := Lib.hid (row_ext HQ.out hw)
      obtain ⟨p0, p1, p2, _, _, _⟩ := row3_facts (row_ext HR.out hw)
      clear hw
      go_wp2_with fail
      (with_reducible refine (l1In_any _ _ _ _).mono ?_)
      rintro e w1' ⟨rfl, rfl⟩
      rw [hin.out, G2.out]
      go_wp2_with fail
      (with_reducible refine (neJoin_any _ _ hk hl (HN.out.ext K1.out) Gs.out).mono ?_)
      rintro e w2 ⟨y, bs, rfl, hw, ho, hf⟩
      have K2 := Lib.hid (K1.out.trans' hw)
      have Q2 := Lib.hid (row_ext Q1.out hw)
      have F2 := Lib.hid (show ∀ b ∈ bs, w.heap.size + 2 ≤ b from fun b hb => by have := hf.2 b hb; have := Q1.out.lt; omega)
      obtain ⟨a0, c0, a1, c1, a2, c2, rfl⟩ := ho.agg
      have O2 := Lib.hid ho
      have N2 := Lib.hid hf.1
      clear hw ho hf p0 p1 p2
      by_cases hb : JoinB N k l
      · have B := Lib.hid hb
        clear hb
        go_wp2_with fail
        (with_reducible refine (neIf_t O2.out.read (GB.out.2 B.out)).mono ?_)
        rintro e w4 ⟨rfl, hw⟩
        have K4 := Lib.hid (K2.out.trans' hw)
        obtain ⟨u0, u1, u2, s0, s1, s2⟩ := row3_facts (row_ext Q2.out hw)
        have O4 := Lib.hid (O2.out.ext hw)
        have D := Lib.hid (dec_true B.out)
        have E := Lib.hid (joinAns_t B.out)
        clear hw
        go_wp2
        refine bodyPost_ret (v := .tuple #[.agg #[.slice a0 (joinNet N k l).ends.length c0, .slice a1 (joinNet N k l).ids.length c1, .slice a2 (joinNet N k l).inputs.length c2], .bool true]) (by simp [results, Try.results47, go_sem, u0, u1, u2]) rfl ?_
        have hc := close_net K4.out O4.out N2.out F2.out
        exact ⟨_, bs, ret_net D.out.symm, hc.1, by rw [E.out]; exact hc.2.1, hc.2.2⟩
      · have B := Lib.hid hb
        clear hb
        go_wp2_with fail
        (with_reducible refine (neIf_f O2.out.read (fun j => absurd (GB.out.1 j) B.out)).mono ?_)
        rintro e w4 ⟨rfl, hw⟩
        unfold znet
        have K4 := Lib.hid (K2.out.trans' hw)
        obtain ⟨u0, u1, u2, s0, s1, s2⟩ := row3_facts (row_ext Q2.out hw)
        have D := Lib.hid (dec_false B.out)
        have E := Lib.hid (joinAns_f B.out)
        clear hw
        go_wp2
        refine bodyPost_ret (v := .tuple #[znet, .bool false]) (by simp [results, Try.results47, go_sem, u0, u1, u2, znet]) rfl ⟨_, [], ret_net D.out.symm, store3_ext K4.out (by omega) _ _ _, by rw [E.out]; exact own_zero _, Fresh.nil _⟩
    · have G2 := Lib.hid (dec_false hn)
      have D : Hid (dec (JoinB N k z) = false) := dec_false fun j => hn j.2.1
      have E : Hid (joinAns N k z = zeroNet) := joinAns_f fun j => hn j.2.1
      clear hn
      go_enter Try.func47, Try.ntmps47
      go_wp2_with fail
      (with_reducible refine (neNode_any _ (HN.out.ext HX.out)).mono ?_)
      rintro e w1 ⟨rfl, hw⟩
      rw [G.out]
      have K1 := Lib.hid (HX.out.trans' hw)
      have Q1 := Lib.hid (row_ext HQ.out hw)
      obtain ⟨p0, p1, p2, _, _, _⟩ := row3_facts (row_ext HR.out hw)
      clear hw
      go_wp2_with fail
      (with_reducible refine (l1In_any _ _ _ _).mono ?_)
      rintro e w1' ⟨rfl, rfl⟩
      rw [hin.out, G2.out]
      obtain ⟨q0, q1, q2, t0, t1, t2⟩ := row3_facts Q1.out
      clear p0 p1 p2
      go_wp2
      refine bodyPost_ret (v := .tuple #[znet, .bool false]) (by simp [results, Try.results47, go_sem, q0, q1, q2, znet]) rfl ⟨_, [], ret_net D.out.symm, store3_ext K1.out (by omega) _ _ _, by rw [E.out]; exact own_zero _, Fresh.nil _⟩
  · have G := Lib.hid (dec_false hg)
    have D : Hid (dec (JoinB N x z) = false) := dec_false fun k => hg k.1
    have E : Hid (joinAns N x z = zeroNet) := joinAns_f fun k => hg k.1
    clear hg
    go_enter Try.func47, Try.ntmps47
    go_wp2_with (first | (go_at_call 79; (with_reducible refine (neNode_any _ (HN.out.ext HX.out)).mono ?_); rintro e w1 ⟨rfl, hw⟩; rw [G.out]; have K1 := Lib.hid (HX.out.trans' hw); obtain ⟨q0, q1, q2, t0, t1, t2⟩ := row3_facts (row_ext HQ.out hw); clear hw))
    refine bodyPost_ret (v := .tuple #[znet, .bool false]) (by simp [results, Try.results47, go_sem, q0, q1, q2, znet]) rfl ⟨_, [], ret_net D.out.symm, store3_ext K1.out (by omega) _ _ _, by rw [E.out]; exact own_zero _, Fresh.nil _⟩

set_option maxHeartbeats 1600000 in
set_option maxRecDepth 100000 in
theorem addEdge_any {w : World} {v : Value} {N : Net} (x z : Int) (h : NetAt w v N) :
    Calls Try.prog 48 #[v, .int .i64 x, .int .i64 z] w fun e w' => ∃ v' bs, e = .returned (.tuple #[v', .bool (dec (JoinB N x z))]) ∧ Ext w w' ∧ OwnNet w' v' (joinAns N x z) bs ∧ Fresh w bs := by
  by_cases hall : Good N ∧ NodeOK N x ∧ NodeOK N z
  · obtain ⟨k, rfl, hk⟩ := node_nat ⟨hall.1, hall.2.1⟩
    obtain ⟨l, rfl, hl⟩ := node_nat ⟨hall.1, hall.2.2⟩
    exact addEdge_yes k l hk hl hall.1 h
  · have D : Hid (dec (JoinB N x z) = false) := dec_false fun j => hall ⟨j.1.1, j.1.2, j.2.1⟩
    have E : Hid (joinAns N x z = zeroNet) := joinAns_f fun j => hall ⟨j.1.1, j.1.2, j.2.1⟩
    have HN := Lib.hid h
    obtain ⟨v0, v1, v2, rfl, hE, hI, hP⟩ := h
    clear hE hI hP
    have HX := Lib.hid (boxed2_ext w v0 v1 v2)
    have HR := Lib.hid (boxed2_row w v0 v1 v2)
    have HQ := Lib.hid (boxed2_res w v0 v1 v2)
    by_cases hg : Good N
    · have G := Lib.hid (dec_true hg)
      by_cases hn : NodeOK N x
      · have G2 := Lib.hid (dec_true hn)
        have G3 := Lib.hid (dec_false (p := NodeOK N z) fun j => hall ⟨hg, hn, j⟩)
        clear hall hg hn
        go_enter Try.func48, Try.ntmps48
        go_wp2_with fail
        (with_reducible refine (isNetwork_any (HN.out.ext HX.out)).mono ?_)
        rintro e w1 ⟨rfl, hw⟩
        rw [G.out]
        have K1 := Lib.hid (HX.out.trans' hw)
        have R1 := Lib.hid (row_ext HR.out hw)
        have Q1 := Lib.hid (row_ext HQ.out hw)
        obtain ⟨p0, p1, p2, _, _, _⟩ := row3_facts R1.out
        clear hw
        go_wp2_with fail
        (with_reducible refine (hasNode_any _ (HN.out.ext K1.out)).mono ?_)
        rintro e w2 ⟨rfl, hw⟩
        rw [G2.out]
        have K2 := Lib.hid (K1.out.trans' hw)
        have R2 := Lib.hid (row_ext R1.out hw)
        have Q2 := Lib.hid (row_ext Q1.out hw)
        clear hw p0 p1 p2
        obtain ⟨p0, p1, p2, _, _, _⟩ := row3_facts R2.out
        go_wp2_with fail
        (with_reducible refine (hasNode_any _ (HN.out.ext K2.out)).mono ?_)
        rintro e w3 ⟨rfl, hw⟩
        rw [G3.out]
        have K3 := Lib.hid (K2.out.trans' hw)
        obtain ⟨q0, q1, q2, t0, t1, t2⟩ := row3_facts (row_ext Q2.out hw)
        clear hw p0 p1 p2
        go_wp2
        refine bodyPost_ret (v := .tuple #[znet, .bool false]) (by simp [results, Try.results48, go_sem, q0, q1, q2, znet]) rfl ⟨_, [], ret_net D.out.symm, store3_ext K3.out (by omega) _ _ _, by rw [E.out]; exact own_zero _, Fresh.nil _⟩
      · have G2 := Lib.hid (dec_false hn)
        clear hall hg hn
        go_enter Try.func48, Try.ntmps48
        go_wp2_with fail
        (with_reducible refine (isNetwork_any (HN.out.ext HX.out)).mono ?_)
        rintro e w1 ⟨rfl, hw⟩
        rw [G.out]
        have K1 := Lib.hid (HX.out.trans' hw)
        have Q1 := Lib.hid (row_ext HQ.out hw)
        obtain ⟨p0, p1, p2, _, _, _⟩ := row3_facts (row_ext HR.out hw)
        clear hw
        go_wp2_with fail
        (with_reducible refine (hasNode_any _ (HN.out.ext K1.out)).mono ?_)
        rintro e w2 ⟨rfl, hw⟩
        rw [G2.out]
        have K2 := Lib.hid (K1.out.trans' hw)
        obtain ⟨q0, q1, q2, t0, t1, t2⟩ := row3_facts (row_ext Q1.out hw)
        clear hw p0 p1 p2
        go_wp2
        refine bodyPost_ret (v := .tuple #[znet, .bool false]) (by simp [results, Try.results48, go_sem, q0, q1, q2, znet]) rfl ⟨_, [], ret_net D.out.symm, store3_ext K2.out (by omega) _ _ _, by rw [E.out]; exact own_zero _, Fresh.nil _⟩
    · have G := Lib.hid (dec_false hg)
      clear hall hg
      go_enter Try.func48, Try.ntmps48
      go_wp2_with (first | (go_at_call 22; (with_reducible refine (isNetwork_any (HN.out.ext HX.out)).mono ?_); rintro e w1 ⟨rfl, hw⟩; rw [G.out]; have K1 := Lib.hid (HX.out.trans' hw); obtain ⟨q0, q1, q2, t0, t1, t2⟩ := row3_facts (row_ext HQ.out hw); clear hw))
      refine bodyPost_ret (v := .tuple #[znet, .bool false]) (by simp [results, Try.results48, go_sem, q0, q1, q2, znet]) rfl ⟨_, [], ret_net D.out.symm, store3_ext K1.out (by omega) _ _ _, by rw [E.out]; exact own_zero _, Fresh.nil _⟩
end Go.Proofs.Ytndgbildkeglfaa
