/- The contract of the model's KeepNodes. -/
import Derived.Test.YtpkgghkibgadnaaKo
import Derived.Test.YtpkgghkibgadnaaKq
namespace Go.Proofs.Ytpkgghkibgadnaa
open Go.RowKit

set_option maxHeartbeats 1600000 in
set_option maxRecDepth 100000 in
theorem specKeepNodes_any {w : World} {v vl : Value} {N : Net} {l : List Int} (h : NetAt w v N) (hl : IntSl w vl l) :
    Calls Try.prog 8 #[v, vl] w fun e w' => ∃ v' bs, e = .returned (.tuple #[v', .bool (dec (KeepB N l))]) ∧ Ext w w' ∧ OwnNet w' v' (keepAns N l) bs ∧ Fresh w bs := by
  have HN := Lib.hid h
  have HL := Lib.hid hl
  obtain ⟨w0, v1, v2, rfl, hE, hI, hP⟩ := h
  obtain ⟨ea, _, _, ec, rfl, _, _, em, _⟩ := hE
  obtain ⟨la, _, _, lc, rfl, _, hll, hlm, _⟩ := hl
  unfold maxLen at em hlm
  clear hI hP
  have HX := Lib.hid (boxed2_ext w (.slice ea N.ends.length ec) v1 v2)
  have HR := Lib.hid (boxed2_row w (.slice ea N.ends.length ec) v1 v2)
  have HQ := Lib.hid (boxed2_res w (.slice ea N.ends.length ec) v1 v2)
  by_cases hg : Good N
  case neg =>
    have G := Lib.hid (dec_false hg)
    have D : Hid (dec (KeepB N l) = false) := dec_false fun k => hg k.1
    have E : Hid (keepAns N l = zeroNet) := keepAns_f fun k => hg k.1
    clear hg
    go_enter Try.func8, Try.ntmps8
    go_wp2_with fail
    (with_reducible refine (neGood_any (HN.out.ext HX.out)).mono ?_)
    rintro e w1 ⟨rfl, hw⟩
    rw [G.out]
    have K1 := Lib.hid (HX.out.trans' hw)
    have R1 := Lib.hid (row_ext HR.out hw)
    have Q1 := Lib.hid (row_ext HQ.out hw)
    obtain ⟨p0, p1, p2, -, -, -⟩ := row3_facts R1.out
    clear hw
    clear p0 p1 p2
    obtain ⟨q0, q1, q2, t0, t1, t2⟩ := row3_facts Q1.out
    go_wp2
    refine bodyPost_ret (v := .tuple #[znet, .bool false]) (by simp [results, Try.results8, go_sem, q0, q1, q2, znet]) rfl ⟨_, [], ret_net D.out.symm, store3_ext K1.out (by omega) _ _ _, by rw [E.out]; exact own_zero _, Fresh.nil _⟩
  have G := Lib.hid (dec_true hg)
  have GG := Lib.hid hg
  have h40 := hg.1.2
  have h01 := hg.1.1
  by_cases h0 : 0 < l.length
  case neg =>
    have hb0 : ((l.length : Int) == 0) = true := beq_iff_eq.2 (by omega)
    have D : Hid (dec (KeepB N l) = false) := dec_false fun k => h0 k.2.1
    have E : Hid (keepAns N l = zeroNet) := keepAns_f fun k => h0 k.2.1
    clear hg h0
    go_enter Try.func8, Try.ntmps8
    go_wp2_with fail
    (with_reducible refine (neGood_any (HN.out.ext HX.out)).mono ?_)
    rintro e w1 ⟨rfl, hw⟩
    rw [G.out]
    have K1 := Lib.hid (HX.out.trans' hw)
    have R1 := Lib.hid (row_ext HR.out hw)
    have Q1 := Lib.hid (row_ext HQ.out hw)
    obtain ⟨p0, p1, p2, -, -, -⟩ := row3_facts R1.out
    clear hw
    clear p0 p1 p2
    obtain ⟨q0, q1, q2, t0, t1, t2⟩ := row3_facts Q1.out
    go_wp2
    refine bodyPost_ret (v := .tuple #[znet, .bool false]) (by simp [results, Try.results8, go_sem, q0, q1, q2, znet]) rfl ⟨_, [], ret_net D.out.symm, store3_ext K1.out (by omega) _ _ _, by rw [E.out]; exact own_zero _, Fresh.nil _⟩
  have hb0 : ((l.length : Int) == 0) = false := beq_eq_false_iff_ne.2 (by omega)
  have H0 := Lib.hid h0
  clear h0
  by_cases hb : Inc l 0 ((N.ends.length : Int) - 1)
  case neg =>
    have BD := Lib.hid (dec_false hb)
    have D : Hid (dec (KeepB N l) = false) := dec_false fun k => hb k.2.2
    have E : Hid (keepAns N l = zeroNet) := keepAns_f fun k => hb k.2.2
    clear hg hb
    go_enter Try.func8, Try.ntmps8
    go_wp2_with fail
    (with_reducible refine (neGood_any (HN.out.ext HX.out)).mono ?_)
    rintro e w1 ⟨rfl, hw⟩
    rw [G.out]
    have K1 := Lib.hid (HX.out.trans' hw)
    have R1 := Lib.hid (row_ext HR.out hw)
    have Q1 := Lib.hid (row_ext HQ.out hw)
    obtain ⟨p0, p1, p2, -, -, -⟩ := row3_facts R1.out
    clear hw
    go_wp2_with fail
    (with_reducible refine (l1Rising_any 0 ((N.ends.length : Int) - 1) (HL.out.ext K1.out)).mono ?_)
    rintro e w2 ⟨rfl, rfl⟩
    rw [BD.out]
    clear p0 p1 p2
    obtain ⟨q0, q1, q2, t0, t1, t2⟩ := row3_facts Q1.out
    go_wp2
    refine bodyPost_ret (v := .tuple #[znet, .bool false]) (by simp [results, Try.results8, go_sem, q0, q1, q2, znet]) rfl ⟨_, [], ret_net D.out.symm, store3_ext K1.out (by omega) _ _ _, by rw [E.out]; exact own_zero _, Fresh.nil _⟩
  have BD := Lib.hid (dec_true hb)
  have HB := Lib.hid hb
  have D : Hid (dec (KeepB N l) = true) := dec_true ⟨hg, H0.out, hb⟩
  have E : Hid (keepAns N l = keepNet N l) := keepAns_t ⟨hg, H0.out, hb⟩
  clear hg hb
  go_enter Try.func8, Try.ntmps8
  go_wp2_with fail
  (with_reducible refine (neGood_any (HN.out.ext HX.out)).mono ?_)
  rintro e w1 ⟨rfl, hw⟩
  rw [G.out]
  have K1 := Lib.hid (HX.out.trans' hw)
  have R1 := Lib.hid (row_ext HR.out hw)
  have Q1 := Lib.hid (row_ext HQ.out hw)
  obtain ⟨p0, p1, p2, -, -, -⟩ := row3_facts R1.out
  clear hw
  go_wp2_with fail
  (with_reducible refine (l1Rising_any 0 ((N.ends.length : Int) - 1) (HL.out.ext K1.out)).mono ?_)
  rintro e w2 ⟨rfl, rfl⟩
  rw [BD.out]
  clear p0 p1 p2
  obtain ⟨p0, p1, p2, -, -, -⟩ := row3_facts R1.out
  go_wp2_with fail
  (with_reducible refine (neKeep_any (HN.out.ext K1.out) (HL.out.ext K1.out) GG.out HB.out).mono ?_)
  rintro e w3 ⟨z, bs, rfl, hw, ho, hf⟩
  obtain ⟨a0, c0, a1, c1, a2, c2, rfl⟩ := ho.agg
  have K3 := Lib.hid (K1.out.trans' hw)
  have O3 := Lib.hid ho
  have N3 := Lib.hid hf.1
  have B3 := Lib.hid (show ∀ b ∈ bs, w.heap.size + 2 ≤ b from fun b hb => by have := hf.2 b hb; have := Q1.out.lt; omega)
  obtain ⟨u0, u1, u2, s0, s1, s2⟩ := row3_facts (row_ext Q1.out hw)
  clear hw ho hf p0 p1 p2
  go_wp2
  refine bodyPost_ret (v := .tuple #[.agg #[.slice a0 (keepNet N l).ends.length c0, .slice a1 (keepNet N l).ids.length c1, .slice a2 (keepNet N l).inputs.length c2], .bool true]) (by simp [results, Try.results8, go_sem, u0, u1, u2]) rfl ?_
  have hc := close_net K3.out O3.out N3.out B3.out
  exact ⟨_, bs, ret_net D.out.symm, hc.1, by rw [E.out]; exact hc.2.1, hc.2.2⟩
theorem specKeepNodesL_any {w : World} {v vl : Value} {N : Net} {l : List Int} (h : NetAt w v N) (hl : IntSl w vl l) (_ : l.length ≤ 1048576) :
    Calls Try.prog 8 #[v, vl] w fun e w' => ∃ v' bs, e = .returned (.tuple #[v', .bool (dec (KeepB N l))]) ∧ Ext w w' ∧ OwnNet w' v' (keepAns N l) bs ∧ Fresh w bs := specKeepNodes_any h hl
theorem keepNodesL_any {w : World} {v vl : Value} {N : Net} {l : List Int} (h : NetAt w v N) (hl : IntSl w vl l) (_ : l.length ≤ 1048576) :
    Calls Try.prog 11 #[v, vl] w fun e w' => ∃ v' bs, e = .returned (.tuple #[v', .bool (dec (KeepB N l))]) ∧ Ext w w' ∧ OwnNet w' v' (keepAns N l) bs ∧ Fresh w bs := keepNodes_any h hl
end Go.Proofs.Ytpkgghkibgadnaa
