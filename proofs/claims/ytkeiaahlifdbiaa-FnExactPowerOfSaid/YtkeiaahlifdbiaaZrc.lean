/- The program's PowerOf. -/
import Derived.Test.YtkeiaahlifdbiaaZrb
namespace Go.Proofs.Ytkeiaahlifdbiaa
open Go.RowKit

set_option maxHeartbeats 3200000 in
set_option maxRecDepth 100000 in
theorem powerX_any {w : World} {v : Value} {N : Net} (kk : Int) (h : NetAt w v N) :
    Calls Try.prog 66 #[v, .int .i64 kk] w fun e w' => ∃ v' bs, e = .returned (.tuple #[v', .bool (dec (PowB N kk))]) ∧ Ext w w' ∧ OwnNet w' v' (powAns N kk) bs ∧ Fresh w bs := by
  have HN := Lib.hid h
  obtain ⟨v0, v1, v2, rfl, hE, -, -⟩ := h
  clear hE
  obtain ⟨W0, hW0⟩ : ∃ W0, W0 = (w.alloc (.cells #[v0, v1, v2] 29)).alloc (.cells #[.slice none 0 0, .slice none 0 0, .slice none 0 0] 29) := ⟨_, rfl⟩
  have EW := Lib.hid (show Ext w W0 by rw [hW0]; exact ((Ext.rfl' w).alloc' _).alloc' _)
  have RN := Lib.hid (show W0.rowIs w.heap.size 29 3 (tri v0 v1 v2) by rw [hW0]; exact row_ext (row3_made w _ _ _ _) ((Ext.rfl' _).alloc' _))
  have RQ := Lib.hid (show W0.rowIs (w.heap.size + 1) 29 3 (tri (.slice none 0 0) (.slice none 0 0) (.slice none 0 0)) by rw [hW0]; simpa using row3_made (w.alloc (.cells #[v0, v1, v2] 29)) (.slice none 0 0) (.slice none 0 0) (.slice none 0 0) 29)
  have ZW := Lib.hid (show W0.heap.size = w.heap.size + 2 by rw [hW0]; simp)
  obtain ⟨p0, p1, p2, -, -, -⟩ := row3_facts RN.out
  rw [hW0] at p0 p1 p2
  by_cases hg : Good N
  case neg =>
    have G := Lib.hid (dec_false hg)
    have D := Lib.hid (dec_false (show ¬ PowB N kk from fun k => hg k.1.1))
    have A := Lib.hid (powAns_f (show ¬ PowB N kk from fun k => hg k.1.1))
    clear hg
    go_enter Try.func66, Try.ntmps66
    go_wp2_with fail
    rw [← hW0]
    clear hW0 p0 p1 p2
    (with_reducible refine (isNetwork_any (HN.out.ext EW.out)).mono ?_)
    rintro e w1 ⟨rfl, hw⟩
    rw [G.out]
    have X1 := Lib.hid hw
    obtain ⟨q0, q1, q2, t0, t1, t2⟩ := row3_facts (row_ext RQ.out hw)
    clear hw
    go_wp2
    refine bodyPost_ret (v := .tuple #[znet, .bool false]) (by simp [results, Try.results66, go_sem, q0, q1, q2, znet]) rfl ⟨_, [], ret_net D.out.symm, store3_ext (EW.out.trans' X1.out) (by omega) _ _ _, by rw [A.out]; exact own_zero _, Fresh.nil _⟩
  have G := Lib.hid (dec_true hg)
  have GN := Lib.hid hg
  clear hg
  by_cases hk : InB kk 1 40
  case neg =>
    have G2 := Lib.hid (dec_false hk)
    have D := Lib.hid (dec_false (show ¬ PowB N kk from fun k => hk k.1.2))
    have A := Lib.hid (powAns_f (show ¬ PowB N kk from fun k => hk k.1.2))
    clear hk
    go_enter Try.func66, Try.ntmps66
    go_wp2_with fail
    rw [← hW0]
    clear hW0 p0 p1 p2
    (with_reducible refine (isNetwork_any (HN.out.ext EW.out)).mono ?_)
    rintro e w1 ⟨rfl, hw⟩
    rw [G.out]
    have X1 := Lib.hid hw
    obtain ⟨q0, q1, q2, t0, t1, t2⟩ := row3_facts (row_ext RQ.out hw)
    clear hw
    go_wp2_with (first | (go_at_call 88; (with_reducible refine (isBetween_any _ _ _ _).mono ?_); rintro e _ ⟨rfl, rfl⟩; rw [G2.out]) | fail)
    refine bodyPost_ret (v := .tuple #[znet, .bool false]) (by simp [results, Try.results66, go_sem, q0, q1, q2, znet]) rfl ⟨_, [], ret_net D.out.symm, store3_ext (EW.out.trans' X1.out) (by omega) _ _ _, by rw [A.out]; exact own_zero _, Fresh.nil _⟩
  have G2 := Lib.hid (dec_true hk)
  have HK := Lib.hid hk
  clear hk
  go_enter Try.func66, Try.ntmps66
  go_wp2_with fail
  rw [← hW0]
  clear hW0 p0 p1 p2
  (with_reducible refine (isNetwork_any (HN.out.ext EW.out)).mono ?_)
  rintro e w1 ⟨rfl, hw⟩
  rw [G.out]
  have X1 := Lib.hid hw
  obtain ⟨p0, p1, p2, -, -, -⟩ := row3_facts (row_ext RN.out hw)
  clear hw
  go_wp2_with fail
  (with_reducible refine (isBetween_any _ _ _ _).mono ?_)
  rintro e _ ⟨rfl, rfl⟩
  rw [G2.out]
  go_wp2_with fail
  clear p0 p1 p2
  (with_reducible refine (joinNear_any kk (HN.out.ext (EW.out.trans' X1.out)) GN.out).mono ?_)
  rintro e w6 ⟨y, bs, rfl, hw, ho, hf⟩
  obtain ⟨a0, c0, a1, c1, a2, c2, rfl⟩ := ho.agg
  have X6 := Lib.hid (EW.out.trans' (X1.out.trans' hw))
  have HM := Lib.hid (show OwnNet w6 _ (pow N kk) bs ∧ bs.Nodup ∧ ∀ b ∈ bs, W0.heap.size ≤ b from ⟨ho, hf.1, fun b hb => Nat.le_trans X1.out.size (hf.2 b hb)⟩)
  have RQ6 := Lib.hid (row_ext RQ.out (X1.out.trans' hw))
  clear hw ho hf
  by_cases hb : Good (pow N kk)
  case pos =>
    have Bt := Lib.hid (show PowB N kk from ⟨⟨GN.out, HK.out⟩, hb⟩)
    have HGP := Lib.hid hb
    clear hb
    go_wp2_with fail
    (with_reducible refine (networkOrNone_t HM.out.1.read HGP.out).mono ?_)
    rintro e w7 ⟨rfl, hw⟩
    have K7 := Lib.hid (X6.out.trans' hw)
    obtain ⟨u0, u1, u2, v0, v1, v2⟩ := row3_facts (row_ext RQ6.out hw)
    have O7 := Lib.hid (HM.out.1.ext hw)
    have D := Lib.hid (dec_true Bt.out)
    have E := Lib.hid (powAns_t Bt.out)
    clear hw
    go_wp2
    refine bodyPost_ret (v := .tuple #[.agg #[.slice a0 (pow N kk).ends.length c0, .slice a1 (pow N kk).ids.length c1, .slice a2 (pow N kk).inputs.length c2], .bool true]) (by simp [results, Try.results66, go_sem, u0, u1, u2]) rfl ?_
    have hc := close_at K7.out (show w.heap.size ≤ w.heap.size + 1 by omega) O7.out HM.out.2.1 (q := w.heap.size + 1) (fun b hb => by have := HM.out.2.2 b hb; have := ZW.out; omega)
    exact ⟨_, _, ret_net D.out.symm, hc.1, by rw [E.out]; exact hc.2.1, hc.2.2⟩
  case neg =>
    have Bt := Lib.hid (show ¬ PowB N kk from fun k => hb k.2)
    have HGP := Lib.hid hb
    clear hb
    go_wp2_with fail
    (with_reducible refine (networkOrNone_f HM.out.1.read HGP.out).mono ?_)
    rintro e w7 ⟨rfl, hw⟩
    unfold znet
    have K7 := Lib.hid (X6.out.trans' hw)
    obtain ⟨u0, u1, u2, v0, v1, v2⟩ := row3_facts (row_ext RQ6.out hw)
    have D := Lib.hid (dec_false Bt.out)
    have E := Lib.hid (powAns_f Bt.out)
    clear hw
    go_wp2
    refine bodyPost_ret (v := .tuple #[znet, .bool false]) (by simp [results, Try.results66, go_sem, u0, u1, u2, znet]) rfl ⟨_, [], ret_net D.out.symm, store3_ext K7.out (by omega) _ _ _, by rw [E.out]; exact own_zero _, Fresh.nil _⟩
end Go.Proofs.Ytkeiaahlifdbiaa
