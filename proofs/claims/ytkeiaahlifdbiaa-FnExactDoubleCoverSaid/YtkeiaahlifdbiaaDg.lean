/- The contract of the model's DoubleCover. -/
import Derived.Test.YtkeiaahlifdbiaaDf
namespace Go.Proofs.Ytkeiaahlifdbiaa
open Go.RowKit

set_option maxHeartbeats 3200000 in
set_option maxRecDepth 100000 in
theorem specDoubleCover_any {w : World} {v : Value} {N : Net} (h : NetAt w v N) :
    Calls Try.prog 21 #[v] w fun e w' => ∃ v' bs, e = .returned (.tuple #[v', .bool (dec (DCOK N))]) ∧ Ext w w' ∧ OwnNet w' v' (dcAns N) bs ∧ Fresh w bs := by
  have HN := Lib.hid h
  obtain ⟨a0, c0, a1, c1, a2, c2, rfl⟩ := h.form
  obtain ⟨W0, hW0⟩ : ∃ W0, W0 = (w.alloc (.cells #[.slice a0 N.ends.length c0, .slice a1 N.ids.length c1, .slice a2 N.inputs.length c2] 29)).alloc (.cells #[.slice none 0 0, .slice none 0 0, .slice none 0 0] 29) := ⟨_, rfl⟩
  have EW := Lib.hid (show Ext w W0 by rw [hW0]; exact ((Ext.rfl' w).alloc' _).alloc' _)
  have RN := Lib.hid (show W0.rowIs w.heap.size 29 3 (tri (.slice a0 N.ends.length c0) (.slice a1 N.ids.length c1) (.slice a2 N.inputs.length c2)) by rw [hW0]; exact row_ext (row3_made w _ _ _ _) ((Ext.rfl' _).alloc' _))
  have RQ := Lib.hid (show W0.rowIs (w.heap.size + 1) 29 3 (tri (.slice none 0 0) (.slice none 0 0) (.slice none 0 0)) by rw [hW0]; simpa using row3_made (w.alloc (.cells #[.slice a0 N.ends.length c0, .slice a1 N.ids.length c1, .slice a2 N.inputs.length c2] 29)) (.slice none 0 0) (.slice none 0 0) (.slice none 0 0) 29)
  have ZW := Lib.hid (show W0.heap.size = w.heap.size + 2 by rw [hW0]; simp)
  obtain ⟨p0, p1, p2, -, -, -⟩ := row3_facts RN.out
  clear h
  go_enter Try.func21, Try.ntmps21
  go_wp2_with fail
  rw [← hW0]
  clear hW0
  (with_reducible refine (neGood_any (HN.out.ext EW.out)).mono ?_)
  rintro e w1 ⟨rfl, hw⟩
  have X1 := Lib.hid (EW.out.trans' hw)
  obtain ⟨s0, s1, s2, -, -, -⟩ := row3_facts (row_ext RN.out hw)
  have RQ1 := Lib.hid (row_ext RQ.out hw)
  have hwz := hw.size
  have ZW1 := Lib.hid (show w.heap.size + 2 ≤ w1.heap.size by have := ZW.out; omega)
  clear hw p0 p1 p2 hwz
  by_cases hg : Good N
  · rw [dec_true hg]
    have HG := Lib.hid hg
    clear hg
    go_wp2_with fail
    (with_reducible refine (buDouble_any (HN.out.ext X1.out) HG.out).mono ?_)
    rintro e w2 ⟨v', bs, rfl, hw, ho, hf⟩
    obtain ⟨b0, d0, b1, d1, b2, d2, rfl⟩ := ho.agg
    have X2 := Lib.hid (X1.out.trans' hw)
    have RQ2 := Lib.hid (row_ext RQ1.out hw)
    have O2 := Lib.hid ho
    have F2 : Hid (bs.Nodup ∧ ∀ b ∈ bs, w.heap.size ≤ b ∧ b ≠ w.heap.size + 1) := ⟨hf.1, fun b hb => by have := hf.2 b hb; have := ZW1.out; omega⟩
    clear hw ho hf s0 s1 s2
    by_cases h40 : N.ends.length + N.ends.length ≤ 40
    · have D := Lib.hid (dec_true (show DCOK N from ⟨HG.out, h40⟩))
      have E := Lib.hid (dcAns_t (show DCOK N from ⟨HG.out, h40⟩))
      have GD := Lib.hid (dc_good HG.out h40)
      clear h40
      go_wp2_with fail
      (with_reducible refine (neIf_t O2.out.read GD.out).mono ?_)
      rintro e w7 ⟨rfl, hw⟩
      have K7 := Lib.hid (X2.out.trans' hw)
      obtain ⟨u0, u1, u2, v0, v1, v2⟩ := row3_facts (row_ext RQ2.out hw)
      have O7 := Lib.hid (O2.out.ext hw)
      clear hw
      go_wp2
      have hc := close_at K7.out (show w.heap.size ≤ w.heap.size + 1 by omega) O7.out F2.out.1 F2.out.2
      refine bodyPost_ret (v := .tuple #[.agg #[.slice b0 (dcNet N).ends.length d0, .slice b1 (dcNet N).ids.length d1, .slice b2 (dcNet N).inputs.length d2], .bool true]) (by simp [results, Try.results21, go_sem, u0, u1, u2]) rfl ⟨_, bs, ret_net D.out.symm, hc.1, by rw [E.out]; exact hc.2.1, hc.2.2⟩
    · have D := Lib.hid (dec_false (show ¬ DCOK N from fun k => h40 k.2))
      have E := Lib.hid (dcAns_f (show ¬ DCOK N from fun k => h40 k.2))
      have GD := Lib.hid (dc_bad h40)
      clear h40
      go_wp2_with fail
      (with_reducible refine (neIf_f O2.out.read GD.out).mono ?_)
      rintro e w7 ⟨rfl, hw⟩
      unfold znet
      have K7 := Lib.hid (X2.out.trans' hw)
      obtain ⟨u0, u1, u2, v0, v1, v2⟩ := row3_facts (row_ext RQ2.out hw)
      clear hw
      go_wp2
      refine bodyPost_ret (v := .tuple #[znet, .bool false]) (by simp [results, Try.results21, go_sem, u0, u1, u2, znet]) rfl ⟨_, [], ret_net D.out.symm, store3_ext K7.out (by omega) _ _ _, by rw [E.out]; exact own_zero _, Fresh.nil _⟩
  · rw [dec_false hg]
    have D := Lib.hid (dec_false (show ¬ DCOK N from fun k => hg k.1))
    have E := Lib.hid (dcAns_f (show ¬ DCOK N from fun k => hg k.1))
    obtain ⟨u0, u1, u2, v0, v1, v2⟩ := row3_facts RQ1.out
    clear hg
    go_wp2_with fail
    refine bodyPost_ret (v := .tuple #[znet, .bool false]) (by simp [results, Try.results21, go_sem, u0, u1, u2, znet]) rfl ⟨_, [], ret_net D.out.symm, store3_ext X1.out (by omega) _ _ _, by rw [E.out]; exact own_zero _, Fresh.nil _⟩
end Go.Proofs.Ytkeiaahlifdbiaa
