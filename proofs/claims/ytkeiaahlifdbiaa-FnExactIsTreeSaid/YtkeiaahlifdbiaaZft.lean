/- IsTree. -/
import Derived.Test.YtkeiaahlifdbiaaZfi
namespace Go.Proofs.Ytkeiaahlifdbiaa
open Go.RowKit

def TreeB (N : Net) : Prop := ForB N ∧ Conn N
set_option maxHeartbeats 3200000 in
set_option maxRecDepth 100000 in
theorem treeX_any {w : World} {vn : Value} {N : Net} (h : NetAt w vn N) :
    Calls Try.prog 60 #[vn] w fun e w' => e = .returned (.tuple #[.bool (dec (TreeB N)), .bool (dec (Good N))]) ∧ Ext w w' := by
  have HA := Lib.hid h
  obtain ⟨v0, v1, v2, rfl, hEa, -, -⟩ := h
  clear hEa
  obtain ⟨W1, hW1⟩ : ∃ W1, W1 = w.alloc (.cells #[v0, v1, v2] 29) := ⟨_, rfl⟩
  have K0 := Lib.hid (show Ext w W1 by rw [hW1]; exact boxed_ext _ _ _ _ _)
  have R0 := Lib.hid (show W1.rowIs w.heap.size 29 3 (tri (v0) v1 v2) by rw [hW1]; exact boxed_row _ _ _ _ _)
  obtain ⟨p0, p1, p2, -, -, -⟩ := row3_facts R0.out
  rw [hW1] at p0 p1 p2
  go_enter Try.func60, Try.ntmps60
  go_wp2_with fail
  rw [← hW1]
  clear hW1 p0 p1 p2
  (with_reducible refine (forestX_any (HA.out.ext K0.out)).mono ?_)
  rintro e w1 ⟨rfl, hw⟩
  have K1 := Lib.hid (K0.out.trans' hw)
  have R1 := Lib.hid (row_ext R0.out hw)
  clear hw
  by_cases hf : ForB N
  · rw [dec_true hf]
    obtain ⟨p0, p1, p2, -, -, -⟩ := row3_facts R1.out
    go_wp2_with fail
    clear p0 p1 p2
    (with_reducible refine (isConnected_any (HA.out.ext K1.out)).mono ?_)
    rintro e w2 ⟨rfl, hw⟩
    have K2 := Lib.hid (K1.out.trans' hw)
    have E := Lib.hid (show dec (GC N) = dec (TreeB N) by
      by_cases hc : Conn N
      · rw [dec_true (show GC N from ⟨hf.1, hc⟩), dec_true (show TreeB N from ⟨hf, hc⟩)]
      · rw [dec_false (show ¬ GC N from fun k => hc k.2), dec_false (show ¬ TreeB N from fun k => hc k.2)])
    rw [E.out]
    clear hw hf
    go_wp2
    go_ret2
    exact ⟨rfl, K2.out⟩
  · have D := Lib.hid (dec_false (show ¬ TreeB N from fun k => hf k.1))
    rw [dec_false hf]
    clear hf
    go_wp2
    go_ret2
    exact ⟨ret_bf D.out.symm rfl, K1.out⟩

set_option maxHeartbeats 3200000 in
set_option maxRecDepth 100000 in
theorem meTree_any {w : World} {vn : Value} {N : Net} (h : NetAt w vn N) (hg : Good N) :
    Calls Try.prog 113 #[vn] w fun e w' => e = .returned (.bool (dec (TreeB N))) ∧ Ext w w' := by
  have HA := Lib.hid h
  have HG := Lib.hid hg
  obtain ⟨v0, v1, v2, rfl, hEa, -, -⟩ := h
  clear hEa hg
  obtain ⟨W1, hW1⟩ : ∃ W1, W1 = w.alloc (.cells #[v0, v1, v2] 29) := ⟨_, rfl⟩
  have K0 := Lib.hid (show Ext w W1 by rw [hW1]; exact boxed_ext _ _ _ _ _)
  have R0 := Lib.hid (show W1.rowIs w.heap.size 29 3 (tri (v0) v1 v2) by rw [hW1]; exact boxed_row _ _ _ _ _)
  obtain ⟨p0, p1, p2, -, -, -⟩ := row3_facts R0.out
  rw [hW1] at p0 p1 p2
  go_enter Try.func113, Try.ntmps113
  go_wp2_with fail
  rw [← hW1]
  clear hW1 p0 p1 p2
  (with_reducible refine (meForest_any (HA.out.ext K0.out) HG.out).mono ?_)
  rintro e w1 ⟨rfl, hw⟩
  have K1 := Lib.hid (K0.out.trans' hw)
  have R1 := Lib.hid (row_ext R0.out hw)
  clear hw
  by_cases hf : NoCyc N
  · rw [dec_true hf]
    obtain ⟨p0, p1, p2, -, -, -⟩ := row3_facts R1.out
    go_wp2_with fail
    clear p0 p1 p2
    (with_reducible refine (meConnected_any (HA.out.ext K1.out) (good_w HG.out)).mono ?_)
    rintro e w2 ⟨rfl, hw⟩
    have K2 := Lib.hid (K1.out.trans' hw)
    have E := Lib.hid (show dec (Conn N) = dec (TreeB N) by
      by_cases hc : Conn N
      · rw [dec_true hc, dec_true (show TreeB N from ⟨⟨HG.out, hf⟩, hc⟩)]
      · rw [dec_false hc, dec_false (show ¬ TreeB N from fun k => hc k.2)])
    rw [E.out]
    clear hw hf
    go_wp2
    go_ret
    exact ⟨rfl, K2.out⟩
  · have D := Lib.hid (dec_false (show ¬ TreeB N from fun k => hf k.1.2))
    rw [dec_false hf]
    clear hf
    go_wp2
    go_ret
    exact ⟨ret_bool D.out.symm, K1.out⟩

set_option maxHeartbeats 6400000 in
set_option maxRecDepth 100000 in
theorem specTree_any {w : World} {vn : Value} {N : Net} (h : NetAt w vn N) :
    Calls Try.prog 59 #[vn] w fun e w' => e = .returned (.tuple #[.bool (dec (TreeB N)), .bool (dec (Good N))]) ∧ Ext w w' := by
  have HA := Lib.hid h
  obtain ⟨v0, v1, v2, rfl, hEa, -, -⟩ := h
  clear hEa
  obtain ⟨W1, hW1⟩ : ∃ W1, W1 = w.alloc (.cells #[v0, v1, v2] 29) := ⟨_, rfl⟩
  have K0 := Lib.hid (show Ext w W1 by rw [hW1]; exact boxed_ext _ _ _ _ _)
  have R0 := Lib.hid (show W1.rowIs w.heap.size 29 3 (tri (v0) v1 v2) by rw [hW1]; exact boxed_row _ _ _ _ _)
  obtain ⟨p0, p1, p2, -, -, -⟩ := row3_facts R0.out
  rw [hW1] at p0 p1 p2
  by_cases hg0 : Good N
  case neg =>
    have G0 := Lib.hid (dec_false hg0)
    have D := Lib.hid (dec_false (p := Good N) fun h => hg0 (h))
    have NB := Lib.hid (show ¬ (Good N) from fun h => hg0 (h))
    clear hg0
    go_enter Try.func59, Try.ntmps59
    go_wp2_with fail
    rw [← hW1]
    clear hW1 p0 p1 p2
    (with_reducible refine (neGood_any (HA.out.ext K0.out)).mono ?_)
    rintro e w1g ⟨rfl, hxg⟩
    rw [G0.out]
    have K1 := Lib.hid (K0.out.trans' hxg)
    have R1 := Lib.hid (row_ext R0.out hxg)
    clear hxg
    obtain ⟨p0, p1, p2, -, -, -⟩ := row3_facts R1.out
    go_wp2
    go_ret2
    exact ⟨ret_bf (dec_false (show ¬ TreeB N from fun h => NB.out h.1.1)).symm D.out.symm, K1.out⟩
  have G0 := Lib.hid (dec_true hg0)
  have H0 := Lib.hid hg0
  clear hg0
  have D := Lib.hid (dec_true H0.out)
  go_enter Try.func59, Try.ntmps59
  go_wp2_with fail
  rw [← hW1]
  clear hW1 p0 p1 p2
  (with_reducible refine (neGood_any (HA.out.ext K0.out)).mono ?_)
  rintro e w1g ⟨rfl, hxg⟩
  rw [G0.out]
  have K1 := Lib.hid (K0.out.trans' hxg)
  have R1 := Lib.hid (row_ext R0.out hxg)
  clear hxg
  obtain ⟨p0, p1, p2, -, -, -⟩ := row3_facts R1.out
  go_wp2_with fail
  clear p0 p1 p2
  (with_reducible refine (meTree_any (HA.out.ext K1.out) H0.out).mono ?_)
  rintro e wz ⟨rfl, hxz⟩
  have KZ := Lib.hid (K1.out.trans' hxz)
  clear hxz
  go_wp2
  go_ret2
  exact ⟨ret_bf rfl D.out.symm, KZ.out⟩
end Go.Proofs.Ytkeiaahlifdbiaa
