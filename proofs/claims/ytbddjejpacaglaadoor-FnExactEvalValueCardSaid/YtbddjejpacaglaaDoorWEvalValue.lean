/- The walk of FnExactEvalValue: whatever the arguments, the law answers true and changes nothing that was there. -/
import Derived.Test.YtbddjejpacaglaaDoorVqi
import Derived.Test.YtbddjejpacaglaaDoorKc
namespace Go.Proofs.YtbddjejpacaglaaDoor
open Go.RowKit

theorem eqValueOpS_same {w : World} {v1 v2 : Value} {l : List (Int × Int)} (h1 : EndSl w v1 l) (h2 : EndSl w v2 l) : Calls Tryd.prog 11 #[v1, v2] w fun e w' => e = .returned (.bool true) ∧ Ext w w' :=
  (eqValueOpS_any h1 h2).mono fun e w' ⟨he, hx⟩ => ⟨by rw [he]; simp, hx⟩
set_option maxHeartbeats 3200000 in
set_option maxRecDepth 100000 in
theorem walk_EvalValue {w : World} {v0 v5 : Value} {l : List (Int × Int)} {ln : List Int} (n1 n2 n3 n4 : Int) (h0 : EndSl w v0 l) (h5 : IntSl w v5 ln) (hi : inI64 n1) (hP : Pw w) :
    Calls Tryd.prog 6 #[v0, .int .i64 n1, .int .i64 n2, .int .i64 n3, .int .i64 n4, v5] w fun e w' => e = .returned (.bool true) ∧ Ext w w' := by
  have HN := Lib.hid h0
  have HL := Lib.hid h5
  have HP := Lib.hid hP
  have HOI := Lib.hid (show inI64 (Sg.mk n1 n2 n3 n4 ln).own from hi)
  obtain ⟨a0, _, _, c0, rfl, -, -, lm, -⟩ := h0
  obtain ⟨a5, _, _, c5, rfl, -, -, lm5, -⟩ := h5
  unfold maxLen at lm lm5
  clear hP hi
  have hbb : (dec (EvB ⟨n1, n2, n3, n4, ln⟩ l) != dec (EvB ⟨n1, n2, n3, n4, ln⟩ l)) = false := by simp
  have hmm : (evA ⟨n1, n2, n3, n4, ln⟩ l != evA ⟨n1, n2, n3, n4, ln⟩ l) = false := by simp
  by_cases hg : ln.length ≤ 1048576
  case neg =>
    go_enter Tryd.func6, Tryd.ntmps6
    go_wp2
    go_ret
    exact ⟨rfl, Ext.rfl' w⟩
  go_enter Tryd.func6, Tryd.ntmps6
  go_wp2_with fail
  (with_reducible refine (szValueOpS_any _ HN.out (by omega) (by omega)).mono ?_)
  rintro e _ ⟨r, rfl, rfl, h1, h2, h3⟩
  have S := Lib.hid h3
  clear h3
  by_cases hneg : r < 0
  case pos =>
    go_wp2
    go_ret
    exact ⟨rfl, Ext.rfl' w⟩
  case neg =>
    have hs : l.length ≤ 1048576 := by have := S.out (by omega); omega
    go_wp2_with fail
    (with_reducible refine (toValueOpS_own HN.out hs).mono ?_)
    rintro e w1 ⟨ya, yc, by0, rfl, hx, ho, -⟩
    have K1 := Lib.hid hx
    have O1 := Lib.hid ho.read
    clear hx ho
    go_wp2_with fail
    (with_reducible refine (toIntS_own (HL.out.ext K1.out) hg).mono ?_)
    rintro e w2 ⟨ia, ic, bi0, rfl, hx, ho, -⟩
    have K2 := Lib.hid (K1.out.trans' hx)
    have O2 := Lib.hid (O1.out.ext hx)
    have I2 := Lib.hid ho.read
    clear hx ho
    go_wp2_with fail
    (with_reducible refine (specEvalValue_any ⟨n1, n2, n3, n4, ln⟩ O2.out I2.out HOI.out).mono ?_)
    rintro e w3 ⟨rfl, hx⟩
    have K3 := Lib.hid (K2.out.trans' hx)
    clear hx
    go_wp2_with fail
    (with_reducible refine (toValueOpS_own (HN.out.ext K3.out) hs).mono ?_)
    rintro e w4 ⟨xa, xc, bx, rfl, hx, ho, -⟩
    have K4 := Lib.hid (K3.out.trans' hx)
    have O4 := Lib.hid ho.read
    clear hx ho
    go_wp2_with fail
    (with_reducible refine (toIntS_own (HL.out.ext K4.out) hg).mono ?_)
    rintro e w5 ⟨ja, jc, bj, rfl, hx, ho, -⟩
    have K5 := Lib.hid (K4.out.trans' hx)
    have O5 := Lib.hid (O4.out.ext hx)
    have I5 := Lib.hid ho.read
    clear hx ho
    go_wp2_with fail
    (with_reducible refine (implEvalValue_any ⟨n1, n2, n3, n4, ln⟩ O5.out I5.out HOI.out (HP.out.ext K5.out)).mono ?_)
    rintro e w6 ⟨rfl, hx⟩
    have K6 := Lib.hid (K5.out.trans' hx)
    have O6 := Lib.hid (O5.out.ext hx)
    have I6 := Lib.hid (I5.out.ext hx)
    clear hx
    go_wp2_with fail
    (with_reducible refine (toValueOpS_own (HN.out.ext K6.out) hs).mono ?_)
    rintro e w7 ⟨za, zc, bz, rfl, hx, ho, -⟩
    have K7 := Lib.hid (K6.out.trans' hx)
    have O7 := Lib.hid (O6.out.ext hx)
    have Z7 := Lib.hid ho.read
    have I7 := Lib.hid (I6.out.ext hx)
    clear hx ho
    go_wp2_with fail
    (with_reducible refine (eqValueOpS_same O7.out Z7.out).mono ?_)
    rintro e w8 ⟨rfl, hx⟩
    have K8 := Lib.hid (K7.out.trans' hx)
    have I8 := Lib.hid (I7.out.ext hx)
    clear hx
    go_wp2_with fail
    (with_reducible refine (toIntS_own (HL.out.ext K8.out) hg).mono ?_)
    rintro e w9 ⟨ka, kc, bk, rfl, hx, ho, -⟩
    have K9 := Lib.hid (K8.out.trans' hx)
    have I9 := Lib.hid (I8.out.ext hx)
    have J9 := Lib.hid ho.read
    clear hx ho
    go_wp2_with fail
    (with_reducible refine (eqIntS_same I9.out J9.out).mono ?_)
    rintro e w10 ⟨rfl, hx⟩
    have K10 := Lib.hid (K9.out.trans' hx)
    clear hx
    go_wp2
    go_ret
    exact ⟨rfl, K10.out⟩
end Go.Proofs.YtbddjejpacaglaaDoor
