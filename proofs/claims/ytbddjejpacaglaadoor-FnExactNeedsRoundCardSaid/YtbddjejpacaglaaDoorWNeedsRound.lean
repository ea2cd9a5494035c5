/- The walk of FnExactNeedsRound: whatever the program, the law answers true and changes nothing that was there. -/
import Derived.Test.YtbddjejpacaglaaDoorVpg
namespace Go.Proofs.YtbddjejpacaglaaDoor
open Go.RowKit

theorem eqValueOpS_same {w : World} {v1 v2 : Value} {l : List (Int × Int)} (h1 : EndSl w v1 l) (h2 : EndSl w v2 l) : Calls Tryd.prog 11 #[v1, v2] w fun e w' => e = .returned (.bool true) ∧ Ext w w' :=
  (eqValueOpS_any h1 h2).mono fun e w' ⟨he, hx⟩ => ⟨by rw [he]; simp, hx⟩
set_option maxHeartbeats 3200000 in
set_option maxRecDepth 100000 in
theorem walk_NeedsRound {w : World} {v0 : Value} {l : List (Int × Int)} (h0 : EndSl w v0 l) (hP : Pw w) :
    Calls Tryd.prog 5 #[v0] w fun e w' => e = .returned (.bool true) ∧ Ext w w' := by
  have HN := Lib.hid h0
  have HP := Lib.hid hP
  obtain ⟨a0, _, _, c0, rfl, -, -, lm, -⟩ := h0
  unfold maxLen at lm
  clear hP
  have hb2 : ∀ b : Bool, (b != b) = false := by simp
  go_enter Tryd.func5, Tryd.ntmps5
  go_wp2_with fail
  (with_reducible refine (szValueOpS_any _ HN.out (by omega) (by omega)).mono ?_)
  rintro e _ ⟨r, rfl, rfl, h1, h2, h3⟩
  have S := Lib.hid h3
  clear h3
  by_cases hneg : r < 0
  case pos =>
    go_wp2
    go_ret
    exact ⟨rfl, Ext.rfl' w⟩
  case neg =>
    have hs : l.length ≤ 1048576 := by have := S.out (by omega); omega
    go_wp2_with fail
    (with_reducible refine (toValueOpS_own HN.out hs).mono ?_)
    rintro e w1 ⟨ya, yc, by0, rfl, hx, ho, -⟩
    have K1 := Lib.hid hx
    have O1 := Lib.hid ho.read
    clear hx ho
    go_wp2_with fail
    (with_reducible refine (specNeedsRound_any O1.out).mono ?_)
    rintro e w2 ⟨rfl, hx⟩
    have K2 := Lib.hid (K1.out.trans' hx)
    clear hx
    go_wp2_with fail
    (with_reducible refine (toValueOpS_own (HN.out.ext K2.out) hs).mono ?_)
    rintro e w3 ⟨xa, xc, bx, rfl, hx, ho, -⟩
    have K3 := Lib.hid (K2.out.trans' hx)
    have O3 := Lib.hid ho.read
    clear hx ho
    go_wp2_with fail
    (with_reducible refine (implNeedsRound_any O3.out (HP.out.ext K3.out)).mono ?_)
    rintro e w4 ⟨rfl, hx⟩
    have K4 := Lib.hid (K3.out.trans' hx)
    have O4 := Lib.hid (O3.out.ext hx)
    clear hx
    go_wp2_with fail
    (with_reducible refine (toValueOpS_own (HN.out.ext K4.out) hs).mono ?_)
    rintro e w5 ⟨za, zc, bz, rfl, hx, ho, -⟩
    have K5 := Lib.hid (K4.out.trans' hx)
    have O5 := Lib.hid (O4.out.ext hx)
    have Z5 := Lib.hid ho.read
    clear hx ho
    go_wp2_with fail
    (with_reducible refine (eqValueOpS_same O5.out Z5.out).mono ?_)
    rintro e w6 ⟨rfl, hx⟩
    have K6 := Lib.hid (K5.out.trans' hx)
    clear hx
    go_wp2
    go_ret
    exact ⟨rfl, K6.out⟩
end Go.Proofs.YtbddjejpacaglaaDoor
