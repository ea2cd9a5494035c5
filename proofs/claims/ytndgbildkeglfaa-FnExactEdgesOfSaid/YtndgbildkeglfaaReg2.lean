/- Contracts of both IsRegular. -/
import Derived.Test.YtndgbildkeglfaaApp
namespace Go.Proofs.Ytndgbildkeglfaa
open Go.RowKit

def RegOK (N : Net) (d : Int) : Prop := ∀ i, i < N.ends.length → ((gr N.ends i).length : Int) = d
theorem reg_iff (N : Net) (d : Int) : AllIn (degs N) d d ↔ RegOK N d := by
  have hdl : (degs N).length = N.ends.length := by simp [degs]
  refine ⟨fun h i hi => ?_, fun h i hi => ?_⟩
  · have := h i (by omega); rw [gi_degs N i hi] at this; omega
  · have := h i (by omega); rw [gi_degs N i (by omega)]; omega
def RegAns (N : Net) (d : Int) : Prop := Good N ∧ RegOK N d

theorem ret2_bool {a b c d : Bool} (h : a = c) (k : b = d) : Ending.returned (.tuple #[.bool a, .bool b]) = .returned (.tuple #[.bool c, .bool d]) := by rw [h, k]

set_option maxHeartbeats 1600000 in
set_option maxRecDepth 100000 in
theorem specIsRegular_any {w : World} {v : Value} {N : Net} (d : Int) (h : NetAt w v N) :
    Calls Try.prog 26 #[v, .int .i64 d] w fun e w' => e = .returned (.tuple #[.bool (dec (RegAns N d)), .bool (dec (Good N))]) ∧ Ext w w' := by
  have HN := Lib.hid h
  obtain ⟨v0, v1, v2, rfl, hE, hI, hP⟩ := h
  clear hE hI hP
  have HX := Lib.hid (boxed_ext w v0 v1 v2 30)
  have HR := Lib.hid (boxed_row w v0 v1 v2 30)
  by_cases hg : Good N
  · have G := Lib.hid (dec_true hg)
    have hfin := Lib.hid (dec_congr (p := AllIn (degs N) d d) (q := RegAns N d) ⟨fun h => ⟨hg, (reg_iff N d).1 h⟩, fun h => (reg_iff N d).2 h.2⟩)
    have Hs := Lib.hid (show N.ends.length ≤ 1048576 by have := hg.1.2; omega)
    clear hg
    go_enter Try.func26, Try.ntmps26
    go_wp2_with (first | (go_at_call 66; (with_reducible refine (neGood_any (HN.out.ext HX.out)).mono ?_); rintro e w1 ⟨rfl, hw⟩; rw [G.out]; have K1 := Lib.hid (HX.out.trans' hw); obtain ⟨p0, p1, p2, _, _, _⟩ := row3_facts (row_ext HR.out hw); clear hw) | (go_at_call 75; (with_reducible refine (neDegrees_any (HN.out.ext K1.out) Hs.out).mono ?_); rintro e w2 ⟨z, bs, rfl, hw, ho, _⟩; have K2 := Lib.hid (K1.out.trans' hw); have O2 := Lib.hid ho.read; clear hw ho) | (go_at_call 74; (with_reducible refine (l1All_any _ _ O2.out).mono ?_); rintro e w1 ⟨rfl, rfl⟩))
    go_ret2
    exact ⟨ret2_bool hfin.out G.out.symm, K2.out⟩
  · have G := Lib.hid (dec_false hg)
    have HF := Lib.hid (dec_false (p := RegAns N d) fun h => hg h.1)
    clear hg
    go_enter Try.func26, Try.ntmps26
    go_wp2_with (first | (go_at_call 66; (with_reducible refine (neGood_any (HN.out.ext HX.out)).mono ?_); rintro e w1 ⟨rfl, hw⟩; rw [G.out]; have K1 := Lib.hid (HX.out.trans' hw); clear hw))
    go_ret2
    exact ⟨ret2_bool HF.out.symm G.out.symm, K1.out⟩

set_option maxHeartbeats 1600000 in
set_option maxRecDepth 100000 in
theorem isRegular_any {w : World} {v : Value} {N : Net} (d : Int) (h : NetAt w v N) :
    Calls Try.prog 27 #[v, .int .i64 d] w fun e w' => e = .returned (.tuple #[.bool (dec (RegAns N d)), .bool (dec (Good N))]) ∧ Ext w w' := by
  have HN := Lib.hid h
  obtain ⟨v0, v1, v2, rfl, hE, hI, hP⟩ := h
  clear hI hP
  obtain ⟨a, b, o, c, rfl, ha, hl, hm, hc⟩ := hE
  unfold maxLen at hm
  have Hc := Lib.hid hc
  have Ha := Lib.hid ha
  clear hc ha
  have HX := Lib.hid (boxed_ext w (.slice a N.ends.length c) v1 v2 30)
  have HR := Lib.hid (boxed_row w (.slice a N.ends.length c) v1 v2 30)
  by_cases hg : Good N
  · have G := Lib.hid (dec_true hg)
    have HG := Lib.hid hg
    clear hg
    go_enter Try.func27, Try.ntmps27
    go_wp2_with (first | (go_at_call 22; (with_reducible refine (isNetwork_any (HN.out.ext HX.out)).mono ?_); rintro e w1 ⟨rfl, hw⟩; rw [G.out]; have K1 := Lib.hid (HX.out.trans' hw); obtain ⟨p0, p1, p2, _, _, _⟩ := row3_facts (row_ext HR.out hw); clear hw))
    clear p0 p1 p2
    go_loop [14] (fun i => ∃ k : Nat, k ≤ N.ends.length ∧ i = .int .i64 k ∧ Hid (∀ j, j < k → ((gr N.ends j).length : Int) = d)) (fun i => N.ends.length - (intOf i).toNat)
    case atStart => exact ⟨0, Nat.zero_le _, rfl, fun j hj => absurd hj (by omega)⟩
    case round =>
      obtain ⟨k, hk, rfl, Hr⟩ := hrel
      by_cases hlt : k < N.ends.length
      · obtain ⟨z, hz, hz2⟩ := Hc.out k hlt
        obtain ⟨a', b', o', c', rfl, _, hl', hm', _⟩ := hz2
        unfold maxLen at hm'
        obtain rfl := Ha.out (by omega)
        have hz1 := K1.out.cell' hz
        clear hz
        by_cases he : ((gr N.ends k).length : Int) = d
        · have heb : (((gr N.ends k).length : Int) != d) = false := by rw [bne_eq_false_iff_eq]; exact he
          have He := Lib.hid he
          clear he
          go_wp2
          go_round
          case rel =>
            refine ⟨k + 1, by omega, by go_num, fun j hj => ?_⟩
            by_cases e : j = k
            · subst e; exact He.out
            · exact Hr.out j (by omega)
          case measure => simp [intOf]; omega
        · have heb : (((gr N.ends k).length : Int) != d) = true := by rw [bne_iff_ne]; exact he
          have He := Lib.hid he
          clear he
          go_wp2
          go_ret2
          exact ⟨ret2_bool (dec_false fun h => He.out (h.2 k hlt)).symm G.out.symm, K1.out⟩
      · obtain rfl : k = N.ends.length := by omega
        go_wp2
        go_ret2
        exact ⟨ret2_bool (dec_true ⟨HG.out, Hr.out⟩).symm G.out.symm, K1.out⟩
  · have G := Lib.hid (dec_false hg)
    have HF := Lib.hid (dec_false (p := RegAns N d) fun h => hg h.1)
    clear hg
    go_enter Try.func27, Try.ntmps27
    go_wp2_with (first | (go_at_call 22; (with_reducible refine (isNetwork_any (HN.out.ext HX.out)).mono ?_); rintro e w1 ⟨rfl, hw⟩; rw [G.out]; have K1 := Lib.hid (HX.out.trans' hw); clear hw))
    go_ret2
    exact ⟨ret2_bool HF.out.symm G.out.symm, K1.out⟩
end Go.Proofs.Ytndgbildkeglfaa
