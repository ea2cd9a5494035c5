/- Contracts of neSimple and of the model's IsSimple. -/
import Derived.Test.YtndgbildkeglfaaNear
namespace Go.Proofs.Ytndgbildkeglfaa
open Go.RowKit

def PortSimple (N : Net) (v i : Nat) : Prop := gn (gr N.ends v) i ≠ v ∧ ¬ Leads ((gr N.ends v).take i) (gn (gr N.ends v) i)
def SimpleOK (N : Net) : Prop := ∀ v, v < N.ends.length → ∀ i, i < (gr N.ends v).length → PortSimple N v i
def SimpleAns (N : Net) : Prop := Good N ∧ SimpleOK N

theorem has_leads (l : List (Int × Int)) (i : Nat) (hi : i ≤ l.length) (x : Int) : Has ((nears l).take i) x ↔ Leads (l.take i) x := by
  have h1 : ((nears l).take i).length = i := by simp [length_nears]; omega
  have h2 : (l.take i).length = i := by simp; omega
  refine ⟨fun ⟨j, hj, e⟩ => ⟨j, by omega, ?_⟩, fun ⟨j, hj, e⟩ => ⟨j, by omega, ?_⟩⟩
  · rw [gi_take (by omega), gi_nears _ _ (by omega)] at e
    rw [gn_take (by omega)]; exact e
  · rw [gn_take (by omega)] at e
    rw [gi_take (by omega), gi_nears _ _ (by omega)]; exact e

set_option maxHeartbeats 3200000 in
set_option maxRecDepth 100000 in
theorem neSimple_any {w : World} {v : Value} {N : Net} (h : NetAt w v N) (hg : Good N) :
    Calls Try.prog 72 #[v] w fun e w' => e = .returned (.bool (dec (SimpleOK N))) ∧ Ext w w' := by
  have HN := Lib.hid h
  have HG := Lib.hid hg
  obtain ⟨v0, v1, v2, rfl, hE, hI, hP⟩ := h
  clear hI hP hg
  obtain ⟨a, b, o, c, rfl, ha, hl, hm, hc⟩ := hE
  unfold maxLen at hm
  clear ha hc
  have HX := Lib.hid (boxed_ext w (.slice a N.ends.length c) v1 v2 30)
  have HR := Lib.hid (boxed_row w (.slice a N.ends.length c) v1 v2 30)
  go_enter Try.func72, Try.ntmps72
  go_wp2
  go_loopg [10] N.ends.length (fun g i wr => ∃ k : Nat, k ≤ N.ends.length ∧ g = N.ends.length - k ∧ i = .int .i64 k ∧ Hid (Ext (boxed w (.slice a N.ends.length c) v1 v2 30) wr ∧ ∀ j, j < k → ∀ i, i < (gr N.ends j).length → PortSimple N j i))
  case atStart => exact ⟨0, Nat.zero_le _, rfl, rfl, Ext.rfl' _, fun j hj => absurd hj (by omega)⟩
  case round =>
    obtain ⟨k, hk, rfl, rfl, Hr⟩ := hrel
    by_cases hlt : k < N.ends.length
    · obtain ⟨p0, p1, p2, _, _, _⟩ := row3_facts (row_ext HR.out Hr.out.1)
      have h6 := Lib.hid (show (gr N.ends k).length ≤ 1048576 by have := (HG.out.2.1 k hlt).1; omega)
      go_wp2_with fail
      (with_reducible refine (neNear_any _ hlt (HN.out.ext (HX.out.trans' Hr.out.1)) h6.out).mono ?_)
      rintro e w1 ⟨v', bs, rfl, hw1, ho1, _⟩
      have HI := Lib.hid ho1.read
      obtain ⟨a1, b1, o1, c1, rfl, ha1, hl1, hm1, hc1⟩ := ho1.read
      rw [length_nears] at ha1 hl1 hc1
      unfold maxLen at hm1
      have Hc1 := Lib.hid hc1
      have Ha1 := Lib.hid ha1
      have K1 := Lib.hid (Hr.out.1.trans' hw1)
      have HL := Lib.hid (length_nears (gr N.ends k))
      clear hw1 ho1 hc1 ha1 p0 p1 p2
      rw [HL.out]
      rw [HL.out] at HI
      go_wp2
      go_loop [18] (fun i => ∃ j : Nat, j ≤ (gr N.ends k).length ∧ i = .int .i64 j ∧ Hid (∀ i, i < j → PortSimple N k i)) (fun i => (gr N.ends k).length - (intOf i).toNat)
      case atStart => exact ⟨0, Nat.zero_le _, rfl, fun j hj => absurd hj (by omega)⟩
      case round =>
        obtain ⟨j, hj, rfl, Hs⟩ := hrel
        by_cases hjt : j < (gr N.ends k).length
        · obtain ⟨y, hy, rfl, _⟩ := Hc1.out j hjt
          obtain rfl := Ha1.out (by omega)
          rw [gi_nears _ j hjt] at hy
          by_cases e1 : gn (gr N.ends k) j = k
          · have e1b : (gn (gr N.ends k) j == (k : Int)) = true := beq_iff_eq.2 e1
            have E1 := Lib.hid e1
            clear e1
            go_wp2
            go_ret
            exact ⟨ret_f fun h => (h k hlt j hjt).1 E1.out, HX.out.trans' K1.out⟩
          · have e1b : (gn (gr N.ends k) j == (k : Int)) = false := beq_eq_false_iff_ne.2 e1
            have E1 := Lib.hid e1
            clear e1
            by_cases e2 : Has ((nears (gr N.ends k)).take j) (gn (gr N.ends k) j)
            · have Hb := Lib.hid (dec_true e2)
              have E2 := Lib.hid ((has_leads _ j hj _).1 e2)
              clear e2
              go_wp2_with (go_at_call 109; (with_reducible refine (l1Has_any _ (HI.out.take (by rw [HL.out]; exact hj))).mono ?_); rintro e w' ⟨rfl, rfl⟩; rw [Hb.out])
              go_ret
              exact ⟨ret_f fun h => (h k hlt j hjt).2 E2.out, HX.out.trans' K1.out⟩
            · have Hb := Lib.hid (dec_false e2)
              have E2 := Lib.hid (fun h => e2 ((has_leads _ j hj _).2 h))
              clear e2
              go_wp2_with (go_at_call 109; (with_reducible refine (l1Has_any _ (HI.out.take (by rw [HL.out]; exact hj))).mono ?_); rintro e w' ⟨rfl, rfl⟩; rw [Hb.out])
              go_round
              case rel =>
                refine ⟨j + 1, by omega, by go_num, fun i hi => ?_⟩
                by_cases e : i = j
                · subst e; exact ⟨E1.out, E2.out⟩
                · exact Hs.out i (by omega)
              case measure => simp [intOf]; omega
        · obtain rfl : j = (gr N.ends k).length := by omega
          go_wp2
          go_roundg (N.ends.length - (k + 1))
          case measure => omega
          case rel =>
            refine ⟨k + 1, by omega, rfl, by go_num, K1.out, fun i hi => ?_⟩
            by_cases e : i = k
            · subst e; exact Hs.out
            · exact Hr.out.2 i (by omega)
    · obtain rfl : k = N.ends.length := by omega
      go_wp2
      go_ret
      exact ⟨ret_t Hr.out.2, HX.out.trans' Hr.out.1⟩

set_option maxHeartbeats 1600000 in
set_option maxRecDepth 100000 in
theorem specIsSimple_any {w : World} {v : Value} {N : Net} (h : NetAt w v N) :
    Calls Try.prog 24 #[v] w fun e w' => e = .returned (.tuple #[.bool (dec (SimpleAns N)), .bool (dec (Good N))]) ∧ Ext w w' := by
  have HN := Lib.hid h
  obtain ⟨v0, v1, v2, rfl, hE, hI, hP⟩ := h
  clear hE hI hP
  have HX := Lib.hid (boxed_ext w v0 v1 v2 30)
  have HR := Lib.hid (boxed_row w v0 v1 v2 30)
  by_cases hg : Good N
  · have G := Lib.hid (dec_true hg)
    have HG := Lib.hid hg
    have hfin := Lib.hid (dec_congr (p := SimpleOK N) (q := SimpleAns N) ⟨fun h => ⟨hg, h⟩, fun h => h.2⟩)
    clear hg
    go_enter Try.func24, Try.ntmps24
    go_wp2_with (first | (go_at_call 66; (with_reducible refine (neGood_any (HN.out.ext HX.out)).mono ?_); rintro e w1 ⟨rfl, hw⟩; rw [G.out]; have K1 := Lib.hid (HX.out.trans' hw); obtain ⟨p0, p1, p2, _, _, _⟩ := row3_facts (row_ext HR.out hw); clear hw) | (go_at_call 72; (with_reducible refine (neSimple_any (HN.out.ext K1.out) HG.out).mono ?_); rintro e w2 ⟨rfl, hw⟩; have K2 := Lib.hid (K1.out.trans' hw); clear hw))
    go_ret2
    exact ⟨ret2_bool hfin.out G.out.symm, K2.out⟩
  · have G := Lib.hid (dec_false hg)
    have HF := Lib.hid (dec_false (p := SimpleAns N) fun h => hg h.1)
    clear hg
    go_enter Try.func24, Try.ntmps24
    go_wp2_with (first | (go_at_call 66; (with_reducible refine (neGood_any (HN.out.ext HX.out)).mono ?_); rintro e w1 ⟨rfl, hw⟩; rw [G.out]; have K1 := Lib.hid (HX.out.trans' hw); clear hw))
    go_ret2
    exact ⟨ret2_bool HF.out.symm G.out.symm, K1.out⟩
end Go.Proofs.Ytndgbildkeglfaa
