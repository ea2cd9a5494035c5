/- Marks of networks: what markNetwork leaves, and that heldNetwork finds it. -/
import Derived.Test.YtndgbildkeglfaaMark3
namespace Go.Proofs.Ytndgbildkeglfaa
open Go.RowKit

/-- The mark with which row i begins. -/
def kAt (k : Int) (l : List (List (Int × Int))) : Nat → Int
  | 0 => k
  | i + 1 => kAt k l i + 2 * (gr l i).length
theorem kAt_le (k : Int) (l : List (List (Int × Int))) (hs : ∀ i, (gr l i).length ≤ 1048576) : ∀ i, k ≤ kAt k l i ∧ kAt k l i ≤ k + 2097152 * i
  | 0 => by simp [kAt]
  | i + 1 => by
    have h1 := kAt_le k l hs i
    have h2 := hs i
    simp only [kAt]
    omega
def smarks (k : Int) (l : List (List (Int × Int))) : List (List (Int × Int)) := (List.range l.length).map fun i => emarks (kAt k l i) (gr l i).length
theorem length_smarks (k : Int) (l : List (List (Int × Int))) : (smarks k l).length = l.length := by simp [smarks]
theorem gr_smarks (k : Int) (l : List (List (Int × Int))) (i : Nat) (h : i < l.length) : gr (smarks k l) i = emarks (kAt k l i) (gr l i).length := by simp [gr, smarks, h]

set_option maxHeartbeats 1600000 in
set_option maxRecDepth 100000 in
theorem markEndSS_own {w : World} {v : Value} {l : List (List (Int × Int))} {bs : List Nat} (h : OwnSS w v l bs) (hnd : bs.Nodup) (hs : l.length ≤ 1048576) (hs2 : ∀ i, (gr l i).length ≤ 1048576) :
    Calls Try.prog 76 #[v, .int .i64 1] w fun e w' => e = .returned (.int .i64 (kAt 1 l l.length)) ∧ Chg w w' bs ∧ OwnSS w' v (smarks 1 l) bs := by
  have hml := length_smarks 1 l
  obtain ⟨R, b0, T, ⟨c, hc1, hc2, h⟩, hrows, rfl⟩ := h
  rcases h with ⟨hn, rfl, a, hac, rfl⟩ | ⟨b, m, g, rfl, rfl, ⟨hm, hmc⟩, hrow, hg⟩
  · have HZ := Lib.hid hn
    have HAC := Lib.hid hac
    clear hn hac
    go_enter Try.func76, Try.ntmps76
    go_wp2
    go_loop [1, 5] (fun t i => i = .int .i64 0 ∧ t = .int .i64 1) (fun _ _ => 0)
    case atStart => exact ⟨rfl, rfl⟩
    case round =>
      obtain ⟨rfl, rfl⟩ := hrel
      go_wp2
      go_ret
      refine ⟨by rw [HZ.out]; rfl, Chg.rfl' _ _, R, [], T, ⟨c, by rw [hml]; exact hc1, hc2, .inl ⟨by rw [hml]; exact HZ.out, rfl, a, HAC.out, rfl⟩⟩, fun i hi => absurd hi (by have := HZ.out; omega), by rw [hml]; rfl⟩
  · unfold maxLen at hc2
    have HMC := Lib.hid hmc
    clear hmc
    have HR := Lib.hid hrow
    have HT := Lib.hid hrows
    have HD := Lib.hid (nodup_rows hnd)
    have HS := Lib.hid hs2
    have Hg := Lib.hid hg
    have HK := Lib.hid (kAt_le 1 l hs2)
    clear hrow hrows hnd hs2 hg
    go_enter Try.func76, Try.ntmps76
    go_wp2
    go_loopg [1, 5] l.length (fun gh t i wr => ∃ j : Nat, j ≤ l.length ∧ gh = l.length - j ∧ i = .int .i64 j ∧ t = .int .i64 (kAt 1 l j) ∧ Hid (Chg w wr ([b] ++ (List.range l.length).flatMap T) ∧ wr.rowIs b 70 m g ∧ (∀ i, j ≤ i → i < l.length → OwnE wr (R i) (gr l i) (T i)) ∧ ∀ i, i < j → OwnE wr (R i) (emarks (kAt 1 l i) (gr l i).length) (T i)))
    case atStart => exact ⟨0, Nat.zero_le _, rfl, rfl, rfl, Chg.rfl' _ _, HR.out, fun i _ hi => HT.out i hi, fun i hi => absurd hi (by omega)⟩
    case round =>
      obtain ⟨j, hj, rfl, rfl, rfl, Hr⟩ := hrel
      by_cases hlt : j < l.length
      · have f1 := Hr.out.2.1.cell (i := j) (by omega)
        rw [Hg.out j (by omega)] at f1
        obtain ⟨hk1, hk2⟩ := HK.out j
        go_wp2_with (go_at_call 110; (with_reducible refine (markEndS_any _ (Hr.out.2.2.1 j (Nat.le_refl _) hlt) (HS.out _) (by omega) (by omega)).mono ?_); rintro e w1 ⟨rfl, hch, hmk⟩; have HC := Lib.hid hch; have HM := Lib.hid hmk; clear hch hmk)
        go_roundg (l.length - (j + 1))
        case measure => omega
        case rel =>
          refine ⟨j + 1, by omega, rfl, by go_num, rfl, ?_, ?_, fun i hi1 hi2 => ?_, fun i hi => ?_⟩
          · exact Hr.out.1.trans' (HC.out.mono fun x hx => List.mem_append.2 (.inr (List.mem_flatMap.2 ⟨j, List.mem_range.2 hlt, hx⟩)))
          · exact Hr.out.2.1.of_block (HC.out.block b Hr.out.2.1.lt (HD.out.1 j hlt b (by simp)))
          · have ho := Hr.out.2.2.1 i (by omega) hi2
            exact ho.keep fun x hx => HC.out.block x (ho.1.lt x hx) (HD.out.2 i j hi2 hlt (by omega) x hx)
          · by_cases e : i = j
            · subst e; exact HM.out
            · have ho := Hr.out.2.2.2 i (by omega)
              exact ho.keep fun x hx => HC.out.block x (ho.1.lt x hx) (HD.out.2 i j (by omega) hlt e x hx)
      · obtain rfl : j = l.length := by omega
        go_wp2
        go_ret
        refine ⟨rfl, Hr.out.1, R, [b], T, ⟨c, by rw [hml]; exact hc1, by unfold maxLen; omega, .inr ⟨b, m, g, rfl, by rw [hml], by rw [hml]; exact ⟨hm, HMC.out⟩, Hr.out.2.1, fun i hi => by rw [hml] at hi; exact Hg.out i hi⟩⟩, fun i hi => ?_, by rw [hml]; rfl⟩
        rw [hml] at hi
        rw [gr_smarks _ _ _ hi]
        exact Hr.out.2.2.2 i hi

/-- The network with marks in the place of its values, the first of them 1. -/
def netMarks (N : Net) : Net where
  ends := smarks 1 N.ends
  ids := marks (kAt 1 N.ends N.ends.length) N.ids.length
  inputs := marks (kAt 1 N.ends N.ends.length + N.ids.length) N.inputs.length
/-- The mark behind the last one. -/
def netLast (N : Net) : Int := kAt 1 N.ends N.ends.length + N.ids.length + N.inputs.length

set_option maxHeartbeats 1600000 in
set_option maxRecDepth 100000 in
theorem markNetwork_own {w : World} {v : Value} {N : Net} {bs : List Nat} (h : OwnNet w v N bs) (hnd : bs.Nodup) (hs : N.small) :
    Calls Try.prog 31 #[v, .int .i64 1] w fun e w' => e = .returned (.int .i64 (netLast N)) ∧ Chg w w' bs ∧ OwnNet w' v (netMarks N) bs := by
  obtain ⟨v0, v1, v2, b0, b1, b2, rfl, hE, hI, hP, rfl⟩ := h
  obtain ⟨s1, s2, s3, s4⟩ := hs
  have hnd0 := (List.nodup_append.1 hnd).1
  have hd0 : ∀ x ∈ b1 ++ b2, x ∉ b0 := fun x hx hx' => (List.nodup_append.1 hnd).2.2 x hx' x hx rfl
  have hd1 : ∀ x ∈ b2, x ∉ b1 := fun x hx hx' => (List.nodup_append.1 (List.nodup_append.1 hnd).2.1).2.2 x hx' x hx rfl
  have hX := (Ext.rfl' w).alloc' (.cells #[v0, v1, v2] 30)
  have A := Lib.hid (hE.ext hX)
  have B := Lib.hid (hI.ext hX)
  have C := Lib.hid (hP.ext hX)
  have LA := Lib.hid hE.lt
  have LB := Lib.hid hI.1.lt
  have LC := Lib.hid hP.1.lt
  have HX := Lib.hid (Chg.of_ext hX (b0 ++ (b1 ++ b2)))
  have HR := Lib.hid (row3_made w v0 v1 v2 30)
  have HD := Lib.hid (And.intro hnd0 (And.intro hd0 hd1))
  have S := Lib.hid s2
  have hk := (kAt_le 1 N.ends s2 N.ends.length)
  obtain ⟨hk1, hk2⟩ := hk
  clear hE hI hP hX hnd0 hd0 hd1 hnd s2
  go_enter Try.func31, Try.ntmps31
  go_wp2_with fail
  (with_reducible refine (markEndSS_own A.out HD.out.1 s1 S.out).mono ?_)
  rintro e w1 ⟨rfl, hc1, hm1⟩
  have K1 := Lib.hid (HX.out.trans' (hc1.mono fun x hx => by simp [hx]))
  have R1 := Lib.hid (HR.out.of_block (hc1.block _ HR.out.lt fun hx => by have := LA.out _ hx; omega))
  have A1 := Lib.hid hm1
  have B1 := Lib.hid (B.out.keep fun x hx => hc1.block x (B.out.1.lt x hx) (HD.out.2.1 x (by simp [hx])))
  have C1 := Lib.hid (C.out.keep fun x hx => hc1.block x (C.out.1.lt x hx) (HD.out.2.1 x (by simp [hx])))
  obtain ⟨p0, p1, p2, _, _, _⟩ := row3_facts R1.out
  clear hc1 hm1
  go_wp2_with fail
  (with_reducible refine (markIntS_any _ B1.out s3 (by omega) (by omega)).mono ?_)
  rintro e w2 ⟨rfl, hc2, hm2⟩
  have K2 := Lib.hid (K1.out.trans' (hc2.mono fun x hx => by simp [hx]))
  have R2 := Lib.hid (R1.out.of_block (hc2.block _ R1.out.lt fun hx => by have := LB.out _ hx; omega))
  have A2 := Lib.hid (A1.out.keep fun x hx => hc2.block x (A1.out.lt x hx) fun hb => HD.out.2.1 x (by simp [hb]) hx)
  have B2 := Lib.hid hm2
  have C2 := Lib.hid (C1.out.keep fun x hx => hc2.block x (C1.out.1.lt x hx) (HD.out.2.2 x hx))
  clear hc2 hm2 p0 p1 p2
  obtain ⟨p0, p1, p2, _, _, _⟩ := row3_facts R2.out
  go_wp2_with fail
  (with_reducible refine (markIntS_any _ C2.out s4 (by omega) (by omega)).mono ?_)
  rintro e w3 ⟨rfl, hc3, hm3⟩
  have K3 := Lib.hid (K2.out.trans' (hc3.mono fun x hx => by simp [hx]))
  have A3 := Lib.hid (A2.out.keep fun x hx => hc3.block x (A2.out.lt x hx) fun hb => HD.out.2.1 x (by simp [hb]) hx)
  have B3 := Lib.hid (B2.out.keep fun x hx => hc3.block x (B2.out.1.lt x hx) fun hb => HD.out.2.2 x hb hx)
  have C3 := Lib.hid hm3
  clear hc3 hm3
  go_wp2
  go_ret
  exact ⟨rfl, K3.out, v0, v1, v2, b0, b1, b2, rfl, A3.out, B3.out, C3.out, rfl⟩
end Go.Proofs.Ytndgbildkeglfaa
