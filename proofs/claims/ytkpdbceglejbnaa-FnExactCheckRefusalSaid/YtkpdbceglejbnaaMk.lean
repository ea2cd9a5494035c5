/- markNetwork from any mark on. -/
import Derived.Test.YtkpdbceglejbnaaKc
namespace Go.Proofs.Ytkpdbceglejbnaa
open Go.RowKit

set_option maxHeartbeats 1600000 in
set_option maxRecDepth 100000 in
theorem markEndSS_at {w : World} {v : Value} {l : List (List (Int × Int))} {bs : List Nat} (k : Int) (h : OwnSS w v l bs) (hnd : bs.Nodup) (hs : l.length ≤ 1048576) (hs2 : ∀ i, (gr l i).length ≤ 1048576) (h0 : 0 ≤ k) (h1 : k ≤ 17592186044416) :
    Calls Try.prog 72 #[v, .int .i64 k] w fun e w' => ∃ r : Int, e = .returned (.int .i64 r) ∧ k ≤ r ∧ r ≤ k + 2097152 * l.length ∧ Chg w w' bs := by
  obtain ⟨R, b0, T, ⟨c, hc1, hc2, h⟩, hrows, rfl⟩ := h
  rcases h with ⟨hn, rfl, a, hac, rfl⟩ | ⟨b, m, g, rfl, rfl, ⟨hm, hmc⟩, hrow, hg⟩
  · have HZ := Lib.hid hn
    have HAC := Lib.hid hac
    clear hn hac
    go_enter Try.func72, Try.ntmps72
    go_wp2
    go_loop [1, 5] (fun t i => i = .int .i64 0 ∧ t = .int .i64 k) (fun _ _ => 0)
    case atStart => exact ⟨rfl, rfl⟩
    case round =>
      obtain ⟨rfl, rfl⟩ := hrel
      go_wp2
      go_ret
      exact ⟨k, rfl, by omega, by omega, Chg.rfl' _ _⟩
  · unfold maxLen at hc2
    have HMC := Lib.hid hmc
    clear hmc
    have HR := Lib.hid hrow
    have HT := Lib.hid hrows
    have HD := Lib.hid (nodup_rows hnd)
    have HS := Lib.hid hs2
    have Hg := Lib.hid hg
    clear hrow hrows hnd hs2 hg
    go_enter Try.func72, Try.ntmps72
    go_wp2
    go_loopg [1, 5] l.length (fun gh t i wr => ∃ (j : Nat) (r : Int), j ≤ l.length ∧ gh = l.length - j ∧ i = .int .i64 j ∧ t = .int .i64 r ∧ k ≤ r ∧ r ≤ k + 2097152 * j ∧ Hid (Chg w wr ([b] ++ (List.range l.length).flatMap T) ∧ wr.rowIs b 93 m g ∧ ∀ i, j ≤ i → i < l.length → OwnE wr (R i) (gr l i) (T i)))
    case atStart => exact ⟨0, k, Nat.zero_le _, rfl, rfl, rfl, by omega, by omega, Chg.rfl' _ _, HR.out, fun i _ hi => HT.out i hi⟩
    case round =>
      obtain ⟨j, r, hj, rfl, rfl, rfl, hr1, hr2, Hr⟩ := hrel
      by_cases hlt : j < l.length
      · have f1 := Hr.out.2.1.cell (i := j) (by omega)
        rw [Hg.out j (by omega)] at f1
        go_wp2_with (go_at_call 120; (with_reducible refine (markEndS_any _ (Hr.out.2.2 j (Nat.le_refl _) hlt) (HS.out _) (by omega) (by omega)).mono ?_); rintro e w1 ⟨rfl, hch, _⟩; have HC := Lib.hid hch; clear hch)
        have hl := HS.out j
        go_roundg (l.length - (j + 1))
        case measure => omega
        case rel =>
          refine ⟨j + 1, r + 2 * (gr l j).length, by omega, rfl, by go_num, rfl, by omega, by omega, ?_, ?_, fun i hi1 hi2 => ?_⟩
          · exact Hr.out.1.trans' (HC.out.mono fun x hx => List.mem_append.2 (.inr (List.mem_flatMap.2 ⟨j, List.mem_range.2 hlt, hx⟩)))
          · exact Hr.out.2.1.of_block (HC.out.block b Hr.out.2.1.lt (HD.out.1 j hlt b (by simp)))
          · have ho := Hr.out.2.2 i (by omega) hi2
            exact ho.keep fun x hx => HC.out.block x (ho.1.lt x hx) (HD.out.2 i j hi2 hlt (by omega) x hx)
      · obtain rfl : j = l.length := by omega
        go_wp2
        go_ret
        exact ⟨r, rfl, hr1, hr2, Hr.out.1⟩

set_option maxHeartbeats 1600000 in
set_option maxRecDepth 100000 in
theorem markNetwork_at {w : World} {v : Value} {N : Net} {bs : List Nat} (k : Int) (h : OwnNet w v N bs) (hnd : bs.Nodup) (hs : N.small) (h0 : 0 ≤ k) (h1 : k ≤ 17592186044416) :
    Calls Try.prog 28 #[v, .int .i64 k] w fun e w' => ∃ r : Int, e = .returned (.int .i64 r) ∧ 0 ≤ r ∧ r ≤ k + 4398046511104 ∧ Chg w w' bs := by
  obtain ⟨v0, v1, v2, b0, b1, b2, rfl, hE, hI, hP, rfl⟩ := h
  obtain ⟨s1, s2, s3, s4⟩ := hs
  have hnd0 := (List.nodup_append.1 hnd).1
  have hd0 : ∀ x ∈ b1 ++ b2, x ∉ b0 := fun x hx hx' => (List.nodup_append.1 hnd).2.2 x hx' x hx rfl
  have hd1 : ∀ x ∈ b2, x ∉ b1 := fun x hx hx' => (List.nodup_append.1 (List.nodup_append.1 hnd).2.1).2.2 x hx' x hx rfl
  have hX := (Ext.rfl' w).alloc' (.cells #[v0, v1, v2] 34)
  have A := Lib.hid (hE.ext hX)
  have B := Lib.hid (hI.ext hX)
  have C := Lib.hid (hP.ext hX)
  have LA := Lib.hid hE.lt
  have LB := Lib.hid hI.1.lt
  have LC := Lib.hid hP.1.lt
  have HX := Lib.hid (Chg.of_ext hX (b0 ++ (b1 ++ b2)))
  have HR := Lib.hid (row3_made w v0 v1 v2 34)
  have HD := Lib.hid (And.intro hnd0 (And.intro hd0 hd1))
  have S := Lib.hid s2
  clear hE hI hP hX hnd0 hd0 hd1 hnd s2
  go_enter Try.func28, Try.ntmps28
  go_wp2_with fail
  (with_reducible refine (markEndSS_at _ A.out HD.out.1 s1 S.out (by omega) (by omega)).mono ?_)
  rintro e w1 ⟨r1, rfl, h11, h12, hc1⟩
  have K1 := Lib.hid (HX.out.trans' (hc1.mono fun x hx => by simp [hx]))
  have R1 := Lib.hid (HR.out.of_block (hc1.block _ HR.out.lt fun hx => by have := LA.out _ hx; omega))
  have B1 := Lib.hid (B.out.keep fun x hx => hc1.block x (B.out.1.lt x hx) (HD.out.2.1 x (by simp [hx])))
  have C1 := Lib.hid (C.out.keep fun x hx => hc1.block x (C.out.1.lt x hx) (HD.out.2.1 x (by simp [hx])))
  obtain ⟨p0, p1, p2, _, _, _⟩ := row3_facts R1.out
  clear hc1
  go_wp2_with fail
  (with_reducible refine (markIntS_any _ B1.out s3 (by omega) (by omega)).mono ?_)
  rintro e w2 ⟨rfl, hc2, _⟩
  have K2 := Lib.hid (K1.out.trans' (hc2.mono fun x hx => by simp [hx]))
  have R2 := Lib.hid (R1.out.of_block (hc2.block _ R1.out.lt fun hx => by have := LB.out _ hx; omega))
  have C2 := Lib.hid (C1.out.keep fun x hx => hc2.block x (C1.out.1.lt x hx) (HD.out.2.2 x hx))
  clear hc2 p0 p1 p2
  obtain ⟨p0, p1, p2, _, _, _⟩ := row3_facts R2.out
  go_wp2_with fail
  (with_reducible refine (markIntS_any _ C2.out s4 (by omega) (by omega)).mono ?_)
  rintro e w3 ⟨rfl, hc3, _⟩
  have K3 := Lib.hid (K2.out.trans' (hc3.mono fun x hx => by simp [hx]))
  clear hc3
  go_wp2
  go_ret
  exact ⟨_, rfl, by omega, by omega, K3.out⟩
end Go.Proofs.Ytkpdbceglejbnaa
