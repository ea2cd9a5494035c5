/- Contracts of the functions that write marks into a network of its own. -/
import Derived.Test.YtndgbildkeglfaaMark
namespace Go.Proofs.Ytndgbildkeglfaa
open Go.RowKit

def emarks (k : Int) (n : Nat) : List (Int × Int) := (List.range n).map fun (i : Nat) => (k + 2 * (i : Int), k + 2 * (i : Int) + 1)
theorem length_emarks (k : Int) (n : Nat) : (emarks k n).length = n := by simp [emarks]
theorem gn_emarks (k : Int) (n i : Nat) (h : i < n) : gn (emarks k n) i = k + 2 * i := by simp [gn, emarks, h]
theorem gp_emarks (k : Int) (n i : Nat) (h : i < n) : gp (emarks k n) i = k + 2 * i + 1 := by simp [gp, emarks, h]
theorem ecell_emarks (k : Int) (n j : Nat) (h : j < n * 2) : ecell (emarks k n) j = .int .i64 (k + j) := by
  simp only [ecell]
  by_cases e : j % 2 = 0
  · rw [if_pos e, gn_emarks _ _ _ (by omega)]; congr 1; omega
  · rw [if_neg e, gp_emarks _ _ _ (by omega)]; congr 1; omega

set_option maxHeartbeats 800000 in
set_option maxRecDepth 100000 in
theorem markEndS_any {w : World} {v : Value} {l : List (Int × Int)} {bs : List Nat} (k : Int) (h : OwnE w v l bs) (hs : l.length ≤ 1048576) (h0 : 0 ≤ k) (h1 : k ≤ 1125899906842624) :
    Calls Try.prog 110 #[v, .int .i64 k] w fun e w' => e = .returned (.int .i64 (k + 2 * l.length)) ∧ Chg w w' bs ∧ OwnE w' v (emarks k l.length) bs := by
  have hml := length_emarks k l.length
  obtain ⟨⟨c, hc1, hc2, h⟩, _⟩ := h
  rcases h with ⟨hn, rfl, a, hac, rfl⟩ | ⟨b, m, g, rfl, rfl, ⟨hm, hmc⟩, hrow, hg⟩
  · have HZ := Lib.hid hn
    have HAC := Lib.hid hac
    clear hn hac
    go_enter Try.func110, Try.ntmps110
    go_wp2
    go_loop [1, 5] (fun t i => i = .int .i64 0 ∧ t = .int .i64 k) (fun _ _ => 0)
    case atStart => exact ⟨rfl, rfl⟩
    case round =>
      obtain ⟨rfl, rfl⟩ := hrel
      go_wp2
      go_ret
      refine ⟨by rw [HZ.out]; simp, Chg.rfl' _ _, ⟨c, by rw [hml]; exact hc1, hc2, .inl ⟨by rw [hml]; exact HZ.out, rfl, a, HAC.out, rfl⟩⟩, fun i hi => absurd hi (by have := HZ.out; omega)⟩
  · unfold maxLen at hc2
    have HMC := Lib.hid hmc
    clear hmc
    have HR := Lib.hid hrow
    clear hrow
    go_enter Try.func110, Try.ntmps110
    go_wp2
    go_loopg [1, 5] l.length (fun gh t i wr => ∃ j : Nat, j ≤ l.length ∧ gh = l.length - j ∧ i = .int .i64 j ∧ t = .int .i64 (k + 2 * j) ∧ Hid (Chg w wr [b] ∧ wr.rowIs b 44 m (fun i => if i < j * 2 then .int .i64 (k + i) else g i)))
    case atStart => exact ⟨0, Nat.zero_le _, rfl, rfl, by simp, Chg.rfl' _ _, HR.out.congr fun i _ => by simp⟩
    case round =>
      obtain ⟨j, hj, rfl, rfl, rfl, Hr⟩ := hrel
      by_cases hlt : j < l.length
      · obtain ⟨f1, f2, f3, f4⟩ := row_two Hr.out.2 (i := j * 2) (by omega)
        have Hn : Hid (Chg w ((wr.setCell ⟨b, j * 2, none⟩ (.int .i64 (k + 2 * j))).setCell ⟨b, j * 2 + 1, none⟩ (.int .i64 (k + 2 * j + 1))) [b] ∧ ((wr.setCell ⟨b, j * 2, none⟩ (.int .i64 (k + 2 * j))).setCell ⟨b, j * 2 + 1, none⟩ (.int .i64 (k + 2 * j + 1))).rowIs b 44 m (fun i => if i < (j + 1) * 2 then .int .i64 (k + i) else g i)) := by
          refine ⟨(Hr.out.1.store (by simp) _).store (by simp) _, ((Hr.out.2.set (j * 2) _).set (j * 2 + 1) _).congr fun i _ => ?_⟩
          by_cases e : i = j * 2 + 1
          · subst e; rw [if_pos rfl, if_pos (by omega)]; congr 1; omega
          · rw [if_neg e]
            by_cases e' : i = j * 2
            · subst e'; rw [if_pos rfl, if_pos (by omega)]; congr 1; omega
            · rw [if_neg e']
              by_cases hij : i < j * 2
              · rw [if_pos hij, if_pos (by omega)]
              · rw [if_neg hij, if_neg (by omega)]
        go_wp2
        go_roundg (l.length - (j + 1))
        case measure => omega
        case rel => exact ⟨j + 1, by omega, rfl, by go_num, by simp; omega, Hn⟩
      · obtain rfl : j = l.length := by omega
        go_wp2
        go_ret
        refine ⟨rfl, Hr.out.1, ⟨c, by rw [hml]; exact hc1, by unfold maxLen; omega, .inr ⟨b, m, _, rfl, by rw [hml], by rw [hml]; exact ⟨hm, HMC.out⟩, Hr.out.2, fun i hi => ?_⟩⟩, fun i hi => ?_⟩
        · rw [hml] at hi
          rw [ecell_emarks _ _ _ hi, if_pos (by omega)]
        · rw [hml] at hi
          rw [gn_emarks _ _ _ hi, gp_emarks _ _ _ hi]
          exact ⟨⟨by omega, by omega⟩, ⟨by omega, by omega⟩⟩

theorem nodup_rows {b0 : List Nat} {n : Nat} {T : Nat → List Nat} (h : (b0 ++ (List.range n).flatMap T).Nodup) :
    (∀ i, i < n → ∀ b ∈ b0, b ∉ T i) ∧ ∀ i j, i < n → j < n → i ≠ j → ∀ b ∈ T i, b ∉ T j := by
  obtain ⟨h1, h2, h3⟩ := List.nodup_append.1 h
  refine ⟨fun i hi b hb hb' => h3 b hb b (List.mem_flatMap.2 ⟨i, List.mem_range.2 hi, hb'⟩) rfl, fun i j hi hj hne b hb hb' => ?_⟩
  have h4 := List.pairwise_flatMap.1 h2
  have h5 := List.pairwise_iff_getElem.1 h4.2
  rcases Nat.lt_or_gt_of_ne hne with hlt | hgt
  · have := h5 i j (by simpa using hi) (by simpa using hj) hlt
    simp only [List.getElem_range] at this
    exact this b hb b hb' rfl
  · have := h5 j i (by simpa using hj) (by simpa using hi) hgt
    simp only [List.getElem_range] at this
    exact this b hb' b hb rfl

set_option maxHeartbeats 1600000 in
set_option maxRecDepth 100000 in
theorem markEndSS_any {w : World} {v : Value} {l : List (List (Int × Int))} {bs : List Nat} (k : Int) (h : OwnSS w v l bs) (hnd : bs.Nodup) (hs : l.length ≤ 1048576) (hs2 : ∀ i, (gr l i).length ≤ 1048576) (h0 : 0 ≤ k) (h1 : k ≤ 1) :
    Calls Try.prog 76 #[v, .int .i64 k] w fun e w' => ∃ r : Int, e = .returned (.int .i64 r) ∧ k ≤ r ∧ r ≤ k + 2097152 * l.length ∧ Chg w w' bs := by
  obtain ⟨R, b0, T, ⟨c, hc1, hc2, h⟩, hrows, rfl⟩ := h
  rcases h with ⟨hn, rfl, a, hac, rfl⟩ | ⟨b, m, g, rfl, rfl, ⟨hm, hmc⟩, hrow, hg⟩
  · have HZ := Lib.hid hn
    have HAC := Lib.hid hac
    clear hn hac
    go_enter Try.func76, Try.ntmps76
    go_wp2
    go_loop [1, 5] (fun t i => i = .int .i64 0 ∧ t = .int .i64 k) (fun _ _ => 0)
    case atStart => exact ⟨rfl, rfl⟩
    case round =>
      obtain ⟨rfl, rfl⟩ := hrel
      go_wp2
      go_ret
      exact ⟨k, rfl, by omega, by omega, Chg.rfl' _ _⟩
  · unfold maxLen at hc2
    have HMC := Lib.hid hmc
    clear hmc
    have HR := Lib.hid hrow
    have HT := Lib.hid hrows
    have HD := Lib.hid (nodup_rows hnd)
    have HS := Lib.hid hs2
    have Hg := Lib.hid hg
    clear hrow hrows hnd hs2 hg
    go_enter Try.func76, Try.ntmps76
    go_wp2
    go_loopg [1, 5] l.length (fun gh t i wr => ∃ (j : Nat) (r : Int), j ≤ l.length ∧ gh = l.length - j ∧ i = .int .i64 j ∧ t = .int .i64 r ∧ k ≤ r ∧ r ≤ k + 2097152 * j ∧ Hid (Chg w wr ([b] ++ (List.range l.length).flatMap T) ∧ wr.rowIs b 70 m g ∧ ∀ i, j ≤ i → i < l.length → OwnE wr (R i) (gr l i) (T i)))
    case atStart => exact ⟨0, k, Nat.zero_le _, rfl, rfl, rfl, by omega, by omega, Chg.rfl' _ _, HR.out, fun i _ hi => HT.out i hi⟩
    case round =>
      obtain ⟨j, r, hj, rfl, rfl, rfl, hr1, hr2, Hr⟩ := hrel
      by_cases hlt : j < l.length
      · have f1 := Hr.out.2.1.cell (i := j) (by omega)
        rw [Hg.out j (by omega)] at f1
        go_wp2_with (go_at_call 110; (with_reducible refine (markEndS_any _ (Hr.out.2.2 j (Nat.le_refl _) hlt) (HS.out _) (by omega) (by omega)).mono ?_); rintro e w1 ⟨rfl, hch, _⟩; have HC := Lib.hid hch; clear hch)
        have hl := HS.out j
        go_roundg (l.length - (j + 1))
        case measure => omega
        case rel =>
          refine ⟨j + 1, r + 2 * (gr l j).length, by omega, rfl, by go_num, rfl, by omega, by omega, ?_, ?_, fun i hi1 hi2 => ?_⟩
          · exact Hr.out.1.trans' (HC.out.mono fun x hx => List.mem_append.2 (.inr (List.mem_flatMap.2 ⟨j, List.mem_range.2 hlt, hx⟩)))
          · exact Hr.out.2.1.of_block (HC.out.block b Hr.out.2.1.lt (HD.out.1 j hlt b (by simp)))
          · have ho := Hr.out.2.2 i (by omega) hi2
            exact ho.keep fun x hx => HC.out.block x (ho.1.lt x hx) (HD.out.2 i j hi2 hlt (by omega) x hx)
      · obtain rfl : j = l.length := by omega
        go_wp2
        go_ret
        exact ⟨r, rfl, hr1, hr2, Hr.out.1⟩
end Go.Proofs.Ytndgbildkeglfaa
