/- Lists of lists of numbers: compared, counted, copied, marked, held. -/
import Derived.Test.YtdcgpodjoalokaaIi
namespace Go.Proofs.Ytdcgpodjoalokaa
open Go.RowKit

set_option maxHeartbeats 800000 in
set_option maxRecDepth 100000 in
theorem eqIntSS_any {w : World} {v1 v2 : Value} {l1 l2 : List (List Int)} (h1 : IntSS w v1 l1) (h2 : IntSS w v2 l2) :
    Calls Try.prog 39 #[v1, v2] w fun e w' => e = .returned (.bool (decide (l1 = l2))) ∧ Ext w w' := by
  obtain ⟨a1, b1, o1, c1, rfl, ha1, hl1, hm1, hc1⟩ := h1
  obtain ⟨a2, b2, o2, c2, rfl, ha2, hl2, hm2, hc2⟩ := h2
  unfold maxLen at hm1 hm2
  have Hc1 := Lib.hid hc1
  have Ha1 := Lib.hid ha1
  have Hc2 := Lib.hid hc2
  have Ha2 := Lib.hid ha2
  clear hc1 ha1 hc2 ha2
  by_cases hn : l1.length = l2.length
  · have Hn := Lib.hid hn
    have hnb : ((l1.length : Int) != (l2.length : Int)) = false := by simp; omega
    clear hn
    go_enter Try.func39, Try.ntmps39
    go_wp2
    go_loopg [5] l1.length (fun g i wr => ∃ k : Nat, k ≤ l1.length ∧ g = l1.length - k ∧ i = .int .i64 k ∧ Hid (Ext w wr ∧ ∀ j, j < k → gr l1 j = gr l2 j))
    case atStart => exact ⟨0, Nat.zero_le _, rfl, rfl, Ext.rfl' w, fun j hj => absurd hj (by omega)⟩
    case round =>
      obtain ⟨k, hk, rfl, rfl, Hr⟩ := hrel
      by_cases hlt : k < l1.length
      · have hlt2 : k < l2.length := by have := Hn.out; omega
        obtain ⟨x1, hc1, hx1⟩ := Hc1.out k hlt
        obtain ⟨x2, hc2, hx2⟩ := Hc2.out k hlt2
        obtain rfl := Ha1.out (by omega)
        obtain rfl := Ha2.out (by omega)
        have q1 := Hr.out.1.cell' hc1
        have q2 := Hr.out.1.cell' hc2
        have HX1 := Lib.hid hx1
        have HX2 := Lib.hid hx2
        clear hc1 hc2 hx1 hx2
        have Hx := Lib.hid Hr.out.1.drew'
        by_cases he : gr l1 k = gr l2 k
        · have Heb := Lib.hid (show decide (gr l1 k = gr l2 k) = true by simpa using he)
          have He := Lib.hid he
          clear he
          go_wp2
          go_region_held3 (fun w' => w'.cell? ⟨b1, o1 + k, none⟩ = some x1 ∧ w'.cell? ⟨b2, o2 + k, none⟩ = some x2 ∧ Hid (Ext w w')) (first | exact ⟨q1, q2, Hx⟩ | exact ⟨hx.cell' ‹_›, hx.cell' ‹_›, Ext.trans' (Hid.out ‹_›) hx⟩) (first | (go_at_call 31; (with_reducible refine (eqIntS_any (HX1.out.ext (Hid.out ‹Hid (Ext w _)›)) (HX2.out.ext (Hid.out ‹Hid (Ext w _)›))).mono ?_); rintro e w' ⟨rfl, hx⟩; rw [Heb.out]))
          rename_i hh
          have HX := hh.2.2
          clear hh hx Hx
          go_wp2
          go_roundg (l1.length - (k + 1))
          case measure => omega
          case rel =>
            refine ⟨k + 1, by omega, rfl, by go_num, HX.out, fun j hj => ?_⟩
            by_cases e : j = k
            · subst e; exact He.out
            · exact Hr.out.2 j (by omega)
        · have Heb := Lib.hid (show decide (gr l1 k = gr l2 k) = false by simpa using he)
          have He := Lib.hid he
          clear he
          go_wp2
          go_region_held3 (fun w' => w'.cell? ⟨b1, o1 + k, none⟩ = some x1 ∧ w'.cell? ⟨b2, o2 + k, none⟩ = some x2 ∧ Hid (Ext w w')) (first | exact ⟨q1, q2, Hx⟩ | exact ⟨hx.cell' ‹_›, hx.cell' ‹_›, Ext.trans' (Hid.out ‹_›) hx⟩) (first | (go_at_call 31; (with_reducible refine (eqIntS_any (HX1.out.ext (Hid.out ‹Hid (Ext w _)›)) (HX2.out.ext (Hid.out ‹Hid (Ext w _)›))).mono ?_); rintro e w' ⟨rfl, hx⟩; rw [Heb.out]))
          rename_i hh
          have HX := hh.2.2
          clear hh hx Hx
          go_wp2
          go_ret
          exact ⟨ret_bool (by rw [eq_comm, decide_eq_false_iff_not]; intro e; exact He.out (by rw [e])), HX.out⟩
      · go_wp2
        go_ret
        obtain rfl : k = l1.length := by omega
        exact ⟨ret_bool (by rw [eq_comm, decide_eq_true_iff]; exact rows_eq Hn.out Hr.out.2), Hr.out.1⟩
  · have hnb : ((l1.length : Int) != (l2.length : Int)) = true := by simp; omega
    go_enter Try.func39, Try.ntmps39
    go_wp2
    go_ret
    exact ⟨ret_bool (by rw [eq_comm, decide_eq_false_iff_not]; intro e; exact hn (by rw [e])), Ext.rfl' w⟩

theorem eqIntSS_same {w : World} {v1 v2 : Value} {l : List (List Int)} (h1 : IntSS w v1 l) (h2 : IntSS w v2 l) : Calls Try.prog 39 #[v1, v2] w fun e w' => e = .returned (.bool true) ∧ Ext w w' :=
  (eqIntSS_any h1 h2).mono fun e w' ⟨he, hx⟩ => ⟨by rw [he]; simp, hx⟩

set_option maxHeartbeats 1600000 in
set_option maxRecDepth 100000 in
theorem markIntSS_own {w : World} {v : Value} {l : List (List Int)} {bs : List Nat} (h : OwnII w v l bs) (hnd : bs.Nodup) (hs : IISmall l) :
    Calls Try.prog 40 #[v, .int .i64 1] w fun e w' => e = .returned (.int .i64 (iLast l)) ∧ Chg w w' bs ∧ OwnII w' v (imarks 1 l) bs := by
  obtain ⟨hs, hs2⟩ := hs
  have hml := length_imarks 1 l
  obtain ⟨R, b0, T, ⟨c, hc1, hc2, h⟩, hrows, rfl⟩ := h
  rcases h with ⟨hn, rfl, a, hac, rfl⟩ | ⟨b, m, g, rfl, rfl, ⟨hm, hmc⟩, hrow, hg⟩
  · have HZ := Lib.hid hn
    have HAC := Lib.hid hac
    clear hn hac
    go_enter Try.func40, Try.ntmps40
    go_wp2
    go_loop [1, 5] (fun t i => i = .int .i64 0 ∧ t = .int .i64 1) (fun _ _ => 0)
    case atStart => exact ⟨rfl, rfl⟩
    case round =>
      obtain ⟨rfl, rfl⟩ := hrel
      go_wp2
      go_ret
      refine ⟨by unfold iLast; rw [HZ.out]; rfl, Chg.rfl' _ _, R, [], T, ⟨c, by rw [hml]; exact hc1, hc2, .inl ⟨by rw [hml]; exact HZ.out, rfl, a, HAC.out, rfl⟩⟩, fun i hi => absurd hi (by have := HZ.out; omega), by rw [hml]; rfl⟩
  · unfold maxLen at hc2
    have HMC := Lib.hid hmc
    clear hmc
    have HR := Lib.hid hrow
    have HT := Lib.hid hrows
    have HD := Lib.hid (nodup_rows hnd)
    have HS := Lib.hid hs2
    have Hg := Lib.hid hg
    have HK := Lib.hid (iAt_le 1 l hs2)
    clear hrow hrows hnd hs2 hg
    go_enter Try.func40, Try.ntmps40
    go_wp2
    go_loopg [1, 5] l.length (fun gh t i wr => ∃ j : Nat, j ≤ l.length ∧ gh = l.length - j ∧ i = .int .i64 j ∧ t = .int .i64 (iAt 1 l j) ∧ Hid (Chg w wr ([b] ++ (List.range l.length).flatMap T) ∧ wr.rowIs b 24 m g ∧ (∀ i, j ≤ i → i < l.length → OwnI wr (R i) (gr l i) (T i)) ∧ ∀ i, i < j → OwnI wr (R i) (marks (iAt 1 l i) (gr l i).length) (T i)))
    case atStart => exact ⟨0, Nat.zero_le _, rfl, rfl, rfl, Chg.rfl' _ _, HR.out, fun i _ hi => HT.out i hi, fun i hi => absurd hi (by omega)⟩
    case round =>
      obtain ⟨j, hj, rfl, rfl, rfl, Hr⟩ := hrel
      by_cases hlt : j < l.length
      · have f1 := Hr.out.2.1.cell (i := j) (by omega)
        rw [Hg.out j (by omega)] at f1
        obtain ⟨hk1, hk2⟩ := HK.out j
        go_wp2_with (go_at_call 34; (with_reducible refine (markIntS_any _ (Hr.out.2.2.1 j (Nat.le_refl _) hlt) (HS.out _) (by omega) (by omega)).mono ?_); rintro e w1 ⟨rfl, hch, hmk⟩; have HC := Lib.hid hch; have HM := Lib.hid hmk; clear hch hmk)
        go_roundg (l.length - (j + 1))
        case measure => omega
        case rel =>
          refine ⟨j + 1, by omega, rfl, by go_num, rfl, ?_, ?_, fun i hi1 hi2 => ?_, fun i hi => ?_⟩
          · exact Hr.out.1.trans' (HC.out.mono fun x hx => List.mem_append.2 (.inr (List.mem_flatMap.2 ⟨j, List.mem_range.2 hlt, hx⟩)))
          · exact Hr.out.2.1.of_block (HC.out.block b Hr.out.2.1.lt (HD.out.1 j hlt b (by simp)))
          · have ho := Hr.out.2.2.1 i (by omega) hi2
            exact ho.keep fun x hx => HC.out.block x (ho.1.lt x hx) (HD.out.2 i j hi2 hlt (by omega) x hx)
          · by_cases e : i = j
            · subst e; exact HM.out
            · have ho := Hr.out.2.2.2 i (by omega)
              exact ho.keep fun x hx => HC.out.block x (ho.1.lt x hx) (HD.out.2 i j (by omega) hlt e x hx)
      · obtain rfl : j = l.length := by omega
        go_wp2
        go_ret
        refine ⟨rfl, Hr.out.1, R, [b], T, ⟨c, by rw [hml]; exact hc1, by unfold maxLen; omega, .inr ⟨b, m, g, rfl, by rw [hml], by rw [hml]; exact ⟨hm, HMC.out⟩, Hr.out.2.1, fun i hi => by rw [hml] at hi; exact Hg.out i hi⟩⟩, fun i hi => ?_, by rw [hml]; rfl⟩
        rw [hml] at hi
        rw [gr_imarks _ _ _ hi]
        exact Hr.out.2.2.2 i hi

set_option maxHeartbeats 800000 in
set_option maxRecDepth 100000 in
theorem heldIntSS_any {w : World} {v : Value} {l : List (List Int)} (h : IntSS w v (imarks 1 l)) (hs : IISmall l) :
    Calls Try.prog 41 #[v, .int .i64 1] w fun e w' => e = .returned (.int .i64 (iLast l)) ∧ Ext w w' := by
  obtain ⟨hs, hs2⟩ := hs
  obtain ⟨a, b, o, c, rfl, ha, hl, hm, hc⟩ := h
  unfold maxLen at hm
  rw [length_imarks] at ha hl hc ⊢
  have Hc := Lib.hid hc
  have Ha := Lib.hid ha
  have HS := Lib.hid hs2
  have HK := Lib.hid (iAt_le 1 l hs2)
  clear hc ha hs2
  go_enter Try.func41, Try.ntmps41
  go_wp2
  go_loop [1, 5] (fun t i => ∃ j : Nat, j ≤ l.length ∧ i = .int .i64 j ∧ t = .int .i64 (iAt 1 l j)) (fun _ i => l.length - (intOf i).toNat)
  case atStart => exact ⟨0, Nat.zero_le _, rfl, rfl⟩
  case round =>
    obtain ⟨j, hj, rfl, rfl⟩ := hrel
    by_cases hlt : j < l.length
    · obtain ⟨x, hx, hrow⟩ := Hc.out j hlt
      rw [gr_imarks _ _ _ hlt] at hrow
      have HR := Lib.hid hrow
      obtain rfl := Ha.out (by omega)
      obtain ⟨hk1, hk2⟩ := HK.out j
      have hlen := HS.out j
      clear hrow
      go_wp2_with (go_at_call 35; (with_reducible refine (heldIntS_any _ _ HR.out (HS.out _) (by omega) (by omega)).mono ?_); rintro e w1 ⟨rfl, rfl⟩)
      go_round
      case rel => exact ⟨j + 1, by omega, by go_num, rfl⟩
      case measure => simp [intOf]; omega
    · obtain rfl : j = l.length := by omega
      go_wp2
      go_ret
      exact ⟨rfl, Ext.rfl' _⟩
end Go.Proofs.Ytdcgpodjoalokaa
