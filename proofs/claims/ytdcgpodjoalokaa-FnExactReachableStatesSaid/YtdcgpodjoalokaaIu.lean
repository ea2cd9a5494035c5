/- Lists of lists of numbers as arguments: counted and copied. -/
import Derived.Test.YtdcgpodjoalokaaIm
import Derived.Test.YtdcgpodjoalokaaMk
namespace Go.Proofs.Ytdcgpodjoalokaa
open Go.RowKit

theorem Try.infoTSI : (Try.prog.info? 24).map (fun i => (i.zero, i.size, i.bytes)) = some (some (.slice none 0 0), 1, 24) := by kernel_rfl

set_option maxHeartbeats 400000 in
set_option maxRecDepth 100000 in
theorem szIntSS_any {w : World} {v : Value} {l : List (List Int)} (left : Int) (h : IntSS w v l) (h0 : -1 ≤ left) (h1 : left ≤ 1048576) :
    Calls Try.prog 54 #[v, .int .i64 left] w fun e w' => ∃ r : Int, e = .returned (.int .i64 r) ∧ w = w' ∧ r ≤ left ∧ -1 ≤ r ∧
      (0 ≤ r → (l.length : Int) + r ≤ left ∧ ∀ i, i < l.length → ((gr l i).length : Int) ≤ left) := by
  obtain ⟨a, b, o, c, rfl, ha, h3, h4, hc⟩ := h
  unfold maxLen at h4
  have Hc := Lib.hid hc
  have Ha := Lib.hid ha
  clear hc ha
  by_cases hneg : left - l.length < 0
  · go_enter Try.func54, Try.ntmps54
    go_wp2
    go_ret
    exact ⟨-1, rfl, rfl, by omega, by omega, by omega⟩
  · go_enter Try.func54, Try.ntmps54
    go_wp2
    go_loop [1, 5] (fun t i => ∃ (k : Nat) (r : Int), k ≤ l.length ∧ i = .int .i64 k ∧ t = .int .i64 r ∧ 0 ≤ r ∧ (l.length : Int) + r ≤ left ∧ Hid (∀ i, i < k → ((gr l i).length : Int) ≤ left)) (fun _ i => l.length - (intOf i).toNat)
    case atStart => exact ⟨0, left - l.length, by omega, rfl, rfl, by omega, by omega, fun i hi => absurd hi (by omega)⟩
    case round =>
      obtain ⟨k, r, hk, rfl, rfl, hr0, hr, Hr⟩ := hrel
      by_cases hlt : k < l.length
      · obtain ⟨x, hc, hx⟩ := Hc.out k hlt
        obtain rfl := Ha.out (by omega)
        have Hx := Lib.hid hx
        clear hx
        go_wp2_with (go_at_call 70; refine (szIntS_any _ Hx.out (by omega) (by omega)).mono ?_; rintro e w' ⟨r', rfl, rfl, hr1, hr2, hr3⟩)
        · go_ret
          exact ⟨-1, rfl, rfl, by omega, by omega, by omega⟩
        · go_round
          case rel =>
            refine ⟨k + 1, r', by omega, by go_num, rfl, by omega, by omega, fun i hi => ?_⟩
            by_cases e : i = k
            · subst e; omega
            · exact Hr.out i (by omega)
          case measure => simp [intOf]; omega
      · go_wp2
        go_ret
        obtain rfl : k = l.length := by omega
        exact ⟨r, rfl, rfl, by omega, by omega, fun _ => ⟨by omega, Hr.out⟩⟩

/-- The outer row when k of its rows are copied. -/
def iouterAt (w wr : World) (l : List (List Int)) (k : Nat) : Prop :=
  Ext w wr ∧ w.heap.size + 1 ≤ wr.heap.size ∧ ∃ (R : Nat → Value) (T : Nat → List Nat), wr.rowIs w.heap.size 24 l.length (fun i => if i < k then R i else .slice none 0 0) ∧
    (∀ i, i < k → OwnI wr (R i) (gr l i) (T i)) ∧ Fresh w (w.heap.size :: (List.range k).flatMap T)

theorem iouter_step {w wr w1 : World} {l : List (List Int)} {k : Nat} {v : Value} {bs : List Nat} (h : iouterAt w wr l k) (hx : Ext wr w1) (ho : OwnI w1 v (gr l k) bs) (hf : Fresh wr bs) :
    iouterAt w (w1.setCell ⟨w.heap.size, k, none⟩ v) l (k + 1) := by
  obtain ⟨he, hsz, R, T, hrow, hown, hfr⟩ := h
  have hb : ∀ i, i < k → ∀ b ∈ T i, b < wr.heap.size ∧ w.heap.size < b := fun i hi b hb => by
    refine ⟨(hown i hi).1.lt b hb, ?_⟩
    have hm : b ∈ (List.range k).flatMap T := List.mem_flatMap.2 ⟨i, List.mem_range.2 hi, hb⟩
    have h1 := hfr.2 b (List.mem_cons_of_mem _ hm)
    have h2 := (List.nodup_cons.1 hfr.1).1
    by_cases e : b = w.heap.size
    · subst e; exact absurd hm h2
    · omega
  have hne : ∀ b, w.heap.size < b → (w1.setCell ⟨w.heap.size, k, none⟩ v).heap[b]? = w1.heap[b]? := fun b hb => Below.heap_setCell _ _ _ _ (by show b ≠ w.heap.size; omega)
  refine ⟨(he.trans' hx).store (Nat.le_refl _) _, by have := hx.size; simp; omega, fun i => if i = k then v else R i, fun i => if i = k then bs else T i, ?_, fun i hi => ?_, ?_⟩
  · refine ((row_ext hrow hx).set k v).congr fun i hi => ?_
    by_cases e : i = k
    · subst e; simp
    · rw [if_neg e]
      simp only [if_neg e]
      by_cases hlt : i < k
      · rw [if_pos hlt, if_pos (by omega)]
      · rw [if_neg hlt, if_neg (by omega)]
  · by_cases e : i = k
    · subst e
      simp only [if_true]
      exact ho.keep fun b hb => hne b (by have := hf.2 b hb; omega)
    · simp only [if_neg e]
      exact ((hown i (by omega)).ext hx).keep fun b hb' => hne b (hb i (by omega) b hb').2
  · have hcong : (List.range k).flatMap (fun i => if i = k then bs else T i) = (List.range k).flatMap T := by
      rw [List.flatMap_def, List.flatMap_def]
      congr 1
      exact List.map_congr_left fun i hi => if_neg (by have := List.mem_range.1 hi; omega)
    rw [List.range_succ, List.flatMap_append, hcong]
    simp only [List.flatMap_cons, List.flatMap_nil, if_true, List.append_nil]
    rw [← List.cons_append]
    refine Fresh.append hfr (fun b hb' => ?_) he.size hf
    rcases List.mem_cons.1 hb' with rfl | hb'
    · omega
    · obtain ⟨i, hi, hbi⟩ := List.mem_flatMap.1 hb'
      exact (hb i (List.mem_range.1 hi) b hbi).1

set_option maxHeartbeats 400000 in
set_option maxRecDepth 100000 in
theorem toIntSS_own {w : World} {v : Value} {l : List (List Int)} (h : IntSS w v l) (hs : l.length ≤ 1048576) (hs2 : ∀ i, (gr l i).length ≤ 1048576) :
    Calls Try.prog 56 #[v] w fun e w' => ∃ a c bs, e = .returned (.slice a l.length c) ∧ Ext w w' ∧ OwnII w' (.slice a l.length c) l bs ∧ Fresh w bs := by
  obtain ⟨a, b, o, c, rfl, ha, h3, h4, hc⟩ := h
  unfold maxLen at h4
  have Hc := Lib.hid hc
  have Ha := Lib.hid ha
  have Hs := Lib.hid hs2
  clear hc ha hs2
  have hmk := run_make_row' (P := Try.prog) 22 24 (.slice none 0 0) 24 Try.underlying22 Try.infoTSI rfl .i64 .i64 l.length (by omega) (by omega)
  go_enter Try.func56, Try.ntmps56
  go_wp2
  clear hmk
  go_loopg [4] l.length (fun g i wr => ∃ k : Nat, k ≤ l.length ∧ g = l.length - k ∧ i = .int .i64 k ∧ Hid (iouterAt w wr l k))
  case atStart => exact ⟨0, Nat.zero_le _, rfl, rfl, (Ext.rfl' w).alloc' _, by simp, fun _ => .slice none 0 0, fun _ => [], (World.rowIs_made w _ _ _).congr fun i _ => by simp, fun i hi => absurd hi (by omega), by simp [Fresh]⟩
  case round =>
    obtain ⟨k, hk, rfl, rfl, Hr⟩ := hrel
    by_cases hlt : k < l.length
    · obtain ⟨x, hc, hx⟩ := Hc.out k hlt
      obtain rfl := Ha.out (by omega)
      have hx' := Lib.hid (hx.ext Hr.out.1)
      have hc' := Hr.out.1.cell' hc
      clear hx hc
      go_wp2_with (go_at_call 37; (with_reducible refine (toIntS_own hx'.out (Hs.out _)).mono ?_); rintro e w1 ⟨a', c', bs, rfl, he1, ho1, hf1⟩; obtain ⟨R, T, hrow, _⟩ := Hr.out.2.2; have f1 := (row_ext hrow he1).cell hlt; have f2 := (row_ext hrow he1).frozen k; have Hn := Lib.hid (iouter_step Hr.out he1 ho1 hf1); clear he1 ho1 hf1 hrow)
      go_roundg (l.length - (k + 1))
      case measure => omega
      case rel => exact ⟨k + 1, by omega, rfl, by go_num, Hn.out⟩
    · go_wp2
      go_ret
      obtain rfl : k = l.length := by omega
      obtain ⟨he, hsz, R, T, hrow, hown, hfr⟩ := Hr.out
      refine ⟨_, _, _, rfl, he, ⟨R, [w.heap.size], T, ?_, hown, rfl⟩, hfr⟩
      exact own_made (k := 1) (by simpa using hrow) (small_max hs) (fun i hi => by simp; omega)
set_option maxHeartbeats 1600000 in
set_option maxRecDepth 100000 in
theorem markIntSS_at {w : World} {v : Value} {l : List (List Int)} {bs : List Nat} (k : Int) (h : OwnII w v l bs) (hnd : bs.Nodup) (hs : IISmall l) (h0 : 0 ≤ k) (h1 : k ≤ 17592186044416) :
    Calls Try.prog 40 #[v, .int .i64 k] w fun e w' => ∃ r : Int, e = .returned (.int .i64 r) ∧ 0 ≤ r ∧ r ≤ k + 1099511627776 ∧ Chg w w' bs := by
  obtain ⟨hs, hs2⟩ := hs
  obtain ⟨R, b0, T, ⟨c, hc1, hc2, h⟩, hrows, rfl⟩ := h
  rcases h with ⟨hn, rfl, a, hac, rfl⟩ | ⟨b, m, g, rfl, rfl, ⟨hm, hmc⟩, hrow, hg⟩
  · have HZ := Lib.hid hn
    have HAC := Lib.hid hac
    clear hn hac
    go_enter Try.func40, Try.ntmps40
    go_wp2
    go_loop [1, 5] (fun t i => i = .int .i64 0 ∧ t = .int .i64 k) (fun _ _ => 0)
    case atStart => exact ⟨rfl, rfl⟩
    case round =>
      obtain ⟨rfl, rfl⟩ := hrel
      go_wp2
      go_ret
      exact ⟨_, rfl, by omega, by omega, Chg.rfl' _ _⟩
  · unfold maxLen at hc2
    have HMC := Lib.hid hmc
    clear hmc
    have HR := Lib.hid hrow
    have HT := Lib.hid hrows
    have HD := Lib.hid (nodup_rows hnd)
    have HS := Lib.hid hs2
    have Hg := Lib.hid hg
    have HK := Lib.hid (iAt_le k l hs2)
    clear hrow hrows hnd hs2 hg
    go_enter Try.func40, Try.ntmps40
    go_wp2
    go_loopg [1, 5] l.length (fun gh t i wr => ∃ j : Nat, j ≤ l.length ∧ gh = l.length - j ∧ i = .int .i64 j ∧ t = .int .i64 (iAt k l j) ∧ Hid (Chg w wr ([b] ++ (List.range l.length).flatMap T) ∧ wr.rowIs b 24 m g ∧ (∀ i, j ≤ i → i < l.length → OwnI wr (R i) (gr l i) (T i)) ∧ ∀ i, i < j → OwnI wr (R i) (marks (iAt k l i) (gr l i).length) (T i)))
    case atStart => exact ⟨0, Nat.zero_le _, rfl, rfl, rfl, Chg.rfl' _ _, HR.out, fun i _ hi => HT.out i hi, fun i hi => absurd hi (by omega)⟩
    case round =>
      obtain ⟨j, hj, rfl, rfl, rfl, Hr⟩ := hrel
      by_cases hlt : j < l.length
      · have f1 := Hr.out.2.1.cell (i := j) (by omega)
        rw [Hg.out j (by omega)] at f1
        obtain ⟨hk1, hk2⟩ := HK.out j
        go_wp2_with (go_at_call 34; (with_reducible refine (markIntS_any _ (Hr.out.2.2.1 j (Nat.le_refl _) hlt) (HS.out _) (by omega) (by omega)).mono ?_); rintro e w1 ⟨rfl, hch, hmk⟩; have HC := Lib.hid hch; have HM := Lib.hid hmk; clear hch hmk)
        go_roundg (l.length - (j + 1))
        case measure => omega
        case rel =>
          refine ⟨j + 1, by omega, rfl, by go_num, rfl, ?_, ?_, fun i hi1 hi2 => ?_, fun i hi => ?_⟩
          · exact Hr.out.1.trans' (HC.out.mono fun x hx => List.mem_append.2 (.inr (List.mem_flatMap.2 ⟨j, List.mem_range.2 hlt, hx⟩)))
          · exact Hr.out.2.1.of_block (HC.out.block b Hr.out.2.1.lt (HD.out.1 j hlt b (by simp)))
          · have ho := Hr.out.2.2.1 i (by omega) hi2
            exact ho.keep fun x hx => HC.out.block x (ho.1.lt x hx) (HD.out.2 i j hi2 hlt (by omega) x hx)
          · by_cases e : i = j
            · subst e; exact HM.out
            · have ho := Hr.out.2.2.2 i (by omega)
              exact ho.keep fun x hx => HC.out.block x (ho.1.lt x hx) (HD.out.2 i j (by omega) hlt e x hx)
      · obtain rfl : j = l.length := by omega
        go_wp2
        go_ret
        obtain ⟨hk1, hk2⟩ := HK.out l.length
        exact ⟨_, rfl, by omega, by omega, Hr.out.1⟩
end Go.Proofs.Ytdcgpodjoalokaa
