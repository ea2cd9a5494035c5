/- Lists of lists of integers: in memory of their own, compared, marked, held, and grown by append. -/
import Derived.Test.YtndgbildkeglfaaAe2
import Derived.Test.YtndgbildkeglfaaHold2
namespace Go.Proofs.Ytndgbildkeglfaa
open Go.RowKit

def OwnII (w : World) (v : Value) (l : List (List Int)) (bs : List Nat) : Prop :=
  ∃ (R : Nat → Value) (b0 : List Nat) (T : Nat → List Nat), OwnSl w v l.length 1 23 R b0 ∧ (∀ i, i < l.length → OwnI w (R i) (gr l i) (T i)) ∧ bs = b0 ++ (List.range l.length).flatMap T
/-- Short enough for the marks. -/
def IISmall (l : List (List Int)) : Prop := l.length ≤ 1048576 ∧ ∀ i, (gr l i).length ≤ 1048576

theorem OwnII.keep {w w' : World} {v : Value} {l : List (List Int)} {bs : List Nat} (h : OwnII w v l bs) (he : ∀ b ∈ bs, w'.heap[b]? = w.heap[b]?) : OwnII w' v l bs := by
  obtain ⟨R, b0, T, h1, h2, rfl⟩ := h
  refine ⟨R, b0, T, h1.keep fun b hb => he b (by simp [hb]), fun i hi => (h2 i hi).keep fun b hb => he b ?_, rfl⟩
  exact List.mem_append.2 (.inr (List.mem_flatMap.2 ⟨i, List.mem_range.2 hi, hb⟩))

theorem OwnII.lt {w : World} {v : Value} {l : List (List Int)} {bs : List Nat} (h : OwnII w v l bs) : ∀ b ∈ bs, b < w.heap.size := by
  obtain ⟨R, b0, T, h1, h2, rfl⟩ := h
  intro b hb
  rcases List.mem_append.1 hb with hb | hb
  · exact h1.lt b hb
  · obtain ⟨i, hi, hb⟩ := List.mem_flatMap.1 hb
    exact (h2 i (List.mem_range.1 hi)).1.lt b hb

theorem OwnII.ext {w w' : World} {v : Value} {l : List (List Int)} {bs : List Nat} (h : OwnII w v l bs) (he : Ext w w') : OwnII w' v l bs := h.keep fun b hb => he.block b (h.lt b hb)

theorem OwnII.read {w : World} {v : Value} {l : List (List Int)} {bs : List Nat} (h : OwnII w v l bs) : IntSS w v l := by
  obtain ⟨R, b0, T, ⟨c, h1, h2, h3⟩, h4, rfl⟩ := h
  rcases h3 with ⟨hn, rfl, a, -, rfl⟩ | ⟨b, m, g, rfl, rfl, hm, hr, hf⟩
  · exact ⟨a, 0, 0, c, by rw [hn], fun h => absurd h (by omega), by omega, h2, fun i hi => absurd hi (by omega)⟩
  · refine ⟨_, b, 0, c, rfl, fun _ => rfl, h1, h2, fun i hi => ⟨R i, ?_, (h4 i hi).read⟩⟩
    rw [Nat.zero_add, hr.cell (by omega), hf i (by omega)]

set_option maxHeartbeats 800000 in
set_option maxRecDepth 100000 in
theorem eqIntSS_any {w : World} {v1 v2 : Value} {l1 l2 : List (List Int)} (h1 : IntSS w v1 l1) (h2 : IntSS w v2 l2) :
    Calls Try.prog 41 #[v1, v2] w fun e w' => e = .returned (.bool (decide (l1 = l2))) ∧ Ext w w' := by
  obtain ⟨a1, b1, o1, c1, rfl, ha1, hl1, hm1, hc1⟩ := h1
  obtain ⟨a2, b2, o2, c2, rfl, ha2, hl2, hm2, hc2⟩ := h2
  unfold maxLen at hm1 hm2
  have Hc1 := Lib.hid hc1
  have Ha1 := Lib.hid ha1
  have Hc2 := Lib.hid hc2
  have Ha2 := Lib.hid ha2
  clear hc1 ha1 hc2 ha2
  by_cases hn : l1.length = l2.length
  · have Hn := Lib.hid hn
    have hnb : ((l1.length : Int) != (l2.length : Int)) = false := by simp; omega
    clear hn
    go_enter Try.func41, Try.ntmps41
    go_wp2
    go_loopg [5] l1.length (fun g i wr => ∃ k : Nat, k ≤ l1.length ∧ g = l1.length - k ∧ i = .int .i64 k ∧ Hid (Ext w wr ∧ ∀ j, j < k → gr l1 j = gr l2 j))
    case atStart => exact ⟨0, Nat.zero_le _, rfl, rfl, Ext.rfl' w, fun j hj => absurd hj (by omega)⟩
    case round =>
      obtain ⟨k, hk, rfl, rfl, Hr⟩ := hrel
      by_cases hlt : k < l1.length
      · have hlt2 : k < l2.length := by have := Hn.out; omega
        obtain ⟨x1, hc1, hx1⟩ := Hc1.out k hlt
        obtain ⟨x2, hc2, hx2⟩ := Hc2.out k hlt2
        obtain rfl := Ha1.out (by omega)
        obtain rfl := Ha2.out (by omega)
        have q1 := Hr.out.1.cell' hc1
        have q2 := Hr.out.1.cell' hc2
        have HX1 := Lib.hid hx1
        have HX2 := Lib.hid hx2
        clear hc1 hc2 hx1 hx2
        have Hx := Lib.hid Hr.out.1.drew'
        by_cases he : gr l1 k = gr l2 k
        · have Heb := Lib.hid (show decide (gr l1 k = gr l2 k) = true by simpa using he)
          have He := Lib.hid he
          clear he
          go_wp2
          go_region_held3 (fun w' => w'.cell? ⟨b1, o1 + k, none⟩ = some x1 ∧ w'.cell? ⟨b2, o2 + k, none⟩ = some x2 ∧ Hid (Ext w w')) (first | exact ⟨q1, q2, Hx⟩ | exact ⟨hx.cell' ‹_›, hx.cell' ‹_›, Ext.trans' (Hid.out ‹_›) hx⟩) (first | (go_at_call 30; (with_reducible refine (eqIntS_any (HX1.out.ext (Hid.out ‹Hid (Ext w _)›)) (HX2.out.ext (Hid.out ‹Hid (Ext w _)›))).mono ?_); rintro e w' ⟨rfl, hx⟩; rw [Heb.out]))
          rename_i hh
          have HX := hh.2.2
          clear hh hx Hx
          go_wp2
          go_roundg (l1.length - (k + 1))
          case measure => omega
          case rel =>
            refine ⟨k + 1, by omega, rfl, by go_num, HX.out, fun j hj => ?_⟩
            by_cases e : j = k
            · subst e; exact He.out
            · exact Hr.out.2 j (by omega)
        · have Heb := Lib.hid (show decide (gr l1 k = gr l2 k) = false by simpa using he)
          have He := Lib.hid he
          clear he
          go_wp2
          go_region_held3 (fun w' => w'.cell? ⟨b1, o1 + k, none⟩ = some x1 ∧ w'.cell? ⟨b2, o2 + k, none⟩ = some x2 ∧ Hid (Ext w w')) (first | exact ⟨q1, q2, Hx⟩ | exact ⟨hx.cell' ‹_›, hx.cell' ‹_›, Ext.trans' (Hid.out ‹_›) hx⟩) (first | (go_at_call 30; (with_reducible refine (eqIntS_any (HX1.out.ext (Hid.out ‹Hid (Ext w _)›)) (HX2.out.ext (Hid.out ‹Hid (Ext w _)›))).mono ?_); rintro e w' ⟨rfl, hx⟩; rw [Heb.out]))
          rename_i hh
          have HX := hh.2.2
          clear hh hx Hx
          go_wp2
          go_ret
          exact ⟨ret_bool (by rw [eq_comm, decide_eq_false_iff_not]; intro e; exact He.out (by rw [e])), HX.out⟩
      · go_wp2
        go_ret
        obtain rfl : k = l1.length := by omega
        exact ⟨ret_bool (by rw [eq_comm, decide_eq_true_iff]; exact rows_eq Hn.out Hr.out.2), Hr.out.1⟩
  · have hnb : ((l1.length : Int) != (l2.length : Int)) = true := by simp; omega
    go_enter Try.func41, Try.ntmps41
    go_wp2
    go_ret
    exact ⟨ret_bool (by rw [eq_comm, decide_eq_false_iff_not]; intro e; exact hn (by rw [e])), Ext.rfl' w⟩

theorem eqIntSS_same {w : World} {v1 v2 : Value} {l : List (List Int)} (h1 : IntSS w v1 l) (h2 : IntSS w v2 l) : Calls Try.prog 41 #[v1, v2] w fun e w' => e = .returned (.bool true) ∧ Ext w w' :=
  (eqIntSS_any h1 h2).mono fun e w' ⟨he, hx⟩ => ⟨by rw [he]; simp, hx⟩
/-- The mark with which row i begins. -/
def iAt (k : Int) (l : List (List Int)) : Nat → Int
  | 0 => k
  | i + 1 => iAt k l i + (gr l i).length
theorem iAt_le (k : Int) (l : List (List Int)) (hs : ∀ i, (gr l i).length ≤ 1048576) : ∀ i, k ≤ iAt k l i ∧ iAt k l i ≤ k + 1048576 * i
  | 0 => by simp [iAt]
  | i + 1 => by
    have h1 := iAt_le k l hs i
    have h2 := hs i
    simp only [iAt]
    omega
def imarks (k : Int) (l : List (List Int)) : List (List Int) := (List.range l.length).map fun i => marks (iAt k l i) (gr l i).length
theorem length_imarks (k : Int) (l : List (List Int)) : (imarks k l).length = l.length := by simp [imarks]
theorem gr_imarks (k : Int) (l : List (List Int)) (i : Nat) (h : i < l.length) : gr (imarks k l) i = marks (iAt k l i) (gr l i).length := by simp [gr, imarks, h]
def iLast (l : List (List Int)) : Int := iAt 1 l l.length
theorem iLast_bound {l : List (List Int)} (h : IISmall l) : 0 ≤ iLast l ∧ iLast l ≤ 1099511627777 := by
  obtain ⟨a, b⟩ := iAt_le 1 l h.2 l.length
  have := h.1
  unfold iLast
  omega

set_option maxHeartbeats 1600000 in
set_option maxRecDepth 100000 in
theorem markIntSS_own {w : World} {v : Value} {l : List (List Int)} {bs : List Nat} (h : OwnII w v l bs) (hnd : bs.Nodup) (hs : IISmall l) :
    Calls Try.prog 42 #[v, .int .i64 1] w fun e w' => e = .returned (.int .i64 (iLast l)) ∧ Chg w w' bs ∧ OwnII w' v (imarks 1 l) bs := by
  obtain ⟨hs, hs2⟩ := hs
  have hml := length_imarks 1 l
  obtain ⟨R, b0, T, ⟨c, hc1, hc2, h⟩, hrows, rfl⟩ := h
  rcases h with ⟨hn, rfl, a, hac, rfl⟩ | ⟨b, m, g, rfl, rfl, ⟨hm, hmc⟩, hrow, hg⟩
  · have HZ := Lib.hid hn
    have HAC := Lib.hid hac
    clear hn hac
    go_enter Try.func42, Try.ntmps42
    go_wp2
    go_loop [1, 5] (fun t i => i = .int .i64 0 ∧ t = .int .i64 1) (fun _ _ => 0)
    case atStart => exact ⟨rfl, rfl⟩
    case round =>
      obtain ⟨rfl, rfl⟩ := hrel
      go_wp2
      go_ret
      refine ⟨by unfold iLast; rw [HZ.out]; rfl, Chg.rfl' _ _, R, [], T, ⟨c, by rw [hml]; exact hc1, hc2, .inl ⟨by rw [hml]; exact HZ.out, rfl, a, HAC.out, rfl⟩⟩, fun i hi => absurd hi (by have := HZ.out; omega), by rw [hml]; rfl⟩
  · unfold maxLen at hc2
    have HMC := Lib.hid hmc
    clear hmc
    have HR := Lib.hid hrow
    have HT := Lib.hid hrows
    have HD := Lib.hid (nodup_rows hnd)
    have HS := Lib.hid hs2
    have Hg := Lib.hid hg
    have HK := Lib.hid (iAt_le 1 l hs2)
    clear hrow hrows hnd hs2 hg
    go_enter Try.func42, Try.ntmps42
    go_wp2
    go_loopg [1, 5] l.length (fun gh t i wr => ∃ j : Nat, j ≤ l.length ∧ gh = l.length - j ∧ i = .int .i64 j ∧ t = .int .i64 (iAt 1 l j) ∧ Hid (Chg w wr ([b] ++ (List.range l.length).flatMap T) ∧ wr.rowIs b 23 m g ∧ (∀ i, j ≤ i → i < l.length → OwnI wr (R i) (gr l i) (T i)) ∧ ∀ i, i < j → OwnI wr (R i) (marks (iAt 1 l i) (gr l i).length) (T i)))
    case atStart => exact ⟨0, Nat.zero_le _, rfl, rfl, rfl, Chg.rfl' _ _, HR.out, fun i _ hi => HT.out i hi, fun i hi => absurd hi (by omega)⟩
    case round =>
      obtain ⟨j, hj, rfl, rfl, rfl, Hr⟩ := hrel
      by_cases hlt : j < l.length
      · have f1 := Hr.out.2.1.cell (i := j) (by omega)
        rw [Hg.out j (by omega)] at f1
        obtain ⟨hk1, hk2⟩ := HK.out j
        go_wp2_with (go_at_call 32; (with_reducible refine (markIntS_any _ (Hr.out.2.2.1 j (Nat.le_refl _) hlt) (HS.out _) (by omega) (by omega)).mono ?_); rintro e w1 ⟨rfl, hch, hmk⟩; have HC := Lib.hid hch; have HM := Lib.hid hmk; clear hch hmk)
        go_roundg (l.length - (j + 1))
        case measure => omega
        case rel =>
          refine ⟨j + 1, by omega, rfl, by go_num, rfl, ?_, ?_, fun i hi1 hi2 => ?_, fun i hi => ?_⟩
          · exact Hr.out.1.trans' (HC.out.mono fun x hx => List.mem_append.2 (.inr (List.mem_flatMap.2 ⟨j, List.mem_range.2 hlt, hx⟩)))
          · exact Hr.out.2.1.of_block (HC.out.block b Hr.out.2.1.lt (HD.out.1 j hlt b (by simp)))
          · have ho := Hr.out.2.2.1 i (by omega) hi2
            exact ho.keep fun x hx => HC.out.block x (ho.1.lt x hx) (HD.out.2 i j hi2 hlt (by omega) x hx)
          · by_cases e : i = j
            · subst e; exact HM.out
            · have ho := Hr.out.2.2.2 i (by omega)
              exact ho.keep fun x hx => HC.out.block x (ho.1.lt x hx) (HD.out.2 i j (by omega) hlt e x hx)
      · obtain rfl : j = l.length := by omega
        go_wp2
        go_ret
        refine ⟨rfl, Hr.out.1, R, [b], T, ⟨c, by rw [hml]; exact hc1, by unfold maxLen; omega, .inr ⟨b, m, g, rfl, by rw [hml], by rw [hml]; exact ⟨hm, HMC.out⟩, Hr.out.2.1, fun i hi => by rw [hml] at hi; exact Hg.out i hi⟩⟩, fun i hi => ?_, by rw [hml]; rfl⟩
        rw [hml] at hi
        rw [gr_imarks _ _ _ hi]
        exact Hr.out.2.2.2 i hi


set_option maxHeartbeats 800000 in
set_option maxRecDepth 100000 in
theorem heldIntSS_any {w : World} {v : Value} {l : List (List Int)} (h : IntSS w v (imarks 1 l)) (hs : IISmall l) :
    Calls Try.prog 43 #[v, .int .i64 1] w fun e w' => e = .returned (.int .i64 (iLast l)) ∧ Ext w w' := by
  obtain ⟨hs, hs2⟩ := hs
  obtain ⟨a, b, o, c, rfl, ha, hl, hm, hc⟩ := h
  unfold maxLen at hm
  rw [length_imarks] at ha hl hc ⊢
  have Hc := Lib.hid hc
  have Ha := Lib.hid ha
  have HS := Lib.hid hs2
  have HK := Lib.hid (iAt_le 1 l hs2)
  clear hc ha hs2
  go_enter Try.func43, Try.ntmps43
  go_wp2
  go_loop [1, 5] (fun t i => ∃ j : Nat, j ≤ l.length ∧ i = .int .i64 j ∧ t = .int .i64 (iAt 1 l j)) (fun _ i => l.length - (intOf i).toNat)
  case atStart => exact ⟨0, Nat.zero_le _, rfl, rfl⟩
  case round =>
    obtain ⟨j, hj, rfl, rfl⟩ := hrel
    by_cases hlt : j < l.length
    · obtain ⟨x, hx, hrow⟩ := Hc.out j hlt
      rw [gr_imarks _ _ _ hlt] at hrow
      have HR := Lib.hid hrow
      obtain rfl := Ha.out (by omega)
      obtain ⟨hk1, hk2⟩ := HK.out j
      have hlen := HS.out j
      clear hrow
      go_wp2_with (go_at_call 33; (with_reducible refine (heldIntS_any _ _ HR.out (HS.out _) (by omega) (by omega)).mono ?_); rintro e w1 ⟨rfl, rfl⟩)
      go_round
      case rel => exact ⟨j + 1, by omega, by go_num, rfl⟩
      case measure => simp [intOf]; omega
    · obtain rfl : j = l.length := by omega
      go_wp2
      go_ret
      exact ⟨rfl, Ext.rfl' _⟩


/-- The first k rows of l are built in the slice v; all blocks are behind B. -/
def GrowI (B : Nat) (w : World) (v : Value) (l : List (List Int)) (k : Nat) : Prop :=
  ∃ (R : Nat → Value) (T : Nat → List Nat), w.ownsRow B 23 1 v k ((List.range k).map R) ∧ (∀ i, i < k → OwnI w (R i) (gr l i) (T i)) ∧ ((List.range k).flatMap T).Nodup ∧ ∀ b ∈ (List.range k).flatMap T, B ≤ b


theorem GrowI.nil (B : Nat) (w : World) (l : List (List Int)) : GrowI B w (.slice none 0 0) l 0 :=
  ⟨fun _ => undef, fun _ => [], World.ownsRow_nil _ _ _ _, fun i hi => absurd hi (by omega), by simp, by simp⟩

theorem GrowI.lt {B : Nat} {w : World} {v : Value} {l : List (List Int)} {k : Nat} (h : GrowI B w v l k) : ∀ b, v.ownBlock = some b → B ≤ b ∧ b < w.heap.size := by
  obtain ⟨R, T, h1, _⟩ := h
  exact h1.lt

theorem GrowI.keep {B : Nat} {w w' : World} {v : Value} {l : List (List Int)} {k : Nat} (h : GrowI B w v l k) (he : ∀ b, B ≤ b → b < w.heap.size → w'.heap[b]? = w.heap[b]?) : GrowI B w' v l k := by
  obtain ⟨R, T, h1, h2, h3, h4⟩ := h
  refine ⟨R, T, ⟨h1.1, ?_⟩, fun i hi => (h2 i hi).keep fun b hb => he b (h4 b (List.mem_flatMap.2 ⟨i, List.mem_range.2 hi, hb⟩)) ((h2 i hi).1.lt b hb), h3, h4⟩
  rcases h1.2 with ⟨rfl, hn⟩ | ⟨g, cap, cur, rfl, hb, hh, rest⟩
  · exact .inl ⟨rfl, hn⟩
  · exact .inr ⟨g, cap, cur, rfl, hb, by rw [he g hb (Array.getElem?_eq_some_iff.1 hh).1]; exact hh, rest⟩

theorem GrowI.ext {B : Nat} {w w' : World} {v : Value} {l : List (List Int)} {k : Nat} (h : GrowI B w v l k) (he : Ext w w') : GrowI B w' v l k := h.keep fun b _ hb => he.block b hb


/-- A further row. (w: the world at the append; x: the row.) -/
theorem GrowI.step {B : Nat} {w w' : World} {v v' x : Value} {l : List (List Int)} {k : Nat} {R : Nat → Value} {T : Nat → List Nat} {bs : List Nat}
    (h1 : w.ownsRow B 23 1 v k ((List.range k).map R)) (h2 : ∀ i, i < k → OwnI w (R i) (gr l i) (T i)) (h3 : ((List.range k).flatMap T).Nodup) (h4 : ∀ b ∈ (List.range k).flatMap T, B ≤ b)
    (ho : OwnI w x (gr l k) bs) (hnew : ∀ b ∈ bs, B ≤ b ∧ b ∉ (List.range k).flatMap T) (hg : Grew w w' B 23 1 v v' (k + 1) ((List.range k).map R ++ [x])) : GrowI B w' v' l (k + 1) := by
  have hcong : (List.range k).flatMap (fun i => if i = k then bs else T i) = (List.range k).flatMap T := by
    rw [List.flatMap_def, List.flatMap_def]
    congr 1
    exact List.map_congr_left fun i hi => if_neg (by have := List.mem_range.1 hi; omega)
  have hcongR : (List.range k).map (fun i => if i = k then x else R i) = (List.range k).map R :=
    List.map_congr_left fun i hi => if_neg (by have := List.mem_range.1 hi; omega)
  have hfl : (List.range (k + 1)).flatMap (fun i => if i = k then bs else T i) = (List.range k).flatMap T ++ bs := by
    rw [List.range_succ, List.flatMap_append, hcong]
    simp
  refine ⟨fun i => if i = k then x else R i, fun i => if i = k then bs else T i, ?_, fun i hi => ?_, ?_, ?_⟩
  · rw [← map_range_succ, hcongR]
    simpa using hg.1
  · by_cases e : i = k
    · subst e
      simp only [if_true]
      exact ho.keep (kept_grown h1 hg.2.1 ho.1.typed (by decide))
    · simp only [if_neg e]
      exact (h2 i (by omega)).keep (kept_grown h1 hg.2.1 (h2 i (by omega)).1.typed (by decide))
  · rw [hfl]
    exact List.nodup_append.2 ⟨h3, ho.1.nodup, fun a ha b hb e => (hnew b hb).2 (e ▸ ha)⟩
  · rw [hfl]
    intro b hb
    rcases List.mem_append.1 hb with hb | hb
    · exact h4 b hb
    · exact (hnew b hb).1


/-- All rows are built. -/
theorem GrowI.done {B : Nat} {w : World} {v : Value} {l : List (List Int)} (h : GrowI B w v l l.length) : ∃ bs, OwnII w v l bs ∧ bs.Nodup ∧ ∀ b ∈ bs, B ≤ b := by
  obtain ⟨R, T, ⟨hl, h1⟩, h2, h3, h4⟩ := h
  rcases h1 with ⟨rfl, hn⟩ | ⟨g, cap, cur, rfl, hb, hh, hc1, hc2, hs, ht⟩
  · refine ⟨[], ⟨R, [], T, ⟨0, by omega, by unfold maxLen; omega, .inl ⟨hn, rfl, none, ⟨rfl, rfl⟩, rfl⟩⟩, h2, ?_⟩, List.nodup_nil, by simp⟩
    rw [hn]; rfl
  · refine ⟨[g] ++ (List.range l.length).flatMap T, ⟨R, [g], T, ⟨cap, hc1, hc2, .inr ⟨g, cap * 1, fun i => cur.getD i undef, rfl, rfl, by omega, ⟨cur, hh, by omega, fun i hi => ?_⟩, fun i hi => ?_⟩⟩, h2, rfl⟩, ?_, ?_⟩
    · have hlt : i < cur.size := by omega
      simp [hlt]
    · have hlt : i < cur.size := by omega
      have e : ((List.range l.length).map R)[i]? = some (R i) := by simp [show i < l.length by omega]
      rw [← ht, List.getElem?_take, if_pos (by omega)] at e
      simp only [Array.getElem?_toList] at e
      simp [Array.getD, hlt]
      simpa [hlt] using e
    · refine List.nodup_append.2 ⟨by simp, h3, fun a ha b hb e => ?_⟩
      obtain rfl := List.mem_singleton.1 ha
      subst e
      obtain ⟨i, hi, hbi⟩ := List.mem_flatMap.1 hb
      obtain ⟨cur', hc'⟩ := (h2 i (List.mem_range.1 hi)).1.typed _ hbi
      exact type_ne hh hc' (by decide) rfl
    · intro b hb'
      rcases List.mem_append.1 hb' with hb' | hb'
      · obtain rfl := List.mem_singleton.1 hb'; exact hb
      · exact h4 b hb'


end Go.Proofs.Ytndgbildkeglfaa
