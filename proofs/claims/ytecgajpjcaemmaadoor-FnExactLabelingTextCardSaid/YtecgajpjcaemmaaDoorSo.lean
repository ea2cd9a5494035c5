/- Lists of lists of integers that come in: their size, copied, compared. -/
import Derived.Test.YtecgajpjcaemmaaDoorKc
namespace Go.Proofs.YtecgajpjcaemmaaDoor
open Go.RowKit

theorem Tryd.infoTSI : (Tryd.prog.info? 34).map (fun i => (i.zero, i.size, i.bytes)) = some (some (.slice none 0 0), 1, 24) := by kernel_rfl
def OwnII (w : World) (v : Value) (l : List (List Int)) (bs : List Nat) : Prop :=
  ∃ (R : Nat → Value) (b0 : List Nat) (T : Nat → List Nat), OwnSl w v l.length 1 34 R b0 ∧ (∀ i, i < l.length → OwnI w (R i) (gr l i) (T i)) ∧ bs = b0 ++ (List.range l.length).flatMap T
/-- Short enough for the marks. -/
def IISmall (l : List (List Int)) : Prop := l.length ≤ 1048576 ∧ ∀ i, (gr l i).length ≤ 1048576

theorem OwnII.keep {w w' : World} {v : Value} {l : List (List Int)} {bs : List Nat} (h : OwnII w v l bs) (he : ∀ b ∈ bs, w'.heap[b]? = w.heap[b]?) : OwnII w' v l bs := by
  obtain ⟨R, b0, T, h1, h2, rfl⟩ := h
  refine ⟨R, b0, T, h1.keep fun b hb => he b (by simp [hb]), fun i hi => (h2 i hi).keep fun b hb => he b ?_, rfl⟩
  exact List.mem_append.2 (.inr (List.mem_flatMap.2 ⟨i, List.mem_range.2 hi, hb⟩))

theorem OwnII.lt {w : World} {v : Value} {l : List (List Int)} {bs : List Nat} (h : OwnII w v l bs) : ∀ b ∈ bs, b < w.heap.size := by
  obtain ⟨R, b0, T, h1, h2, rfl⟩ := h
  intro b hb
  rcases List.mem_append.1 hb with hb | hb
  · exact h1.lt b hb
  · obtain ⟨i, hi, hb⟩ := List.mem_flatMap.1 hb
    exact (h2 i (List.mem_range.1 hi)).1.lt b hb

theorem OwnII.ext {w w' : World} {v : Value} {l : List (List Int)} {bs : List Nat} (h : OwnII w v l bs) (he : Ext w w') : OwnII w' v l bs := h.keep fun b hb => he.block b (h.lt b hb)

theorem OwnII.read {w : World} {v : Value} {l : List (List Int)} {bs : List Nat} (h : OwnII w v l bs) : IntSS w v l := by
  obtain ⟨R, b0, T, ⟨c, h1, h2, h3⟩, h4, rfl⟩ := h
  rcases h3 with ⟨hn, rfl, a, -, rfl⟩ | ⟨b, m, g, rfl, rfl, hm, hr, hf⟩
  · exact ⟨a, 0, 0, c, by rw [hn], fun h => absurd h (by omega), by omega, h2, fun i hi => absurd hi (by omega)⟩
  · refine ⟨_, b, 0, c, rfl, fun _ => rfl, h1, h2, fun i hi => ⟨R i, ?_, (h4 i hi).read⟩⟩
    rw [Nat.zero_add, hr.cell (by omega), hf i (by omega)]

set_option maxHeartbeats 800000 in
set_option maxRecDepth 100000 in
theorem eqIntSS_any {w : World} {v1 v2 : Value} {l1 l2 : List (List Int)} (h1 : IntSS w v1 l1) (h2 : IntSS w v2 l2) :
    Calls Tryd.prog 34 #[v1, v2] w fun e w' => e = .returned (.bool (decide (l1 = l2))) ∧ Ext w w' := by
  obtain ⟨a1, b1, o1, c1, rfl, ha1, hl1, hm1, hc1⟩ := h1
  obtain ⟨a2, b2, o2, c2, rfl, ha2, hl2, hm2, hc2⟩ := h2
  unfold maxLen at hm1 hm2
  have Hc1 := Lib.hid hc1
  have Ha1 := Lib.hid ha1
  have Hc2 := Lib.hid hc2
  have Ha2 := Lib.hid ha2
  clear hc1 ha1 hc2 ha2
  by_cases hn : l1.length = l2.length
  · have Hn := Lib.hid hn
    have hnb : ((l1.length : Int) != (l2.length : Int)) = false := by simp; omega
    clear hn
    go_enter Tryd.func34, Tryd.ntmps34
    go_wp2
    go_loopg [5] l1.length (fun g i wr => ∃ k : Nat, k ≤ l1.length ∧ g = l1.length - k ∧ i = .int .i64 k ∧ Hid (Ext w wr ∧ ∀ j, j < k → gr l1 j = gr l2 j))
    case atStart => exact ⟨0, Nat.zero_le _, rfl, rfl, Ext.rfl' w, fun j hj => absurd hj (by omega)⟩
    case round =>
      obtain ⟨k, hk, rfl, rfl, Hr⟩ := hrel
      by_cases hlt : k < l1.length
      · have hlt2 : k < l2.length := by have := Hn.out; omega
        obtain ⟨x1, hc1, hx1⟩ := Hc1.out k hlt
        obtain ⟨x2, hc2, hx2⟩ := Hc2.out k hlt2
        obtain rfl := Ha1.out (by omega)
        obtain rfl := Ha2.out (by omega)
        have q1 := Hr.out.1.cell' hc1
        have q2 := Hr.out.1.cell' hc2
        have HX1 := Lib.hid hx1
        have HX2 := Lib.hid hx2
        clear hc1 hc2 hx1 hx2
        have Hx := Lib.hid Hr.out.1.drew'
        by_cases he : gr l1 k = gr l2 k
        · have Heb := Lib.hid (show decide (gr l1 k = gr l2 k) = true by simpa using he)
          have He := Lib.hid he
          clear he
          go_wp2
          go_region_held3 (fun w' => w'.cell? ⟨b1, o1 + k, none⟩ = some x1 ∧ w'.cell? ⟨b2, o2 + k, none⟩ = some x2 ∧ Hid (Ext w w')) (first | exact ⟨q1, q2, Hx⟩ | exact ⟨hx.cell' ‹_›, hx.cell' ‹_›, Ext.trans' (Hid.out ‹_›) hx⟩) (first | (go_at_call 56; (with_reducible refine (eqIntS_any (HX1.out.ext (Hid.out ‹Hid (Ext w _)›)) (HX2.out.ext (Hid.out ‹Hid (Ext w _)›))).mono ?_); rintro e w' ⟨rfl, hx⟩; rw [Heb.out]))
          rename_i hh
          have HX := hh.2.2
          clear hh hx Hx
          go_wp2
          go_roundg (l1.length - (k + 1))
          case measure => omega
          case rel =>
            refine ⟨k + 1, by omega, rfl, by go_num, HX.out, fun j hj => ?_⟩
            by_cases e : j = k
            · subst e; exact He.out
            · exact Hr.out.2 j (by omega)
        · have Heb := Lib.hid (show decide (gr l1 k = gr l2 k) = false by simpa using he)
          have He := Lib.hid he
          clear he
          go_wp2
          go_region_held3 (fun w' => w'.cell? ⟨b1, o1 + k, none⟩ = some x1 ∧ w'.cell? ⟨b2, o2 + k, none⟩ = some x2 ∧ Hid (Ext w w')) (first | exact ⟨q1, q2, Hx⟩ | exact ⟨hx.cell' ‹_›, hx.cell' ‹_›, Ext.trans' (Hid.out ‹_›) hx⟩) (first | (go_at_call 56; (with_reducible refine (eqIntS_any (HX1.out.ext (Hid.out ‹Hid (Ext w _)›)) (HX2.out.ext (Hid.out ‹Hid (Ext w _)›))).mono ?_); rintro e w' ⟨rfl, hx⟩; rw [Heb.out]))
          rename_i hh
          have HX := hh.2.2
          clear hh hx Hx
          go_wp2
          go_ret
          exact ⟨ret_bool (by rw [eq_comm, decide_eq_false_iff_not]; intro e; exact He.out (by rw [e])), HX.out⟩
      · go_wp2
        go_ret
        obtain rfl : k = l1.length := by omega
        exact ⟨ret_bool (by rw [eq_comm, decide_eq_true_iff]; exact rows_eq Hn.out Hr.out.2), Hr.out.1⟩
  · have hnb : ((l1.length : Int) != (l2.length : Int)) = true := by simp; omega
    go_enter Tryd.func34, Tryd.ntmps34
    go_wp2
    go_ret
    exact ⟨ret_bool (by rw [eq_comm, decide_eq_false_iff_not]; intro e; exact hn (by rw [e])), Ext.rfl' w⟩

theorem eqIntSS_same {w : World} {v1 v2 : Value} {l : List (List Int)} (h1 : IntSS w v1 l) (h2 : IntSS w v2 l) : Calls Tryd.prog 34 #[v1, v2] w fun e w' => e = .returned (.bool true) ∧ Ext w w' :=
  (eqIntSS_any h1 h2).mono fun e w' ⟨he, hx⟩ => ⟨by rw [he]; simp, hx⟩
set_option maxHeartbeats 400000 in
set_option maxRecDepth 100000 in
theorem szIntSS_any {w : World} {v : Value} {l : List (List Int)} (left : Int) (h : IntSS w v l) (h0 : -1 ≤ left) (h1 : left ≤ 1048576) :
    Calls Tryd.prog 30 #[v, .int .i64 left] w fun e w' => ∃ r : Int, e = .returned (.int .i64 r) ∧ w = w' ∧ r ≤ left ∧ -1 ≤ r ∧
      (0 ≤ r → (l.length : Int) + r ≤ left ∧ ∀ i, i < l.length → ((gr l i).length : Int) ≤ left) := by
  obtain ⟨a, b, o, c, rfl, ha, h3, h4, hc⟩ := h
  unfold maxLen at h4
  have Hc := Lib.hid hc
  have Ha := Lib.hid ha
  clear hc ha
  by_cases hneg : left - l.length < 0
  · go_enter Tryd.func30, Tryd.ntmps30
    go_wp2
    go_ret
    exact ⟨-1, rfl, rfl, by omega, by omega, by omega⟩
  · go_enter Tryd.func30, Tryd.ntmps30
    go_wp2
    go_loop [1, 5] (fun t i => ∃ (k : Nat) (r : Int), k ≤ l.length ∧ i = .int .i64 k ∧ t = .int .i64 r ∧ 0 ≤ r ∧ (l.length : Int) + r ≤ left ∧ Hid (∀ i, i < k → ((gr l i).length : Int) ≤ left)) (fun _ i => l.length - (intOf i).toNat)
    case atStart => exact ⟨0, left - l.length, by omega, rfl, rfl, by omega, by omega, fun i hi => absurd hi (by omega)⟩
    case round =>
      obtain ⟨k, r, hk, rfl, rfl, hr0, hr, Hr⟩ := hrel
      by_cases hlt : k < l.length
      · obtain ⟨x, hc, hx⟩ := Hc.out k hlt
        obtain rfl := Ha.out (by omega)
        have Hx := Lib.hid hx
        clear hx
        go_wp2_with (go_at_call 47; refine (szIntS_any _ Hx.out (by omega) (by omega)).mono ?_; rintro e w' ⟨r', rfl, rfl, hr1, hr2, hr3⟩)
        · go_ret
          exact ⟨-1, rfl, rfl, by omega, by omega, by omega⟩
        · go_round
          case rel =>
            refine ⟨k + 1, r', by omega, by go_num, rfl, by omega, by omega, fun i hi => ?_⟩
            by_cases e : i = k
            · subst e; omega
            · exact Hr.out i (by omega)
          case measure => simp [intOf]; omega
      · go_wp2
        go_ret
        obtain rfl : k = l.length := by omega
        exact ⟨r, rfl, rfl, by omega, by omega, fun _ => ⟨by omega, Hr.out⟩⟩

/-- The outer row when k of its rows are copied. -/
def iouterAt (w wr : World) (l : List (List Int)) (k : Nat) : Prop :=
  Ext w wr ∧ w.heap.size + 1 ≤ wr.heap.size ∧ ∃ (R : Nat → Value) (T : Nat → List Nat), wr.rowIs w.heap.size 34 l.length (fun i => if i < k then R i else .slice none 0 0) ∧
    (∀ i, i < k → OwnI wr (R i) (gr l i) (T i)) ∧ Fresh w (w.heap.size :: (List.range k).flatMap T)

theorem iouter_step {w wr w1 : World} {l : List (List Int)} {k : Nat} {v : Value} {bs : List Nat} (h : iouterAt w wr l k) (hx : Ext wr w1) (ho : OwnI w1 v (gr l k) bs) (hf : Fresh wr bs) :
    iouterAt w (w1.setCell ⟨w.heap.size, k, none⟩ v) l (k + 1) := by
  obtain ⟨he, hsz, R, T, hrow, hown, hfr⟩ := h
  have hb : ∀ i, i < k → ∀ b ∈ T i, b < wr.heap.size ∧ w.heap.size < b := fun i hi b hb => by
    refine ⟨(hown i hi).1.lt b hb, ?_⟩
    have hm : b ∈ (List.range k).flatMap T := List.mem_flatMap.2 ⟨i, List.mem_range.2 hi, hb⟩
    have h1 := hfr.2 b (List.mem_cons_of_mem _ hm)
    have h2 := (List.nodup_cons.1 hfr.1).1
    by_cases e : b = w.heap.size
    · subst e; exact absurd hm h2
    · omega
  have hne : ∀ b, w.heap.size < b → (w1.setCell ⟨w.heap.size, k, none⟩ v).heap[b]? = w1.heap[b]? := fun b hb => Below.heap_setCell _ _ _ _ (by show b ≠ w.heap.size; omega)
  refine ⟨(he.trans' hx).store (Nat.le_refl _) _, by have := hx.size; simp; omega, fun i => if i = k then v else R i, fun i => if i = k then bs else T i, ?_, fun i hi => ?_, ?_⟩
  · refine ((row_ext hrow hx).set k v).congr fun i hi => ?_
    by_cases e : i = k
    · subst e; simp
    · rw [if_neg e]
      simp only [if_neg e]
      by_cases hlt : i < k
      · rw [if_pos hlt, if_pos (by omega)]
      · rw [if_neg hlt, if_neg (by omega)]
  · by_cases e : i = k
    · subst e
      simp only [if_true]
      exact ho.keep fun b hb => hne b (by have := hf.2 b hb; omega)
    · simp only [if_neg e]
      exact ((hown i (by omega)).ext hx).keep fun b hb' => hne b (hb i (by omega) b hb').2
  · have hcong : (List.range k).flatMap (fun i => if i = k then bs else T i) = (List.range k).flatMap T := by
      rw [List.flatMap_def, List.flatMap_def]
      congr 1
      exact List.map_congr_left fun i hi => if_neg (by have := List.mem_range.1 hi; omega)
    rw [List.range_succ, List.flatMap_append, hcong]
    simp only [List.flatMap_cons, List.flatMap_nil, if_true, List.append_nil]
    rw [← List.cons_append]
    refine Fresh.append hfr (fun b hb' => ?_) he.size hf
    rcases List.mem_cons.1 hb' with rfl | hb'
    · omega
    · obtain ⟨i, hi, hbi⟩ := List.mem_flatMap.1 hb'
      exact (hb i (List.mem_range.1 hi) b hbi).1

set_option maxHeartbeats 400000 in
set_option maxRecDepth 100000 in
theorem toIntSS_own {w : World} {v : Value} {l : List (List Int)} (h : IntSS w v l) (hs : l.length ≤ 1048576) (hs2 : ∀ i, (gr l i).length ≤ 1048576) :
    Calls Tryd.prog 32 #[v] w fun e w' => ∃ a c bs, e = .returned (.slice a l.length c) ∧ Ext w w' ∧ OwnII w' (.slice a l.length c) l bs ∧ Fresh w bs := by
  obtain ⟨a, b, o, c, rfl, ha, h3, h4, hc⟩ := h
  unfold maxLen at h4
  have Hc := Lib.hid hc
  have Ha := Lib.hid ha
  have Hs := Lib.hid hs2
  clear hc ha hs2
  have hmk := run_make_row' (P := Tryd.prog) 50 34 (.slice none 0 0) 24 Tryd.underlying50 Tryd.infoTSI rfl .i64 .i64 l.length (by omega) (by omega)
  go_enter Tryd.func32, Tryd.ntmps32
  go_wp2
  clear hmk
  go_loopg [4] l.length (fun g i wr => ∃ k : Nat, k ≤ l.length ∧ g = l.length - k ∧ i = .int .i64 k ∧ Hid (iouterAt w wr l k))
  case atStart => exact ⟨0, Nat.zero_le _, rfl, rfl, (Ext.rfl' w).alloc' _, by simp, fun _ => .slice none 0 0, fun _ => [], (World.rowIs_made w _ _ _).congr fun i _ => by simp, fun i hi => absurd hi (by omega), by simp [Fresh]⟩
  case round =>
    obtain ⟨k, hk, rfl, rfl, Hr⟩ := hrel
    by_cases hlt : k < l.length
    · obtain ⟨x, hc, hx⟩ := Hc.out k hlt
      obtain rfl := Ha.out (by omega)
      have hx' := Lib.hid (hx.ext Hr.out.1)
      have hc' := Hr.out.1.cell' hc
      clear hx hc
      go_wp2_with (go_at_call 51; (with_reducible refine (toIntS_own hx'.out (Hs.out _)).mono ?_); rintro e w1 ⟨a', c', bs, rfl, he1, ho1, hf1⟩; obtain ⟨R, T, hrow, _⟩ := Hr.out.2.2; have f1 := (row_ext hrow he1).cell hlt; have f2 := (row_ext hrow he1).frozen k; have Hn := Lib.hid (iouter_step Hr.out he1 ho1 hf1); clear he1 ho1 hf1 hrow)
      go_roundg (l.length - (k + 1))
      case measure => omega
      case rel => exact ⟨k + 1, by omega, rfl, by go_num, Hn.out⟩
    · go_wp2
      go_ret
      obtain rfl : k = l.length := by omega
      obtain ⟨he, hsz, R, T, hrow, hown, hfr⟩ := Hr.out
      refine ⟨_, _, _, rfl, he, ⟨R, [w.heap.size], T, ?_, hown, rfl⟩, hfr⟩
      exact own_made (k := 1) (by simpa using hrow) (small_max hs) (fun i hi => by simp; omega)

end Go.Proofs.YtecgajpjcaemmaaDoor
