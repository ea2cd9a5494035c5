/- The table of sums of the program: a row for each tail of the list. -/
import Derived.Test.YtcjiejbndmnjaaaI14
import Derived.RegionTactic
namespace Go.Proofs.Ytcjiejbndmnjaaa
open Go.RowKit

theorem ln_drop {l : List Int} {i x : Nat} (hi : i < l.length) (hx : gi l i = x) : ln (l.drop i) = x :: ln (l.drop (i + 1)) := by
  rw [List.drop_eq_getElem_cons hi]
  have : l[i] = (x : Int) := by rw [← hx]; simp [gi, hi]
  rw [this]
  simp [ln]
/-- Row i where the numbers below n have been looked at. -/
noncomputable def midRow (l : List Int) (i n m : Nat) : Value := .bool (if m < n then dec (Sum (ln (l.drop i)) m) else dec (Sum (ln (l.drop (i + 1))) m))
theorem midRow_lt {l : List Int} {i n m : Nat} (h : m < n) : midRow l i n m = .bool (dec (Sum (ln (l.drop i)) m)) := by unfold midRow; rw [if_pos h]
theorem midRow_at (l : List Int) (i n : Nat) : midRow l i n n = .bool (dec (Sum (ln (l.drop (i + 1))) n)) := by unfold midRow; rw [if_neg (by omega)]
theorem midRow_start {l : List Int} {i x m : Nat} (hi : i < l.length) (hx : gi l i = x) : sumAll (l.drop (i + 1)) m = midRow l i x m := by
  unfold midRow sumAll
  by_cases h : m < x
  · rw [if_pos h, ln_drop hi hx]
    congr 1
    refine dec_congr ⟨fun k => sum_cons.2 (.inl k), fun k => ?_⟩
    rcases sum_cons.1 k with k | ⟨k, _⟩
    · exact k
    · omega
  · rw [if_neg h]
theorem midRow_step {l : List Int} {i n : Nat} {q : Bool} (hq : q = dec (Sum (ln (l.drop i)) n)) (m : Nat) : midRow l i (n + 1) m = if m = n then .bool q else midRow l i n m := by
  by_cases e : m = n
  · subst e; rw [if_pos rfl, midRow_lt (by omega), hq]
  · rw [if_neg e]
    unfold midRow
    by_cases h : m < n
    · rw [if_pos h, if_pos (by omega)]
    · rw [if_neg h, if_neg (by omega)]
theorem mid_new {l : List Int} {i n x : Nat} (hi : i < l.length) (hx : gi l i = x) (hn : x ≤ n) (h : ¬Sum (ln (l.drop (i + 1))) n) : Sum (ln (l.drop i)) (n - x) ↔ Sum (ln (l.drop i)) n := by
  rw [ln_drop hi hx]
  constructor
  · exact fun k => sum_cons.2 (.inr ⟨hn, k⟩)
  · intro k
    rcases sum_cons.1 k with k | ⟨_, k⟩
    · exact absurd k h
    · exact k
theorem mid_old {l : List Int} {i n x : Nat} (hi : i < l.length) (hx : gi l i = x) (h : Sum (ln (l.drop (i + 1))) n) : Sum (ln (l.drop i)) n := by
  rw [ln_drop hi hx]
  exact sum_cons.2 (.inl h)

/-- Rows j and later are done. -/
def TabAt (w wr : World) (l : List Int) (most j : Nat) : Prop :=
  Ext w wr ∧ ∃ (R : Nat → Value) (T : Nat → Nat), wr.rowIs w.heap.size 52 (l.length + 1) R ∧ ∀ i, j ≤ i → i ≤ l.length → BRow wr (R i) (most + 1) (T i) (sumAll (l.drop i)) ∧ w.heap.size < T i
/-- .. and row i is a copy under work. -/
def TabMid (w wr : World) (l : List Int) (most i n : Nat) (v : Value) (g : Nat) : Prop :=
  Ext w wr ∧ ∃ (R : Nat → Value) (T : Nat → Nat), wr.rowIs w.heap.size 52 (l.length + 1) R ∧ (∀ j, i < j → j ≤ l.length → BRow wr (R j) (most + 1) (T j) (sumAll (l.drop j)) ∧ w.heap.size < T j ∧ T j ≠ g) ∧ R i = v ∧ BRow wr v (most + 1) g (midRow l i n) ∧ w.heap.size < g

theorem tab_clone {w wr w1 : World} {l : List Int} {most i x g : Nat} {v : Value} (hi : i < l.length) (hx : gi l i = x) (h : TabAt w wr l most (i + 1)) (he : Ext wr w1) (hg : wr.heap.size ≤ g) (hv : BRow w1 v (most + 1) g (sumAll (l.drop (i + 1)))) :
    TabMid w (w1.setCell ⟨w.heap.size, i, none⟩ v) l most i x v g := by
  obtain ⟨h1, R, T, h2, h3⟩ := h
  have hsz := h1.size
  have hB := h2.lt
  have hne : ∀ b, w.heap.size < b → (w1.setCell ⟨w.heap.size, i, none⟩ v).heap[b]? = w1.heap[b]? := fun b hb => Below.heap_setCell _ _ _ _ (by show b ≠ w.heap.size; omega)
  refine ⟨(h1.trans' he).store (Nat.le_refl _) _, fun j => if j = i then v else R j, T, ((row_ext h2 he).set i v), fun j hj hjl => ?_, by simp, (hv.keep (hne g (by omega))).congr fun m _ => midRow_start hi hx, by omega⟩
  obtain ⟨h4, h5⟩ := h3 j (by omega) hjl
  simp only [if_neg (show j ≠ i by omega)]
  exact ⟨(h4.ext he).keep (hne _ h5), h5, by have := h4.lt; omega⟩
theorem tab_store {w wr : World} {l : List Int} {most i n g : Nat} {v : Value} {q : Bool} (h : TabMid w wr l most i n v g) (hq : q = dec (Sum (ln (l.drop i)) n)) : TabMid w (wr.setCell ⟨g, n, none⟩ (.bool q)).drew l most i (n + 1) v g := by
  obtain ⟨h1, R, T, h2, h3, h4, h5, h6⟩ := h
  have hne : ∀ b, b ≠ g → (wr.setCell ⟨g, n, none⟩ (.bool q)).heap[b]? = wr.heap[b]? := fun b hb => Below.heap_setCell _ _ _ _ hb
  refine ⟨(h1.store (p := ⟨g, n, none⟩) (by show w.heap.size ≤ g; omega) _).drew', R, T, h2.of_block (hne _ (by omega)), fun j hj hjl => ?_, h4, h5.set fun m _ => midRow_step hq m, h6⟩
  obtain ⟨h7, h8, h9⟩ := h3 j hj hjl
  exact ⟨h7.keep (hne _ h9), h8, h9⟩
theorem tab_done {w wr : World} {l : List Int} {most i n g : Nat} {v : Value} (hn : most < n) (h : TabMid w wr l most i n v g) : TabAt w wr l most i := by
  obtain ⟨h1, R, T, h2, h3, h4, h5, h6⟩ := h
  refine ⟨h1, R, fun j => if j = i then g else T j, h2, fun j hj hjl => ?_⟩
  by_cases e : j = i
  · subst e
    simp only [if_true]
    rw [h4]
    exact ⟨h5.congr fun m hm => midRow_lt (by omega), h6⟩
  · simp only [if_neg e]
    obtain ⟨h7, h8, h9⟩ := h3 j (by omega) hjl
    exact ⟨h7, h8⟩

set_option maxHeartbeats 3200000 in
set_option maxRecDepth 100000 in
theorem sumsFrom_any {w : World} {v : Value} {l : List Int} (most : Nat) (h : IntSl w v l) (hl : LenP l) (hlen : l.length ≤ 1000) (hmost : most ≤ 100000) :
    Calls Try.prog 69 #[v, .int .i64 most] w fun e w' => e = .returned (.slice (some ⟨w.heap.size, 0, none⟩) (l.length + 1) (l.length + 1)) ∧ TabAt w w' l most 0 := by
  have HL := Lib.hid hl
  obtain ⟨a, b, o, c, rfl, ha, hl', hm, hc⟩ := h
  unfold maxLen at hm
  have Hc := Lib.hid hc
  have Ha := Lib.hid ha
  clear hc ha hl
  have hmk1 := run_make_row' (P := Try.prog) 52 4 (.bool false) 1 Try.underlying52 Try.info4 rfl .i64 .i64 (most + 1) (by omega) (by omega)
  have hcast : ((most + 1 : Nat) : Int) = (most : Int) + 1 := rfl
  rw [hcast] at hmk1
  have hmk2 := run_make_row' (P := Try.prog) 55 52 (.slice none 0 0) 24 Try.underlying55 (by kernel_rfl) rfl .i64 .i64 (l.length + 1) (by omega) (by omega)
  have hcast2 : ((l.length + 1 : Nat) : Int) = (l.length : Int) + 1 := rfl
  rw [hcast2] at hmk2
  clear hcast hcast2
  have hT0 := (World.rowIs_made w (.slice none 0 0) (l.length + 1) 52).set l.length (.slice (some ⟨w.heap.size + 1, 0, none⟩) (most + 1) (most + 1))
  rw [World.setCell_alloc_at _ _ _ _ _ rfl] at hT0
  have t0 := ((World.rowIs_made w (.slice none 0 0) (l.length + 1) 52).alloc (.cells (madeCells #[.bool false] (most + 1)) 4)).cell (i := l.length) (by omega)
  have t1 := ((World.rowIs_made w (.slice none 0 0) (l.length + 1) 52).alloc (.cells (madeCells #[.bool false] (most + 1)) 4)).frozen l.length
  have t2 := (hT0.alloc (.cells (madeCells #[.bool false] (most + 1)) 4)).cell (i := l.length) (by omega)
  rw [if_pos rfl] at t2
  have hR := World.rowIs_made (w.alloc (.cells ((madeCells #[.slice none 0 0] (l.length + 1)).setIfInBounds l.length (.slice (some ⟨w.heap.size + 1, 0, none⟩) (most + 1) (most + 1))) 52)) (.bool false) (most + 1) 4
  simp only [World.size_alloc] at hR
  have r0 := hR.cell (i := 0) (by omega)
  have r1 := hR.frozen 0
  have hR1 := hR.set 0 (.bool true)
  rw [World.setCell_alloc_at _ _ _ _ _ (by simp)] at hR1
  have HT := Lib.hid hT0
  have HR := Lib.hid hR1
  clear hT0 hR hR1
  go_enter Try.func69, Try.ntmps69
  go_wp2_with fail
  clear hmk1 hmk2 t0 t1 t2 r0 r1
  go_loopg [6] l.length (fun g i wr => ∃ (i' : Int) (j : Nat), j ≤ l.length ∧ i' = (j : Int) - 1 ∧ g = j ∧ i = .int .i64 i' ∧ Hid (TabAt w wr l most j))
  case atStart =>
    refine ⟨(l.length : Int) - 1, l.length, Nat.le_refl _, rfl, rfl, rfl, ((Ext.rfl' w).alloc' _).alloc' _, _, fun _ => w.heap.size + 1, HT.out.alloc _, fun i h1 h2 => ?_⟩
    obtain rfl : i = l.length := by omega
    refine ⟨⟨most + 1, most + 1, _, by rw [if_pos rfl], Nat.le_refl _, by unfold maxLen; omega, Nat.le_refl _, HR.out, fun m _ => ?_⟩, Nat.lt_succ_self _⟩
    unfold sumAll
    rw [List.drop_length, show ln [] = [] from rfl]
    by_cases e : m = 0
    · subst e; rw [if_pos rfl, dec_true .zero]
    · rw [if_neg e, dec_false (fun h => e (sum_nil.1 h))]
  case round =>
    obtain ⟨i', j, hj, hi', hg, rfl, Hr⟩ := hrel
    by_cases h0 : 0 ≤ i'
    · obtain ⟨i, rfl⟩ := Int.eq_ofNat_of_zero_le h0
      obtain rfl : j = i + 1 := by omega
      have HG := Lib.hid hg
      clear hi' h0 hg
      have hlt : i < l.length := by omega
      obtain ⟨y, hc, rfl, _⟩ := Hc.out i hlt
      obtain rfl := Ha.out (by omega)
      obtain ⟨x, hx, hx0, hx1⟩ := lenP_get HL.out hlt
      rw [hx] at hc
      have HX := Lib.hid hx
      have Hcell := Lib.hid hc
      clear hx hc
      obtain ⟨wo, rfl⟩ : ∃ wo : World, wo = wr := ⟨_, rfl⟩
      obtain ⟨h1, R, T, h2, h3⟩ := Hr.out
      obtain ⟨h4, h5⟩ := h3 (i + 1) (Nat.le_refl _) (by omega)
      have q1 := h2.cell (i := i + 1) (by omega)
      have HB := Lib.hid h4
      have H2 := Lib.hid h2
      have H1 := Lib.hid h1
      clear h1 h2 h3 h4 h5
      go_wp2_with (go_at_call 74; (with_reducible refine (clone_any (by omega) (by omega) HB.out (fun _ _ => rfl)).mono ?_); rintro e w1 ⟨v', g', rfl, hx, hgt, hv⟩; obtain ⟨c2, m2, gf2, rfl, _, _, _, _, _⟩ := id hv; have f1 := (row_ext H2.out hx).cell (i := i) (by omega); have f2 := (row_ext H2.out hx).frozen i; have HM := Lib.hid (tab_clone hlt HX.out Hr.out hx hgt hv); have q3 := ((H1.out.trans' hx).store (p := ⟨w.heap.size, i, none⟩) (Nat.le_refl _) (.slice (some ⟨g', 0, none⟩) (most + 1) c2)).cell' Hcell.out; clear hx hgt hv)
      clear f1 f2 q3
      go_loopg [7] (most + 41 - x) (fun g m wr => ∃ n : Nat, x ≤ n ∧ n ≤ most + 41 ∧ g = most + 41 - n ∧ m = .int .i64 (n : Int) ∧ Hid (TabMid w wr l most i n (.slice (some ⟨g', 0, none⟩) (most + 1) c2) g'))
      case atStart => exact ⟨x, Nat.le_refl _, by omega, rfl, rfl, HM.out⟩
      case round =>
        obtain ⟨n, hn1, hn2, hg, rfl, Hs⟩ := hrel
        have HG2 := Lib.hid hg
        clear hg
        by_cases hle : n ≤ most
        · obtain ⟨h1, R, T, h2, h3, h4, h5, h6⟩ := Hs.out
          have q1 := h2.cell (i := i) (by omega)
          rw [h4] at q1
          obtain ⟨q2, q4⟩ := h5.cell (i := n) (by omega)
          have q5 := (h5.cell (i := n - x) (by omega)).1
          rw [midRow_at] at q2
          rw [midRow_lt (by omega)] at q5
          have q6 := h1.cell' Hcell.out
          have en : (n : Int) - (x : Int) = ((n - x : Nat) : Int) := by omega
          clear h1 h2 h3 h4 h5 h6
          by_cases hs : Sum (ln (l.drop (i + 1))) n
          · rw [dec_true hs] at q2
            have HS := Lib.hid (tab_store (q := true) Hs.out (dec_true (mid_old hlt HX.out hs)).symm)
            clear hs
            go_wp2
            go_region
            go_wp2
            go_roundg (most + 41 - (n + 1))
            case measure => have := HG2.out; omega
            case rel => exact ⟨n + 1, by omega, by omega, rfl, by go_num, HS.out⟩
          · rw [dec_false hs] at q2
            have HS := Lib.hid (tab_store (q := dec (Sum (ln (l.drop i)) (n - x))) Hs.out (dec_congr (mid_new hlt HX.out hn1 hs)))
            clear hs
            go_wp2
            go_region
            go_wp2
            go_roundg (most + 41 - (n + 1))
            case measure => have := HG2.out; omega
            case rel => exact ⟨n + 1, by omega, by omega, rfl, by go_num, HS.out⟩
        · have HS := Lib.hid (tab_done (by omega) Hs.out)
          go_wp2
          go_roundg i
          case measure => have := HG.out; omega
          case rel => exact ⟨(i : Int) - 1, i, by omega, rfl, rfl, by go_num, HS.out⟩
    · obtain rfl : j = 0 := by omega
      obtain rfl : i' = -1 := by omega
      clear hi' h0 hg
      go_wp2
      go_ret
      exact ⟨rfl, Hr.out⟩
end Go.Proofs.Ytcjiejbndmnjaaa
