/- A value program as a list of pairs: copied, compared, counted. -/
import Derived.Test.YtbddjejpacaglaaGreatDoorKd
namespace Go.Proofs.YtbddjejpacaglaaGreatDoor
open Go.RowKit

theorem szValueOpS_any {w : World} {v : Value} {l : List (Int × Int)} (left : Int) (h : EndSl w v l) (h0 : -1 ≤ left) (h1 : left ≤ 1048576) :
    Calls Tryz.prog 7 #[v, .int .i64 left] w fun e w' => ∃ r : Int, e = .returned (.int .i64 r) ∧ w = w' ∧ r ≤ left ∧ -1 ≤ r ∧ (0 ≤ r → (l.length : Int) + r ≤ left) := by
  obtain ⟨a, b, o, c, rfl, _, h3, h4, _⟩ := h
  unfold maxLen at h4
  go_enter Tryz.func7, Tryz.ntmps7
  go_wp2
  all_goals go_ret
  · exact ⟨-1, rfl, rfl, by omega, by omega, by omega⟩
  · exact ⟨_, rfl, rfl, by omega, by omega, by omega⟩

theorem toValueOp_any (x y : Int) (w : World) :
    Calls Tryz.prog 35 #[.agg #[.int .i64 x, .int .i64 y]] w fun e w' => e = .returned (.agg #[.int .i64 x, .int .i64 y]) ∧ Ext w w' ∧ w'.heap.size = w.heap.size + 3 := by
  go_enter Tryz.func35, Tryz.ntmps35
  go_wp2
  refine bodyPost_ret (v := .agg #[.int .i64 x, .int .i64 y]) (by simp [results, Tryz.results35, go_sem]) rfl ⟨rfl, ?_, by simp⟩
  exact (((Ext.rfl' w).alloc' _).alloc' _).alloc' _

theorem Tryz.infoVO : (Tryz.prog.info? 59).map (fun i => (i.zero, i.size, i.bytes)) = some (some (.agg #[.int .i64 0, .int .i64 0]), 2, 16) := by kernel_rfl

theorem ecopiedV_step {w : World} {b : Nat} {l : List (Int × Int)} {k n : Nat} (h : w.rowIs b 59 n (ecopied l k)) :
    ((w.setCell ⟨b, k * 2, none⟩ (.int .i64 (gn l k))).setCell ⟨b, k * 2 + 1, none⟩ (.int .i64 (gp l k))).rowIs b 59 n (ecopied l (k + 1)) :=
  ((h.set _ _).set _ _).congr fun i _ => by
    simp only [ecopied]
    by_cases e : i = k * 2 + 1
    · subst e
      rw [if_pos rfl, if_pos (by omega)]
      simp only [ecell]
      rw [if_neg (by omega)]
      congr 2; omega
    · rw [if_neg e]
      by_cases e2 : i = k * 2
      · subst e2
        rw [if_pos rfl, if_pos (by omega)]
        simp only [ecell]
        rw [if_pos (by omega)]
        congr 2; omega
      · rw [if_neg e2]
        by_cases hlt : i < k * 2
        · rw [if_pos hlt, if_pos (by omega)]
        · rw [if_neg hlt, if_neg (by omega)]

theorem emadeV (w : World) (n : Nat) : (w.alloc (.cells (madeCells #[.int .i64 0, .int .i64 0] (n * 2)) 59)).rowIs w.heap.size 59 (n * 2) (fun _ => .int .i64 0) :=
  ⟨_, Go.Deep.blk_alloc_new _ _, size_madeCells _ _, fun i hi => by
    simp only [madeCells]
    have h2 : i % 2 = 0 ∨ i % 2 = 1 := by omega
    rcases h2 with h2 | h2 <;> simp [hi, h2]⟩

set_option maxHeartbeats 400000 in
set_option maxRecDepth 100000 in
theorem toValueOpS_any {w : World} {v : Value} {l : List (Int × Int)} (h : EndSl w v l) (hs : l.length ≤ 1048576) :
    Calls Tryz.prog 10 #[v] w fun e w' => e = .returned (.slice (some ⟨w.heap.size, 0, none⟩) l.length l.length) ∧ Ext w w' ∧ w.heap.size + 1 ≤ w'.heap.size ∧ w'.rowIs w.heap.size 59 (l.length * 2) (ecopied l l.length) := by
  obtain ⟨a, b, o, c, rfl, ha, h3, h4, hc⟩ := h
  unfold maxLen at h4
  have Hc := Lib.hid hc
  have Ha := Lib.hid ha
  clear hc ha
  obtain ⟨i0, hi, hz0, hz1, hz2⟩ := info_parts Tryz.infoVO
  have hmk : ∀ u : World, (Instr.makeSlice 31 (.int .i64 (l.length : Int)) (.int .i64 (l.length : Int))).run Tryz.prog u =
      .ok (.slice (some ⟨u.heap.size, 0, none⟩) l.length l.length) (u.alloc (.cells (madeCells #[.int .i64 0, .int .i64 0] (l.length * 2)) 59)) := fun u => by
    have h := run_make (P := Tryz.prog) u 31 59 i0 _ Tryz.underlying31 hi hz0 .i64 .i64 l.length l.length (by omega) (Int.le_refl _) (by rw [hz2]; omega) (by omega)
    simpa [hz1, Value.cells] using h
  go_enter Tryz.func10, Tryz.ntmps10
  go_wp2
  clear hmk hi hz0 hz1 hz2
  go_loopg [4] l.length (fun g i wr => ∃ k : Nat, k ≤ l.length ∧ g = l.length - k ∧ i = .int .i64 k ∧ Hid (Ext w wr ∧ w.heap.size + 1 ≤ wr.heap.size ∧ wr.rowIs w.heap.size 59 (l.length * 2) (ecopied l k)))
  case atStart => exact ⟨0, Nat.zero_le _, rfl, rfl, (Ext.rfl' w).alloc' _, by simp, (emadeV w _).congr fun i _ => by simp [ecopied]⟩
  case round =>
    obtain ⟨k, hk, rfl, rfl, Hr⟩ := hrel
    by_cases hlt : k < l.length
    · obtain ⟨hc1, hc2, _, _⟩ := Hc.out k hlt
      obtain rfl := Ha.out (by omega)
      obtain ⟨he, hsz, hrow⟩ := Hr.out
      have hc1' := he.cell' hc1
      have hc2' := he.cell' hc2
      have Hrow := Lib.hid hrow
      clear hrow hc1 hc2
      go_wp2_with (go_at_call 35; (with_reducible refine (toValueOp_any _ _ _).mono ?_); rintro e w1 ⟨rfl, he1, hsz1⟩; obtain ⟨f1, f2, f3, f4⟩ := row_two (row_ext Hrow.out he1) (show k * 2 + 1 < l.length * 2 by omega); have He1 := Lib.hid he1; clear he1)
      go_roundg (l.length - (k + 1))
      case measure => omega
      case rel => exact ⟨k + 1, by omega, rfl, by go_num, (((he.trans' He1.out).store (Nat.le_refl _) _).store (Nat.le_refl _) _), by simp; omega, ecopiedV_step (row_ext Hrow.out He1.out)⟩
    · go_wp2
      go_ret
      obtain rfl : k = l.length := by omega
      obtain ⟨he, hsz, hrow⟩ := Hr.out
      exact ⟨rfl, he, hsz, hrow⟩

theorem eqValueOp_any (x1 y1 x2 y2 : Int) (w : World) :
    Calls Tryz.prog 41 #[.agg #[.int .i64 x1, .int .i64 y1], .agg #[.int .i64 x2, .int .i64 y2]] w fun e w' => e = .returned (.bool (decide (x1 = x2 ∧ y1 = y2))) ∧ Ext w w' := by
  by_cases hx : x1 = x2
  · have hb : (x1 != x2) = false := by simp [hx]
    have Hx := Lib.hid hx
    clear hx
    by_cases hy : y1 = y2
    · have hb2 : (y1 != y2) = false := by simp [hy]
      have Hy := Lib.hid hy
      clear hy
      go_enter Tryz.func41, Tryz.ntmps41
      go_wp2
      go_ret
      exact ⟨ret_bool (by simp [Hx.out, Hy.out]), ((Ext.rfl' w).alloc' _).alloc' _⟩
    · have hb2 : (y1 != y2) = true := by simp [hy]
      go_enter Tryz.func41, Tryz.ntmps41
      go_wp2
      go_ret
      exact ⟨ret_bool (by simp [hy]), ((Ext.rfl' w).alloc' _).alloc' _⟩
  · have hb : (x1 != x2) = true := by simp [hx]
    go_enter Tryz.func41, Tryz.ntmps41
    go_wp2
    go_ret
    exact ⟨ret_bool (by simp [hx]), ((Ext.rfl' w).alloc' _).alloc' _⟩

set_option maxHeartbeats 800000 in
set_option maxRecDepth 100000 in
theorem eqValueOpS_any {w : World} {v1 v2 : Value} {l1 l2 : List (Int × Int)} (h1 : EndSl w v1 l1) (h2 : EndSl w v2 l2) :
    Calls Tryz.prog 15 #[v1, v2] w fun e w' => e = .returned (.bool (decide (l1 = l2))) ∧ Ext w w' := by
  obtain ⟨a1, b1, o1, c1, rfl, ha1, hl1, hm1, hc1⟩ := h1
  obtain ⟨a2, b2, o2, c2, rfl, ha2, hl2, hm2, hc2⟩ := h2
  unfold maxLen at hm1 hm2
  have Hc1 := Lib.hid hc1
  have Ha1 := Lib.hid ha1
  have Hc2 := Lib.hid hc2
  have Ha2 := Lib.hid ha2
  clear hc1 ha1 hc2 ha2
  by_cases hn : l1.length = l2.length
  · have Hn := Lib.hid hn
    have hnb : ((l1.length : Int) != (l2.length : Int)) = false := by simp; omega
    clear hn
    go_enter Tryz.func15, Tryz.ntmps15
    go_wp2
    go_loopg [5] l1.length (fun g i wr => ∃ k : Nat, k ≤ l1.length ∧ g = l1.length - k ∧ i = .int .i64 k ∧ Hid (Ext w wr ∧ ∀ j, j < k → gn l1 j = gn l2 j ∧ gp l1 j = gp l2 j))
    case atStart => exact ⟨0, Nat.zero_le _, rfl, rfl, Ext.rfl' w, fun j hj => absurd hj (by omega)⟩
    case round =>
      obtain ⟨k, hk, rfl, rfl, Hr⟩ := hrel
      by_cases hlt : k < l1.length
      · have hlt2 : k < l2.length := by have := Hn.out; omega
        obtain ⟨hc1, hd1, _⟩ := Hc1.out k hlt
        obtain ⟨hc2, hd2, _⟩ := Hc2.out k hlt2
        obtain rfl := Ha1.out (by omega)
        obtain rfl := Ha2.out (by omega)
        have q1 := Hr.out.1.cell' hc1
        have q2 := Hr.out.1.cell' hc2
        have q3 := Hr.out.1.cell' hd1
        have q4 := Hr.out.1.cell' hd2
        clear hc1 hc2 hd1 hd2
        have Hx := Lib.hid Hr.out.1.drew'
        by_cases he : gn l1 k = gn l2 k ∧ gp l1 k = gp l2 k
        · have heb : decide (gn l1 k = gn l2 k ∧ gp l1 k = gp l2 k) = true := by simp [he]
          have He := Lib.hid he
          have Heb := Lib.hid heb
          clear he heb
          go_wp2
          go_region_held3 (fun w' => w'.cell? ⟨b1, o1 + k * 2, none⟩ = some (.int .i64 (gn l1 k)) ∧ w'.cell? ⟨b2, o2 + k * 2, none⟩ = some (.int .i64 (gn l2 k)) ∧ w'.cell? ⟨b1, o1 + k * 2 + 1, none⟩ = some (.int .i64 (gp l1 k)) ∧ w'.cell? ⟨b2, o2 + k * 2 + 1, none⟩ = some (.int .i64 (gp l2 k)) ∧ Hid (Ext w w')) (first | exact ⟨q1, q2, q3, q4, Hx⟩ | exact ⟨hx.cell' ‹_›, hx.cell' ‹_›, hx.cell' ‹_›, hx.cell' ‹_›, Ext.trans' (Hid.out ‹_›) hx⟩) (first | (go_at_call 41; (with_reducible refine (eqValueOp_any _ _ _ _ _).mono ?_); rintro e w' ⟨rfl, hx⟩; rw [Heb.out]))
          rename_i hh
          have HX := hh.2.2.2.2
          clear hh hx Hx
          go_wp2
          go_roundg (l1.length - (k + 1))
          case measure => omega
          case rel =>
            refine ⟨k + 1, by omega, rfl, by go_num, HX.out, fun j hj => ?_⟩
            by_cases e : j = k
            · subst e; exact He.out
            · exact Hr.out.2 j (by omega)
        · have Heb := Lib.hid (show decide (gn l1 k = gn l2 k ∧ gp l1 k = gp l2 k) = false by simpa using he)
          have He := Lib.hid he
          clear he
          go_wp2
          go_region_held3 (fun w' => w'.cell? ⟨b1, o1 + k * 2, none⟩ = some (.int .i64 (gn l1 k)) ∧ w'.cell? ⟨b2, o2 + k * 2, none⟩ = some (.int .i64 (gn l2 k)) ∧ w'.cell? ⟨b1, o1 + k * 2 + 1, none⟩ = some (.int .i64 (gp l1 k)) ∧ w'.cell? ⟨b2, o2 + k * 2 + 1, none⟩ = some (.int .i64 (gp l2 k)) ∧ Hid (Ext w w')) (first | exact ⟨q1, q2, q3, q4, Hx⟩ | exact ⟨hx.cell' ‹_›, hx.cell' ‹_›, hx.cell' ‹_›, hx.cell' ‹_›, Ext.trans' (Hid.out ‹_›) hx⟩) (first | (go_at_call 41; (with_reducible refine (eqValueOp_any _ _ _ _ _).mono ?_); rintro e w' ⟨rfl, hx⟩; rw [Heb.out]))
          rename_i hh
          have HX := hh.2.2.2.2
          clear hh hx Hx
          go_wp2
          go_ret
          exact ⟨ret_bool (by rw [eq_comm, decide_eq_false_iff_not]; intro e; exact He.out (by rw [e]; exact ⟨rfl, rfl⟩)), HX.out⟩
      · go_wp2
        go_ret
        obtain rfl : k = l1.length := by omega
        exact ⟨ret_bool (by rw [eq_comm, decide_eq_true_iff]; exact ends_eq Hn.out Hr.out.2), Hr.out.1⟩
  · have hnb : ((l1.length : Int) != (l2.length : Int)) = true := by simp; omega
    go_enter Tryz.func15, Tryz.ntmps15
    go_wp2
    go_ret
    exact ⟨ret_bool (by rw [eq_comm, decide_eq_false_iff_not]; intro e; exact hn (by rw [e])), Ext.rfl' w⟩

/-- A value program in memory of its own. -/
def OwnV (w : World) (v : Value) (l : List (Int × Int)) (bs : List Nat) : Prop := OwnSl w v l.length 2 59 (ecell l) bs ∧ ∀ i, i < l.length → inI64 (gn l i) ∧ inI64 (gp l i)
theorem OwnV.keep {w w' : World} {v : Value} {l : List (Int × Int)} {bs : List Nat} (h : OwnV w v l bs) (he : ∀ b ∈ bs, w'.heap[b]? = w.heap[b]?) : OwnV w' v l bs := ⟨h.1.keep he, h.2⟩
theorem OwnV.ext {w w' : World} {v : Value} {l : List (Int × Int)} {bs : List Nat} (h : OwnV w v l bs) (he : Ext w w') : OwnV w' v l bs := h.keep fun b hb => he.block b (h.1.lt b hb)
theorem OwnV.read {w : World} {v : Value} {l : List (Int × Int)} {bs : List Nat} (h : OwnV w v l bs) : EndSl w v l := by
  obtain ⟨⟨c, h1, h2, h3⟩, h4⟩ := h
  rcases h3 with ⟨hn, rfl, a, -, rfl⟩ | ⟨b, m, g, rfl, rfl, hm, hr, hf⟩
  · exact ⟨a, 0, 0, c, by rw [hn], fun h => absurd h (by omega), by omega, h2, fun i hi => absurd hi (by omega)⟩
  · refine ⟨_, b, 0, c, rfl, fun _ => rfl, h1, h2, fun i hi => ⟨?_, ?_, h4 i hi⟩⟩
    · rw [Nat.zero_add, hr.cell (by omega), hf _ (by omega)]
      simp only [ecell]
      rw [if_pos (by omega)]
      congr 3; omega
    · rw [Nat.zero_add, hr.cell (by omega), hf _ (by omega)]
      simp only [ecell]
      rw [if_neg (by omega)]
      congr 3; omega

theorem toValueOpS_own {w : World} {v : Value} {l : List (Int × Int)} (h : EndSl w v l) (hs : l.length ≤ 1048576) :
    Calls Tryz.prog 10 #[v] w fun e w' => ∃ a c bs, e = .returned (.slice a l.length c) ∧ Ext w w' ∧ OwnV w' (.slice a l.length c) l bs ∧ Fresh w bs := by
  refine (toValueOpS_any h hs).mono fun e w' ⟨he, hx, hsz, hr⟩ => ⟨_, _, [w.heap.size], he, hx, ⟨?_, h.range⟩, by simp [Fresh]⟩
  exact own_made hr (small_max hs) (fun i hi => by simp [ecopied]; omega)
end Go.Proofs.YtbddjejpacaglaaGreatDoor
