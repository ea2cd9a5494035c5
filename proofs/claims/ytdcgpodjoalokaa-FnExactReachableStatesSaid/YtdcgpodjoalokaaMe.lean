/- Machines as arguments: copied. -/
import Derived.Test.YtdcgpodjoalokaaMa
namespace Go.Proofs.Ytdcgpodjoalokaa
open Go.RowKit

theorem Try.infoCL : (Try.prog.info? 113).map (fun i => (i.zero, i.size, i.bytes)) = some (some (.agg #[.int .i64 0, .slice none 0 0, .int .i64 0]), 3, 40) := by kernel_rfl

set_option maxHeartbeats 800000 in
set_option maxRecDepth 100000 in
theorem toClause_any {w : World} {c : Cl} {x : Value} (h : IntSl w x c.inb) (hs : c.inb.length ≤ 1048576) :
    Calls Try.prog 130 #[.agg #[.int .i64 c.st, x, .int .i64 c.nx]] w fun e w' => ∃ a q bs, e = .returned (.agg #[.int .i64 c.st, .slice a c.inb.length q, .int .i64 c.nx]) ∧ Ext w w' ∧ OwnI w' (.slice a c.inb.length q) c.inb bs ∧ Fresh w bs := by
  obtain ⟨xa, xq, rfl⟩ := h.isSlice
  have HI := Lib.hid h
  clear h
  have hA := ((row3_made w (.int .i64 c.st) (.slice xa c.inb.length xq) (.int .i64 c.nx) 145).alloc (.cells #[.int .i64 0, .slice none 0 0, .int .i64 0] 113)).alloc (.cells #[.int .i64 0, .slice none 0 0, .int .i64 0] 113)
  have hB := (row3_made (w.alloc (.cells #[.int .i64 c.st, .slice xa c.inb.length xq, .int .i64 c.nx] 145)) (.int .i64 0) (.slice none 0 0) (.int .i64 0) 113).alloc (.cells #[.int .i64 0, .slice none 0 0, .int .i64 0] 113)
  have hC := row3_made ((w.alloc (.cells #[.int .i64 c.st, .slice xa c.inb.length xq, .int .i64 c.nx] 145)).alloc (.cells #[.int .i64 0, .slice none 0 0, .int .i64 0] 113)) (.int .i64 0) (.slice none 0 0) (.int .i64 0) 113
  simp only [World.size_alloc] at hB hC
  have hX := (((Ext.rfl' w).alloc' (.cells #[.int .i64 c.st, .slice xa c.inb.length xq, .int .i64 c.nx] 145)).alloc' (.cells #[.int .i64 0, .slice none 0 0, .int .i64 0] 113)).alloc' (.cells #[.int .i64 0, .slice none 0 0, .int .i64 0] 113)
  go_enter Try.func130, Try.ntmps130
  obtain ⟨W0, hW0⟩ : ∃ W0, W0 = ((w.alloc (.cells #[.int .i64 c.st, .slice xa c.inb.length xq, .int .i64 c.nx] 145)).alloc (.cells #[.int .i64 0, .slice none 0 0, .int .i64 0] 113)).alloc (.cells #[.int .i64 0, .slice none 0 0, .int .i64 0] 113) := ⟨_, rfl⟩
  have z0 : W0.heap.size = w.heap.size + 3 := by rw [hW0]; simp
  rw [← hW0] at hA hB hC hX
  obtain ⟨p0, p1, p2, -, -, -⟩ := row3_facts hA
  obtain ⟨q0, q1, q2, r0, r1, r2⟩ := row3_facts hC
  go_upto_region 2 with fail
  rw [← hW0]
  clear hW0
  have K0 := Lib.hid (And.intro hA (And.intro hB (And.intro hC hX)))
  clear hA hB hC hX
  go_wp2_with fail
  have X1 := Lib.hid (K0.out.2.2.2.store (by show w.heap.size ≤ w.heap.size + 1 + 1; omega) (.int .i64 c.st) (p := ⟨w.heap.size + 1 + 1, 0, none⟩))
  have C1 := Lib.hid (row3_set0 K0.out.2.2.1 (.int .i64 c.st))
  have A1 := Lib.hid (K0.out.1.setOther (by show w.heap.size ≠ w.heap.size + 1 + 1; omega) (.int .i64 c.st) (a := ⟨w.heap.size + 1 + 1, 0, none⟩))
  have B1 := Lib.hid (K0.out.2.1.setOther (by show w.heap.size + 1 ≠ w.heap.size + 1 + 1; omega) (.int .i64 c.st) (a := ⟨w.heap.size + 1 + 1, 0, none⟩))
  (with_reducible refine (toIntS_own (HI.out.ext X1.out) hs).mono ?_)
  rintro e w1 ⟨a1, q, bs, rfl, hx, ho, hf⟩
  have hb : ∀ b ∈ bs, w.heap.size + 3 ≤ b := fun b hb => by have := hf.2 b hb; simp at this; omega
  have K1 := Lib.hid (And.intro (row_ext A1.out hx) (And.intro (row_ext B1.out hx) (And.intro (row_ext C1.out hx) (And.intro (X1.out.trans' hx) (And.intro ho (And.intro hf.1 hb))))))
  clear p0 p1 p2 q0 q1 q2 r0 r1 r2 K0 X1 C1 A1 B1 hx ho hf hb
  obtain ⟨p0, p1, p2, -, -, -⟩ := row3_facts K1.out.1
  obtain ⟨q0, q1, q2, r0, r1, r2⟩ := row3_facts K1.out.2.2.1
  obtain ⟨s0, s1, s2, t0, t1, t2⟩ := row3_facts K1.out.2.1
  clear p0 p1
  go_wp2
  refine bodyPost_ret (v := .agg #[.int .i64 c.st, .slice a1 c.inb.length q, .int .i64 c.nx]) (by simp [results, Try.results130, go_sem, s0, s1, s2]) rfl ?_
  obtain ⟨hA, hB, hC, hX, ho, hn, hb⟩ := K1.out
  have hst : ∀ (wx : World) (p : Addr) (u : Value), p.block ≤ w.heap.size + 1 + 1 → ∀ b ∈ bs, (wx.setCell p u).heap[b]? = wx.heap[b]? := fun wx p u hp b hb' => Below.heap_setCell _ _ _ _ (by have := hb b hb'; omega)
  refine ⟨_, _, bs, rfl, ?_, ?_, hn, fun b hb' => by have := hb b hb'; omega⟩
  · repeat (first | (with_reducible exact hX) | refine Ext.store ?_ (by first | (show w.heap.size ≤ w.heap.size + 1 + 1; omega) | (show w.heap.size ≤ w.heap.size + 1; omega)) _)
  · repeat (first | (with_reducible exact ho) | refine OwnI.keep ?_ (hst _ _ _ (by first | (show w.heap.size + 1 + 1 ≤ _; omega) | (show w.heap.size + 1 ≤ _; omega))))

theorem row_three {w : World} {b t n i : Nat} {f : Nat → Value} (h : w.rowIs b t n f) (hi : i + 2 < n) :
    (w.frozen? ⟨b, i, none⟩ = false ∧ w.cell? ⟨b, i, none⟩ = some (f i)) ∧ ((∀ v, (w.setCell ⟨b, i, none⟩ v).cell? ⟨b, i + 1, none⟩ = some (f (i + 1))) ∧ (∀ v, (w.setCell ⟨b, i, none⟩ v).frozen? ⟨b, i + 1, none⟩ = false)) ∧
      (∀ u v, ((w.setCell ⟨b, i, none⟩ u).setCell ⟨b, i + 1, none⟩ v).cell? ⟨b, i + 2, none⟩ = some (f (i + 2))) ∧ (∀ u v, ((w.setCell ⟨b, i, none⟩ u).setCell ⟨b, i + 1, none⟩ v).frozen? ⟨b, i + 2, none⟩ = false) :=
  ⟨⟨h.frozen _, h.cell (by omega)⟩, ⟨fun v => by have := (h.set i v).cell (i := i + 1) (by omega); simpa using this, fun v => (h.set i v).frozen _⟩,
    fun u v => by have := ((h.set i u).set (i + 1) v).cell (i := i + 2) hi; simpa using this, fun u v => ((h.set i u).set (i + 1) v).frozen _⟩

/-- The row of clauses when k of them are copied. -/
def clc (R : Nat → Value) (l : List Cl) (k j : Nat) : Value := if j < k * 3 then clcell R l j else if j % 3 = 1 then .slice none 0 0 else .int .i64 0
theorem clmade (w : World) (n : Nat) (R : Nat → Value) (l : List Cl) : (w.alloc (.cells (madeCells #[.int .i64 0, .slice none 0 0, .int .i64 0] (n * 3)) 113)).rowIs w.heap.size 113 (n * 3) (clc R l 0) :=
  ⟨_, Go.Deep.blk_alloc_new _ _, size_madeCells _ _, fun i hi => by
    simp only [madeCells, clc]
    have h3 : i % 3 = 0 ∨ i % 3 = 1 ∨ i % 3 = 2 := by omega
    rcases h3 with h3 | h3 | h3 <;> simp [hi, h3]⟩
def clouterAt (w wr : World) (l : List Cl) (k : Nat) : Prop :=
  Ext w wr ∧ w.heap.size + 1 ≤ wr.heap.size ∧ ∃ (R : Nat → Value) (T : Nat → List Nat), wr.rowIs w.heap.size 113 (l.length * 3) (clc R l k) ∧
    (∀ i, i < k → OwnI wr (R i) (gc l i).inb (T i)) ∧ Fresh w (w.heap.size :: (List.range k).flatMap T)

theorem clouter_step {w wr w1 : World} {l : List Cl} {k : Nat} {v : Value} {bs : List Nat} (h : clouterAt w wr l k) (hx : Ext wr w1) (ho : OwnI w1 v (gc l k).inb bs) (hf : Fresh wr bs) :
    clouterAt w (((w1.setCell ⟨w.heap.size, k * 3, none⟩ (.int .i64 (gc l k).st)).setCell ⟨w.heap.size, k * 3 + 1, none⟩ v).setCell ⟨w.heap.size, k * 3 + 2, none⟩ (.int .i64 (gc l k).nx)) l (k + 1) := by
  obtain ⟨he, hsz, R, T, hrow, hown, hfr⟩ := h
  have hb : ∀ i, i < k → ∀ b ∈ T i, b < wr.heap.size ∧ w.heap.size < b := fun i hi b hb => by
    refine ⟨(hown i hi).1.lt b hb, ?_⟩
    have hm : b ∈ (List.range k).flatMap T := List.mem_flatMap.2 ⟨i, List.mem_range.2 hi, hb⟩
    have h1 := hfr.2 b (List.mem_cons_of_mem _ hm)
    have h2 := (List.nodup_cons.1 hfr.1).1
    by_cases e : b = w.heap.size
    · subst e; exact absurd hm h2
    · omega
  have hne : ∀ b, w.heap.size < b → (((w1.setCell ⟨w.heap.size, k * 3, none⟩ (.int .i64 (gc l k).st)).setCell ⟨w.heap.size, k * 3 + 1, none⟩ v).setCell ⟨w.heap.size, k * 3 + 2, none⟩ (.int .i64 (gc l k).nx)).heap[b]? = w1.heap[b]? := fun b hb =>
    (Below.heap_setCell _ _ _ _ (by show b ≠ w.heap.size; omega)).trans ((Below.heap_setCell _ _ _ _ (by show b ≠ w.heap.size; omega)).trans (Below.heap_setCell _ _ _ _ (by show b ≠ w.heap.size; omega)))
  refine ⟨(((he.trans' hx).store (Nat.le_refl _) _).store (Nat.le_refl _) _).store (Nat.le_refl _) _, by have := hx.size; simp; omega, fun i => if i = k then v else R i, fun i => if i = k then bs else T i, ?_, fun i hi => ?_, ?_⟩
  · refine ((((row_ext hrow hx).set (k * 3) _).set (k * 3 + 1) v).set (k * 3 + 2) _).congr fun i hi => ?_
    have d0 : (k * 3) / 3 = k := by omega
    have d1 : (k * 3 + 1) / 3 = k := by omega
    have d2 : (k * 3 + 2) / 3 = k := by omega
    by_cases e2 : i = k * 3 + 2
    · subst e2
      simp only [clc, clcell, d2]
      rw [if_pos trivial, if_pos (by omega), if_neg (by omega), if_neg (by omega)]
    · rw [if_neg e2]
      by_cases e1 : i = k * 3 + 1
      · subst e1
        simp only [clc, clcell, d1]
        rw [if_pos trivial, if_pos (by omega), if_neg (by omega), if_pos (by omega), if_pos trivial]
      · rw [if_neg e1]
        by_cases e0 : i = k * 3
        · subst e0
          simp only [clc, clcell, d0]
          rw [if_pos trivial, if_pos (by omega), if_pos (by omega)]
        · rw [if_neg e0]
          simp only [clc, clcell]
          by_cases hlt : i < k * 3
          · rw [if_pos hlt, if_pos (show i < (k + 1) * 3 by omega), if_neg (show ¬ i / 3 = k by omega)]
          · rw [if_neg hlt, if_neg (show ¬ i < (k + 1) * 3 by omega)]
  · by_cases e : i = k
    · subst e
      simp only [if_true]
      exact ho.keep fun b hb => hne b (by have := hf.2 b hb; omega)
    · simp only [if_neg e]
      exact ((hown i (by omega)).ext hx).keep fun b hb' => hne b (hb i (by omega) b hb').2
  · have hcong : (List.range k).flatMap (fun i => if i = k then bs else T i) = (List.range k).flatMap T := by
      rw [List.flatMap_def, List.flatMap_def]
      congr 1
      exact List.map_congr_left fun i hi => if_neg (by have := List.mem_range.1 hi; omega)
    rw [List.range_succ, List.flatMap_append, hcong]
    simp only [List.flatMap_cons, List.flatMap_nil, if_true, List.append_nil]
    rw [← List.cons_append]
    refine Fresh.append hfr (fun b hb' => ?_) he.size hf
    rcases List.mem_cons.1 hb' with rfl | hb'
    · omega
    · obtain ⟨i, hi, hbi⟩ := List.mem_flatMap.1 hb'
      exact (hb i (List.mem_range.1 hi) b hbi).1

set_option maxHeartbeats 1600000 in
set_option maxRecDepth 100000 in
theorem toClauseS_own {w : World} {v : Value} {l : List Cl} (h : ClSl w v l) (hs : l.length ≤ 1048576) (hs2 : ∀ i, (gc l i).inb.length ≤ 1048576) :
    Calls Try.prog 72 #[v] w fun e w' => ∃ a c bs, e = .returned (.slice a l.length c) ∧ Ext w w' ∧ OwnCl w' (.slice a l.length c) l bs ∧ Fresh w bs := by
  obtain ⟨a, b, o, c, rfl, ha, h3, h4, hc⟩ := h
  unfold maxLen at h4
  have Hc := Lib.hid hc
  have Ha := Lib.hid ha
  have Hs := Lib.hid hs2
  have Hl := Lib.hid (show ∀ i, i < l.length → inI64 (gc l i).st ∧ inI64 (gc l i).nx from fun i hi => (hc i hi).2.2.2)
  clear hc ha hs2
  obtain ⟨i0, hi, hz0, hz1, hz2⟩ := info_parts Try.infoCL
  have hmk : ∀ u : World, (Instr.makeSlice 29 (.int .i64 (l.length : Int)) (.int .i64 (l.length : Int))).run Try.prog u =
      .ok (.slice (some ⟨u.heap.size, 0, none⟩) l.length l.length) (u.alloc (.cells (madeCells #[.int .i64 0, .slice none 0 0, .int .i64 0] (l.length * 3)) 113)) := fun u => by
    have h := run_make (P := Try.prog) u 29 113 i0 _ Try.underlying29 hi hz0 .i64 .i64 l.length l.length (by omega) (Int.le_refl _) (by rw [hz2]; omega) (by omega)
    simpa [hz1, Value.cells] using h
  go_enter Try.func72, Try.ntmps72
  go_wp2
  clear hmk hi hz0 hz1 hz2
  go_loopg [4] l.length (fun g i wr => ∃ k : Nat, k ≤ l.length ∧ g = l.length - k ∧ i = .int .i64 k ∧ Hid (clouterAt w wr l k))
  case atStart => exact ⟨0, Nat.zero_le _, rfl, rfl, (Ext.rfl' w).alloc' _, by simp, fun _ => .slice none 0 0, fun _ => [], clmade w _ _ _, fun i hi => absurd hi (by omega), by simp [Fresh]⟩
  case round =>
    obtain ⟨k, hk, rfl, rfl, Hr⟩ := hrel
    by_cases hlt : k < l.length
    · obtain ⟨c1, ⟨xa, xn, xq, c2, hxn, c3⟩, c4, -⟩ := Hc.out k hlt
      obtain rfl := Ha.out (by omega)
      have HI := Lib.hid (c3.ext Hr.out.1)
      have c1 := Hr.out.1.cell' c1
      have c2 := Hr.out.1.cell' c2
      have c4 := Hr.out.1.cell' c4
      clear c3 hxn
      go_wp2_with (go_at_call 130; (with_reducible refine (toClause_any HI.out (Hs.out _)).mono ?_); rintro e w1 ⟨a', c', bs, rfl, he1, ho1, hf1⟩; obtain ⟨R, T, hrow, _⟩ := Hr.out.2.2; obtain ⟨⟨f1, f2⟩, ⟨f3, f4⟩, f5, f6⟩ := row_three (i := k * 3) (row_ext hrow he1) (by omega); have Hn := Lib.hid (clouter_step Hr.out he1 ho1 hf1); clear he1 ho1 hf1 hrow c1 c2 c4)
      go_roundg (l.length - (k + 1))
      case measure => omega
      case rel => exact ⟨k + 1, by omega, rfl, by go_num, Hn.out⟩
    · go_wp2
      go_ret
      obtain rfl : k = l.length := by omega
      obtain ⟨he, hsz, R, T, hrow, hown, hfr⟩ := Hr.out
      refine ⟨_, _, _, rfl, he, ⟨R, [w.heap.size], T, ?_, hown, Hl.out, rfl⟩, hfr⟩
      exact own_made (k := 3) hrow (small_max hs) (fun i hi => by simp only [clc]; rw [if_pos (by omega)])

set_option maxHeartbeats 3200000 in
set_option maxRecDepth 100000 in
theorem toMachine_own {w : World} {v : Value} {M : Mach} (h : MachAt w v M) (hs : M.small) :
    Calls Try.prog 21 #[v] w fun e w' => ∃ v' bs, e = .returned v' ∧ Ext w w' ∧ OwnMach w' v' M bs ∧ Fresh w bs := by
  obtain ⟨a3, c3, a4, c4, a5, c5, a6, c6, rfl, h3, h4, h5, h6, hr⟩ := h
  obtain ⟨⟨s3, s3'⟩, ⟨s4, s4'⟩, ⟨s5, s5'⟩, s6⟩ := hs
  have H3 := Lib.hid h3
  have H4 := Lib.hid h4
  have H5 := Lib.hid h5
  have H6 := Lib.hid h6
  have HR := Lib.hid hr
  have S3 := Lib.hid s3'
  have S4 := Lib.hid s4'
  have S5 := Lib.hid s5'
  clear h3 h4 h5 h6 hr s3' s4' s5'
  have hA := ((row7_made w (.int .i64 M.deg) (.int .i64 M.sts) (.int .i64 M.msgs) (.slice a3 M.start.length c3) (.slice a4 M.send.length c4) (.slice a5 M.cls.length c5) (.slice a6 M.out.length c6) 26).alloc (.cells #[.int .i64 0, .int .i64 0, .int .i64 0, .slice none 0 0, .slice none 0 0, .slice none 0 0, .slice none 0 0] 31)).alloc (.cells #[.int .i64 0, .int .i64 0, .int .i64 0, .slice none 0 0, .slice none 0 0, .slice none 0 0, .slice none 0 0] 31)
  have hB := (row7_made (w.alloc (.cells #[.int .i64 M.deg, .int .i64 M.sts, .int .i64 M.msgs, .slice a3 M.start.length c3, .slice a4 M.send.length c4, .slice a5 M.cls.length c5, .slice a6 M.out.length c6] 26)) (.int .i64 0) (.int .i64 0) (.int .i64 0) (.slice none 0 0) (.slice none 0 0) (.slice none 0 0) (.slice none 0 0) 31).alloc (.cells #[.int .i64 0, .int .i64 0, .int .i64 0, .slice none 0 0, .slice none 0 0, .slice none 0 0, .slice none 0 0] 31)
  have hC := row7_made ((w.alloc (.cells #[.int .i64 M.deg, .int .i64 M.sts, .int .i64 M.msgs, .slice a3 M.start.length c3, .slice a4 M.send.length c4, .slice a5 M.cls.length c5, .slice a6 M.out.length c6] 26)).alloc (.cells #[.int .i64 0, .int .i64 0, .int .i64 0, .slice none 0 0, .slice none 0 0, .slice none 0 0, .slice none 0 0] 31)) (.int .i64 0) (.int .i64 0) (.int .i64 0) (.slice none 0 0) (.slice none 0 0) (.slice none 0 0) (.slice none 0 0) 31
  simp only [World.size_alloc] at hB hC
  have hX := (((Ext.rfl' w).alloc' (.cells #[.int .i64 M.deg, .int .i64 M.sts, .int .i64 M.msgs, .slice a3 M.start.length c3, .slice a4 M.send.length c4, .slice a5 M.cls.length c5, .slice a6 M.out.length c6] 26)).alloc' (.cells #[.int .i64 0, .int .i64 0, .int .i64 0, .slice none 0 0, .slice none 0 0, .slice none 0 0, .slice none 0 0] 31)).alloc' (.cells #[.int .i64 0, .int .i64 0, .int .i64 0, .slice none 0 0, .slice none 0 0, .slice none 0 0, .slice none 0 0] 31)
  go_enter Try.func21, Try.ntmps21
  obtain ⟨W0, hW0⟩ : ∃ W0, W0 = ((w.alloc (.cells #[.int .i64 M.deg, .int .i64 M.sts, .int .i64 M.msgs, .slice a3 M.start.length c3, .slice a4 M.send.length c4, .slice a5 M.cls.length c5, .slice a6 M.out.length c6] 26)).alloc (.cells #[.int .i64 0, .int .i64 0, .int .i64 0, .slice none 0 0, .slice none 0 0, .slice none 0 0, .slice none 0 0] 31)).alloc (.cells #[.int .i64 0, .int .i64 0, .int .i64 0, .slice none 0 0, .slice none 0 0, .slice none 0 0, .slice none 0 0] 31) := ⟨_, rfl⟩
  have z0 : W0.heap.size = w.heap.size + 3 := by rw [hW0]; simp
  rw [← hW0] at hA hB hC hX
  obtain ⟨W1, hW1⟩ : ∃ W1, W1 = ((W0.setCell ⟨w.heap.size + 1 + 1, 0, none⟩ (.int .i64 M.deg)).setCell ⟨w.heap.size + 1 + 1, 1, none⟩ (.int .i64 M.sts)).setCell ⟨w.heap.size + 1 + 1, 2, none⟩ (.int .i64 M.msgs) := ⟨_, rfl⟩
  have z1 : W1.heap.size = w.heap.size + 3 := by rw [hW1]; simpa using z0
  have A1 := Lib.hid (show W1.rowIs w.heap.size 26 7 (sept (.int .i64 M.deg) (.int .i64 M.sts) (.int .i64 M.msgs) (.slice a3 M.start.length c3) (.slice a4 M.send.length c4) (.slice a5 M.cls.length c5) (.slice a6 M.out.length c6)) by rw [hW1]; exact ((hA.setOther (by show w.heap.size ≠ w.heap.size + 1 + 1; omega) _).setOther (by show w.heap.size ≠ w.heap.size + 1 + 1; omega) _).setOther (by show w.heap.size ≠ w.heap.size + 1 + 1; omega) _)
  have B1 := Lib.hid (show W1.rowIs (w.heap.size + 1) 31 7 (sept (.int .i64 0) (.int .i64 0) (.int .i64 0) (.slice none 0 0) (.slice none 0 0) (.slice none 0 0) (.slice none 0 0)) by rw [hW1]; exact ((hB.setOther (by show w.heap.size + 1 ≠ w.heap.size + 1 + 1; omega) _).setOther (by show w.heap.size + 1 ≠ w.heap.size + 1 + 1; omega) _).setOther (by show w.heap.size + 1 ≠ w.heap.size + 1 + 1; omega) _)
  have C1 := Lib.hid (show W1.rowIs (w.heap.size + 1 + 1) 31 7 (sept (.int .i64 M.deg) (.int .i64 M.sts) (.int .i64 M.msgs) (.slice none 0 0) (.slice none 0 0) (.slice none 0 0) (.slice none 0 0)) by rw [hW1]; exact (row7_set (row7_set (row7_set hC _).1 _).2.1 _).2.2.1)
  have X1 := Lib.hid (show Ext w W1 by rw [hW1]; exact ((hX.store (by show w.heap.size ≤ w.heap.size + 1 + 1; omega) _).store (by show w.heap.size ≤ w.heap.size + 1 + 1; omega) _).store (by show w.heap.size ≤ w.heap.size + 1 + 1; omega) _)
  obtain ⟨p0, p1, p2, p3, p4, p5, p6⟩ := row7_facts hA
  obtain ⟨q0, q1, q2, q3, q4, q5, q6⟩ := row7_facts hC
  obtain ⟨r0, r1, r2, r3, r4, r5, r6⟩ := row7_frozen hC
  clear p3 p4 p5 p6
  go_upto_region 2 with fail
  rw [← hW0]
  clear hW0 hA hB hC hX
  go_upto_region 5 with fail
  rw [← hW1]
  clear hW1 p0 p1 p2 q0 q1 q2 q3 q4 q5 q6 r0 r1 r2 r3 r4 r5 r6
  have K3 := Lib.hid (And.intro A1.out (And.intro B1.out (And.intro C1.out X1.out)))
  clear A1 B1 C1 X1
  obtain ⟨p0, p1, p2, p3, p4, p5, p6⟩ := row7_facts K3.out.1
  clear p0 p1 p2 p4 p5 p6
  go_wp2_with fail
  (with_reducible refine (toIntSS_own (H3.out.ext K3.out.2.2.2) s3 S3.out).mono ?_)
  rintro e w3 ⟨x3, y3, b3, rfl, he, ho, hf⟩
  have K4 : Hid (w3.rowIs w.heap.size 26 7 (sept (.int .i64 M.deg) (.int .i64 M.sts) (.int .i64 M.msgs) (.slice a3 M.start.length c3) (.slice a4 M.send.length c4) (.slice a5 M.cls.length c5) (.slice a6 M.out.length c6)) ∧ w3.rowIs (w.heap.size + 1) 31 7 (sept (.int .i64 0) (.int .i64 0) (.int .i64 0) (.slice none 0 0) (.slice none 0 0) (.slice none 0 0) (.slice none 0 0)) ∧ w3.rowIs (w.heap.size + 1 + 1) 31 7 (sept (.int .i64 M.deg) (.int .i64 M.sts) (.int .i64 M.msgs) (.slice none 0 0) (.slice none 0 0) (.slice none 0 0) (.slice none 0 0)) ∧ Ext w w3 ∧ OwnII w3 (.slice x3 M.start.length y3) M.start b3 ∧ (b3).Nodup ∧ (∀ b ∈ b3, w.heap.size + 1 + 1 < b) ∧ w.heap.size + 1 + 1 < w3.heap.size) := by
    obtain ⟨hA, hB, hC, hX⟩ := K3.out
    exact ⟨row_ext hA he, row_ext hB he, row_ext hC he, hX.trans' he, ho, hf.1, fun b hb => by have := hf.2 b hb; omega, by have := he.size; omega⟩
  clear K3 he ho hf p3
  obtain ⟨p0, p1, p2, p3, p4, p5, p6⟩ := row7_facts K4.out.1
  clear p0 p1 p2 p3 p5 p6
  obtain ⟨q0, q1, q2, q3, q4, q5, q6⟩ := row7_facts K4.out.2.2.1
  obtain ⟨r0, r1, r2, r3, r4, r5, r6⟩ := row7_frozen K4.out.2.2.1
  go_wp2_with fail
  (with_reducible refine (toIntSS_own (H4.out.ext (K4.out.2.2.2.1.store (by show w.heap.size ≤ w.heap.size + 1 + 1; omega) _)) s4 S4.out).mono ?_)
  rintro e w4 ⟨x4, y4, b4, rfl, he, ho, hf⟩
  have K5 : Hid (w4.rowIs w.heap.size 26 7 (sept (.int .i64 M.deg) (.int .i64 M.sts) (.int .i64 M.msgs) (.slice a3 M.start.length c3) (.slice a4 M.send.length c4) (.slice a5 M.cls.length c5) (.slice a6 M.out.length c6)) ∧ w4.rowIs (w.heap.size + 1) 31 7 (sept (.int .i64 0) (.int .i64 0) (.int .i64 0) (.slice none 0 0) (.slice none 0 0) (.slice none 0 0) (.slice none 0 0)) ∧ w4.rowIs (w.heap.size + 1 + 1) 31 7 (sept (.int .i64 M.deg) (.int .i64 M.sts) (.int .i64 M.msgs) (.slice x3 M.start.length y3) (.slice none 0 0) (.slice none 0 0) (.slice none 0 0)) ∧ Ext w w4 ∧ OwnII w4 (.slice x3 M.start.length y3) M.start b3 ∧ OwnII w4 (.slice x4 M.send.length y4) M.send b4 ∧ (b3 ++ b4).Nodup ∧ (∀ b ∈ b3 ++ b4, w.heap.size + 1 + 1 < b) ∧ w.heap.size + 1 + 1 < w4.heap.size) := by
    obtain ⟨hA, hB, hC, hX, ho3, hn, hlt, hz⟩ := K4.out
    have hst : ∀ b, w.heap.size + 1 + 1 < b → (w3.setCell ⟨w.heap.size + 1 + 1, 3, none⟩ (.slice x3 M.start.length y3)).heap[b]? = w3.heap[b]? := fun b hb => Below.heap_setCell _ _ _ _ (by show b ≠ w.heap.size + 1 + 1; omega)
    have hsz : (w3.setCell ⟨w.heap.size + 1 + 1, 3, none⟩ (.slice x3 M.start.length y3)).heap.size = w3.heap.size := by simp
    refine ⟨row_ext (hA.setOther (by show w.heap.size ≠ w.heap.size + 1 + 1; omega) _) he, row_ext (hB.setOther (by show w.heap.size + 1 ≠ w.heap.size + 1 + 1; omega) _) he, row_ext (row7_set hC _).2.2.2.1 he,
      (hX.store (by show w.heap.size ≤ w.heap.size + 1 + 1; omega) _).trans' he, (ho3.keep fun b hb' => hst b (hlt b (by simp [hb']))).ext he, ho, ?_, ?_, by have := he.size; omega⟩
    · have hlt' : ∀ b ∈ b3, b < w3.heap.size := by
        intro b hb
        exact ho3.lt b hb
      exact List.nodup_append.2 ⟨hn, hf.1, fun b hb b' hb' e => by subst e; have := hlt' b hb; have := hf.2 b hb'; omega⟩
    · intro b hb
      rcases List.mem_append.1 hb with hb | hb
      · exact hlt b hb
      · have := hf.2 b hb; omega
  clear K4 he ho hf p4 q0 q1 q2 q3 q4 q5 q6 r0 r1 r2 r3 r4 r5 r6
  obtain ⟨p0, p1, p2, p3, p4, p5, p6⟩ := row7_facts K5.out.1
  clear p0 p1 p2 p3 p4 p6
  obtain ⟨q0, q1, q2, q3, q4, q5, q6⟩ := row7_facts K5.out.2.2.1
  obtain ⟨r0, r1, r2, r3, r4, r5, r6⟩ := row7_frozen K5.out.2.2.1
  go_wp2_with fail
  (with_reducible refine (toClauseS_own (H5.out.ext (K5.out.2.2.2.1.store (by show w.heap.size ≤ w.heap.size + 1 + 1; omega) _)) s5 S5.out).mono ?_)
  rintro e w5 ⟨x5, y5, b5, rfl, he, ho, hf⟩
  have K6 : Hid (w5.rowIs w.heap.size 26 7 (sept (.int .i64 M.deg) (.int .i64 M.sts) (.int .i64 M.msgs) (.slice a3 M.start.length c3) (.slice a4 M.send.length c4) (.slice a5 M.cls.length c5) (.slice a6 M.out.length c6)) ∧ w5.rowIs (w.heap.size + 1) 31 7 (sept (.int .i64 0) (.int .i64 0) (.int .i64 0) (.slice none 0 0) (.slice none 0 0) (.slice none 0 0) (.slice none 0 0)) ∧ w5.rowIs (w.heap.size + 1 + 1) 31 7 (sept (.int .i64 M.deg) (.int .i64 M.sts) (.int .i64 M.msgs) (.slice x3 M.start.length y3) (.slice x4 M.send.length y4) (.slice none 0 0) (.slice none 0 0)) ∧ Ext w w5 ∧ OwnII w5 (.slice x3 M.start.length y3) M.start b3 ∧ OwnII w5 (.slice x4 M.send.length y4) M.send b4 ∧ OwnCl w5 (.slice x5 M.cls.length y5) M.cls b5 ∧ (b3 ++ b4 ++ b5).Nodup ∧ (∀ b ∈ b3 ++ b4 ++ b5, w.heap.size + 1 + 1 < b) ∧ w.heap.size + 1 + 1 < w5.heap.size) := by
    obtain ⟨hA, hB, hC, hX, ho3, ho4, hn, hlt, hz⟩ := K5.out
    have hst : ∀ b, w.heap.size + 1 + 1 < b → (w4.setCell ⟨w.heap.size + 1 + 1, 4, none⟩ (.slice x4 M.send.length y4)).heap[b]? = w4.heap[b]? := fun b hb => Below.heap_setCell _ _ _ _ (by show b ≠ w.heap.size + 1 + 1; omega)
    have hsz : (w4.setCell ⟨w.heap.size + 1 + 1, 4, none⟩ (.slice x4 M.send.length y4)).heap.size = w4.heap.size := by simp
    refine ⟨row_ext (hA.setOther (by show w.heap.size ≠ w.heap.size + 1 + 1; omega) _) he, row_ext (hB.setOther (by show w.heap.size + 1 ≠ w.heap.size + 1 + 1; omega) _) he, row_ext (row7_set hC _).2.2.2.2.1 he,
      (hX.store (by show w.heap.size ≤ w.heap.size + 1 + 1; omega) _).trans' he, (ho3.keep fun b hb' => hst b (hlt b (by simp [hb']))).ext he, (ho4.keep fun b hb' => hst b (hlt b (by simp [hb']))).ext he, ho, ?_, ?_, by have := he.size; omega⟩
    · have hlt' : ∀ b ∈ b3 ++ b4, b < w4.heap.size := by
        intro b hb
        simp only [List.mem_append] at hb
        rcases hb with hb | hb
        · exact ho3.lt b hb
        · exact ho4.lt b hb
      exact List.nodup_append.2 ⟨hn, hf.1, fun b hb b' hb' e => by subst e; have := hlt' b hb; have := hf.2 b hb'; omega⟩
    · intro b hb
      rcases List.mem_append.1 hb with hb | hb
      · exact hlt b hb
      · have := hf.2 b hb; omega
  clear K5 he ho hf p5 q0 q1 q2 q3 q4 q5 q6 r0 r1 r2 r3 r4 r5 r6
  obtain ⟨p0, p1, p2, p3, p4, p5, p6⟩ := row7_facts K6.out.1
  clear p0 p1 p2 p3 p4 p5
  obtain ⟨q0, q1, q2, q3, q4, q5, q6⟩ := row7_facts K6.out.2.2.1
  obtain ⟨r0, r1, r2, r3, r4, r5, r6⟩ := row7_frozen K6.out.2.2.1
  go_wp2_with fail
  (with_reducible refine (toIntS_own (H6.out.ext (K6.out.2.2.2.1.store (by show w.heap.size ≤ w.heap.size + 1 + 1; omega) _)) s6).mono ?_)
  rintro e w6 ⟨x6, y6, b6, rfl, he, ho, hf⟩
  have K7 : Hid (w6.rowIs w.heap.size 26 7 (sept (.int .i64 M.deg) (.int .i64 M.sts) (.int .i64 M.msgs) (.slice a3 M.start.length c3) (.slice a4 M.send.length c4) (.slice a5 M.cls.length c5) (.slice a6 M.out.length c6)) ∧ w6.rowIs (w.heap.size + 1) 31 7 (sept (.int .i64 0) (.int .i64 0) (.int .i64 0) (.slice none 0 0) (.slice none 0 0) (.slice none 0 0) (.slice none 0 0)) ∧ w6.rowIs (w.heap.size + 1 + 1) 31 7 (sept (.int .i64 M.deg) (.int .i64 M.sts) (.int .i64 M.msgs) (.slice x3 M.start.length y3) (.slice x4 M.send.length y4) (.slice x5 M.cls.length y5) (.slice none 0 0)) ∧ Ext w w6 ∧ OwnII w6 (.slice x3 M.start.length y3) M.start b3 ∧ OwnII w6 (.slice x4 M.send.length y4) M.send b4 ∧ OwnCl w6 (.slice x5 M.cls.length y5) M.cls b5 ∧ OwnI w6 (.slice x6 M.out.length y6) M.out b6 ∧ (b3 ++ b4 ++ b5 ++ b6).Nodup ∧ (∀ b ∈ b3 ++ b4 ++ b5 ++ b6, w.heap.size + 1 + 1 < b) ∧ w.heap.size + 1 + 1 < w6.heap.size) := by
    obtain ⟨hA, hB, hC, hX, ho3, ho4, ho5, hn, hlt, hz⟩ := K6.out
    have hst : ∀ b, w.heap.size + 1 + 1 < b → (w5.setCell ⟨w.heap.size + 1 + 1, 5, none⟩ (.slice x5 M.cls.length y5)).heap[b]? = w5.heap[b]? := fun b hb => Below.heap_setCell _ _ _ _ (by show b ≠ w.heap.size + 1 + 1; omega)
    have hsz : (w5.setCell ⟨w.heap.size + 1 + 1, 5, none⟩ (.slice x5 M.cls.length y5)).heap.size = w5.heap.size := by simp
    refine ⟨row_ext (hA.setOther (by show w.heap.size ≠ w.heap.size + 1 + 1; omega) _) he, row_ext (hB.setOther (by show w.heap.size + 1 ≠ w.heap.size + 1 + 1; omega) _) he, row_ext (row7_set hC _).2.2.2.2.2.1 he,
      (hX.store (by show w.heap.size ≤ w.heap.size + 1 + 1; omega) _).trans' he, (ho3.keep fun b hb' => hst b (hlt b (by simp [hb']))).ext he, (ho4.keep fun b hb' => hst b (hlt b (by simp [hb']))).ext he, (ho5.keep fun b hb' => hst b (hlt b (by simp [hb']))).ext he, ho, ?_, ?_, by have := he.size; omega⟩
    · have hlt' : ∀ b ∈ b3 ++ b4 ++ b5, b < w5.heap.size := by
        intro b hb
        simp only [List.mem_append] at hb
        rcases hb with (hb | hb) | hb
        · exact ho3.lt b hb
        · exact ho4.lt b hb
        · exact ho5.lt b hb
      exact List.nodup_append.2 ⟨hn, hf.1, fun b hb b' hb' e => by subst e; have := hlt' b hb; have := hf.2 b hb'; omega⟩
    · intro b hb
      rcases List.mem_append.1 hb with hb | hb
      · exact hlt b hb
      · have := hf.2 b hb; omega
  clear K6 he ho hf p6 q0 q1 q2 q3 q4 q5 q6 r0 r1 r2 r3 r4 r5 r6
  obtain ⟨q0, q1, q2, q3, q4, q5, q6⟩ := row7_facts K7.out.2.2.1
  obtain ⟨r0, r1, r2, r3, r4, r5, r6⟩ := row7_frozen K7.out.2.2.1
  obtain ⟨s0, s1, s2, s3, s4, s5, s6⟩ := row7_facts K7.out.2.1
  obtain ⟨t0, t1, t2, t3, t4, t5, t6⟩ := row7_frozen K7.out.2.1
  go_wp2
  refine bodyPost_ret (v := .agg #[.int .i64 M.deg, .int .i64 M.sts, .int .i64 M.msgs, .slice x3 M.start.length y3, .slice x4 M.send.length y4, .slice x5 M.cls.length y5, .slice x6 M.out.length y6]) (by simp [results, Try.results21, go_sem, s0, s1, s2, s3, s4, s5, s6]) rfl ?_
  obtain ⟨hA, hB, hC, hX, ho3, ho4, ho5, ho6, hn, hlt, hz⟩ := K7.out
  have hN : OwnMach w6 (.agg #[.int .i64 M.deg, .int .i64 M.sts, .int .i64 M.msgs, .slice x3 M.start.length y3, .slice x4 M.send.length y4, .slice x5 M.cls.length y5, .slice x6 M.out.length y6]) M (b3 ++ (b4 ++ (b5 ++ b6))) := ⟨_, _, _, _, _, _, _, _, b3, b4, b5, b6, rfl, ho3, ho4, ho5, ho6, HR.out, rfl⟩
  have hbs : b3 ++ (b4 ++ (b5 ++ b6)) = b3 ++ b4 ++ b5 ++ b6 := by simp
  have hst : ∀ (wx : World) (p : Addr) (u : Value), p.block ≤ w.heap.size + 1 + 1 → ∀ b ∈ b3 ++ (b4 ++ (b5 ++ b6)), (wx.setCell p u).heap[b]? = wx.heap[b]? := fun wx p u hp b hb' => Below.heap_setCell _ _ _ _ (by rw [hbs] at hb'; have := hlt b hb'; omega)
  refine ⟨_, b3 ++ (b4 ++ (b5 ++ b6)), rfl, ?_, ?_, by rw [hbs]; exact hn, fun b hb => by rw [hbs] at hb; have := hlt b hb; omega⟩
  · repeat (first | (with_reducible exact hX) | refine Ext.store ?_ (by first | (show w.heap.size ≤ w.heap.size + 1 + 1; omega) | (show w.heap.size ≤ w.heap.size + 1; omega)) _)
  · repeat (first | (with_reducible exact hN) | refine OwnMach.keep ?_ (hst _ _ _ (by first | (show w.heap.size + 1 + 1 ≤ _; omega) | (show w.heap.size + 1 ≤ _; omega))))
end Go.Proofs.Ytdcgpodjoalokaa
