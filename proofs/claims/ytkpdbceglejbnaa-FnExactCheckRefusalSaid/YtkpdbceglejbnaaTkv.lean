/- A refusal that comes in: what it reads as, in memory of its own, its size, its copy, compared. -/
import Derived.Test.YtkpdbceglejbnaaTkr
import Derived.Test.YtkpdbceglejbnaaTkq
namespace Go.Proofs.Ytkpdbceglejbnaa
open Go.RowKit

structure Rfs where
  t : Int
  c : List Int
  u : Int
  x : Int
def RfAt (w : World) (v : Value) (R : Rfs) : Prop := ∃ a1 c1, v = .agg #[.int .i64 R.t, .slice a1 R.c.length c1, .int .i64 R.u, .int .i64 R.x] ∧ IntSl w (.slice a1 R.c.length c1) R.c
theorem RfAt.ext {w w' : World} {v : Value} {R : Rfs} (h : RfAt w v R) (he : Ext w w') : RfAt w' v R := by
  obtain ⟨a, c, h1, h2⟩ := h
  exact ⟨a, c, h1, h2.ext he⟩
def Rfs.small (R : Rfs) : Prop := R.c.length ≤ 1048576
def OwnRf (w : World) (v : Value) (R : Rfs) (bs : List Nat) : Prop := ∃ a1 c1, v = .agg #[.int .i64 R.t, .slice a1 R.c.length c1, .int .i64 R.u, .int .i64 R.x] ∧ OwnI w (.slice a1 R.c.length c1) R.c bs
theorem OwnRf.keep {w w' : World} {v : Value} {R : Rfs} {bs : List Nat} (h : OwnRf w v R bs) (he : ∀ b ∈ bs, w'.heap[b]? = w.heap[b]?) : OwnRf w' v R bs := by
  obtain ⟨a, c, h1, h2⟩ := h
  exact ⟨a, c, h1, h2.keep he⟩
theorem OwnRf.lt {w : World} {v : Value} {R : Rfs} {bs : List Nat} (h : OwnRf w v R bs) : ∀ b ∈ bs, b < w.heap.size := by
  obtain ⟨a, c, h1, h2⟩ := h
  exact h2.1.lt
theorem OwnRf.ext {w w' : World} {v : Value} {R : Rfs} {bs : List Nat} (h : OwnRf w v R bs) (he : Ext w w') : OwnRf w' v R bs := h.keep fun b hb => he.block b (h.lt b hb)
theorem OwnRf.read {w : World} {v : Value} {R : Rfs} {bs : List Nat} (h : OwnRf w v R bs) : RfAt w v R := by
  obtain ⟨a, c, h1, h2⟩ := h
  exact ⟨a, c, h1, h2.read⟩
theorem OwnRf.agg {w : World} {v : Value} {R : Rfs} {bs : List Nat} (h : OwnRf w v R bs) : ∃ a1 c1, v = .agg #[.int .i64 R.t, .slice a1 R.c.length c1, .int .i64 R.u, .int .i64 R.x] := by
  obtain ⟨a, c, h1, -⟩ := h
  exact ⟨a, c, h1⟩
abbrev boxed4 (w : World) (x0 x1 x2 x3 : Value) (t : Nat) : World := w.alloc (.cells #[x0, x1, x2, x3] t)
theorem boxed4_ext (w : World) (x0 x1 x2 x3 : Value) (t : Nat) : Ext w (boxed4 w x0 x1 x2 x3 t) := (Ext.rfl' w).alloc' _
theorem boxed4_row (w : World) (x0 x1 x2 x3 : Value) (t : Nat) : (boxed4 w x0 x1 x2 x3 t).rowIs w.heap.size t 4 (quad x0 x1 x2 x3) := row4_made _ _ _ _ _ _
theorem row4_cells {w : World} {b t : Nat} {x0 x1 x2 x3 : Value} (h : w.rowIs b t 4 (quad x0 x1 x2 x3)) :
    w.cell? ⟨b, 0, none⟩ = some x0 ∧ w.cell? ⟨b, 1, none⟩ = some x1 ∧ w.cell? ⟨b, 2, none⟩ = some x2 ∧ w.cell? ⟨b, 3, none⟩ = some x3 :=
  ⟨h.cell (i := 0) (by omega), h.cell (i := 1) (by omega), h.cell (i := 2) (by omega), h.cell (i := 3) (by omega)⟩
theorem row4_set0 {w : World} {b t : Nat} {x0 x1 x2 x3 : Value} (h : w.rowIs b t 4 (quad x0 x1 x2 x3)) (y : Value) : (w.setCell ⟨b, 0, none⟩ y).rowIs b t 4 (quad y x1 x2 x3) :=
  (h.set 0 y).congr fun i hi => by match i, hi with | 0, _ => rfl | 1, _ => rfl | 2, _ => rfl | 3, _ => rfl
theorem row4_set1 {w : World} {b t : Nat} {x0 x1 x2 x3 : Value} (h : w.rowIs b t 4 (quad x0 x1 x2 x3)) (y : Value) : (w.setCell ⟨b, 1, none⟩ y).rowIs b t 4 (quad x0 y x2 x3) :=
  (h.set 1 y).congr fun i hi => by match i, hi with | 0, _ => rfl | 1, _ => rfl | 2, _ => rfl | 3, _ => rfl

theorem eqRefusalR_same {w : World} {v1 v2 : Value} {R : Rfs} (h1 : RfAt w v1 R) (h2 : RfAt w v2 R) :
    Calls Try.prog 37 #[v1, v2] w fun e w' => e = .returned (.bool true) ∧ Ext w w' := by
  obtain ⟨a, c, rfl, k1⟩ := h1
  obtain ⟨a', c', rfl, k2⟩ := h2
  exact eqRefusal_same _ _ _ k1 k2

set_option maxHeartbeats 800000 in
set_option maxRecDepth 100000 in
theorem szRefusal_any {w : World} {v : Value} {R : Rfs} (left : Int) (h : RfAt w v R) (h0 : -1 ≤ left) (h1 : left ≤ 1048576) :
    Calls Try.prog 40 #[v, .int .i64 left] w fun e w' => ∃ r : Int, e = .returned (.int .i64 r) ∧ Ext w w' ∧ -1 ≤ r ∧ r ≤ left ∧ (0 ≤ r → R.small) := by
  obtain ⟨a, c, rfl, hL⟩ := h
  have HL := Lib.hid hL
  have HX := Lib.hid (boxed4_ext w (.int .i64 R.t) (.slice a R.c.length c) (.int .i64 R.u) (.int .i64 R.x) 57)
  obtain ⟨p0, p1, p2, p3⟩ := row4_cells (boxed4_row w (.int .i64 R.t) (.slice a R.c.length c) (.int .i64 R.u) (.int .i64 R.x) 57)
  clear hL
  go_enter Try.func40, Try.ntmps40
  go_wp2_with fail
  (with_reducible refine (szIntS_any left (HL.out.ext HX.out) h0 h1).mono ?_)
  rintro e _ ⟨r, rfl, rfl, hr1, hr2, hr3⟩
  have HR := Lib.hid hr3
  clear hr3 p0 p1 p2 p3
  by_cases e : r < 0
  · have d : decide (r < 0) = true := by simpa using e
    go_wp2
    go_ret
    exact ⟨-1, rfl, HX.out, by omega, by omega, fun h => absurd h (by omega)⟩
  · have d : decide (r < 0) = false := by simpa using e
    go_wp2
    go_ret
    exact ⟨r, rfl, HX.out, hr2, hr1, fun h => by have := HR.out h; unfold Rfs.small; omega⟩

set_option maxHeartbeats 1600000 in
set_option maxRecDepth 100000 in
theorem toRefusal_own {w : World} {v : Value} {R : Rfs} (h : RfAt w v R) (hs : R.small) :
    Calls Try.prog 42 #[v] w fun e w' => ∃ v' bs, e = .returned v' ∧ Ext w w' ∧ OwnRf w' v' R bs ∧ Fresh w bs := by
  obtain ⟨a, c, rfl, hL⟩ := h
  have HL := Lib.hid hL
  obtain ⟨t, ht⟩ : ∃ t, t = R.t := ⟨_, rfl⟩
  obtain ⟨u, hu⟩ : ∃ u, u = R.u := ⟨_, rfl⟩
  obtain ⟨x, hx0⟩ : ∃ x, x = R.x := ⟨_, rfl⟩
  obtain ⟨L, hLL⟩ : ∃ L, L = R.c := ⟨_, rfl⟩
  have HD := Lib.hid (And.intro ht (And.intro hu (And.intro hx0 hLL)))
  have hs6 : L.length ≤ 1048576 := by rw [hLL]; exact hs
  rw [← ht, ← hu, ← hx0, ← hLL]
  rw [← hLL] at HL
  clear hL hs ht hu hx0 hLL
  obtain ⟨Wa, hWa⟩ : ∃ Wa, Wa = ((w.alloc (.cells #[.int .i64 t, .slice a L.length c, .int .i64 u, .int .i64 x] 57)).alloc (.cells #[.int .i64 0, .slice none 0 0, .int .i64 0, .int .i64 0] 52)).alloc (.cells #[.int .i64 t, .slice none 0 0, .int .i64 0, .int .i64 0] 52) := ⟨_, rfl⟩
  have KA := Lib.hid (show Ext w Wa by rw [hWa]; exact (((Ext.rfl' w).alloc' _).alloc' _).alloc' _)
  have RA := Lib.hid (show Wa.rowIs w.heap.size 57 4 (quad (.int .i64 t) (.slice a L.length c) (.int .i64 u) (.int .i64 x)) by rw [hWa]; exact ((row4_made _ _ _ _ _ _).alloc _).alloc _)
  have RB := Lib.hid (show Wa.rowIs (w.heap.size + 1) 52 4 (quad (.int .i64 0) (.slice none 0 0) (.int .i64 0) (.int .i64 0)) by
    rw [hWa]
    have := row4_made (w.alloc (.cells #[.int .i64 t, .slice a L.length c, .int .i64 u, .int .i64 x] 57)) (.int .i64 0) (.slice none 0 0) (.int .i64 0) (.int .i64 0) 52
    rw [World.size_alloc] at this
    exact this.alloc _)
  have RC := Lib.hid (show Wa.rowIs (w.heap.size + 1 + 1) 52 4 (quad (.int .i64 t) (.slice none 0 0) (.int .i64 0) (.int .i64 0)) by
    rw [hWa]
    have := row4_made ((w.alloc (.cells #[.int .i64 t, .slice a L.length c, .int .i64 u, .int .i64 x] 57)).alloc (.cells #[.int .i64 0, .slice none 0 0, .int .i64 0, .int .i64 0] 52)) (.int .i64 t) (.slice none 0 0) (.int .i64 0) (.int .i64 0) 52
    rw [World.size_alloc, World.size_alloc] at this
    exact this)
  have SB := Lib.hid (show Wa.heap.size = w.heap.size + 3 by rw [hWa]; simp)
  obtain ⟨p0, p1, p2, p3⟩ := row4_cells RA.out
  rw [hWa] at p0 p1 p2 p3
  go_enter Try.func42, Try.ntmps42
  go_wp2_with fail
  rw [← hWa]
  clear hWa p0 p1 p2 p3
  (with_reducible refine (toIntS_own (HL.out.ext KA.out) hs6).mono ?_)
  rintro e w1 ⟨a1, c1, bs, rfl, hx, ho, hf⟩
  have K1 := Lib.hid (KA.out.trans' hx)
  have O1 := Lib.hid ho
  have F1 := Lib.hid (hf.of KA.out.size)
  have Z1 := Lib.hid (show ∀ b ∈ bs, w.heap.size + 3 ≤ b from fun b hb => by have := hf.2 b hb; rw [SB.out] at this; exact this)
  have A1 := Lib.hid (row_ext RA.out hx)
  have B1 := Lib.hid (row_ext RB.out hx)
  have C1 := Lib.hid (row_ext RC.out hx)
  clear hx ho hf
  have C2 := Lib.hid (row4_set1 C1.out (.slice a1 L.length c1))
  have C3 := Lib.hid (row4_set2 C2.out (.int .i64 u))
  have C4 := Lib.hid (row4_set3 C3.out (.int .i64 x))
  have A2 := Lib.hid (A1.out.setOther (a := ⟨w.heap.size + 1 + 1, 1, none⟩) (by simp <;> omega) (.slice a1 L.length c1))
  have A3 := Lib.hid (A2.out.setOther (a := ⟨w.heap.size + 1 + 1, 2, none⟩) (by simp <;> omega) (.int .i64 u))
  have B4 := Lib.hid (((B1.out.setOther (a := ⟨w.heap.size + 1 + 1, 1, none⟩) (by simp <;> omega) (.slice a1 L.length c1)).setOther (a := ⟨w.heap.size + 1 + 1, 2, none⟩) (by simp <;> omega) (.int .i64 u)).setOther (a := ⟨w.heap.size + 1 + 1, 3, none⟩) (by simp <;> omega) (.int .i64 x))
  have K4 := Lib.hid (((K1.out.store (p := ⟨w.heap.size + 1 + 1, 1, none⟩) (by simp <;> omega) (.slice a1 L.length c1)).store (p := ⟨w.heap.size + 1 + 1, 2, none⟩) (by simp <;> omega) (.int .i64 u)).store (p := ⟨w.heap.size + 1 + 1, 3, none⟩) (by simp <;> omega) (.int .i64 x))
  have hnb : w.heap.size + 1 + 1 ∉ bs := fun k => by have := Z1.out _ k; omega
  have O4 := Lib.hid (own_off4 (own_off4 (own_off4 O1.out (b := w.heap.size + 1 + 1) (i := 1) (u := .slice a1 L.length c1) hnb) (b := w.heap.size + 1 + 1) (i := 2) (u := .int .i64 u) hnb) (b := w.heap.size + 1 + 1) (i := 3) (u := .int .i64 x) hnb)
  obtain ⟨c10, c11, c12, c13, d10, d11, d12, d13⟩ := row4_facts C1.out
  obtain ⟨c20, c21, c22, c23, d20, d21, d22, d23⟩ := row4_facts C2.out
  obtain ⟨c30, c31, c32, c33, d30, d31, d32, d33⟩ := row4_facts C3.out
  obtain ⟨c40, c41, c42, c43⟩ := row4_cells C4.out
  obtain ⟨a20, a21, a22, a23⟩ := row4_cells A2.out
  obtain ⟨a30, a31, a32, a33⟩ := row4_cells A3.out
  obtain ⟨b40, b41, b42, b43, e40, e41, e42, e43⟩ := row4_facts B4.out
  clear hnb
  go_wp2
  have KS := Lib.hid (K4.out.store4 (p := w.heap.size + 1) (by omega) (.int .i64 t) (.slice a1 L.length c1) (.int .i64 u) (.int .i64 x))
  obtain ⟨z0, z1, z2, z3, -, -, -, -⟩ := row4_facts (row4_put B4.out (.int .i64 t) (.slice a1 L.length c1) (.int .i64 u) (.int .i64 x))
  refine bodyPost_ret (v := .agg #[.int .i64 t, .slice a1 L.length c1, .int .i64 u, .int .i64 x]) (by simp [results, Try.results42, go_sem, z0, z1, z2, z3]) rfl ⟨_, bs, rfl, KS.out, ?_, F1.out⟩
  obtain ⟨rfl, rfl, rfl, rfl⟩ := HD.out
  exact ⟨a1, c1, rfl, own_store4 (q := w.heap.size + 3) O4.out Z1.out (by omega) _ _ _ _⟩
end Go.Proofs.Ytkpdbceglejbnaa
