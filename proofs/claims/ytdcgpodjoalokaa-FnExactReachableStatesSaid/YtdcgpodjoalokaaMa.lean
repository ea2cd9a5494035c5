/- Machines as values: what it means that a value reads as a list of clauses and as a machine; the same in memory of one's own; rows of seven cells. -/
import Derived.Test.YtdcgpodjoalokaaIu
namespace Go.Proofs.Ytdcgpodjoalokaa
open Go.RowKit

/-- A clause: its state, its inbox and the next state. -/
structure Cl where
  st : Int
  inb : List Int
  nx : Int
def cl0 : Cl := ⟨0, [], 0⟩
def gc (l : List Cl) (i : Nat) : Cl := l.getD i cl0
theorem gc_out (l : List Cl) (i : Nat) (h : l.length ≤ i) : gc l i = cl0 := by simp [gc, List.getD, List.getElem?_eq_none h]
theorem cls_eq {l1 l2 : List Cl} (hn : l1.length = l2.length) (h : ∀ i, i < l1.length → gc l1 i = gc l2 i) : l1 = l2 := by
  refine List.ext_getElem hn fun i h1 h2 => ?_
  have := h i h1
  simpa [gc, List.getD, List.getElem?_eq_getElem h1, List.getElem?_eq_getElem h2] using this

def ClAt (w : World) (b o i : Nat) (c : Cl) : Prop :=
  w.cell? ⟨b, o + i * 3, none⟩ = some (.int .i64 c.st) ∧ (∃ a n q, w.cell? ⟨b, o + i * 3 + 1, none⟩ = some (.slice a n q) ∧ n = c.inb.length ∧ IntSl w (.slice a n q) c.inb) ∧
    w.cell? ⟨b, o + i * 3 + 2, none⟩ = some (.int .i64 c.nx) ∧ inI64 c.st ∧ inI64 c.nx
theorem ClAt.ext {w w' : World} {b o i : Nat} {c : Cl} (h : ClAt w b o i c) (he : Ext w w') : ClAt w' b o i c := by
  obtain ⟨h1, ⟨a, n, q, h2, h3, h4⟩, h5, h6⟩ := h
  exact ⟨he.cell' h1, ⟨a, n, q, he.cell' h2, h3, h4.ext he⟩, he.cell' h5, h6⟩
/-- A value reads as a list of clauses. -/
def ClSl (w : World) (v : Value) (l : List Cl) : Prop :=
  ∃ (a : Option Addr) (b o c : Nat), v = .slice a l.length c ∧ (0 < l.length → a = some ⟨b, o, none⟩) ∧ l.length ≤ c ∧ c ≤ maxLen ∧ ∀ i, i < l.length → ClAt w b o i (gc l i)
theorem ClSl.ext {w w' : World} {v : Value} {l : List Cl} (h : ClSl w v l) (he : Ext w w') : ClSl w' v l := by
  obtain ⟨a, b, o, c, h1, h2, h3, h4, h5⟩ := h
  exact ⟨a, b, o, c, h1, h2, h3, h4, fun i hi => (h5 i hi).ext he⟩
theorem ClSl.isSlice {w : World} {v : Value} {l : List Cl} (h : ClSl w v l) : ∃ a c, v = .slice a l.length c := by
  obtain ⟨a, b, o, c, rfl, -⟩ := h
  exact ⟨a, c, rfl⟩
theorem IntSl.isSlice {w : World} {v : Value} {l : List Int} (h : IntSl w v l) : ∃ a c, v = .slice a l.length c := by
  obtain ⟨a, b, o, c, rfl, -⟩ := h
  exact ⟨a, c, rfl⟩
theorem IntSS.isSlice {w : World} {v : Value} {l : List (List Int)} (h : IntSS w v l) : ∃ a c, v = .slice a l.length c := by
  obtain ⟨a, b, o, c, rfl, -⟩ := h
  exact ⟨a, c, rfl⟩

/-- A machine as plain data. -/
structure Mach where
  deg : Int
  sts : Int
  msgs : Int
  start : List (List Int)
  send : List (List Int)
  cls : List Cl
  out : List Int
def MachAt (w : World) (v : Value) (M : Mach) : Prop :=
  ∃ a3 c3 a4 c4 a5 c5 a6 c6, v = .agg #[.int .i64 M.deg, .int .i64 M.sts, .int .i64 M.msgs, .slice a3 M.start.length c3, .slice a4 M.send.length c4, .slice a5 M.cls.length c5, .slice a6 M.out.length c6] ∧
    IntSS w (.slice a3 M.start.length c3) M.start ∧ IntSS w (.slice a4 M.send.length c4) M.send ∧ ClSl w (.slice a5 M.cls.length c5) M.cls ∧ IntSl w (.slice a6 M.out.length c6) M.out ∧
    inI64 M.deg ∧ inI64 M.sts ∧ inI64 M.msgs
theorem MachAt.ext {w w' : World} {v : Value} {M : Mach} (h : MachAt w v M) (he : Ext w w') : MachAt w' v M := by
  obtain ⟨a3, c3, a4, c4, a5, c5, a6, c6, h1, h2, h3, h4, h5, h6⟩ := h
  exact ⟨a3, c3, a4, c4, a5, c5, a6, c6, h1, h2.ext he, h3.ext he, h4.ext he, h5.ext he, h6⟩
def Mach.small (M : Mach) : Prop := IISmall M.start ∧ IISmall M.send ∧ (M.cls.length ≤ 1048576 ∧ ∀ i, (gc M.cls i).inb.length ≤ 1048576) ∧ M.out.length ≤ 1048576

/-- Rows of seven cells. -/
def sept (x0 x1 x2 x3 x4 x5 x6 : Value) : Nat → Value
  | 0 => x0
  | 1 => x1
  | 2 => x2
  | 3 => x3
  | 4 => x4
  | 5 => x5
  | _ => x6
theorem row7_made (w : World) (x0 x1 x2 x3 x4 x5 x6 : Value) (t : Nat) : (w.alloc (.cells #[x0, x1, x2, x3, x4, x5, x6] t)).rowIs w.heap.size t 7 (sept x0 x1 x2 x3 x4 x5 x6) :=
  World.rowIs_alloc w #[x0, x1, x2, x3, x4, x5, x6] t _ fun i hi => by
    have h : i < 7 := hi
    match i, h with
    | 0, _ => rfl
    | 1, _ => rfl
    | 2, _ => rfl
    | 3, _ => rfl
    | 4, _ => rfl
    | 5, _ => rfl
    | 6, _ => rfl
theorem row7_facts {w : World} {b t : Nat} {x0 x1 x2 x3 x4 x5 x6 : Value} (h : w.rowIs b t 7 (sept x0 x1 x2 x3 x4 x5 x6)) :
    w.cell? ⟨b, 0, none⟩ = some x0 ∧ w.cell? ⟨b, 1, none⟩ = some x1 ∧ w.cell? ⟨b, 2, none⟩ = some x2 ∧ w.cell? ⟨b, 3, none⟩ = some x3 ∧ w.cell? ⟨b, 4, none⟩ = some x4 ∧ w.cell? ⟨b, 5, none⟩ = some x5 ∧ w.cell? ⟨b, 6, none⟩ = some x6 :=
  ⟨h.cell (i := 0) (by omega), h.cell (i := 1) (by omega), h.cell (i := 2) (by omega), h.cell (i := 3) (by omega), h.cell (i := 4) (by omega), h.cell (i := 5) (by omega), h.cell (i := 6) (by omega)⟩
theorem row7_frozen {w : World} {b t : Nat} {x0 x1 x2 x3 x4 x5 x6 : Value} (h : w.rowIs b t 7 (sept x0 x1 x2 x3 x4 x5 x6)) :
    w.frozen? ⟨b, 0, none⟩ = false ∧ w.frozen? ⟨b, 1, none⟩ = false ∧ w.frozen? ⟨b, 2, none⟩ = false ∧ w.frozen? ⟨b, 3, none⟩ = false ∧ w.frozen? ⟨b, 4, none⟩ = false ∧ w.frozen? ⟨b, 5, none⟩ = false ∧ w.frozen? ⟨b, 6, none⟩ = false :=
  ⟨h.frozen _, h.frozen _, h.frozen _, h.frozen _, h.frozen _, h.frozen _, h.frozen _⟩
theorem row7_set {w : World} {b t : Nat} {x0 x1 x2 x3 x4 x5 x6 : Value} (h : w.rowIs b t 7 (sept x0 x1 x2 x3 x4 x5 x6)) (y : Value) :
    (w.setCell ⟨b, 0, none⟩ y).rowIs b t 7 (sept y x1 x2 x3 x4 x5 x6) ∧ (w.setCell ⟨b, 1, none⟩ y).rowIs b t 7 (sept x0 y x2 x3 x4 x5 x6) ∧ (w.setCell ⟨b, 2, none⟩ y).rowIs b t 7 (sept x0 x1 y x3 x4 x5 x6) ∧
      (w.setCell ⟨b, 3, none⟩ y).rowIs b t 7 (sept x0 x1 x2 y x4 x5 x6) ∧ (w.setCell ⟨b, 4, none⟩ y).rowIs b t 7 (sept x0 x1 x2 x3 y x5 x6) ∧ (w.setCell ⟨b, 5, none⟩ y).rowIs b t 7 (sept x0 x1 x2 x3 x4 y x6) ∧
      (w.setCell ⟨b, 6, none⟩ y).rowIs b t 7 (sept x0 x1 x2 x3 x4 x5 y) := by
  refine ⟨(h.set 0 y).congr ?_, (h.set 1 y).congr ?_, (h.set 2 y).congr ?_, (h.set 3 y).congr ?_, (h.set 4 y).congr ?_, (h.set 5 y).congr ?_, (h.set 6 y).congr ?_⟩ <;>
    exact fun i hi => by match i, hi with | 0, _ => rfl | 1, _ => rfl | 2, _ => rfl | 3, _ => rfl | 4, _ => rfl | 5, _ => rfl | 6, _ => rfl
abbrev boxed7 (w : World) (x0 x1 x2 x3 x4 x5 x6 : Value) (t : Nat) : World := w.alloc (.cells #[x0, x1, x2, x3, x4, x5, x6] t)
theorem boxed7_ext (w : World) (x0 x1 x2 x3 x4 x5 x6 : Value) (t : Nat) : Ext w (boxed7 w x0 x1 x2 x3 x4 x5 x6 t) := (Ext.rfl' w).alloc' _
theorem boxed7_row (w : World) (x0 x1 x2 x3 x4 x5 x6 : Value) (t : Nat) : (boxed7 w x0 x1 x2 x3 x4 x5 x6 t).rowIs w.heap.size t 7 (sept x0 x1 x2 x3 x4 x5 x6) := row7_made _ _ _ _ _ _ _ _ _

/-- The cells of a list of clauses whose inboxes are the values R. -/
def clcell (R : Nat → Value) (l : List Cl) (j : Nat) : Value := if j % 3 = 0 then .int .i64 (gc l (j / 3)).st else if j % 3 = 1 then R (j / 3) else .int .i64 (gc l (j / 3)).nx
def OwnCl (w : World) (v : Value) (l : List Cl) (bs : List Nat) : Prop :=
  ∃ (R : Nat → Value) (b0 : List Nat) (T : Nat → List Nat), OwnSl w v l.length 3 113 (clcell R l) b0 ∧ (∀ i, i < l.length → OwnI w (R i) (gc l i).inb (T i)) ∧
    (∀ i, i < l.length → inI64 (gc l i).st ∧ inI64 (gc l i).nx) ∧ bs = b0 ++ (List.range l.length).flatMap T
theorem OwnCl.keep {w w' : World} {v : Value} {l : List Cl} {bs : List Nat} (h : OwnCl w v l bs) (he : ∀ b ∈ bs, w'.heap[b]? = w.heap[b]?) : OwnCl w' v l bs := by
  obtain ⟨R, b0, T, h1, h2, h3, rfl⟩ := h
  refine ⟨R, b0, T, h1.keep fun b hb => he b (by simp [hb]), fun i hi => (h2 i hi).keep fun b hb => he b ?_, h3, rfl⟩
  exact List.mem_append.2 (.inr (List.mem_flatMap.2 ⟨i, List.mem_range.2 hi, hb⟩))
theorem OwnCl.lt {w : World} {v : Value} {l : List Cl} {bs : List Nat} (h : OwnCl w v l bs) : ∀ b ∈ bs, b < w.heap.size := by
  obtain ⟨R, b0, T, h1, h2, -, rfl⟩ := h
  intro b hb
  rcases List.mem_append.1 hb with hb | hb
  · exact h1.lt b hb
  · obtain ⟨i, hi, hb⟩ := List.mem_flatMap.1 hb
    exact (h2 i (List.mem_range.1 hi)).1.lt b hb
theorem OwnCl.ext {w w' : World} {v : Value} {l : List Cl} {bs : List Nat} (h : OwnCl w v l bs) (he : Ext w w') : OwnCl w' v l bs := h.keep fun b hb => he.block b (h.lt b hb)
theorem OwnCl.read {w : World} {v : Value} {l : List Cl} {bs : List Nat} (h : OwnCl w v l bs) : ClSl w v l := by
  obtain ⟨R, b0, T, ⟨c, h1, h2, h3⟩, h4, h5, rfl⟩ := h
  rcases h3 with ⟨hn, rfl, a, -, rfl⟩ | ⟨b, m, g, rfl, rfl, hm, hr, hf⟩
  · exact ⟨a, 0, 0, c, by rw [hn], fun h => absurd h (by omega), by omega, h2, fun i hi => absurd hi (by omega)⟩
  · refine ⟨_, b, 0, c, rfl, fun _ => rfl, h1, h2, fun i hi => ?_⟩
    have e0 : (0 + i * 3) / 3 = i := by omega
    have e1 : (0 + i * 3 + 1) / 3 = i := by omega
    have e2 : (0 + i * 3 + 2) / 3 = i := by omega
    obtain ⟨ia, ic, hR⟩ := (h4 i hi).read.isSlice
    refine ⟨?_, ⟨ia, (gc l i).inb.length, ic, ?_, rfl, hR ▸ (h4 i hi).read⟩, ?_, h5 i hi⟩
    · rw [hr.cell (by omega), hf _ (by omega)]
      simp only [clcell]
      rw [if_pos (by omega), e0]
    · rw [hr.cell (by omega), hf _ (by omega)]
      simp only [clcell]
      rw [if_neg (by omega), if_pos (by omega), e1, hR]
    · rw [hr.cell (by omega), hf _ (by omega)]
      simp only [clcell]
      rw [if_neg (by omega), if_neg (by omega), e2]
def OwnMach (w : World) (v : Value) (M : Mach) (bs : List Nat) : Prop :=
  ∃ a3 c3 a4 c4 a5 c5 a6 c6 b3 b4 b5 b6, v = .agg #[.int .i64 M.deg, .int .i64 M.sts, .int .i64 M.msgs, .slice a3 M.start.length c3, .slice a4 M.send.length c4, .slice a5 M.cls.length c5, .slice a6 M.out.length c6] ∧
    OwnII w (.slice a3 M.start.length c3) M.start b3 ∧ OwnII w (.slice a4 M.send.length c4) M.send b4 ∧ OwnCl w (.slice a5 M.cls.length c5) M.cls b5 ∧ OwnI w (.slice a6 M.out.length c6) M.out b6 ∧
    (inI64 M.deg ∧ inI64 M.sts ∧ inI64 M.msgs) ∧ bs = b3 ++ (b4 ++ (b5 ++ b6))
theorem OwnMach.keep {w w' : World} {v : Value} {M : Mach} {bs : List Nat} (h : OwnMach w v M bs) (he : ∀ b ∈ bs, w'.heap[b]? = w.heap[b]?) : OwnMach w' v M bs := by
  obtain ⟨a3, c3, a4, c4, a5, c5, a6, c6, b3, b4, b5, b6, h1, h3, h4, h5, h6, h7, rfl⟩ := h
  exact ⟨a3, c3, a4, c4, a5, c5, a6, c6, b3, b4, b5, b6, h1, h3.keep fun b hb => he b (by simp [hb]), h4.keep fun b hb => he b (by simp [hb]), h5.keep fun b hb => he b (by simp [hb]), h6.keep fun b hb => he b (by simp [hb]), h7, rfl⟩
theorem OwnMach.lt {w : World} {v : Value} {M : Mach} {bs : List Nat} (h : OwnMach w v M bs) : ∀ b ∈ bs, b < w.heap.size := by
  obtain ⟨a3, c3, a4, c4, a5, c5, a6, c6, b3, b4, b5, b6, h1, h3, h4, h5, h6, h7, rfl⟩ := h
  intro b hb
  simp only [List.mem_append] at hb
  rcases hb with hb | hb | hb | hb
  · exact h3.lt b hb
  · exact h4.lt b hb
  · exact h5.lt b hb
  · exact h6.1.lt b hb
theorem OwnMach.ext {w w' : World} {v : Value} {M : Mach} {bs : List Nat} (h : OwnMach w v M bs) (he : Ext w w') : OwnMach w' v M bs := h.keep fun b hb => he.block b (h.lt b hb)
theorem OwnMach.read {w : World} {v : Value} {M : Mach} {bs : List Nat} (h : OwnMach w v M bs) : MachAt w v M := by
  obtain ⟨a3, c3, a4, c4, a5, c5, a6, c6, b3, b4, b5, b6, h1, h3, h4, h5, h6, h7, rfl⟩ := h
  exact ⟨a3, c3, a4, c4, a5, c5, a6, c6, h1, h3.read, h4.read, h5.read, h6.read, h7⟩
theorem OwnMach.agg {w : World} {v : Value} {M : Mach} {bs : List Nat} (h : OwnMach w v M bs) :
    ∃ a3 c3 a4 c4 a5 c5 a6 c6, v = .agg #[.int .i64 M.deg, .int .i64 M.sts, .int .i64 M.msgs, .slice a3 M.start.length c3, .slice a4 M.send.length c4, .slice a5 M.cls.length c5, .slice a6 M.out.length c6] := by
  obtain ⟨a3, c3, a4, c4, a5, c5, a6, c6, b3, b4, b5, b6, h1, -⟩ := h
  exact ⟨a3, c3, a4, c4, a5, c5, a6, c6, h1⟩
theorem mach_eq_iff (A B : Mach) : A = B ↔ A.deg = B.deg ∧ A.sts = B.sts ∧ A.msgs = B.msgs ∧ A.start = B.start ∧ A.send = B.send ∧ A.cls = B.cls ∧ A.out = B.out := by
  cases A; cases B; simp
end Go.Proofs.Ytdcgpodjoalokaa
