/- A list of walks in memory of its own, five cells each: as the program lays them (viewCells) and as the model does (viCells). -/
import Derived.Test.YtgacbfblpkikkaaUx
namespace Go.Proofs.Ytgacbfblpkikkaa
open Go.RowKit

def Five (f : Wk → List Value) : Prop := ∀ w, (f w).length = 5
def cells5 (f : Wk → List Value) (Q : List Wk) : List Value := Q.flatMap f
def viewCells (w : Wk) : List Value := [.int .i64 (w.steps : Int), .int .i64 (w.node : Int), .int .i64 w.came, .int .i64 (w.src : Int), .int .i64 (w.port : Int)]
/-- The walk without a step goes on from none: -1. -/
def viCells (w : Wk) : List Value := [.int .i64 (w.node : Int), .int .i64 w.came, .int .i64 (w.steps : Int), .int .i64 (if w.steps = 0 then -1 else (w.src : Int)), .int .i64 (w.port : Int)]
theorem view_five : Five viewCells := fun _ => rfl
theorem vi_five : Five viCells := fun _ => rfl
theorem cells5_app (f : Wk → List Value) (Q L : List Wk) : cells5 f (Q ++ L) = cells5 f Q ++ cells5 f L := by simp [cells5]
theorem cells5_snoc (f : Wk → List Value) (Q : List Wk) (x : Wk) : cells5 f (Q ++ [x]) = cells5 f Q ++ f x := by simp [cells5]
theorem cells5_len {f : Wk → List Value} (hf : Five f) : ∀ Q, (cells5 f Q).length = 5 * Q.length
  | [] => rfl
  | x :: Q => by
    have := cells5_len hf Q
    rw [show cells5 f (x :: Q) = f x ++ cells5 f Q from rfl, List.length_append, hf, this, List.length_cons]
    omega
theorem cells5_get {f : Wk → List Value} (hf : Five f) : ∀ (Q : List Wk) (j r : Nat), j < Q.length → r < 5 → (cells5 f Q)[5 * j + r]? = (f (wkAt Q j))[r]?
  | [], j, r, h, _ => absurd h (by simp)
  | x :: Q, 0, r, _, hr => by
    rw [show cells5 f (x :: Q) = f x ++ cells5 f Q from rfl, List.getElem?_append_left (by rw [hf]; omega), show 5 * 0 + r = r by omega]
    rfl
  | x :: Q, j + 1, r, h, hr => by
    rw [List.length_cons] at h
    rw [show cells5 f (x :: Q) = f x ++ cells5 f Q from rfl, List.getElem?_append_right (by rw [hf]; omega), hf, show 5 * (j + 1) + r - 5 = 5 * j + r by omega, cells5_get hf Q j r (by omega) hr]
    rfl

/-- The list, laid by f in cells of type T. -/
def GrowW (f : Wk → List Value) (T : Nat) (B : Nat) (w : World) (v : Value) (Q : List Wk) : Prop := w.ownsRow B T 5 v Q.length (cells5 f Q)
theorem GrowW.nil (f : Wk → List Value) (T B : Nat) (w : World) : GrowW f T B w (.slice none 0 0) [] := World.ownsRow_nil _ _ _ _
section
variable {f : Wk → List Value} {T B : Nat} {w w' : World} {v u : Value} {Q : List Wk}
theorem GrowW.ext (h : GrowW f T B w v Q) (he : Ext w w') : GrowW f T B w' v Q := owns_ext h he
theorem GrowW.lt (h : GrowW f T B w v Q) : ∀ b, v.ownBlock = some b → B ≤ b ∧ b < w.heap.size := World.ownsRow.lt h
theorem GrowW.keep (h : GrowW f T B w v Q) (he : ∀ b, v.ownBlock = some b → w'.heap[b]? = w.heap[b]?) : GrowW f T B w' v Q := by
  refine ⟨h.1, ?_⟩
  rcases h.2 with ⟨rfl, hn⟩ | ⟨g, cap, cur, rfl, hb, hh, rest⟩
  · exact .inl ⟨rfl, hn⟩
  · exact .inr ⟨g, cap, cur, rfl, hb, by rw [he g rfl]; exact hh, rest⟩
theorem GrowW.typed (h : GrowW f T B w v Q) {b : Nat} (hb : v.ownBlock = some b) : Typed w T [b] := fun y hy => by
  obtain rfl := List.mem_singleton.1 hy
  exact owns_typed h y hb
/-- It is left alone where a row of another type grows .. -/
theorem GrowW.beside {C t k n : Nat} {xs : List Value} (h : GrowW f T B w v Q) (ho : w.ownsRow C t k u n xs) (hg : w.grownBy w' u.ownBlock) (hne : T ≠ t) : GrowW f T B w' v Q :=
  h.keep fun b hb => kept_grown ho hg (h.typed hb) hne b (by simp)
/-- .. and where a cell of another type is written. -/
theorem GrowW.store {t n : Nat} {g : Nat → Value} (h : GrowW f T B w v Q) {p : Addr} (hp : w.rowIs p.block t n g) (hne : T ≠ t) (x : Value) : GrowW f T B (w.setCell p x) v Q := by
  obtain ⟨c, hc⟩ := rowIs.blk hp
  exact h.keep fun b hb => kept_store hc (h.typed hb) hne b (by simp)
theorem GrowW.slice (h : GrowW f T B w v Q) : ∃ a c, v = .slice a Q.length c := owns_slice h
theorem GrowW.form (hf : Five f) (h : GrowW f T B w v Q) (hn : 0 < Q.length) :
    ∃ g cap, v = .slice (some ⟨g, 0, none⟩) Q.length cap ∧ Q.length ≤ cap ∧ cap ≤ maxLen ∧ B ≤ g ∧ g < w.heap.size ∧ ∀ j r, j < Q.length → r < 5 → w.cell? ⟨g, 5 * j + r, none⟩ = (f (wkAt Q j))[r]? := by
  rcases h.2 with ⟨_, h0⟩ | ⟨g, cap, cur, rfl, hb, hg, h1, h2, _⟩
  · omega
  · refine ⟨g, cap, rfl, h1, h2, hb, (Array.getElem?_eq_some_iff.1 hg).1, fun j r hj hr => ?_⟩
    rw [World.ownsRow.cellAt h (5 * j + r) (by omega)]
    exact cells5_get hf Q j r hj hr
end
/-- The cells of a walk that is read, each by its name. -/
theorem GrowW.view {T B : Nat} {w : World} {v : Value} {Q : List Wk} (h : GrowW viewCells T B w v Q) (hn : 0 < Q.length) :
    ∃ g cap, v = .slice (some ⟨g, 0, none⟩) Q.length cap ∧ Q.length ≤ cap ∧ cap ≤ maxLen ∧ B ≤ g ∧ g < w.heap.size ∧ ∀ j, j < Q.length →
      w.cell? ⟨g, 5 * j, none⟩ = some (.int .i64 ((wkAt Q j).steps : Int)) ∧ w.cell? ⟨g, 5 * j + 1, none⟩ = some (.int .i64 ((wkAt Q j).node : Int)) ∧ w.cell? ⟨g, 5 * j + 2, none⟩ = some (.int .i64 (wkAt Q j).came) ∧
      w.cell? ⟨g, 5 * j + 3, none⟩ = some (.int .i64 ((wkAt Q j).src : Int)) ∧ w.cell? ⟨g, 5 * j + 4, none⟩ = some (.int .i64 ((wkAt Q j).port : Int)) := by
  obtain ⟨g, cap, e, h1, h2, h3, h4, hc⟩ := h.form view_five hn
  exact ⟨g, cap, e, h1, h2, h3, h4, fun j hj => ⟨hc j 0 hj (by omega), hc j 1 hj (by omega), hc j 2 hj (by omega), hc j 3 hj (by omega), hc j 4 hj (by omega)⟩⟩
theorem GrowW.vi {T B : Nat} {w : World} {v : Value} {Q : List Wk} (h : GrowW viCells T B w v Q) (hn : 0 < Q.length) :
    ∃ g cap, v = .slice (some ⟨g, 0, none⟩) Q.length cap ∧ Q.length ≤ cap ∧ cap ≤ maxLen ∧ B ≤ g ∧ g < w.heap.size ∧ ∀ j, j < Q.length →
      w.cell? ⟨g, 5 * j, none⟩ = some (.int .i64 ((wkAt Q j).node : Int)) ∧ w.cell? ⟨g, 5 * j + 1, none⟩ = some (.int .i64 (wkAt Q j).came) ∧ w.cell? ⟨g, 5 * j + 2, none⟩ = some (.int .i64 ((wkAt Q j).steps : Int)) ∧
      w.cell? ⟨g, 5 * j + 3, none⟩ = some (.int .i64 (if (wkAt Q j).steps = 0 then -1 else ((wkAt Q j).src : Int))) ∧ w.cell? ⟨g, 5 * j + 4, none⟩ = some (.int .i64 ((wkAt Q j).port : Int)) := by
  obtain ⟨g, cap, e, h1, h2, h3, h4, hc⟩ := h.form vi_five hn
  exact ⟨g, cap, e, h1, h2, h3, h4, fun j hj => ⟨hc j 0 hj (by omega), hc j 1 hj (by omega), hc j 2 hj (by omega), hc j 3 hj (by omega), hc j 4 hj (by omega)⟩⟩
end Go.Proofs.Ytgacbfblpkikkaa
