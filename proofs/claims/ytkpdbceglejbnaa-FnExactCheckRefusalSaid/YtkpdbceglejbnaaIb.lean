/- What a good network gives for walks and codes, and a list of integers that grows in memory of the call's own. -/
import Derived.Test.YtkpdbceglejbnaaIa
import Derived.Test.YtkpdbceglejbnaaKd
namespace Go.Proofs.Ytkpdbceglejbnaa
open Go.RowKit

/-- What a walk and its code need of a network. -/
structure GoodW (N : Net) : Prop where
  one : 1 ≤ N.ends.length
  most : N.ends.length ≤ 40
  leads : Leads' N
  deg : ∀ v, v < N.ends.length → (gr N.ends v).length ≤ 6
  port : ∀ v, v < N.ends.length → ∀ i, i < (gr N.ends v).length → 0 ≤ gp (gr N.ends v) i ∧ gp (gr N.ends v) i < 6
  ilen : N.inputs.length = N.ends.length
  irange : ∀ v, v < N.ends.length → 0 ≤ gi N.inputs v ∧ gi N.inputs v ≤ 9
  idl : N.ids.length = 0 ∨ N.ids.length = N.ends.length
  idr : ∀ i, i < N.ids.length → 1 ≤ gi N.ids i ∧ gi N.ids i ≤ 999999
theorem good_w {N : Net} (h : Good N) : GoodW N := by
  obtain ⟨h1, h2, h3, h4⟩ := h
  refine ⟨h1.1, h1.2, ⟨fun v hv i hi => ?_⟩, fun v hv => (h2 v hv).1, fun v hv i hi => ?_, by have := h4.1; omega, fun v hv => h4.2 v (by have := h4.1; omega), by have := h3.1; omega, fun i hi => (h3.2 i hi).1⟩
  · have := ((h2 v hv).2 i hi).1
    exact ⟨this.1, this.2.1⟩
  · obtain ⟨⟨a, b, c, d⟩, _⟩ := (h2 v hv).2 i hi
    have := (h2 (gn (gr N.ends v) i).toNat (by omega)).1
    exact ⟨c, by omega⟩
theorem GoodW.row {N : Net} (h : GoodW N) {x : Int} (h0 : 0 ≤ x) (h1 : x < N.ends.length) : (rw' N x).length ≤ 6 := h.deg _ (by omega)
theorem GoodW.id {N : Net} (h : GoodW N) {x : Int} (h0 : 0 ≤ x) (h1 : x < N.ends.length) : 0 ≤ idOf N x ∧ idOf N x ≤ 999999 := by
  unfold idOf; split
  · omega
  · have := h.idl
    have := h.idr x.toNat (by omega)
    omega

theorem endCd_mem (L : List Int) (r : List (Int × Int)) : ∀ j, ∀ x ∈ endCd L r j, ∃ i, i < j ∧ (x = ixI L (gn r i) ∨ x = gp r i)
  | 0, x, hx => by simp [endCd] at hx
  | j + 1, x, hx => by
    simp only [endCd, List.mem_append, List.mem_cons, List.not_mem_nil, or_false] at hx
    rcases hx with h | h | h
    · obtain ⟨i, hi, h⟩ := endCd_mem L r j x h; exact ⟨i, by omega, h⟩
    · exact ⟨j, by omega, .inl h⟩
    · exact ⟨j, by omega, .inr h⟩
theorem nodeCd_range {N : Net} (h : GoodW N) {L : List Int} (hL : WkOK N L) {x : Int} (hx : x ∈ L) : ∀ y ∈ nodeCd N L x, 0 ≤ y ∧ y ≤ 999999 := fun y hy => by
  have r := hL.range x hx
  have l := hL.len
  have m := h.most
  rcases List.mem_append.1 hy with h1 | h1
  · simp only [headCd, List.mem_cons, List.not_mem_nil, or_false] at h1
    have d := h.row r.1 r.2
    have i := h.irange x.toNat (by omega)
    have j := h.id r.1 r.2
    rcases h1 with rfl | rfl | rfl <;> omega
  · obtain ⟨i, hi, rfl | rfl⟩ := endCd_mem _ _ _ _ h1
    · have : L.idxOf (gn (rw' N x) i) ≤ L.length := List.idxOf_le_length
      unfold ixI; omega
    · have := h.port x.toNat (by omega) i hi
      unfold rw'; omega
theorem cdTo_range {N : Net} (h : GoodW N) {L : List Int} (hL : WkOK N L) : ∀ k, k ≤ L.length → ∀ y ∈ cdTo N L k, 0 ≤ y ∧ y ≤ 999999
  | 0, _, y, hy => by simp [cdTo] at hy
  | k + 1, hk, y, hy => by
    rcases List.mem_append.1 hy with h1 | h1
    · exact cdTo_range h hL k (by omega) y h1
    · exact nodeCd_range h hL (gi_in (by omega)) y h1
theorem cdTo_len {N : Net} (h : GoodW N) {L : List Int} (hL : WkOK N L) : ∀ k, k ≤ L.length → (cdTo N L k).length ≤ 15 * k
  | 0, _ => by simp [cdTo]
  | k + 1, hk => by
    have := cdTo_len h hL k (by omega)
    have r := hL.range _ (gi_in (show k < L.length by omega))
    have := h.row r.1 r.2
    simp only [cdTo, List.length_append, nodeCd_len]; omega
theorem cd_small {N : Net} (h : GoodW N) {L : List Int} (hL : WkOK N L) : (cd N L).length ≤ 600 := by
  have := cdTo_len h hL L.length (Nat.le_refl _)
  have := hL.len; have := h.most
  unfold cd; omega
theorem cd_range {N : Net} (h : GoodW N) {L : List Int} (hL : WkOK N L) : ∀ i, i < (cd N L).length → 0 ≤ gi (cd N L) i ∧ gi (cd N L) i ≤ 999999 := fun _ hi => cdTo_range h hL _ (Nat.le_refl _) _ (gi_in hi)

theorem intCells_app (a b : List Int) : intCells a ++ intCells b = intCells (a ++ b) := by simp [intCells]
/-- A list of integers that grows in memory of the call's own. -/
def GrowN (B : Nat) (w : World) (v : Value) (l : List Int) : Prop := w.ownsRow B 3 1 v l.length (intCells l)
theorem GrowN.nil (B : Nat) (w : World) : GrowN B w (.slice none 0 0) [] := World.ownsRow_nil _ _ _ _
theorem GrowN.ext {B : Nat} {w w' : World} {v : Value} {l : List Int} (h : GrowN B w v l) (he : Ext w w') : GrowN B w' v l := owns_ext h he
theorem GrowN.lt {B : Nat} {w : World} {v : Value} {l : List Int} (h : GrowN B w v l) : ∀ b, v.ownBlock = some b → B ≤ b ∧ b < w.heap.size := World.ownsRow.lt h
theorem GrowN.keep {B : Nat} {w w' : World} {v : Value} {l : List Int} (h : GrowN B w v l) (he : ∀ b, v.ownBlock = some b → w'.heap[b]? = w.heap[b]?) : GrowN B w' v l := by
  refine ⟨h.1, ?_⟩
  rcases h.2 with ⟨rfl, hn⟩ | ⟨g, cap, cur, rfl, hb, hh, rest⟩
  · exact .inl ⟨rfl, hn⟩
  · exact .inr ⟨g, cap, cur, rfl, hb, by rw [he g rfl]; exact hh, rest⟩
theorem GrowN.step {B m : Nat} {w w' : World} {v v' : Value} {l news : List Int} (hg : Grew w w' B 3 1 v v' (l.length + m) (intCells l ++ intCells news)) (hm : m = news.length) : GrowN B w' v' (l ++ news) := by
  have := hg.1
  rw [intCells_app] at this
  unfold GrowN
  rw [List.length_append, ← hm]; exact this
theorem GrowN.own {B : Nat} {w : World} {v : Value} {l : List Int} (h : GrowN B w v l) (hr : ∀ i, i < l.length → inI64 (gi l i)) : ∃ bs, OwnI w v l bs ∧ bs.Nodup ∧ ∀ b ∈ bs, B ≤ b := own_of_cells h hr
theorem GrowN.read {B : Nat} {w : World} {v : Value} {l : List Int} (h : GrowN B w v l) (hr : ∀ i, i < l.length → inI64 (gi l i)) : IntSl w v l := by
  obtain ⟨bs, ho, _⟩ := h.own hr; exact ho.read
theorem GrowN.slice {B : Nat} {w : World} {v : Value} {l : List Int} (h : GrowN B w v l) : ∃ a c, v = .slice a l.length c := owns_slice h
/-- A growing list is left alone when another one grows. -/
theorem GrowN.other {B : Nat} {w w' : World} {v u : Value} {l : List Int} (h : GrowN B w v l) (hg : w.grownBy w' u.ownBlock) (hne : ∀ b, v.ownBlock = some b → u.ownBlock ≠ some b) : GrowN B w' v l := by
  refine World.ownsRow.kept h hg ?_
  cases e : v.ownBlock with
  | none => exact .inl rfl
  | some b => exact .inr fun e2 => hne b e e2.symm
/-- A growing list with at least one element: where it lies. -/
theorem GrowN.form {B : Nat} {w : World} {v : Value} {l : List Int} (h : GrowN B w v l) (hn : 0 < l.length) :
    ∃ g cap, v = .slice (some ⟨g, 0, none⟩) l.length cap ∧ l.length ≤ cap ∧ cap ≤ maxLen ∧ B ≤ g ∧ g < w.heap.size ∧ ∀ j, j < l.length → w.cell? ⟨g, j, none⟩ = some (.int .i64 (gi l j)) := by
  rcases h.2 with ⟨_, h0⟩ | ⟨g, cap, cur, rfl, hb, hg, h1, h2, _⟩
  · omega
  · refine ⟨g, cap, rfl, h1, h2, hb, (Array.getElem?_eq_some_iff.1 hg).1, fun j hj => ?_⟩
    rw [World.ownsRow.cellAt h j (by omega)]
    exact intCells_get l j hj
/-- The blocks bs lie apart from the value's own. -/
def Off (v : Value) (bs : List Nat) : Prop := ∀ b ∈ bs, v.ownBlock ≠ some b
theorem Off.grew {w : World} {v v' : Value} {bs : List Nat} (h : Off v bs) (hlt : ∀ b ∈ bs, b < w.heap.size) (hg : ∀ b, v'.ownBlock = some b → v.ownBlock = some b ∨ w.heap.size ≤ b) : Off v' bs := fun b hb e => by
  rcases hg b e with h1 | h1
  · exact h b hb h1
  · have := hlt b hb; omega
theorem OwnI.other {w w' : World} {x v : Value} {l : List Int} {bs : List Nat} (h : OwnI w x l bs) (ho : Off v bs) (hg : w.grownBy w' v.ownBlock) : OwnI w' x l bs :=
  h.keep fun b hb => hg.block b (h.1.lt b hb) fun e => ho b hb e.symm
def duo (x y : Value) : Nat → Value
  | 0 => x
  | _ => y
theorem duo_made (w : World) (x y : Value) (t : Nat) : (w.alloc (.cells #[x, y] t)).rowIs w.heap.size t 2 (duo x y) :=
  ⟨#[x, y], heap_alloc_new w _, rfl, fun i hi => by match i with | 0 => rfl | 1 => rfl⟩
theorem duo_facts {w : World} {b t : Nat} {x y : Value} (h : w.rowIs b t 2 (duo x y)) : w.cell? ⟨b, 0, none⟩ = some x ∧ w.cell? ⟨b, 1, none⟩ = some y ∧ w.frozen? ⟨b, 0, none⟩ = false ∧ w.frozen? ⟨b, 1, none⟩ = false :=
  ⟨h.cell (i := 0) (by omega), h.cell (i := 1) (by omega), h.frozen _, h.frozen _⟩
theorem duo_set0 {w : World} {b t : Nat} {x y : Value} (h : w.rowIs b t 2 (duo x y)) (z : Value) : (w.setCell ⟨b, 0, none⟩ z).rowIs b t 2 (duo z y) :=
  (h.set 0 z).congr fun i hi => by match i with | 0 => rfl | 1 => rfl
theorem duo_set1 {w : World} {b t : Nat} {x y : Value} (h : w.rowIs b t 2 (duo x y)) (z : Value) : (w.setCell ⟨b, 1, none⟩ z).rowIs b t 2 (duo x z) :=
  (h.set 1 z).congr fun i hi => by match i with | 0 => rfl | 1 => rfl
theorem src_lits (w : World) (l : List Int) (n : Nat) (hn : n = l.length) (t : TypeId) : SrcAt (w.alloc (.cells (intCells l).toArray t)) (some ⟨w.heap.size, 0, none⟩) n 1 (intCells l) := by
  refine ⟨by simp [intCells, hn], by simp, fun ad e j u hu => ?_, fun u hu => ?_⟩
  · obtain rfl := Option.some.inj e
    rw [add_plain, World.cell?_alloc_at _ _ _ _ rfl, Nat.zero_add]
    simpa using hu
  · simp only [intCells, List.mem_map] at hu
    obtain ⟨x, _, rfl⟩ := hu
    rfl
end Go.Proofs.Ytkpdbceglejbnaa
