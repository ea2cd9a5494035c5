/- The contract of copyNetwork. -/
import Derived.Test.YtimgmpannlgfnaaNeIf
namespace Go.Proofs.Ytimgmpannlgfnaa
open Go.RowKit

def nilS : Value := .slice none 0 0
/-- The outer row of the copy lies in block w.heap.size + 2, the copy in the next one; k rows are copied. -/
def CpInv (w : World) (N : Net) (v0 v1 v2 : Value) (k : Nat) (wr : World) : Prop :=
  Ext w wr ∧ w.heap.size + 4 ≤ wr.heap.size ∧ wr.rowIs w.heap.size 29 3 (tri v0 v1 v2) ∧ wr.rowIs (w.heap.size + 1) 29 3 (tri (.slice none 0 0) (.slice none 0 0) (.slice none 0 0)) ∧
  wr.rowIs (w.heap.size + 3) 29 3 (tri (.slice (some ⟨w.heap.size + 2, 0, none⟩) N.ends.length N.ends.length) (.slice none 0 0) (.slice none 0 0)) ∧
  ∃ (R : Nat → Value) (T : Nat → List Nat), wr.rowIs (w.heap.size + 2) 50 N.ends.length (fun i => if i < k then R i else .slice none 0 0) ∧ (∀ i, i < k → OwnE wr (R i) (gr N.ends i) (T i)) ∧ ((List.range k).flatMap T).Nodup ∧ ∀ b ∈ (List.range k).flatMap T, w.heap.size + 4 ≤ b

theorem cp_start (w : World) (N : Net) (v0 v1 v2 : Value) :
    CpInv w N v0 v1 v2 0 ((((boxed w v0 v1 v2 29).alloc (.cells #[.slice none 0 0, .slice none 0 0, .slice none 0 0] 29)).alloc (.cells (madeCells #[.slice none 0 0] N.ends.length) 50)).alloc (.cells #[.slice (some ⟨w.heap.size + 2, 0, none⟩) N.ends.length N.ends.length, .slice none 0 0, .slice none 0 0] 29)) := by
  refine ⟨((boxed2_ext w v0 v1 v2).alloc' _).alloc' _, by simp, ((boxed2_row w v0 v1 v2).alloc _).alloc _, ((boxed2_res w v0 v1 v2).alloc _).alloc _, ?_, fun _ => .slice none 0 0, fun _ => [], ?_, fun i hi => absurd hi (by omega), by simp, by simp⟩
  · simpa using row3_made (((boxed w v0 v1 v2 29).alloc (.cells #[.slice none 0 0, .slice none 0 0, .slice none 0 0] 29)).alloc (.cells (madeCells #[.slice none 0 0] N.ends.length) 50)) (.slice (some ⟨w.heap.size + 2, 0, none⟩) N.ends.length N.ends.length) (.slice none 0 0) (.slice none 0 0) 29
  · have h := World.rowIs_made ((boxed w v0 v1 v2 29).alloc (.cells #[.slice none 0 0, .slice none 0 0, .slice none 0 0] 29)) (.slice none 0 0) N.ends.length 50
    exact (show _ by simpa using h.alloc _ : World.rowIs _ (w.heap.size + 2) 50 N.ends.length (fun _ => .slice none 0 0)).congr fun i _ => by simp

theorem cp_step {w wr w1 : World} {N : Net} {v0 v1 v2 x : Value} {k : Nat} {bs : List Nat} (h : CpInv w N v0 v1 v2 k wr) (hx : Ext wr w1) (ho : OwnE w1 x (gr N.ends k) bs) (hge : ∀ b ∈ bs, wr.heap.size ≤ b) :
    CpInv w N v0 v1 v2 (k + 1) (w1.setCell ⟨w.heap.size + 2, k, none⟩ x) := by
  obtain ⟨he, hsz, h0, h1, h3, R, T, hrow, hown, hnd, hb⟩ := h
  have hne : ∀ b, b ≠ w.heap.size + 2 → (w1.setCell ⟨w.heap.size + 2, k, none⟩ x).heap[b]? = w1.heap[b]? := fun b hb => Below.heap_setCell _ _ _ _ hb
  have hsz1 := hx.size
  refine ⟨(he.trans' hx).store (by show w.heap.size ≤ w.heap.size + 2; omega) _, by simp; omega, (row_ext h0 hx).of_block (hne _ (by omega)), (row_ext h1 hx).of_block (hne _ (by omega)), (row_ext h3 hx).of_block (hne _ (by omega)),
    fun i => if i = k then x else R i, fun i => if i = k then bs else T i, ((row_ext hrow hx).set k x).congr fun i hi => ?_, fun i hi => ?_, ?_⟩
  · by_cases e : i = k
    · subst e; simp
    · rw [if_neg e]
      simp only [if_neg e]
      by_cases hlt : i < k
      · rw [if_pos hlt, if_pos (by omega)]
      · rw [if_neg hlt, if_neg (by omega)]
  · by_cases e : i = k
    · subst e
      simp only [if_true]
      exact ho.keep fun b hb => hne b (by have := hge b hb; omega)
    · simp only [if_neg e]
      exact ((hown i (by omega)).ext hx).keep fun b hb' => hne b (by have := hb b (List.mem_flatMap.2 ⟨i, List.mem_range.2 (by omega), hb'⟩); omega)
  · have hcong : (List.range k).flatMap (fun i => if i = k then bs else T i) = (List.range k).flatMap T := by
      rw [List.flatMap_def, List.flatMap_def]
      congr 1
      exact List.map_congr_left fun i hi => if_neg (by have := List.mem_range.1 hi; omega)
    have hfl : (List.range (k + 1)).flatMap (fun i => if i = k then bs else T i) = (List.range k).flatMap T ++ bs := by
      rw [List.range_succ, List.flatMap_append, hcong]
      simp
    rw [hfl]
    refine ⟨List.nodup_append.2 ⟨hnd, ho.1.nodup, fun a ha b hb' e => ?_⟩, fun b hb' => ?_⟩
    · subst e
      obtain ⟨i, hi, hbi⟩ := List.mem_flatMap.1 ha
      have := (hown i (List.mem_range.1 hi)).1.lt a hbi
      have := hge a hb'
      omega
    · rcases List.mem_append.1 hb' with hb' | hb'
      · exact hb b hb'
      · have := hge b hb'; omega

theorem cp_done {w wr : World} {N : Net} {v0 v1 v2 : Value} (h : CpInv w N v0 v1 v2 N.ends.length wr) (hs : N.ends.length ≤ 1048576) :
    ∃ bs, OwnSS wr (.slice (some ⟨w.heap.size + 2, 0, none⟩) N.ends.length N.ends.length) N.ends bs ∧ bs.Nodup ∧ ∀ b ∈ bs, b = w.heap.size + 2 ∨ w.heap.size + 4 ≤ b := by
  obtain ⟨he, hsz, h0, h1, h3, R, T, hrow, hown, hnd, hb⟩ := h
  refine ⟨[w.heap.size + 2] ++ (List.range N.ends.length).flatMap T, ⟨R, [w.heap.size + 2], T, ⟨N.ends.length, Nat.le_refl _, small_max hs, .inr ⟨_, N.ends.length, _, rfl, rfl, by omega, hrow, fun i hi => by simp; intro h; omega⟩⟩, hown, rfl⟩, ?_, ?_⟩
  · refine List.nodup_append.2 ⟨by simp, hnd, fun a ha b hb' e => ?_⟩
    obtain rfl := List.mem_singleton.1 ha
    subst e
    have := hb _ hb'
    omega
  · intro b hb'
    rcases List.mem_append.1 hb' with hb' | hb'
    · exact .inl (List.mem_singleton.1 hb')
    · exact .inr (hb b hb')

theorem app_nil_own {w w' : World} {B : Nat} {v' : Value} {l : List Int} (hg : Grew w w' B 3 1 (.slice none 0 0) v' l.length (intCells l)) (hr : ∀ i, i < l.length → inI64 (gi l i)) (hB : w.heap.size = B) :
    Ext w w' ∧ ∃ bs, OwnI w' v' l bs ∧ Fresh w bs := by
  subst hB
  have hx : Ext w w' := hg.ext (Ext.rfl' w) (fun b hb => by simp [Value.ownBlock] at hb)
  obtain ⟨bs, ho, hnd, hge⟩ := own_of_cells hg.1 hr
  exact ⟨hx, bs, ho, hnd, hge⟩
theorem R3size {w : World} {b t n : Nat} {f : Nat → Value} (h : w.rowIs (b + 3) t n f) : b + 4 ≤ w.heap.size := h.lt

end Go.Proofs.Ytimgmpannlgfnaa
