/- Sort and Compact where a list of numbers lies in memory of its own. -/
import Derived.Test.YtdcgpodjoalokaaMeg
import Derived.Test.YtdcgpodjoalokaaMu
import Derived.Test.YtdcgpodjoalokaaShelf
import Derived.Lib.OwnBridge
namespace Go.Proofs.Ytdcgpodjoalokaa
open Go.RowKit Go.Sort

theorem grow_ext (w : World) (os : Array Obj) : Ext w (grow w os) := ⟨rfl, rfl, rfl, by simp [grow], fun k hk => by simp [grow, Array.getElem?_append_left hk]⟩
theorem sort_own {w : World} {B : Nat} {v : Value} {l : List Int} (h : w.ownsRow B 3 1 v l.length (intCells l)) (hl : l.length ≤ 1000000) (h0 : 0 < l.length) :
    Calls Try.prog 111 #[v] w fun e w' => e = .returned (.tuple #[]) ∧ (∀ W : World, Ext W w → W.heap.size ≤ B → Ext W w') ∧ w'.ownsRow B 3 1 v l.length (intCells (l.mergeSort fun x y => decide (x ≤ y))) := by
  have hv : v ≠ .slice none 0 0 := fun e => by
    subst e
    rcases h.2 with ⟨-, hn⟩ | ⟨g, cap, cur, e, -⟩
    · omega
    · cases e
  obtain ⟨g, cap, rfl, hB, hlt, -, -, -, hH⟩ := Lib.holds_of_ownsRow (enc := Value.int .i64) (zs := l) h hv
  refine (Try.slices_Sort_int g 0 cap l w hH hlt (by omega)).mono ?_
  rintro e w' ⟨rfl, q, os, rfl⟩
  refine ⟨rfl, fun W hW hWB => ?_, ?_⟩
  · have hb : Below W.heap.size W w := ⟨hW.os, hW.tape, hW.output, hW.size, fun k hk => hW.block k hk⟩
    have hp := Lib.below_putRow (enc := Value.int .i64) (q := q) (d := (l.mergeSort fun x y => decide (x ≤ y)).toArray) hb (show W.heap.size ≤ g by omega)
    exact Ext.trans' (⟨hp.os, hp.tape, hp.output, hp.size, fun k hk => hp.block k hk⟩ : Ext W _) (grow_ext _ _)
  · have := Lib.ownsRow_putRow (enc := Value.int .i64) (q := q) (k := l.length) (ys := l.mergeSort fun x y => decide (x ≤ y)) h (by simp) (Nat.le_refl _)
    rw [List.take_of_length_le (by simp)] at this
    exact owns_ext this (grow_ext _ _)

theorem setCells_row {t b n : Nat} : ∀ (vs : List Value) (o : Nat) (w : World) (f : Nat → Value), w.rowIs b t n f → o + vs.length ≤ n → (w.setCells b o vs).rowIs b t n (fun i => if i < o then f i else if i < o + vs.length then vs.getD (i - o) undef else f i)
  | [], o, w, f, h, _ => h.congr fun i _ => by
    by_cases h1 : i < o
    · rw [if_pos h1]
    · rw [if_neg h1, if_neg (by simpa using h1)]
  | v :: r, o, w, f, h, hn => by
    have ih := setCells_row r (o + 1) (w.setCell ⟨b, o, none⟩ v) _ (h.set o v) (by simp at hn; omega)
    refine ih.congr fun i _ => ?_
    by_cases h1 : i < o
    · simp [h1, show i < o + 1 by omega, show i ≠ o by omega]
    · by_cases h2 : i = o
      · subst h2; simp
      · simp only [if_neg h1, show ¬ i < o + 1 by omega, if_false, List.length_cons]
        by_cases h3 : i < o + 1 + r.length
        · rw [if_pos h3, if_pos (by omega), show i - o = (i - (o + 1)) + 1 by omega]
          simp
        · rw [if_neg h3, if_neg (show ¬ i < o + (r.length + 1) by omega), if_neg h2]
theorem setCells_ext {W : World} {b : Nat} (hb : W.heap.size ≤ b) : ∀ (vs : List Value) (o : Nat) (w : World), Ext W w → Ext W (w.setCells b o vs)
  | [], _, _, h => h
  | v :: r, o, _, h => setCells_ext hb r (o + 1) _ (h.store hb v)
theorem compact_own {w : World} {B : Nat} {v : Value} {l : List Int} (h : w.ownsRow B 3 1 v l.length (intCells l)) (hr : ∀ i, i < l.length → inI64 (gi l i)) (hl : l.length ≤ 1000000) (h0 : 0 < l.length) :
    Calls Try.prog 112 #[v] w fun e w' => ∃ v', e = .returned v' ∧ (∀ W : World, Ext W w → W.heap.size ≤ B → Ext W w') ∧ ∃ bs, OwnI w' v' (Lib.compact l) bs ∧ ∀ b ∈ bs, B ≤ b := by
  obtain ⟨bs, ho, -, hge⟩ := own_of_cells (l := l) h hr
  obtain ⟨b, c, g, rfl, rfl, hc1, hc2, hrow, hg⟩ := ho.parts h0
  unfold maxLen at hc2
  have hcl := Lib.compact_length_le l
  refine (Try.slices_Compact_int_cells b 0 l.length c l w (Nat.le_refl _) (by omega) hc1 (fun j hj => ?_) (fun j hj => ?_)).mono ?_
  · have := hrow.cell (i := j) (by omega)
    rw [hg j hj] at this
    rw [Nat.zero_add]
    exact this
  · rw [Nat.zero_add]; exact hrow.frozen j
  · rintro e w' ⟨rfl, q, rfl⟩
    rw [List.take_of_length_le (Nat.le_refl _)]
    have hge' := hge b (by simp)
    refine ⟨_, rfl, fun W hW hWB => setCells_ext (by omega) _ _ _ (hW.drewN' q), [b], ?_, fun x hx => by obtain rfl := List.mem_singleton.1 hx; exact hge'⟩
    have hR := setCells_row ((Lib.compact l ++ List.replicate (l.length - (Lib.compact l).length) 0).map (Value.int .i64)) 0 (w.drewN q) g (row_ext hrow ((Ext.rfl' w).drewN' q)) (by simp; omega)
    refine OwnI.ofRow rfl (by omega) (by unfold maxLen; omega) hR (fun i hi => ?_) (fun i hi => ?_)
    · simp only [Nat.not_lt_zero, if_false, Nat.zero_add, Nat.sub_zero, List.length_map, List.length_append]
      rw [if_pos (by omega)]
      rw [List.getD_eq_getElem?_getD, List.map_append, List.getElem?_append_left (by simpa using hi)]
      simp [gi, List.getD, hi]
    · have hm : gi (Lib.compact l) i ∈ Lib.compact l := by
        have : gi (Lib.compact l) i = (Lib.compact l)[i] := by simp [gi, List.getD, hi]
        rw [this]; exact List.getElem_mem hi
      unfold Lib.compact Lib.compactUpTo at hm
      obtain ⟨j, hj, e⟩ := List.mem_map.1 hm
      have hj' := List.mem_range.1 (List.mem_filter.1 hj).1
      rw [bang_gi hj'] at e
      have : gi (Lib.compact l) i = gi l j := e.symm
      rw [this]
      exact hr j hj'
end Go.Proofs.Ytdcgpodjoalokaa
