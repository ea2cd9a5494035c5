/- What is collected by append lies in memory of its own; the contract of neDegrees. -/
import Derived.Test.YtimgmpannlgfnaaOe2
namespace Go.Proofs.Ytimgmpannlgfnaa
open Go.RowKit

/-- What is collected by append is a slice of integers in memory of its own. -/
theorem own_of_row {w : World} {B : Nat} {v : Value} {l : List Int} {xs : List Value} (h : w.ownsRow B 3 1 v l.length xs) (hx : ∀ i, i < l.length → xs[i]? = some (.int .i64 (gi l i))) (hr : ∀ i, i < l.length → inI64 (gi l i)) :
    ∃ bs, OwnI w v l bs ∧ bs.Nodup ∧ ∀ b ∈ bs, B ≤ b := by
  obtain ⟨hl, h⟩ := h
  rcases h with ⟨rfl, hn⟩ | ⟨g, cap, cur, rfl, hb, hh, hc1, hc2, hs, ht⟩
  · exact ⟨[], ⟨⟨0, by omega, by unfold maxLen; omega, .inl ⟨hn, rfl, none, ⟨rfl, rfl⟩, rfl⟩⟩, hr⟩, List.nodup_nil, by simp⟩
  · refine ⟨[g], ⟨⟨cap, hc1, hc2, .inr ⟨g, cap, fun i => cur.getD i undef, rfl, rfl, by omega, ⟨cur, hh, by omega, fun i hi => ?_⟩, fun i hi => ?_⟩⟩, hr⟩, by simp, by simpa using hb⟩
    · have hlt : i < cur.size := by omega
      simp [hlt]
    · have e := hx i (by omega)
      rw [← ht, List.getElem?_take, if_pos (by omega)] at e
      have hlt : i < cur.size := by omega
      simp only [Array.getElem?_toList] at e
      simp [Array.getD, hlt]
      simpa [hlt] using e

theorem grown_ext {W w w' : World} {B : Nat} {v : Value} {n : Nat} {xs : List Value} {t k : Nat} (he : Ext W w) (hB : W.heap.size ≤ B) (ho : w.ownsRow B t k v n xs) (hg : w.grownBy w' v.ownBlock) : Ext W w' :=
  he.grown hg he.size fun k hk => Nat.le_trans hB (ho.lt k hk).1

def degs (N : Net) : List Int := N.ends.map fun r => (r.length : Int)
theorem gi_degs (N : Net) (i : Nat) (h : i < N.ends.length) : gi (degs N) i = ((gr N.ends i).length : Int) := by
  simp [gi, degs, gr, h]
/-- The first k degrees, as cells. -/
def degCells (N : Net) (k : Nat) : List Value := (List.range k).map fun j => .int .i64 ((gr N.ends j).length : Int)
theorem degCells_succ (N : Net) (k : Nat) : degCells N k ++ [.int .i64 ((gr N.ends k).length : Int)] = degCells N (k + 1) := by
  simp [degCells, List.range_succ]

theorem degCells_get (N : Net) (i : Nat) (h : i < N.ends.length) : (degCells N N.ends.length)[i]? = some (.int .i64 (gi (degs N) i)) := by
  rw [gi_degs N i h]
  simp [degCells, h]

end Go.Proofs.Ytimgmpannlgfnaa
