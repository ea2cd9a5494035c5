/- A row of ends that grows by one; two cells as a source of append. -/
import Derived.Test.YtkeiaahlifdbiaaKd
namespace Go.Proofs.Ytkeiaahlifdbiaa
open Go.RowKit

theorem ends_snocS (l : List (Int × Int)) (j : Nat) (h : j < l.length) : endCells (l.take j) ++ [.int .i64 (gn l j), .int .i64 (gp l j)] = endCells (l.take (j + 1)) := by
  have e : l.take (j + 1) = l.take j ++ [(gn l j, gp l j)] := by
    rw [List.take_succ_eq_append_getElem h]
    have e1 : gn l j = l[j].1 := by simp [gn, List.getD, h]
    have e2 : gp l j = l[j].2 := by simp [gp, List.getD, h]
    rw [e1, e2]
  rw [e]
  refine List.ext_getElem? fun i => ?_
  have hL : (endCells (l.take j)).length = j * 2 := by simp [endCells]; omega
  have hL2 : (endCells (l.take j ++ [(gn l j, gp l j)])).length = (j + 1) * 2 := by simp [endCells]; omega
  have hlt : (l.take j).length = j := by simp; omega
  by_cases h1 : i < j * 2
  · rw [List.getElem?_append_left (by omega), endCells_get (l.take j) i (by omega), endCells_get (l.take j ++ [(gn l j, gp l j)]) i (by simp; omega)]
    have e1 : gn (l.take j ++ [(gn l j, gp l j)]) (i / 2) = gn (l.take j) (i / 2) := by unfold gn; simp [List.getD, List.getElem?_append_left (show i / 2 < (l.take j).length by omega)]
    have e2 : gp (l.take j ++ [(gn l j, gp l j)]) (i / 2) = gp (l.take j) (i / 2) := by unfold gp; simp [List.getD, List.getElem?_append_left (show i / 2 < (l.take j).length by omega)]
    simp only [ecell, e1, e2]
  · rw [List.getElem?_append_right (by omega), hL]
    have e1 : gn (l.take j ++ [(gn l j, gp l j)]) j = gn l j := by unfold gn; simp [List.getD, hlt]
    have e2 : gp (l.take j ++ [(gn l j, gp l j)]) j = gp l j := by unfold gp; simp [List.getD, hlt]
    by_cases h2 : i = j * 2
    · subst h2
      rw [endCells_get _ _ (by simp; omega)]
      simp [ecell, e1]
    · by_cases h3 : i = j * 2 + 1
      · subst h3
        rw [endCells_get _ _ (by simp; omega)]
        have h4 : (j * 2 + 1) / 2 = j := by omega
        have h5 : (j * 2 + 1) % 2 = 1 := by omega
        have h6 : j * 2 + 1 - j * 2 = 1 := by omega
        simp [ecell, h4, h5, h6, e2]
      · rw [List.getElem?_eq_none (by simp; omega), List.getElem?_eq_none (by omega)]
theorem src_twoS (w : World) (x y : Value) (t : TypeId) (h1 : x.oneCell' = true) (h2 : y.oneCell' = true) : SrcAt (w.alloc (.cells #[x, y] t)) (some ⟨w.heap.size, 0, none⟩) 1 2 [x, y] := by
  refine ⟨rfl, fun h => by simp at h, fun ad e j u hu => ?_, fun u hu => by simp at hu; rcases hu with rfl | rfl <;> assumption⟩
  obtain rfl := Option.some.inj e
  rw [add_plain]
  match j with
  | 0 => simp at hu; subst hu; simp
  | 1 => simp at hu; subst hu; simp
  | j + 2 => simp at hu
theorem src_drewS {w : World} {ao : Option Addr} {m k : Nat} {news : List Value} (h : SrcAt w ao m k news) : SrcAt w.drew ao m k news := ⟨h.1, h.2.1, fun ad e j u hu => by simpa using h.2.2.1 ad e j u hu, h.2.2.2⟩
end Go.Proofs.Ytkeiaahlifdbiaa
