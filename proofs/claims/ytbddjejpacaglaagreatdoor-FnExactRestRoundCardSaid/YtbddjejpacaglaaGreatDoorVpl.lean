/- What a law's row lists: the table of powers of ten. -/
import Derived.Test.YtbddjejpacaglaaGreatDoorRw
import Derived.Test.YtbddjejpacaglaaGreatDoorVps
import Derived.LaidMore
import Derived.Lay
import Derived.ChangeMaps5
import Derived.Shelf.Vars
import Derived.Stop.Joined
import Derived.Stop.LaidErr
import Derived.SevenTiedAt
namespace Go.Proofs.YtbddjejpacaglaaGreatDoor
open Go.ChangeShapes Go.WideShapes Go.ChangeAt Go.RowKit Go.Joins Go.Deep

theorem Tryz.cells143_s : Tryz.prog.cellsOf 128 = 1 := by kernel_rfl
theorem tab_cells {P : Program} {W : World} {t e : TypeId} {k : IntKind} {n fuel : Nat} {cs : Array Value} {p : List MemPlace} {zs : List Int} {D : DataW Unit} {enc : TypeId × Value → Unit} {base : Nat} {sp : Nat → Bool} {held : Bool}
    (hu : P.underlying t = some (.array n e)) (hue : P.underlying e = some (.int k)) (hc : P.cellsOf e = 1) (hct : P.cellsOf t = n)
    (hD : D = .agg (zs.map fun z => .lit (.int k z))) (hn : zs.length = n) (hd : DataW.trod enc P W base sp held fuel t cs.toList = some (D, p)) : cs.toList = zs.map (.int k) := by
  obtain ⟨xs, m, _, ex, hlc, hl, hel⟩ := DataW.trod_array hu hd
  rw [hct] at hlc
  have e3 : xs.map (·.1) = zs.map fun z => (.lit (.int k z) : DataW Unit) := by
    have := (Prod.mk.inj ex).1
    rw [hD] at this
    exact (DataW.agg.inj this).symm
  refine List.ext_getElem (by simp [hlc, hn]) fun r h1 h2 => ?_
  have hr : r < n := by omega
  have hE := hel r hr
  rw [hc, Nat.mul_one, List.getElem?_eq_getElem (by omega)] at hE
  obtain ⟨z, e1, e2, _⟩ := DataW.trod_int hue hE
  have e4 : (xs.map (·.1))[r]? = (zs.map fun z => (.lit (.int k z) : DataW Unit))[r]? := by rw [e3]
  rw [List.getElem?_map, List.getElem?_map, List.getElem?_eq_getElem (by omega : r < xs.length), List.getElem?_eq_getElem (by omega : r < zs.length), e2] at e4
  simp only [Option.map_some, Option.some.injEq, DataW.lit.injEq, Lit.int.injEq, true_and] at e4
  have h0 : ((cs.toList.drop r).take 1)[0]? = some (.int k z) := by rw [e1]; rfl
  have h3 : cs.toList[r]? = some (.int k z) := by simpa using h0
  rw [List.getElem?_eq_getElem h1] at h3
  rw [Option.some.inj h3, e4, List.getElem_map]
set_option maxRecDepth 100000 in
theorem pw_of_laid {W : World} {n0 n1 : String} {d0 d1 : DataW Unit} {r : List (String × DataW Unit)} (h : laidMet Tryz.prog ((n0, d0) :: (n1, d1) :: ("internal/strconv.uint64pow10", Rows.laid_internal_strconv_uint64pow10) :: r) W) : Pw W := by
  obtain ⟨ps, ⟨g, t, cs, fuel, p, q, hg, ht, hv, hd, _, _⟩, _, _⟩ := h.tail.tail
  obtain rfl := Option.some.inj ((show Tryz.prog.globalNamed "internal/strconv.uint64pow10" = some 0 by kernel_rfl).symm.trans hg)
  obtain rfl := Option.some.inj ((show (Tryz.prog.globals[0]?).map (·.type) = some 134 by kernel_rfl).symm.trans ht)
  have e := tab_cells (zs := Lib.pow10Tab) Tryz.underlying134 Tryz.underlying128 Tryz.cells143_s (by kernel_rfl) (by kernel_rfl) (by kernel_rfl) hd
  show W.var? _ _ = _
  rw [hv, ← e]

end Go.Proofs.YtbddjejpacaglaaGreatDoor
