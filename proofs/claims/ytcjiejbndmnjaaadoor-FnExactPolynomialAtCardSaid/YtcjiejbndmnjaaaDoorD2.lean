/- What the cards' premises give: the cells of the listed tables; how a law's row with listed tables is closed. -/
import Derived.Test.YtcjiejbndmnjaaaDoorB1
import Derived.LaidMore
import Derived.Lay
import Derived.Stop.Joined
import Derived.Shelf.Spec.TrailingZeros
namespace Go.Proofs.YtcjiejbndmnjaaaDoor
open Go.ChangeShapes Go.WideShapes Go.ChangeAt Go.RowKit Go.Joins Go.Deep

theorem Tryd.cells5 : Tryd.prog.cellsOf 5 = 1 := by kernel_rfl
/-- The cells of a table of integers, out of its reading. -/
theorem tab_cells {P : Program} {W : World} {t e : TypeId} {k : IntKind} {n fuel : Nat} {cs : Array Value} {p : List MemPlace} {zs : List Int} {D : DataW Unit} {enc : TypeId × Value → Unit} {base : Nat} {sp : Nat → Bool} {held : Bool}
    (hu : P.underlying t = some (.array n e)) (hue : P.underlying e = some (.int k)) (hc : P.cellsOf e = 1) (hct : P.cellsOf t = n)
    (hD : D = .agg (zs.map fun z => .lit (.int k z))) (hn : zs.length = n) (hd : DataW.trod enc P W base sp held fuel t cs.toList = some (D, p)) : cs.toList = zs.map (.int k) := by
  obtain ⟨xs, m, _, ex, hlc, hl, hel⟩ := DataW.trod_array hu hd
  rw [hct] at hlc
  have e3 : xs.map (·.1) = zs.map fun z => (.lit (.int k z) : DataW Unit) := by
    have := (Prod.mk.inj ex).1
    rw [hD] at this
    exact (DataW.agg.inj this).symm
  refine List.ext_getElem (by simp [hlc, hn]) fun r h1 h2 => ?_
  have hr : r < n := by omega
  have hE := hel r hr
  rw [hc, Nat.mul_one, List.getElem?_eq_getElem (by omega)] at hE
  obtain ⟨z, e1, e2, _⟩ := DataW.trod_int hue hE
  have e4 : (xs.map (·.1))[r]? = (zs.map fun z => (.lit (.int k z) : DataW Unit))[r]? := by rw [e3]
  rw [List.getElem?_map, List.getElem?_map, List.getElem?_eq_getElem (by omega : r < xs.length), List.getElem?_eq_getElem (by omega : r < zs.length), e2] at e4
  simp only [Option.map_some, Option.some.injEq, DataW.lit.injEq, Lit.int.injEq, true_and] at e4
  have h0 : ((cs.toList.drop r).take 1)[0]? = some (.int k z) := by rw [e1]; rfl
  have h3 : cs.toList[r]? = some (.int k z) := by simpa using h0
  rw [List.getElem?_eq_getElem h1] at h3
  rw [Option.some.inj h3, e4, List.getElem_map]

def laidTz : List (String × DataW Unit) := [("math/bits.deBruijn32tab", Rows.laid_math_bits_deBruijn32tab), ("math/bits.deBruijn64tab", Rows.laid_math_bits_deBruijn64tab)]
theorem tz_of_laid {W : World} (h : laidMetH Tryd.prog laidTz W) : TabAt 2 Lib.deBruijn64tab W := by
  rw [MakeChecks.laidMetH_plain _ _ _ (by kernel_rfl)] at h
  obtain ⟨ps, ⟨g0, t0, cs0, f0, p0, q0, hg0, ht0, hv0, hd0, ⟨g, t, cs, fuel, p, q, hg, ht, hv, hd, _, _⟩, _⟩, _, _⟩ := h
  obtain rfl := Option.some.inj ((show Tryd.prog.globalNamed "math/bits.deBruijn64tab" = some 2 by kernel_rfl).symm.trans hg)
  obtain rfl := Option.some.inj ((show (Tryd.prog.globals[2]?).map (·.type) = some 46 by kernel_rfl).symm.trans ht)
  have e := tab_cells (zs := Lib.deBruijn64tab.map fun n : Nat => (n : Int)) Tryd.underlying46 Tryd.underlying5 Tryd.cells5 (by kernel_rfl) (by kernel_rfl) (by kernel_rfl) hd
  intro j hj
  rw [World.var?_cell hg hv j]
  have e2 : cs.toList[j]? = some (.int .u8 (Lib.deBruijn64tab.getD j 0)) := by rw [e]; simp [hj]
  simpa using e2

/-- The program's own table. -/
def pcells : Array Value := #[.int .i64 2, .int .i64 3, .int .i64 5, .int .i64 7, .int .i64 11, .int .i64 13, .int .i64 17, .int .i64 19, .int .i64 23, .int .i64 29, .int .i64 31]
def laidP : List (String × DataW Unit) := [("loop.example/g01084/impl.smallPrimes", Rows.laid_loop_example_g01084_impl_smallPrimes)]
theorem pvar_of_laid {W : World} (h : laidMetH Tryd.prog laidP W) : W.var? Tryd.prog "loop.example/g01084/impl.smallPrimes" = some pcells := by
  rw [MakeChecks.laidMetH_plain _ _ _ (by kernel_rfl)] at h
  obtain ⟨ps, ⟨g, t, cs, fuel, p, q, hg, ht, hv, hd, _, _⟩, _, _⟩ := h
  obtain rfl := Option.some.inj ((show Tryd.prog.globalNamed "loop.example/g01084/impl.smallPrimes" = some 0 by kernel_rfl).symm.trans hg)
  obtain rfl := Option.some.inj ((show (Tryd.prog.globals[0]?).map (·.type) = some 44 by kernel_rfl).symm.trans ht)
  have e := tab_cells (zs := [2, 3, 5, 7, 11, 13, 17, 19, 23, 29, 31]) Tryd.underlying44 Tryd.underlying3 Tryd.cells3 (by kernel_rfl) (by kernel_rfl) (by kernel_rfl) hd
  rw [hv]
  congr 1
  exact Array.toList_inj.1 e
/-- The block of the program's own table. -/
def Tp (w : World) : Prop := ∃ t fr, w.heap[0]? = some (.cells pcells t fr)
theorem Tp.ext {w w' : World} (h : Tp w) (he : Ext w w') : Tp w' := by
  obtain ⟨t, fr, h⟩ := h
  exact ⟨t, fr, by rw [he.block _ (Array.getElem?_eq_some_iff.1 h).1]; exact h⟩
theorem tp_of_var {W : World} (h : W.var? Tryd.prog "loop.example/g01084/impl.smallPrimes" = some pcells) : Tp W := by
  simp only [World.var?, show Tryd.prog.globalNamed "loop.example/g01084/impl.smallPrimes" = some 0 by kernel_rfl, Option.bind_some] at h
  split at h
  · rename_i cs t fr hh
    obtain rfl := Option.some.inj h
    exact ⟨t, fr, hh⟩
  · cases h
theorem var_of_tp {W : World} (h : Tp W) : W.var? Tryd.prog "loop.example/g01084/impl.smallPrimes" = some pcells := by
  obtain ⟨t, fr, h⟩ := h
  simp only [World.var?, show Tryd.prog.globalNamed "loop.example/g01084/impl.smallPrimes" = some 0 by kernel_rfl, Option.bind_some]
  rw [h]
abbrev ptab {H : Type} : DataW H := Rows.laid_loop_example_g01084_impl_smallPrimes
theorem reads_ptab {H : Type} (enc : TypeId × Value → H) (W : World) (sp : Nat → Bool) : DataW.trod enc Tryd.prog W 0 sp true 3 44 pcells.toList = some (ptab, []) := by kernel_rfl
theorem pvars {H : Type} (enc : TypeId × Value → H) {W : World} (h : Tp W) (sp : Nat → Bool) : DataW.TrodVars enc Tryd.prog W sp ["loop.example/g01084/impl.smallPrimes"] [ptab] (MemPlace.row ⟨0, 0, none⟩ pcells.size ++ [] ++ []) :=
  ⟨_, 44, pcells, 3, [], [], by kernel_rfl, by kernel_rfl, var_of_tp h, reads_ptab enc W sp, rfl, rfl⟩
theorem pvars_open {H : Type} {enc : TypeId × Value → H} {W : World} {gs : List (DataW H)} {q : List MemPlace} (h : Tp W) (hV : DataW.TrodVars enc Tryd.prog W (fun _ => true) ["loop.example/g01084/impl.smallPrimes"] gs q) : gs = [ptab] ∧ q = MemPlace.row ⟨0, 0, none⟩ pcells.size ++ [] ++ [] := by
  obtain ⟨g, t, cs, fuel, d, p', rfl, hg, ht, hvar, hd, rfl⟩ := trodVars_one hV
  obtain rfl := Option.some.inj ((show Tryd.prog.globalNamed "loop.example/g01084/impl.smallPrimes" = some 0 by kernel_rfl).symm.trans hg)
  obtain rfl := Option.some.inj ((show (Tryd.prog.globals[0]?).map (·.type) = some 44 by kernel_rfl).symm.trans ht)
  obtain rfl : cs = pcells := Option.some.inj (hvar.symm.trans (var_of_tp h))
  obtain ⟨rfl, rfl⟩ := DataW.Trod.unique (v := .agg pcells) ⟨fuel, hd⟩ ⟨3, reads_ptab enc W _⟩
  exact ⟨rfl, by simp⟩

section
variable {H : Type} {enc : TypeId × Value → H} {W W' : World}
/-- A law's row whose specification names the table. -/
theorem law_post_p {f : Func} {s : ChangeSpec} {args : Array Value} {ds gs : List (DataW H)} {before : List MemPlace}
    (hread : f.params.toList.all (fun t => Tryd.prog.readableRec t && decide (t < Tryd.prog.types.size)) = true) (hres : f.resultTypes = #[4]) (hv : s.vars = ["loop.example/g01084/impl.smallPrimes"]) (hT : Tp W)
    (hfn : (s.fn H (ds ++ [ptab])).results = [.lit (.bool true)] ∧ (s.fn H (ds ++ [ptab])).args = ds ∧ (s.fn H (ds ++ [ptab])).vars = [ptab])
    (hW : DataW.Whole enc Tryd.prog f.params.toList s.vars false W args.toList ds gs before) (hx : Ext W W') :
    s.post enc Tryd.prog f false true false false W args (.bool true) W' := by
  have hW' := hW
  obtain ⟨p, q, hA0, hV, hpq, hfz, hnd⟩ := hW
  rw [hv] at hV
  obtain ⟨rfl, rfl⟩ := pvars_open hT hV
  have hlt : ∀ x ∈ p, x.block < W.heap.size := fun x hx => hW'.lt x (by rw [hpq]; simp [hx])
  refine ⟨ds, [ptab], before, [], p, MemPlace.row ⟨0, 0, none⟩ pcells.size ++ [] ++ [], hW', ?_, ?_, ?_, hx.frame _, fun h => by cases h⟩
  · rw [hres, hfn.1]; exact trodAll_mk1 (shut_bool Tryd.underlying4 _)
  · rw [hfn.2.1]; exact TrodAll_ext Tryd.laidOut hx hread hA0 hlt
  · rw [hfn.2.2, hv]; exact pvars enc (hT.ext hx) _
end
end Go.Proofs.YtcjiejbndmnjaaaDoor
