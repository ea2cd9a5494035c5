/- The contracts of marksOf and numberedEnd. -/
import Derived.Test.YtdoaopeegcakiaaJd
import Derived.Deep.RegionHeld3
import Derived.BigQuiet
namespace Go.Proofs.Ytdoaopeegcakiaa
open Go.RowKit

/-- The marks of a node: degree, input, identifier or 0. -/
def marksV (N : Net) (x : Int) : Value := .agg #[.int .i64 (rw' N x).length, .int .i64 (gi N.inputs x.toNat), .int .i64 (idOf N x)]

set_option maxHeartbeats 3200000 in
set_option maxRecDepth 100000 in
theorem marksOf_any {w : World} {v : Value} {N : Net} (y : Nat) (hy : y < N.ends.length) (h : NetAt w v N) (hG : GoodW N) :
    Calls Try.prog 114 #[v, .int .i64 y] w fun e w' => e = .returned (marksV N y) ∧ Ext w w' := by
  have HG := Lib.hid hG
  have h40 := hG.most
  have HIL := Lib.hid hG.ilen
  clear hG
  obtain ⟨v0, v1, v2, rfl, hE, hI, hP⟩ := h
  obtain ⟨ea, eb, eo, ec, rfl, hea, hel, hem, hec⟩ := hE
  obtain ⟨da, db, dof, dc, rfl, hda, hdl, hdm, hdc⟩ := hI
  obtain ⟨pa, pb, po, pc, rfl, hpa, hpl, hpm, hpc⟩ := hP
  unfold maxLen at hem hdm hpm
  obtain rfl := hea (by omega)
  obtain rfl := hpa (by have := HIL.out; omega)
  obtain ⟨_, hey, hrow⟩ := hec y hy
  obtain ⟨ra, rb, ro, rc, rfl, -, hrl, hrm, -⟩ := hrow
  obtain ⟨_, hpy, rfl, _⟩ := hpc y (by have := HIL.out; omega)
  have hyp : y < N.inputs.length := by have := HIL.out; omega
  have hdeg := HG.out.deg y hy
  have HDC := Lib.hid hdc
  have HDA := Lib.hid hda
  clear hec hpc hda hdc
  obtain ⟨WB, hWB⟩ : ∃ WB, WB = (w.alloc (.cells #[.slice (some ⟨eb, eo, none⟩) N.ends.length ec, .slice da N.ids.length dc, .slice (some ⟨pb, po, none⟩) N.inputs.length pc] 31)).alloc (.cells #[.int .i64 0, .int .i64 0, .int .i64 0] 133) := ⟨_, rfl⟩
  have EB := Lib.hid (show Ext w WB by rw [hWB]; exact (boxed_ext _ _ _ _ _).alloc' _)
  have RB := Lib.hid (show WB.rowIs w.heap.size 31 3 (tri (.slice (some ⟨eb, eo, none⟩) N.ends.length ec) (.slice da N.ids.length dc) (.slice (some ⟨pb, po, none⟩) N.inputs.length pc)) by rw [hWB]; exact (boxed_row _ _ _ _ _).alloc _)
  have RR := Lib.hid (show WB.rowIs (w.heap.size + 1) 133 3 (tri (.int .i64 0) (.int .i64 0) (.int .i64 0)) by rw [hWB]; simpa using row3_made (boxed w (.slice (some ⟨eb, eo, none⟩) N.ends.length ec) (.slice da N.ids.length dc) (.slice (some ⟨pb, po, none⟩) N.inputs.length pc) 31) (.int .i64 0) (.int .i64 0) (.int .i64 0) 133)
  have ZB : WB.heap.size = w.heap.size + 2 := by rw [hWB]; simp
  have HM : ∀ d : Int, idOf N (y : Int) = d → Hid (marksV N y = .agg #[.int .i64 (gr N.ends y).length, .int .i64 (gi N.inputs y), .int .i64 d]) := fun d hd => by
    show marksV N y = _
    unfold marksV rw'; rw [hd, Int.toNat_natCast]
  have z1 := EB.out.cell' hey
  have z2 := EB.out.cell' hpy
  obtain ⟨p0, p1, p2, -, -, -⟩ := row3_facts RB.out
  obtain ⟨r0, r1, r2, t0, t1, t2⟩ := row3_facts RR.out
  have XA := Lib.hid ((Ext.rfl' WB).alloc' (.cells #[.int .i64 0, .int .i64 0, .int .i64 0] 133))
  have y1 := XA.out.cell' z1
  have y2 := XA.out.cell' z2
  have y3 := XA.out.cell' p0
  have y4 := XA.out.cell' p1
  have y5 := XA.out.cell' p2
  by_cases hid : N.ids.length = 0
  · have hcb : decide (0 < N.ids.length) = false := decide_eq_false (by omega)
    have HV := HM 0 (by simp [idOf, hid])
    clear hid HM
    go_enter Try.func114, Try.ntmps114
    go_wp2_with fail
    rw [← hWB]
    clear hWB
    go_region
    all_goals go_wp2
    obtain ⟨g0, g1, g2, -, -, -⟩ := row3_facts (row_ext (row3_set2 (row3_set1 (row3_set0 RR.out (.int .i64 (gr N.ends y).length)) (.int .i64 (gi N.inputs y))) (.int .i64 0)) (((Ext.rfl' _).alloc' (.cells #[.int .i64 (gr N.ends y).length, .int .i64 (gi N.inputs y), .int .i64 0] 133)).drew'))
    refine bodyPost_ret (v := .agg #[.int .i64 (gr N.ends y).length, .int .i64 (gi N.inputs y), .int .i64 0]) (by simp [results, Try.results114, go_sem, g0, g1, g2]) rfl ?_
    exact ⟨by rw [HV.out], (((((EB.out.store (by simp) _).store (by simp) _).store (by simp) _).alloc' _).drew')⟩
  · have hcb : decide (0 < N.ids.length) = true := decide_eq_true (by omega)
    have HV := HM (gi N.ids y) (by simp [idOf, hid])
    have HIDN := Lib.hid (HG.out.idl.resolve_left hid)
    obtain rfl := HDA.out (by omega)
    obtain ⟨_, hdy, rfl, _⟩ := HDC.out y (by have := HIDN.out; omega)
    have hyd : y < N.ids.length := by have := HIDN.out; omega
    have z3 := EB.out.cell' hdy
    have y6 := XA.out.cell' z3
    have y7 := ((Ext.rfl' WB).alloc' (.cells #[.int .i64 (gr N.ends y).length, .int .i64 (gi N.inputs y), .int .i64 0] 133)).cell' z3
    clear hid HM
    go_enter Try.func114, Try.ntmps114
    go_wp2_with fail
    rw [← hWB]
    clear hWB
    go_region
    all_goals go_wp2
    obtain ⟨g0, g1, g2, -, -, -⟩ := row3_facts (row_ext (row3_set2 (row3_set1 (row3_set0 RR.out (.int .i64 (gr N.ends y).length)) (.int .i64 (gi N.inputs y))) (.int .i64 (gi N.ids y))) (((Ext.rfl' _).alloc' (.cells #[.int .i64 (gr N.ends y).length, .int .i64 (gi N.inputs y), .int .i64 (gi N.ids y)] 133)).drew'))
    refine bodyPost_ret (v := .agg #[.int .i64 (gr N.ends y).length, .int .i64 (gi N.inputs y), .int .i64 (gi N.ids y)]) (by simp [results, Try.results114, go_sem, g0, g1, g2]) rfl ?_
    exact ⟨by rw [HV.out], (((((EB.out.store (by simp) _).store (by simp) _).store (by simp) _).alloc' _).drew')⟩

set_option maxHeartbeats 1600000 in
set_option maxRecDepth 100000 in
theorem numberedEnd_any {w : World} {nb no n c z : Nat} {m p : Int} (hc : w.cell? ⟨nb, no + z, none⟩ = some (.int .i64 m)) (hz : z < n) :
    Calls Try.prog 115 #[.agg #[.int .i64 z, .int .i64 p], .slice (some ⟨nb, no, none⟩) n c] w fun e w' => e = .returned (.agg #[.int .i64 m, .int .i64 p]) ∧ Ext w w' := by
  obtain ⟨WB, hWB⟩ : ∃ WB, WB = (w.alloc (.cells #[.int .i64 z, .int .i64 p] 76)).alloc (.cells #[.int .i64 0, .int .i64 0] 135) := ⟨_, rfl⟩
  have EB := Lib.hid (show Ext w WB by rw [hWB]; exact ((Ext.rfl' _).alloc' _).alloc' _)
  have RB := Lib.hid (show WB.rowIs w.heap.size 76 2 (duo (.int .i64 z) (.int .i64 p)) by rw [hWB]; exact (duo_made _ _ _ _).alloc _)
  have RR := Lib.hid (show WB.rowIs (w.heap.size + 1) 135 2 (duo (.int .i64 0) (.int .i64 0)) by rw [hWB]; simpa using duo_made (w.alloc (.cells #[.int .i64 z, .int .i64 p] 76)) (.int .i64 0) (.int .i64 0) 135)
  have ZB : WB.heap.size = w.heap.size + 2 := by rw [hWB]; simp
  have z1 := EB.out.cell' hc
  obtain ⟨p0, p1, -, -⟩ := duo_facts RB.out
  obtain ⟨r0, r1, t0, t1⟩ := duo_facts RR.out
  go_enter Try.func115, Try.ntmps115
  go_wp2_with fail
  rw [← hWB]
  clear hWB
  go_region
  all_goals go_wp2
  obtain ⟨g0, g1, -, -⟩ := duo_facts (duo_set1 (duo_set0 RR.out (.int .i64 m)) (.int .i64 p))
  refine bodyPost_ret (v := .agg #[.int .i64 m, .int .i64 p]) (by simp [results, Try.results115, go_sem, g0, g1]) rfl ?_
  exact ⟨rfl, ((EB.out.store (by simp) _).store (by simp) _).drew'⟩
end Go.Proofs.Ytdoaopeegcakiaa
