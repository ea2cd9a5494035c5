/- The contracts of marksOf and numberedEnd. -/
import Derived.Test.YtkpdbceglejbnaaJd
import Derived.Deep.RegionHeld3
import Derived.BigQuiet
namespace Go.Proofs.Ytkpdbceglejbnaa
open Go.RowKit

/-- The marks of a node: degree, input, identifier or 0. -/
def marksV (N : Net) (x : Int) : Value := .agg #[.int .i64 (rw' N x).length, .int .i64 (gi N.inputs x.toNat), .int .i64 (idOf N x)]

set_option maxHeartbeats 800000 in
set_option maxRecDepth 100000 in
theorem idOfM_any {w : World} {v : Value} {N : Net} (y : Nat) (hy : y < N.ends.length) (h : NetAt w v N) (hG : GoodW N) :
    Calls Try.prog 191 #[v, .int .i64 y] w fun e w' => e = .returned (.int .i64 (idOf N (y : Int))) ∧ Ext w w' := by
  have hil := hG.idl
  obtain ⟨v0, v1, v2, rfl, -, hI, -⟩ := h
  obtain ⟨a, b, o, c, rfl, ha, hl, hm, hc⟩ := hI
  unfold maxLen at hm
  have hn40 := hG.most
  have HX := Lib.hid ((Ext.rfl' w).alloc' (.cells #[v0, .slice a N.ids.length c, v2] 34))
  clear hG
  by_cases h0 : N.ids.length = 0
  · have b0 : ((N.ids.length : Int) == 0) = true := beq_iff_eq.2 (by omega)
    have E := Lib.hid (show (0 : Int) = idOf N (y : Int) by simp [idOf, h0])
    clear h0 hc ha hil
    go_enter Try.func191, Try.ntmps191
    go_wp2
    go_ret
    exact ⟨congrArg (fun z => Ending.returned (.int .i64 z)) E.out, HX.out⟩
  · have b0 : ((N.ids.length : Int) == 0) = false := beq_eq_false_iff_ne.2 (by omega)
    have E := Lib.hid (show gi N.ids y = idOf N (y : Int) by simp [idOf, h0])
    have hvi : y < N.ids.length := by have := hil.resolve_left h0; omega
    obtain ⟨x, hx, rfl, -⟩ := hc y hvi
    obtain rfl := ha (by omega)
    have hx' := HX.out.cell' hx
    clear h0 hc ha hil hx
    go_enter Try.func191, Try.ntmps191
    go_wp2
    go_ret
    exact ⟨congrArg (fun z => Ending.returned (.int .i64 z)) E.out, HX.out⟩

set_option maxHeartbeats 3200000 in
set_option maxRecDepth 100000 in
theorem marksOf_any {w : World} {v : Value} {N : Net} (y : Nat) (hy : y < N.ends.length) (h : NetAt w v N) (hG : GoodW N) :
    Calls Try.prog 174 #[v, .int .i64 y] w fun e w' => e = .returned (marksV N y) ∧ Ext w w' := by
  have HG := Lib.hid hG
  have HN := Lib.hid h
  have h40 := hG.most
  have HIL := Lib.hid hG.ilen
  clear hG
  obtain ⟨v0, v1, v2, rfl, hE, -, hP⟩ := h
  obtain ⟨ea, eb, eo, ec, rfl, hea, hel, hem, hec⟩ := hE
  obtain ⟨pa, pb, po, pc, rfl, hpa, hpl, hpm, hpc⟩ := hP
  unfold maxLen at hem hpm
  obtain rfl := hea (by omega)
  obtain rfl := hpa (by have := HIL.out; omega)
  obtain ⟨_, hey, hrow⟩ := hec y hy
  obtain ⟨ra, rb, ro, rc, rfl, -, hrl, hrm, -⟩ := hrow
  obtain ⟨_, hpy, rfl, _⟩ := hpc y (by have := HIL.out; omega)
  have hyp : y < N.inputs.length := by have := HIL.out; omega
  have hdeg := HG.out.deg y hy
  clear hec hpc hea hpa
  obtain ⟨d, hd⟩ : ∃ d, d = idOf N (y : Int) := ⟨_, rfl⟩
  have HD := Lib.hid hd
  have HV := Lib.hid (show marksV N y = .agg #[.int .i64 (gr N.ends y).length, .int .i64 (gi N.inputs y), .int .i64 d] by unfold marksV rw'; rw [hd, Int.toNat_natCast])
  clear hd
  obtain ⟨WA, hWA⟩ : ∃ WA, WA = w.alloc (.cells #[.slice (some ⟨eb, eo, none⟩) N.ends.length ec, v1, .slice (some ⟨pb, po, none⟩) N.inputs.length pc] 34) := ⟨_, rfl⟩
  have EA := Lib.hid (show Ext w WA by rw [hWA]; exact boxed_ext _ _ _ _ _)
  have RA := Lib.hid (show WA.rowIs w.heap.size 34 3 (tri (.slice (some ⟨eb, eo, none⟩) N.ends.length ec) v1 (.slice (some ⟨pb, po, none⟩) N.inputs.length pc)) by rw [hWA]; exact boxed_row _ _ _ _ _)
  have ZA := Lib.hid (show WA.heap.size = w.heap.size + 1 by rw [hWA]; simp)
  obtain ⟨WB, hWB⟩ : ∃ WB, WB = WA.alloc (.cells #[.int .i64 0, .int .i64 0, .int .i64 0] 172) := ⟨_, rfl⟩
  have EB := Lib.hid (show Ext WA WB by rw [hWB]; exact (Ext.rfl' _).alloc' _)
  have RR := Lib.hid (show WB.rowIs (w.heap.size + 1) 172 3 (tri (.int .i64 0) (.int .i64 0) (.int .i64 0)) by rw [hWB, ← ZA.out]; exact row3_made _ _ _ _ _)
  have z1 := EA.out.cell' hey
  have z2 := EA.out.cell' hpy
  obtain ⟨p0, p1, p2, -, -, -⟩ := row3_facts RA.out
  have mkS : ∀ w' : World, Ext WA w' → w'.cell? ⟨w.heap.size, 0, none⟩ = some (.slice (some ⟨eb, eo, none⟩) N.ends.length ec) ∧ w'.cell? ⟨w.heap.size, 1, none⟩ = some v1 ∧ w'.cell? ⟨w.heap.size, 2, none⟩ = some (.slice (some ⟨pb, po, none⟩) N.inputs.length pc) ∧ w'.cell? ⟨eb, eo + y, none⟩ = some (.slice ra (gr N.ends y).length rc) ∧ w'.cell? ⟨pb, po + y, none⟩ = some (.int .i64 (gi N.inputs y)) ∧ Hid (Ext WA w') :=
    fun w' h => ⟨h.cell' p0, h.cell' p1, h.cell' p2, h.cell' z1, h.cell' z2, h⟩
  clear p0 p1 p2 z1 z2 hey hpy
  go_enter Try.func174, Try.ntmps174
  go_wp2_with fail
  rw [← hWA, ← hWB]
  clear hWA hWB
  go_region_held3 (fun w' => w'.cell? ⟨w.heap.size, 0, none⟩ = some (.slice (some ⟨eb, eo, none⟩) N.ends.length ec) ∧ w'.cell? ⟨w.heap.size, 1, none⟩ = some v1 ∧ w'.cell? ⟨w.heap.size, 2, none⟩ = some (.slice (some ⟨pb, po, none⟩) N.inputs.length pc) ∧ w'.cell? ⟨eb, eo + y, none⟩ = some (.slice ra (gr N.ends y).length rc) ∧ w'.cell? ⟨pb, po + y, none⟩ = some (.int .i64 (gi N.inputs y)) ∧ Hid (Ext WA w')) (first | (with_reducible exact mkS _ EB.out.drew') | (with_reducible exact mkS _ XZ.out) | (with_reducible exact mkS _ SZ.out) | fail)
    (first | (go_at_call 191; (with_reducible refine (idOfM_any y hy (HN.out.ext (EA.out.trans' ((‹_ ∧ _ ∧ _ ∧ _ ∧ _ ∧ Hid (Ext WA _)›).2.2.2.2.2.out))) HG.out).mono ?_); rintro e wz ⟨rfl, hx⟩; rw [← HD.out]; have XZ := Lib.hid (Ext.trans' ((‹_ ∧ _ ∧ _ ∧ _ ∧ _ ∧ Hid (Ext WA _)›).2.2.2.2.2.out) hx); have RZ := Lib.hid (row_ext RR.out.drew hx); have SZ := Lib.hid (((XZ.out.store (p := ⟨w.heap.size + 1, 0, none⟩) (by have := ZA.out; simp; omega) (.int .i64 (gr N.ends y).length)).store (p := ⟨w.heap.size + 1, 1, none⟩) (by have := ZA.out; simp; omega) (.int .i64 (gi N.inputs y))).store (p := ⟨w.heap.size + 1, 2, none⟩) (by have := ZA.out; simp; omega) (.int .i64 d)); obtain ⟨g0, g1, g2, g3, g4, g5⟩ := row3_facts RZ.out; clear hx))
  all_goals go_wp2
  obtain ⟨k0, k1, k2, -, -, -⟩ := row3_facts (row3_set2 (row3_set1 (row3_set0 RZ.out (.int .i64 (gr N.ends y).length)) (.int .i64 (gi N.inputs y))) (.int .i64 d))
  refine bodyPost_ret (v := .agg #[.int .i64 (gr N.ends y).length, .int .i64 (gi N.inputs y), .int .i64 d]) (by simp [results, Try.results174, go_sem, k0, k1, k2]) rfl ?_
  exact ⟨by rw [HV.out], EA.out.trans' SZ.out⟩

set_option maxHeartbeats 1600000 in
set_option maxRecDepth 100000 in
theorem numberedEnd_any {w : World} {nb no n c z : Nat} {m p : Int} (hc : w.cell? ⟨nb, no + z, none⟩ = some (.int .i64 m)) (hz : z < n) :
    Calls Try.prog 175 #[.agg #[.int .i64 z, .int .i64 p], .slice (some ⟨nb, no, none⟩) n c] w fun e w' => e = .returned (.agg #[.int .i64 m, .int .i64 p]) ∧ Ext w w' := by
  obtain ⟨WB, hWB⟩ : ∃ WB, WB = (w.alloc (.cells #[.int .i64 z, .int .i64 p] 95)).alloc (.cells #[.int .i64 0, .int .i64 0] 175) := ⟨_, rfl⟩
  have EB := Lib.hid (show Ext w WB by rw [hWB]; exact ((Ext.rfl' _).alloc' _).alloc' _)
  have RB := Lib.hid (show WB.rowIs w.heap.size 95 2 (duo (.int .i64 z) (.int .i64 p)) by rw [hWB]; exact (duo_made _ _ _ _).alloc _)
  have RR := Lib.hid (show WB.rowIs (w.heap.size + 1) 175 2 (duo (.int .i64 0) (.int .i64 0)) by rw [hWB]; simpa using duo_made (w.alloc (.cells #[.int .i64 z, .int .i64 p] 95)) (.int .i64 0) (.int .i64 0) 175)
  have ZB : WB.heap.size = w.heap.size + 2 := by rw [hWB]; simp
  have z1 := EB.out.cell' hc
  obtain ⟨p0, p1, -, -⟩ := duo_facts RB.out
  obtain ⟨r0, r1, t0, t1⟩ := duo_facts RR.out
  go_enter Try.func175, Try.ntmps175
  go_wp2_with fail
  rw [← hWB]
  clear hWB
  go_region
  all_goals go_wp2
  obtain ⟨g0, g1, -, -⟩ := duo_facts (duo_set1 (duo_set0 RR.out (.int .i64 m)) (.int .i64 p))
  refine bodyPost_ret (v := .agg #[.int .i64 m, .int .i64 p]) (by simp [results, Try.results175, go_sem, g0, g1]) rfl ?_
  exact ⟨rfl, ((EB.out.store (by simp) _).store (by simp) _).drew'⟩
end Go.Proofs.Ytkpdbceglejbnaa
