/- The contracts of both sides' TwinClasses and IsSymmetric. -/
import Derived.Test.YtkpdbceglejbnaaVmq
import Derived.Deep.RegionHeld3
namespace Go.Proofs.Ytkpdbceglejbnaa
open Go.RowKit

noncomputable def twAns (N : Net) : List Int := if dec (Good N) = true then seqC N (stOf N) else []
theorem twAns_t {N : Net} (h : Good N) : twAns N = seqC N (stOf N) := by simp [twAns, dec_true h]
theorem twAns_f {N : Net} (h : ¬ Good N) : twAns N = [] := by simp [twAns, dec_false h]
theorem twAns_len (N : Net) : (twAns N).length ≤ 1048576 := by
  by_cases h : Good N
  · rw [twAns_t h, seqC_len]; have := h.1.2; omega
  · rw [twAns_f h]; simp
theorem vc_sd (N : Net) : dec (VOK N (sdAns N)) = dec (Good N) ∧ vcAns N (sdAns N) = twAns N := by
  by_cases h : Good N
  · have hst := stOf_lt (good_nodes h) h.1.1
    have hv : VOK N (sdAns N) := ⟨h, by rw [sdAns_t h]; exact ⟨by omega, by have := h.1.2; omega⟩⟩
    rw [dec_true h, dec_true hv, vcAns_t hv, twAns_t h, sdAns_t h]
    exact ⟨rfl, by rw [Int.toNat_natCast]⟩
  · have hv : ¬ VOK N (sdAns N) := fun k => h k.1
    rw [dec_false h, dec_false hv, vcAns_f hv, twAns_f h]
    exact ⟨rfl, rfl⟩

set_option maxHeartbeats 1600000 in
set_option maxRecDepth 100000 in
theorem twinClasses_any {w : World} {v : Value} {N : Net} (h : NetAt w v N) :
    Calls Try.prog 70 #[v] w fun e w' => ∃ v' bs, e = .returned (.tuple #[v', .bool (dec (Good N))]) ∧ Ext w w' ∧ OwnI w' v' (twAns N) bs ∧ Fresh w bs := by
  have HN := Lib.hid h
  obtain ⟨v0, v1, v2, rfl, hE, hI, hP⟩ := h
  clear hE hI hP
  have HX := Lib.hid (boxed_ext w v0 v1 v2 34)
  have HR := Lib.hid (row3_made w v0 v1 v2 34)
  obtain ⟨p0, p1, p2, -, -, -⟩ := row3_facts HR.out
  have V := Lib.hid (vc_sd N)
  go_enter Try.func70, Try.ntmps70
  go_wp2_with fail
  (with_reducible refine (stableDepth_any (HN.out.ext HX.out)).mono ?_)
  rintro e w1 ⟨rfl, hw⟩
  have K1 := Lib.hid (HX.out.trans' hw)
  obtain ⟨q0, q1, q2, -, -, -⟩ := row3_facts (row_ext HR.out hw)
  clear hw p0 p1 p2
  go_wp2_with (first | (go_at_call 66; (with_reducible refine (viewClasses_any _ (HN.out.ext K1.out)).mono ?_); rintro e w2 ⟨v', bs, rfl, hx, ho, hf⟩; rw [V.out.1]; rw [V.out.2] at ho; have K2 := Lib.hid (K1.out.trans' hx); have O := Lib.hid ho; have F := Lib.hid (hf.of K1.out.size); clear hx ho hf))
  go_ret2
  exact ⟨v', bs, rfl, K2.out, O.out, F.out⟩

set_option maxHeartbeats 1600000 in
set_option maxRecDepth 100000 in
theorem viTwins_any {w : World} {v : Value} {N : Net} (h : NetAt w v N) (hN : NodesIn N) (hn : 0 < N.ends.length) (hs : N.ends.length ≤ 1048576) :
    Calls Try.prog 68 #[v] w fun e w' => ∃ b, e = .returned (.slice (some ⟨b, 0, none⟩) N.ends.length N.ends.length) ∧ Ext w w' ∧ OwnI w' (.slice (some ⟨b, 0, none⟩) N.ends.length N.ends.length) (seqC N (stOf N)) [b] ∧ w.heap.size ≤ b := by
  have HN := Lib.hid h
  have HNI := Lib.hid hN
  have hst := stOf_lt hN hn
  clear hN
  obtain ⟨v0, v1, v2, rfl, hE, hI, hP⟩ := h
  clear hE hI hP
  have HX := Lib.hid (boxed_ext w v0 v1 v2 34).drew'
  have HR := Lib.hid (row3_made w v0 v1 v2 34)
  obtain ⟨p0, p1, p2, -, -, -⟩ := row3_facts (row_ext HR.out (Ext.rfl' _).drew')
  have HZ := Lib.hid (show w.heap.size ≤ (boxed w v0 v1 v2 34).drew.heap.size from HX.out.size)
  go_enter Try.func68, Try.ntmps68
  go_wp2_with fail
  go_region_held3 (fun w' => w'.cell? ⟨w.heap.size, 0, none⟩ = some v0 ∧ w'.cell? ⟨w.heap.size, 1, none⟩ = some v1 ∧ w'.cell? ⟨w.heap.size, 2, none⟩ = some v2 ∧ Hid (Ext w w'))
    (first | exact ⟨p0, p1, p2, HX⟩ | exact ⟨hx.cell' p0, hx.cell' p1, hx.cell' p2, HX.out.trans' hx⟩ | exact ⟨hy.cell' (hx.cell' p0), hy.cell' (hx.cell' p1), hy.cell' (hx.cell' p2), (HX.out.trans' hx).trans' hy⟩)
    (first | (go_at_call 117; (with_reducible refine (viStable_any (HN.out.ext HX.out) HNI.out hn hs).mono ?_); rintro e w1 ⟨rfl, hx⟩; have K1 := Lib.hid (HX.out.trans' hx)) | (go_at_call 65; (with_reducible refine (viClasses_any (stOf N) (by omega) (HN.out.ext K1.out) HNI.out hn hs).mono ?_); rintro e w2 ⟨b, rfl, hy, ho, hb⟩; have K2 := Lib.hid (K1.out.trans' hy); have O := Lib.hid ho; have hB := K1.out.size))
  go_wp2
  go_ret
  exact ⟨b, rfl, K2.out, O.out, by omega⟩

/-- All nodes are in one class. -/
def SymB (N : Net) : Prop := Good N ∧ maxI (seqC N (stOf N)) = 0

end Go.Proofs.Ytkpdbceglejbnaa
