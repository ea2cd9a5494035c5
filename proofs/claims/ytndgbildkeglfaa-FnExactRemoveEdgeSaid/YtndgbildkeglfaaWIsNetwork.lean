/- The walk of FnExactIsNetwork: whatever the network, the law answers true and changes nothing that was there. -/
import Derived.Test.YtndgbildkeglfaaNe2
import Derived.Test.YtndgbildkeglfaaSz
namespace Go.Proofs.Ytndgbildkeglfaa
open Go.RowKit

theorem OwnSl.isSlice {w : World} {v : Value} {n k t : Nat} {f : Nat → Value} {bs : List Nat} (h : OwnSl w v n k t f bs) : ∃ a c, v = .slice a n c := by
  obtain ⟨c, _, _, h3⟩ := h
  rcases h3 with ⟨rfl, _, a, _, rfl⟩ | ⟨b, m, g, _, rfl, _⟩
  · exact ⟨a, c, rfl⟩
  · exact ⟨_, c, rfl⟩
theorem OwnNet.agg {w : World} {v : Value} {N : Net} {bs : List Nat} (h : OwnNet w v N bs) :
    ∃ a0 c0 a1 c1 a2 c2, v = .agg #[.slice a0 N.ends.length c0, .slice a1 N.ids.length c1, .slice a2 N.inputs.length c2] := by
  obtain ⟨v0, v1, v2, _, _, _, rfl, ⟨_, _, _, h0, _⟩, ⟨h1, _⟩, ⟨h2, _⟩, _⟩ := h
  obtain ⟨a0, c0, rfl⟩ := h0.isSlice
  obtain ⟨a1, c1, rfl⟩ := h1.isSlice
  obtain ⟨a2, c2, rfl⟩ := h2.isSlice
  exact ⟨a0, c0, a1, c1, a2, c2, rfl⟩

/-- Two copies of one network are equal. -/
theorem eqNetwork_same {w : World} {v1 v2 : Value} {N : Net} (h1 : NetAt w v1 N) (h2 : NetAt w v2 N) :
    Calls Try.prog 23 #[v1, v2] w fun e w' => e = .returned (.bool true) ∧ Ext w w' :=
  (eqNetwork_any h1 h2).mono fun _ _ ⟨he, hx⟩ => ⟨by rw [he]; simp, hx⟩

set_option maxHeartbeats 1600000 in
set_option maxRecDepth 100000 in
theorem walk_IsNetwork {w : World} {v : Value} {N : Net} (h : NetAt w v N) :
    Calls Try.prog 3 #[v] w fun e w' => e = .returned (.bool true) ∧ Ext w w' := by
  have HN := Lib.hid h
  obtain ⟨v0, v1, v2, rfl, hE, hI, hP⟩ := h
  clear hE hI hP
  have HX := Lib.hid (boxed_ext w v0 v1 v2 25)
  have HR := Lib.hid (boxed_row w v0 v1 v2 25)
  have hbb : (dec (Good N) != dec (Good N)) = false := by simp
  go_enter Try.func3, Try.ntmps3
  go_wp2_with fail
  (with_reducible refine (szNetwork_any _ (HN.out.ext HX.out) (by omega) (by omega)).mono ?_)
  rintro e w1 ⟨r, rfl, hw1, hr0, hr1, hr2⟩
  have K1 := Lib.hid (HX.out.trans' hw1)
  have R1 := Lib.hid (row_ext HR.out hw1)
  have S1 := Lib.hid hr2
  obtain ⟨p0, p1, p2, _, _, _⟩ := row3_facts R1.out
  clear hw1 hr2
  by_cases hneg : r < 0
  · go_wp2
    go_ret
    exact ⟨rfl, K1.out⟩
  · have hs := Lib.hid (S1.out (by omega))
    go_wp2_with fail
    (with_reducible refine (toNetwork_own (HN.out.ext K1.out) hs.out).mono ?_)
    rintro e w2 ⟨y, b2, rfl, hw2, ho2, hf2⟩
    have K2 := Lib.hid (K1.out.trans' hw2)
    have R2 := Lib.hid (row_ext R1.out hw2)
    have O2 := Lib.hid ho2.read
    clear hw2 ho2 hf2 p0 p1 p2
    go_wp2_with fail
    (with_reducible refine (specIsNetwork_any O2.out).mono ?_)
    rintro e w3 ⟨rfl, hw3⟩
    have K3 := Lib.hid (K2.out.trans' hw3)
    have R3 := Lib.hid (row_ext R2.out hw3)
    obtain ⟨p0, p1, p2, _, _, _⟩ := row3_facts R3.out
    clear hw3
    go_wp2_with fail
    (with_reducible refine (toNetwork_own (HN.out.ext K3.out) hs.out).mono ?_)
    rintro e w4 ⟨x, b4, rfl, hw4, ho4, hf4⟩
    obtain ⟨a0, c0, a1, c1, a2, c2, rfl⟩ := ho4.agg
    have K4 := Lib.hid ((K3.out.trans' hw4).alloc' (.cells #[.slice a0 N.ends.length c0, .slice a1 N.ids.length c1, .slice a2 N.inputs.length c2] 30))
    have R4 := Lib.hid ((row_ext R3.out hw4).alloc (.cells #[.slice a0 N.ends.length c0, .slice a1 N.ids.length c1, .slice a2 N.inputs.length c2] 30))
    have X4 := Lib.hid (row3_made w4 (.slice a0 N.ends.length c0) (.slice a1 N.ids.length c1) (.slice a2 N.inputs.length c2) 30)
    have O4 := Lib.hid (ho4.read.ext ((Ext.rfl' w4).alloc' (.cells #[.slice a0 N.ends.length c0, .slice a1 N.ids.length c1, .slice a2 N.inputs.length c2] 30)))
    clear hw4 ho4 hf4 p0 p1 p2
    go_wp2_with fail
    (with_reducible refine (isNetwork_any O4.out).mono ?_)
    rintro e w5 ⟨rfl, hw5⟩
    have K5 := Lib.hid (K4.out.trans' hw5)
    have R5 := Lib.hid (row_ext R4.out hw5)
    have X5 := Lib.hid (row_ext X4.out hw5)
    have O5 := Lib.hid (O4.out.ext hw5)
    clear hw5
    obtain ⟨p0, p1, p2, _, _, _⟩ := row3_facts R5.out
    obtain ⟨q0, q1, q2, _, _, _⟩ := row3_facts X5.out
    go_wp2
    have Hd := Lib.hid (Ext.rfl' w5).drew'
    go_region_held3 (fun w' => w'.cell? ⟨w.heap.size, 0, none⟩ = some v0 ∧ w'.cell? ⟨w.heap.size, 1, none⟩ = some v1 ∧ w'.cell? ⟨w.heap.size, 2, none⟩ = some v2 ∧ w'.cell? ⟨w4.heap.size, 0, none⟩ = some (.slice a0 N.ends.length c0) ∧ w'.cell? ⟨w4.heap.size, 1, none⟩ = some (.slice a1 N.ids.length c1) ∧ w'.cell? ⟨w4.heap.size, 2, none⟩ = some (.slice a2 N.inputs.length c2) ∧ Hid (Ext w5 w')) (first | exact ⟨p0, p1, p2, q0, q1, q2, Hd⟩ | exact ⟨hx.cell' (Hd.out.cell' p0), hx.cell' (Hd.out.cell' p1), hx.cell' (Hd.out.cell' p2), hx.cell' (Hd.out.cell' q0), hx.cell' (Hd.out.cell' q1), hx.cell' (Hd.out.cell' q2), Hd.out.trans' hx⟩ | exact ⟨hy.cell' (hx.cell' (Hd.out.cell' p0)), hy.cell' (hx.cell' (Hd.out.cell' p1)), hy.cell' (hx.cell' (Hd.out.cell' p2)), hy.cell' (hx.cell' (Hd.out.cell' q0)), hy.cell' (hx.cell' (Hd.out.cell' q1)), hy.cell' (hx.cell' (Hd.out.cell' q2)), (Hd.out.trans' hx).trans' hy⟩)
      (first | (go_at_call 21; (with_reducible refine (toNetwork_own (HN.out.ext (K5.out.trans' Hd.out)) hs.out).mono ?_); rintro e w6 ⟨z, b6, rfl, hx, ho6, hf6⟩; have O6 := Lib.hid ho6.read; have HX6 := Lib.hid hx; clear ho6 hf6) | (go_at_call 23; (with_reducible refine (eqNetwork_same (O5.out.ext (Hd.out.trans' HX6.out)) O6.out).mono ?_); rintro e w7 ⟨rfl, hy⟩))
    rename_i hh
    have HY := hh.2.2.2.2.2.2
    clear hh hx
    go_wp2
    go_ret
    exact ⟨rfl, K5.out.trans' HY.out⟩
end Go.Proofs.Ytndgbildkeglfaa
