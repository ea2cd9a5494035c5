/- The walk of FnExactDegreesOf: whatever the arguments, the law answers true and changes nothing that was there. -/
import Derived.Test.YtndgbildkeglfaaDeg
import Derived.Test.YtndgbildkeglfaaMark3
import Derived.Test.YtndgbildkeglfaaWIsNetwork
namespace Go.Proofs.Ytndgbildkeglfaa
open Go.RowKit

set_option maxHeartbeats 3200000 in
set_option maxRecDepth 100000 in
theorem walk_DegreesOf_of {w : World} {v : Value} {N : Net} (h : NetAt w v N) (hll : (degAns N).length ≤ 1048576) :
    Calls Try.prog 6 #[v] w fun e w' => e = .returned (.bool true) ∧ Ext w w' := by
  have HN := Lib.hid h
  obtain ⟨v0, v1, v2, rfl, hE, hI, hP⟩ := h
  clear hE hI hP
  have HX := Lib.hid (boxed_ext w v0 v1 v2 25)
  have HR := Lib.hid (boxed_row w v0 v1 v2 25)
  have hbb : (dec (Good N) != dec (Good N)) = false := by simp
  have hmm : (1 + ((degAns N).length : Int) != 1 + ((degAns N).length : Int)) = false := by simp
  go_enter Try.func6, Try.ntmps6
  go_wp2_with fail
  (with_reducible refine (szNetwork_any _ (HN.out.ext HX.out) (by omega) (by omega)).mono ?_)
  rintro e w1 ⟨r, rfl, hw1, hr0, hr1, hr2⟩
  have K1 := Lib.hid (HX.out.trans' hw1)
  have R1 := Lib.hid (row_ext HR.out hw1)
  have S1 := Lib.hid hr2
  obtain ⟨p0, p1, p2, _, _, _⟩ := row3_facts R1.out
  clear hw1 hr2
  by_cases hneg : r < 0
  · go_wp2
    go_ret
    exact ⟨rfl, K1.out⟩
  · have hs := Lib.hid (S1.out (by omega))
    go_wp2_with fail
    (with_reducible refine (toNetwork_own (HN.out.ext K1.out) hs.out).mono ?_)
    rintro e w2 ⟨y, b2, rfl, hw2, ho2, hf2⟩
    have K2 := Lib.hid (K1.out.trans' hw2)
    have R2 := Lib.hid (row_ext R1.out hw2)
    have O2 := Lib.hid ho2.read
    clear hw2 ho2 hf2 p0 p1 p2
    go_wp2_with fail
    (with_reducible refine (specDegreesOf_any O2.out).mono ?_)
    rintro e w3 ⟨g0, bw, rfl, hw3, how, hfw⟩
    have K3 := Lib.hid (K2.out.trans' hw3)
    have R3 := Lib.hid (row_ext R2.out hw3)
    have W3 := Lib.hid how
    obtain ⟨p0, p1, p2, _, _, _⟩ := row3_facts R3.out
    clear hw3 how hfw
    go_wp2_with fail
    (with_reducible refine (toNetwork_own (HN.out.ext K3.out) hs.out).mono ?_)
    rintro e w4 ⟨x, bx, rfl, hw4, ho4, hf4⟩
    obtain ⟨a0, c0, a1, c1, a2, c2, rfl⟩ := ho4.agg
    have FX := Lib.hid hf4
    have FN : Hid bx.Nodup := hf4.1
    have LX := Lib.hid ho4.lt
    have LW := Lib.hid W3.out.1.lt
    have hX4 := (Ext.rfl' w4).alloc' (.cells #[.slice a0 N.ends.length c0, .slice a1 N.ids.length c1, .slice a2 N.inputs.length c2] 30)
    have K4 := Lib.hid ((K3.out.trans' hw4).trans' hX4)
    have R4 := Lib.hid ((row_ext R3.out hw4).alloc (.cells #[.slice a0 N.ends.length c0, .slice a1 N.ids.length c1, .slice a2 N.inputs.length c2] 30))
    have X4 := Lib.hid (row3_made w4 (.slice a0 N.ends.length c0) (.slice a1 N.ids.length c1) (.slice a2 N.inputs.length c2) 30)
    have O4 := Lib.hid (ho4.ext hX4)
    have W4 := Lib.hid ((W3.out.ext hw4).ext hX4)
    have Z3 := Lib.hid (And.intro R3.out.lt hw4.size)
    clear hw4 ho4 hf4 hX4 p0 p1 p2
    go_wp2_with fail
    (with_reducible refine (degreesOf_any O4.out.read).mono ?_)
    rintro e w5 ⟨g1, bg, rfl, hw5, hog, hfg⟩
    have K5 := Lib.hid (K4.out.trans' hw5)
    have R5 := Lib.hid (row_ext R4.out hw5)
    have X5 := Lib.hid (row_ext X4.out hw5)
    have O5 := Lib.hid (O4.out.ext hw5)
    have W5 := Lib.hid (W4.out.ext hw5)
    have G5 := Lib.hid hog
    have FG := Lib.hid (show ∀ b ∈ bg, w4.heap.size + 1 ≤ b from fun b hb => by have := hfg.2 b hb; simpa using this)
    clear hw5 hog hfg
    go_wp2_with fail
    (with_reducible refine (eqIntS_same G5.out.read W5.out.read).mono ?_)
    rintro e w6 ⟨rfl, hw6⟩
    have K6 := Lib.hid (K5.out.trans' hw6)
    have R6 := Lib.hid (row_ext R5.out hw6)
    have X6 := Lib.hid (row_ext X5.out hw6)
    have O6 := Lib.hid (O5.out.ext hw6)
    have W6 := Lib.hid (W5.out.ext hw6)
    have G6 := Lib.hid (G5.out.ext hw6)
    clear hw6
    obtain ⟨p0, p1, p2, _, _, _⟩ := row3_facts R6.out
    obtain ⟨q0, q1, q2, _, _, _⟩ := row3_facts X6.out
    go_wp2
    have Hd := Lib.hid (Ext.rfl' w6).drew'
    go_region_held3 (fun w' => w'.cell? ⟨w.heap.size, 0, none⟩ = some v0 ∧ w'.cell? ⟨w.heap.size, 1, none⟩ = some v1 ∧ w'.cell? ⟨w.heap.size, 2, none⟩ = some v2 ∧ w'.cell? ⟨w4.heap.size, 0, none⟩ = some (.slice a0 N.ends.length c0) ∧ w'.cell? ⟨w4.heap.size, 1, none⟩ = some (.slice a1 N.ids.length c1) ∧ w'.cell? ⟨w4.heap.size, 2, none⟩ = some (.slice a2 N.inputs.length c2) ∧ Hid (Ext w6 w')) (first | exact ⟨p0, p1, p2, q0, q1, q2, Hd⟩ | exact ⟨hx.cell' (Hd.out.cell' p0), hx.cell' (Hd.out.cell' p1), hx.cell' (Hd.out.cell' p2), hx.cell' (Hd.out.cell' q0), hx.cell' (Hd.out.cell' q1), hx.cell' (Hd.out.cell' q2), Hd.out.trans' hx⟩ | exact ⟨hy.cell' (hx.cell' (Hd.out.cell' p0)), hy.cell' (hx.cell' (Hd.out.cell' p1)), hy.cell' (hx.cell' (Hd.out.cell' p2)), hy.cell' (hx.cell' (Hd.out.cell' q0)), hy.cell' (hx.cell' (Hd.out.cell' q1)), hy.cell' (hx.cell' (Hd.out.cell' q2)), (Hd.out.trans' hx).trans' hy⟩)
      (first | (go_at_call 21; (with_reducible refine (toNetwork_own (HN.out.ext (K6.out.trans' Hd.out)) hs.out).mono ?_); rintro e w7 ⟨z, b7, rfl, hx, ho7, hf7⟩; have O7 := Lib.hid ho7.read; have HX7 := Lib.hid hx; clear ho7 hf7) | (go_at_call 23; (with_reducible refine (eqNetwork_same (O6.out.read.ext (Hd.out.trans' HX7.out)) O7.out).mono ?_); rintro e w8 ⟨rfl, hy⟩))
    rename_i hh
    have HY := hh.2.2.2.2.2.2
    clear hh hx p0 p1 p2 q0 q1 q2
    have K8 := Lib.hid (K6.out.trans' HY.out)
    have R8 := Lib.hid (row_ext R6.out HY.out)
    have X8 := Lib.hid (row_ext X6.out HY.out)
    have O8 := Lib.hid (O6.out.ext HY.out)
    have W8 := Lib.hid (W6.out.ext HY.out)
    have G8 := Lib.hid (G6.out.ext HY.out)
    obtain ⟨q0, q1, q2, _, _, _⟩ := row3_facts X8.out
    go_wp2_with fail
    (with_reducible refine (markNetwork_any O8.out FN.out hs.out).mono ?_)
    rintro e w9 ⟨r9, rfl, h9, hc9⟩
    have K9 := Lib.hid (Chg.ext K8.out hc9 fun b hb => by have := FX.out.2 b hb; have := K3.out.size; omega)
    have R9 := Lib.hid (R8.out.of_block (hc9.block _ R8.out.lt fun hb => by have := FX.out.2 _ hb; have := Z3.out.1; omega))
    have W9 := Lib.hid (W8.out.keep fun b hb => hc9.block b (W8.out.1.lt b hb) fun hb' => by have := FX.out.2 b hb'; have := LW.out b hb; omega)
    have G9 := Lib.hid (G8.out.keep fun b hb => hc9.block b (G8.out.1.lt b hb) fun hb' => by have := LX.out b hb'; have := FG.out b hb; omega)
    clear hc9 q0 q1 q2
    go_wp2_with fail
    (with_reducible refine (eqIntS_same G9.out.read W9.out.read).mono ?_)
    rintro e w10 ⟨rfl, hw10⟩
    have K10 := Lib.hid (K9.out.trans' hw10)
    have R10 := Lib.hid (row_ext R9.out hw10)
    have W10 := Lib.hid (W9.out.ext hw10)
    have G10 := Lib.hid (G9.out.ext hw10)
    clear hw10
    go_wp2_with fail
    (with_reducible refine (markIntS_any _ G10.out hll (by omega) (by omega)).mono ?_)
    rintro e w11 ⟨rfl, hc11, hg11⟩
    have K11 := Lib.hid (Chg.ext K10.out hc11 fun b hb => by have := FG.out b hb; have := K3.out.size; have := Z3.out.2; omega)
    have R11 := Lib.hid (R10.out.of_block (hc11.block _ R10.out.lt fun hb => by have := FG.out _ hb; have := Z3.out; omega))
    have W11 := Lib.hid (W10.out.keep fun b hb => hc11.block b (W10.out.1.lt b hb) fun hb' => by have := FG.out b hb'; have := LW.out b hb; have := Z3.out.2; omega)
    have G11 := Lib.hid hg11.read
    clear hc11 hg11
    obtain ⟨p0, p1, p2, _, _, _⟩ := row3_facts R11.out
    go_wp2_with fail
    (with_reducible refine (heldIntS_any _ _ G11.out hll (by omega) (by omega)).mono ?_)
    rintro e w12 ⟨rfl, rfl⟩
    go_wp2_with fail
    (with_reducible refine (toNetwork_own (HN.out.ext K11.out) hs.out).mono ?_)
    rintro e w13 ⟨z, b13, rfl, hw13, ho13, _⟩
    have K13 := Lib.hid (K11.out.trans' hw13)
    have W13 := Lib.hid (W11.out.ext hw13)
    have G13 := Lib.hid (G11.out.ext hw13)
    have O13 := Lib.hid ho13.read
    clear hw13 ho13 p0 p1 p2
    go_wp2_with fail
    (with_reducible refine (degreesOf_any O13.out).mono ?_)
    rintro e w14 ⟨g2, bh, rfl, hw14, hoh, _⟩
    have K14 := Lib.hid (K13.out.trans' hw14)
    have W14 := Lib.hid (W13.out.ext hw14)
    have G14 := Lib.hid (G13.out.ext hw14)
    have H14 := Lib.hid hoh.read
    clear hw14 hoh
    go_wp2_with fail
    (with_reducible refine (eqIntS_same H14.out W14.out.read).mono ?_)
    rintro e w15 ⟨rfl, hw15⟩
    have K15 := Lib.hid (K14.out.trans' hw15)
    have G15 := Lib.hid (G14.out.ext hw15)
    clear hw15
    go_wp2_with fail
    (with_reducible refine (heldIntS_any _ _ G15.out hll (by omega) (by omega)).mono ?_)
    rintro e w16 ⟨rfl, rfl⟩
    go_wp2
    go_ret
    exact ⟨rfl, K15.out⟩
theorem walk_DegreesOf {w : World} {v : Value} {N : Net} (h : NetAt w v N) :
    Calls Try.prog 6 #[v] w fun e w' => e = .returned (.bool true) ∧ Ext w w' := walk_DegreesOf_of h (degAns_len N)
end Go.Proofs.Ytndgbildkeglfaa
