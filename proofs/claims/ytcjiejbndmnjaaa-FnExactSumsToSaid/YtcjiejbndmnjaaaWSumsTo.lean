/- The walk of FnExactSumsTo: whatever the arguments, the law answers true and changes nothing that was there. No condition but that the answer is short. -/
import Derived.Test.YtcjiejbndmnjaaaI17
namespace Go.Proofs.Ytcjiejbndmnjaaa
open Go.RowKit

set_option maxHeartbeats 6400000 in
set_option maxRecDepth 100000 in
theorem walk_SumsTo_of {w : World} {v0 : Value} {l0 : List Int} (n1 : Int) (h0 : IntSl w v0 l0) (hll : (stAns l0 n1).length ≤ 1048576) :
    Calls Try.prog 13 #[v0, .int .i64 n1] w fun e w' => e = .returned (.bool true) ∧ Ext w w' := by
  have HLL := Lib.hid hll
  have HN0 := Lib.hid h0
  obtain ⟨la0, _, _, lc0, rfl, -, -, lm0, -⟩ := h0
  unfold maxLen at lm0
  have K0 := Lib.hid (Ext.rfl' w)
  have hmm : (1 + ((stAns l0 n1).length : Int) != 1 + ((stAns l0 n1).length : Int)) = false := by simp
  have hbb : (dec (StOK l0 n1) != dec (StOK l0 n1)) = false := by simp
  by_cases hg0 : l0.length ≤ 1048576
  case neg =>
    go_enter Try.func13, Try.ntmps13
    go_wp2
    go_ret
    exact ⟨rfl, K0.out⟩
  case pos =>
    go_enter Try.func13, Try.ntmps13
    go_wp2_with fail
    (with_reducible refine (toIntS_own (HN0.out.ext K0.out) hg0).mono ?_)
    rintro e w1 ⟨y0a, y0c, by0, rfl, hw, ho, hf⟩
    have Z0 := Lib.hid (show w.heap.size ≤ w1.heap.size from by have := hw.size; simpa using this)
    have K0_1 := Lib.hid (K0.out.trans' hw)
    have Oy0_1 := Lib.hid ho.read
    clear hw ho hf
    go_wp2_with fail
    (with_reducible refine (specSumsTo_any n1 Oy0_1.out hg0).mono ?_)
    rintro e w2 ⟨xw, bw, rfl, hw, ho, hf⟩
    have Z1 := Lib.hid (show w1.heap.size ≤ w2.heap.size from by have := hw.size; simpa using this)
    have LOw := Lib.hid (show ∀ b ∈ bw, w1.heap.size ≤ b from fun b hb => by have := hf.2 b hb; simpa using this)
    have HIw := Lib.hid (show ∀ b ∈ bw, b < w2.heap.size from ho.1.lt)
    have NDw : Hid bw.Nodup := hf.1
    have K0_2 := Lib.hid (K0_1.out.trans' hw)
    have Oy0_2 := Lib.hid (Oy0_1.out.ext hw)
    have Ow_2 := Lib.hid ho
    clear hw ho hf
    go_wp2_with fail
    (with_reducible refine (toIntS_own (HN0.out.ext K0_2.out) hg0).mono ?_)
    rintro e w3 ⟨x0a, x0c, bx0, rfl, hw, ho, hf⟩
    have Z2 := Lib.hid (show w2.heap.size ≤ w3.heap.size from by have := hw.size; simpa using this)
    have LOx0 := Lib.hid (show ∀ b ∈ bx0, w2.heap.size ≤ b from fun b hb => by have := hf.2 b hb; simpa using this)
    have HIx0 := Lib.hid (show ∀ b ∈ bx0, b < w3.heap.size from ho.1.lt)
    have NDx0 : Hid bx0.Nodup := hf.1
    have K0_3 := Lib.hid (K0_2.out.trans' hw)
    have Ow_3 := Lib.hid (Ow_2.out.ext hw)
    have Ox0_3 := Lib.hid ho
    clear hw ho hf
    go_wp2_with fail
    (with_reducible refine (sumsTo_any n1 Ox0_3.out.read hg0).mono ?_)
    rintro e w4 ⟨xg, bg, rfl, hw, ho, hf⟩
    have Z3 := Lib.hid (show w3.heap.size ≤ w4.heap.size from by have := hw.size; simpa using this)
    have LOg := Lib.hid (show ∀ b ∈ bg, w3.heap.size ≤ b from fun b hb => by have := hf.2 b hb; simpa using this)
    have HIg := Lib.hid (show ∀ b ∈ bg, b < w4.heap.size from ho.1.lt)
    have NDg : Hid bg.Nodup := hf.1
    have K0_4 := Lib.hid (K0_3.out.trans' hw)
    have Ow_4 := Lib.hid (Ow_3.out.ext hw)
    have Ox0_4 := Lib.hid (Ox0_3.out.ext hw)
    have Og_4 := Lib.hid ho
    clear hw ho hf
    go_wp2_with fail
    (with_reducible refine (eqIntS_same Og_4.out.read Ow_4.out.read).mono ?_)
    rintro e w5 ⟨rfl, hw⟩
    have Z4 := Lib.hid (show w4.heap.size ≤ w5.heap.size from by have := hw.size; simpa using this)
    have K0_5 := Lib.hid (K0_4.out.trans' hw)
    have Ow_5 := Lib.hid (Ow_4.out.ext hw)
    have Ox0_5 := Lib.hid (Ox0_4.out.ext hw)
    have Og_5 := Lib.hid (Og_4.out.ext hw)
    clear hw
    go_wp2_with fail
    (with_reducible refine (toIntS_own (HN0.out.ext K0_5.out) hg0).mono ?_)
    rintro e w6 ⟨z0a, z0c, bz0, rfl, hw, ho, hf⟩
    have Z5 := Lib.hid (show w5.heap.size ≤ w6.heap.size from by have := hw.size; simpa using this)
    have K0_6 := Lib.hid (K0_5.out.trans' hw)
    have Ow_6 := Lib.hid (Ow_5.out.ext hw)
    have Ox0_6 := Lib.hid (Ox0_5.out.ext hw)
    have Og_6 := Lib.hid (Og_5.out.ext hw)
    have Oz0_6 := Lib.hid ho.read
    clear hw ho hf
    go_wp2_with fail
    (with_reducible refine (eqIntS_same Ox0_6.out.read Oz0_6.out).mono ?_)
    rintro e w7 ⟨rfl, hw⟩
    have Z6 := Lib.hid (show w6.heap.size ≤ w7.heap.size from by have := hw.size; simpa using this)
    have K0_7 := Lib.hid (K0_6.out.trans' hw)
    have Ow_7 := Lib.hid (Ow_6.out.ext hw)
    have Ox0_7 := Lib.hid (Ox0_6.out.ext hw)
    have Og_7 := Lib.hid (Og_6.out.ext hw)
    have Oz0_7 := Lib.hid (Oz0_6.out.ext hw)
    clear hw
    go_wp2_with fail
    (with_reducible refine (markIntS_any _ Ox0_7.out hg0 (by omega) (by omega)).mono ?_)
    rintro e w8 ⟨rfl, hc, hm⟩
    have Z7 := Lib.hid (show w7.heap.size ≤ w8.heap.size from by have := hc.size; simpa using this)
    have K0_8 := Lib.hid (Chg.ext K0_7.out hc fun b hb => by have := LOx0.out b hb; have := Z0.out; have := Z1.out; have := Z2.out; have := Z3.out; have := Z4.out; have := Z5.out; have := Z6.out; have := Z7.out; omega)
    have Ow_8 := Lib.hid (Ow_7.out.keep fun b hb => hc.block b (Ow_7.out.1.lt b hb) fun hb' => by have := LOx0.out b hb'; have := HIx0.out b hb'; have := LOw.out b hb; have := HIw.out b hb; have := Z0.out; have := Z1.out; have := Z2.out; have := Z3.out; have := Z4.out; have := Z5.out; have := Z6.out; have := Z7.out; omega)
    have Og_8 := Lib.hid (Og_7.out.keep fun b hb => hc.block b (Og_7.out.1.lt b hb) fun hb' => by have := LOx0.out b hb'; have := HIx0.out b hb'; have := LOg.out b hb; have := HIg.out b hb; have := Z0.out; have := Z1.out; have := Z2.out; have := Z3.out; have := Z4.out; have := Z5.out; have := Z6.out; have := Z7.out; omega)
    clear hc hm
    go_wp2_with fail
    (with_reducible refine (eqIntS_same Og_8.out.read Ow_8.out.read).mono ?_)
    rintro e w9 ⟨rfl, hw⟩
    have Z8 := Lib.hid (show w8.heap.size ≤ w9.heap.size from by have := hw.size; simpa using this)
    have K0_9 := Lib.hid (K0_8.out.trans' hw)
    have Ow_9 := Lib.hid (Ow_8.out.ext hw)
    have Og_9 := Lib.hid (Og_8.out.ext hw)
    clear hw
    go_wp2_with fail
    (with_reducible refine (markIntS_any _ Og_9.out hll (by omega) (by omega)).mono ?_)
    rintro e w10 ⟨rfl, hc, hm⟩
    have Z9 := Lib.hid (show w9.heap.size ≤ w10.heap.size from by have := hc.size; simpa using this)
    have K0_10 := Lib.hid (Chg.ext K0_9.out hc fun b hb => by have := LOg.out b hb; have := Z0.out; have := Z1.out; have := Z2.out; have := Z3.out; have := Z4.out; have := Z5.out; have := Z6.out; have := Z7.out; have := Z8.out; have := Z9.out; omega)
    have Ow_10 := Lib.hid (Ow_9.out.keep fun b hb => hc.block b (Ow_9.out.1.lt b hb) fun hb' => by have := LOg.out b hb'; have := HIg.out b hb'; have := LOw.out b hb; have := HIw.out b hb; have := Z0.out; have := Z1.out; have := Z2.out; have := Z3.out; have := Z4.out; have := Z5.out; have := Z6.out; have := Z7.out; have := Z8.out; have := Z9.out; omega)
    have Og_10 := Lib.hid hm
    clear hc hm
    go_wp2_with fail
    (with_reducible refine (heldIntS_any _ _ Og_10.out.read hll (by omega) (by omega)).mono ?_)
    rintro e w11 ⟨rfl, rfl⟩
    go_wp2_with fail
    (with_reducible refine (toIntS_own (HN0.out.ext K0_10.out) hg0).mono ?_)
    rintro e w12 ⟨u0a, u0c, bu0, rfl, hw, ho, hf⟩
    have Z10 := Lib.hid (show w10.heap.size ≤ w12.heap.size from by have := hw.size; simpa using this)
    have K0_11 := Lib.hid (K0_10.out.trans' hw)
    have Ow_11 := Lib.hid (Ow_10.out.ext hw)
    have Og_11 := Lib.hid (Og_10.out.ext hw)
    have Ou0_11 := Lib.hid ho.read
    clear hw ho hf
    go_wp2_with fail
    (with_reducible refine (sumsTo_any n1 Ou0_11.out hg0).mono ?_)
    rintro e w13 ⟨xh, bh, rfl, hw, ho, hf⟩
    have Z11 := Lib.hid (show w12.heap.size ≤ w13.heap.size from by have := hw.size; simpa using this)
    have LOh := Lib.hid (show ∀ b ∈ bh, w12.heap.size ≤ b from fun b hb => by have := hf.2 b hb; simpa using this)
    have HIh := Lib.hid (show ∀ b ∈ bh, b < w13.heap.size from ho.1.lt)
    have NDh : Hid bh.Nodup := hf.1
    have K0_12 := Lib.hid (K0_11.out.trans' hw)
    have Ow_12 := Lib.hid (Ow_11.out.ext hw)
    have Og_12 := Lib.hid (Og_11.out.ext hw)
    have Ou0_12 := Lib.hid (Ou0_11.out.ext hw)
    have Oh_12 := Lib.hid ho
    clear hw ho hf
    go_wp2_with fail
    (with_reducible refine (eqIntS_same Oh_12.out.read Ow_12.out.read).mono ?_)
    rintro e w14 ⟨rfl, hw⟩
    have Z12 := Lib.hid (show w13.heap.size ≤ w14.heap.size from by have := hw.size; simpa using this)
    have K0_13 := Lib.hid (K0_12.out.trans' hw)
    have Ow_13 := Lib.hid (Ow_12.out.ext hw)
    have Og_13 := Lib.hid (Og_12.out.ext hw)
    have Oh_13 := Lib.hid (Oh_12.out.ext hw)
    clear hw
    go_wp2_with fail
    (with_reducible refine (heldIntS_any _ _ Og_13.out.read hll (by omega) (by omega)).mono ?_)
    rintro e w15 ⟨rfl, rfl⟩
    go_wp2
    go_ret
    exact ⟨rfl, K0_13.out⟩
theorem walk_SumsTo {w : World} {v0 : Value} {l0 : List Int} (n1 : Int) (h0 : IntSl w v0 l0) :
    Calls Try.prog 13 #[v0, .int .i64 n1] w fun e w' => e = .returned (.bool true) ∧ Ext w w' := walk_SumsTo_of n1 h0 (stAns_len _ _)
end Go.Proofs.Ytcjiejbndmnjaaa
