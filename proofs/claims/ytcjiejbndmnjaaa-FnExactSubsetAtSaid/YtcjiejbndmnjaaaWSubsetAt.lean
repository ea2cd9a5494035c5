/- The walk of FnExactSubsetAt: whatever the arguments, the law answers true and changes nothing that was there. No condition but that the answer is short. -/
import Derived.Test.YtcjiejbndmnjaaaI10
namespace Go.Proofs.Ytcjiejbndmnjaaa
open Go.RowKit

set_option maxHeartbeats 6400000 in
set_option maxRecDepth 100000 in
theorem walk_SubsetAt_of {w : World} (n0 : Int) (n1 : Int) (n2 : Int) (hll : (saAns n0 n1 n2).length ≤ 1048576) :
    Calls Try.prog 11 #[.int .i64 n0, .int .i64 n1, .int .i64 n2] w fun e w' => e = .returned (.bool true) ∧ Ext w w' := by
  have HLL := Lib.hid hll
  have K0 := Lib.hid (Ext.rfl' w)
  have hmm : (1 + ((saAns n0 n1 n2).length : Int) != 1 + ((saAns n0 n1 n2).length : Int)) = false := by simp
  have hbb : (dec (SaOK n0 n1 n2) != dec (SaOK n0 n1 n2)) = false := by simp
  go_enter Try.func11, Try.ntmps11
  go_wp2_with fail
  (with_reducible refine (specSubsetAt_any n0 n1 n2).mono ?_)
  rintro e w1 ⟨xw, bw, rfl, hw, ho, hf⟩
  have Z0 := Lib.hid (show w.heap.size ≤ w1.heap.size from by have := hw.size; simpa using this)
  have LOw := Lib.hid (show ∀ b ∈ bw, w.heap.size ≤ b from fun b hb => by have := hf.2 b hb; simpa using this)
  have HIw := Lib.hid (show ∀ b ∈ bw, b < w1.heap.size from ho.1.lt)
  have NDw : Hid bw.Nodup := hf.1
  have K0_1 := Lib.hid (K0.out.trans' hw)
  have Ow_1 := Lib.hid ho
  clear hw ho hf
  go_wp2_with fail
  (with_reducible refine (subsetAt_any n0 n1 n2).mono ?_)
  rintro e w2 ⟨xg, bg, rfl, hw, ho, hf⟩
  have Z1 := Lib.hid (show w1.heap.size ≤ w2.heap.size from by have := hw.size; simpa using this)
  have LOg := Lib.hid (show ∀ b ∈ bg, w1.heap.size ≤ b from fun b hb => by have := hf.2 b hb; simpa using this)
  have HIg := Lib.hid (show ∀ b ∈ bg, b < w2.heap.size from ho.1.lt)
  have NDg : Hid bg.Nodup := hf.1
  have K0_2 := Lib.hid (K0_1.out.trans' hw)
  have Ow_2 := Lib.hid (Ow_1.out.ext hw)
  have Og_2 := Lib.hid ho
  clear hw ho hf
  go_wp2_with fail
  (with_reducible refine (eqIntS_same Og_2.out.read Ow_2.out.read).mono ?_)
  rintro e w3 ⟨rfl, hw⟩
  have Z2 := Lib.hid (show w2.heap.size ≤ w3.heap.size from by have := hw.size; simpa using this)
  have K0_3 := Lib.hid (K0_2.out.trans' hw)
  have Ow_3 := Lib.hid (Ow_2.out.ext hw)
  have Og_3 := Lib.hid (Og_2.out.ext hw)
  clear hw
  go_wp2_with fail
  (with_reducible refine (markIntS_any _ Og_3.out hll (by omega) (by omega)).mono ?_)
  rintro e w4 ⟨rfl, hc, hm⟩
  have Z3 := Lib.hid (show w3.heap.size ≤ w4.heap.size from by have := hc.size; simpa using this)
  have K0_4 := Lib.hid (Chg.ext K0_3.out hc fun b hb => by have := LOg.out b hb; have := Z0.out; have := Z1.out; have := Z2.out; have := Z3.out; omega)
  have Ow_4 := Lib.hid (Ow_3.out.keep fun b hb => hc.block b (Ow_3.out.1.lt b hb) fun hb' => by have := LOg.out b hb'; have := HIg.out b hb'; have := LOw.out b hb; have := HIw.out b hb; have := Z0.out; have := Z1.out; have := Z2.out; have := Z3.out; omega)
  have Og_4 := Lib.hid hm
  clear hc hm
  go_wp2_with fail
  (with_reducible refine (heldIntS_any _ _ Og_4.out.read hll (by omega) (by omega)).mono ?_)
  rintro e w5 ⟨rfl, rfl⟩
  go_wp2_with fail
  (with_reducible refine (subsetAt_any n0 n1 n2).mono ?_)
  rintro e w6 ⟨xh, bh, rfl, hw, ho, hf⟩
  have Z4 := Lib.hid (show w4.heap.size ≤ w6.heap.size from by have := hw.size; simpa using this)
  have LOh := Lib.hid (show ∀ b ∈ bh, w4.heap.size ≤ b from fun b hb => by have := hf.2 b hb; simpa using this)
  have HIh := Lib.hid (show ∀ b ∈ bh, b < w6.heap.size from ho.1.lt)
  have NDh : Hid bh.Nodup := hf.1
  have K0_5 := Lib.hid (K0_4.out.trans' hw)
  have Ow_5 := Lib.hid (Ow_4.out.ext hw)
  have Og_5 := Lib.hid (Og_4.out.ext hw)
  have Oh_5 := Lib.hid ho
  clear hw ho hf
  go_wp2_with fail
  (with_reducible refine (eqIntS_same Oh_5.out.read Ow_5.out.read).mono ?_)
  rintro e w7 ⟨rfl, hw⟩
  have Z5 := Lib.hid (show w6.heap.size ≤ w7.heap.size from by have := hw.size; simpa using this)
  have K0_6 := Lib.hid (K0_5.out.trans' hw)
  have Ow_6 := Lib.hid (Ow_5.out.ext hw)
  have Og_6 := Lib.hid (Og_5.out.ext hw)
  have Oh_6 := Lib.hid (Oh_5.out.ext hw)
  clear hw
  go_wp2_with fail
  (with_reducible refine (heldIntS_any _ _ Og_6.out.read hll (by omega) (by omega)).mono ?_)
  rintro e w8 ⟨rfl, rfl⟩
  go_wp2
  go_ret
  exact ⟨rfl, K0_6.out⟩
theorem walk_SubsetAt {w : World} (n0 : Int) (n1 : Int) (n2 : Int) :
    Calls Try.prog 11 #[.int .i64 n0, .int .i64 n1, .int .i64 n2] w fun e w' => e = .returned (.bool true) ∧ Ext w w' := walk_SubsetAt_of n0 n1 n2  (saAns_len _ _ _)
end Go.Proofs.Ytcjiejbndmnjaaa
