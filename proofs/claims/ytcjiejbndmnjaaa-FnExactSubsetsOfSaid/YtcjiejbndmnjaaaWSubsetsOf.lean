/- The walk of FnExactSubsetsOf: whatever the arguments, the law answers true and changes nothing that was there. No condition but that the answer is short. -/
import Derived.Test.YtcjiejbndmnjaaaI12
namespace Go.Proofs.Ytcjiejbndmnjaaa
open Go.RowKit

set_option maxHeartbeats 6400000 in
set_option maxRecDepth 100000 in
theorem walk_SubsetsOf_of {w : World} (n0 : Int) (n1 : Int) (hll : IISmall (soAns n0 n1)) :
    Calls Try.prog 9 #[.int .i64 n0, .int .i64 n1] w fun e w' => e = .returned (.bool true) ∧ Ext w w' := by
  have HLL := Lib.hid hll
  have HQ := Lib.hid (iLast_bound hll)
  have K0 := Lib.hid (Ext.rfl' w)
  have hbb : (dec (SoOK n0 n1) != dec (SoOK n0 n1)) = false := by simp
  go_enter Try.func9, Try.ntmps9
  go_wp2_with fail
  (with_reducible refine (specSubsetsOf_any n0 n1).mono ?_)
  rintro e w1 ⟨xw, bw, rfl, hw, ho, hf⟩
  have Z0 := Lib.hid (show w.heap.size ≤ w1.heap.size from by have := hw.size; simpa using this)
  have LOw := Lib.hid (show ∀ b ∈ bw, w.heap.size ≤ b from fun b hb => by have := hf.2 b hb; simpa using this)
  have HIw := Lib.hid (show ∀ b ∈ bw, b < w1.heap.size from ho.lt)
  have NDw : Hid bw.Nodup := hf.1
  have K0_1 := Lib.hid (K0.out.trans' hw)
  have Ow_1 := Lib.hid ho
  clear hw ho hf
  go_wp2_with fail
  (with_reducible refine (subsetsOf_any n0 n1).mono ?_)
  rintro e w2 ⟨xg, bg, rfl, hw, ho, hf⟩
  have Z1 := Lib.hid (show w1.heap.size ≤ w2.heap.size from by have := hw.size; simpa using this)
  have LOg := Lib.hid (show ∀ b ∈ bg, w1.heap.size ≤ b from fun b hb => by have := hf.2 b hb; simpa using this)
  have HIg := Lib.hid (show ∀ b ∈ bg, b < w2.heap.size from ho.lt)
  have NDg : Hid bg.Nodup := hf.1
  have K0_2 := Lib.hid (K0_1.out.trans' hw)
  have Ow_2 := Lib.hid (Ow_1.out.ext hw)
  have Og_2 := Lib.hid ho
  clear hw ho hf
  go_wp2_with fail
  (with_reducible refine (eqIntSS_same Og_2.out.read Ow_2.out.read).mono ?_)
  rintro e w3 ⟨rfl, hw⟩
  have Z2 := Lib.hid (show w2.heap.size ≤ w3.heap.size from by have := hw.size; simpa using this)
  have K0_3 := Lib.hid (K0_2.out.trans' hw)
  have Ow_3 := Lib.hid (Ow_2.out.ext hw)
  have Og_3 := Lib.hid (Og_2.out.ext hw)
  clear hw
  go_wp2_with fail
  (with_reducible refine (markIntSS_own Og_3.out NDg.out HLL.out).mono ?_)
  rintro e w4 ⟨rfl, hc, hm⟩
  have Z3 := Lib.hid (show w3.heap.size ≤ w4.heap.size from by have := hc.size; simpa using this)
  have K0_4 := Lib.hid (Chg.ext K0_3.out hc fun b hb => by have := LOg.out b hb; have := Z0.out; have := Z1.out; have := Z2.out; have := Z3.out; omega)
  have Ow_4 := Lib.hid (Ow_3.out.keep fun b hb => hc.block b (Ow_3.out.lt b hb) fun hb' => by have := LOg.out b hb'; have := HIg.out b hb'; have := LOw.out b hb; have := HIw.out b hb; have := Z0.out; have := Z1.out; have := Z2.out; have := Z3.out; omega)
  have Og_4 := Lib.hid hm
  clear hc hm
  obtain ⟨hq0, _⟩ := HQ.out
  have hqq : (iLast (soAns n0 n1) != iLast (soAns n0 n1)) = false := by simp
  go_wp2_with fail
  (with_reducible refine (heldIntSS_any Og_4.out.read HLL.out).mono ?_)
  rintro e w5 ⟨rfl, hw⟩
  have Z4 := Lib.hid (show w4.heap.size ≤ w5.heap.size from by have := hw.size; simpa using this)
  have K0_5 := Lib.hid (K0_4.out.trans' hw)
  have Ow_5 := Lib.hid (Ow_4.out.ext hw)
  have Og_5 := Lib.hid (Og_4.out.ext hw)
  clear hw
  go_wp2_with fail
  (with_reducible refine (subsetsOf_any n0 n1).mono ?_)
  rintro e w6 ⟨xh, bh, rfl, hw, ho, hf⟩
  have Z5 := Lib.hid (show w5.heap.size ≤ w6.heap.size from by have := hw.size; simpa using this)
  have LOh := Lib.hid (show ∀ b ∈ bh, w5.heap.size ≤ b from fun b hb => by have := hf.2 b hb; simpa using this)
  have HIh := Lib.hid (show ∀ b ∈ bh, b < w6.heap.size from ho.lt)
  have NDh : Hid bh.Nodup := hf.1
  have K0_6 := Lib.hid (K0_5.out.trans' hw)
  have Ow_6 := Lib.hid (Ow_5.out.ext hw)
  have Og_6 := Lib.hid (Og_5.out.ext hw)
  have Oh_6 := Lib.hid ho
  clear hw ho hf
  go_wp2_with fail
  (with_reducible refine (eqIntSS_same Oh_6.out.read Ow_6.out.read).mono ?_)
  rintro e w7 ⟨rfl, hw⟩
  have Z6 := Lib.hid (show w6.heap.size ≤ w7.heap.size from by have := hw.size; simpa using this)
  have K0_7 := Lib.hid (K0_6.out.trans' hw)
  have Ow_7 := Lib.hid (Ow_6.out.ext hw)
  have Og_7 := Lib.hid (Og_6.out.ext hw)
  have Oh_7 := Lib.hid (Oh_6.out.ext hw)
  clear hw
  obtain ⟨hq0, _⟩ := HQ.out
  have hqq : (iLast (soAns n0 n1) != iLast (soAns n0 n1)) = false := by simp
  go_wp2_with fail
  (with_reducible refine (heldIntSS_any Og_7.out.read HLL.out).mono ?_)
  rintro e w8 ⟨rfl, hw⟩
  have Z7 := Lib.hid (show w7.heap.size ≤ w8.heap.size from by have := hw.size; simpa using this)
  have K0_8 := Lib.hid (K0_7.out.trans' hw)
  have Ow_8 := Lib.hid (Ow_7.out.ext hw)
  have Og_8 := Lib.hid (Og_7.out.ext hw)
  have Oh_8 := Lib.hid (Oh_7.out.ext hw)
  clear hw
  go_wp2
  go_ret
  exact ⟨rfl, K0_8.out⟩
theorem walk_SubsetsOf {w : World} (n0 : Int) (n1 : Int) :
    Calls Try.prog 9 #[.int .i64 n0, .int .i64 n1] w fun e w' => e = .returned (.bool true) ∧ Ext w w' := walk_SubsetsOf_of n0 n1  (soAns_small _ _)
end Go.Proofs.Ytcjiejbndmnjaaa
