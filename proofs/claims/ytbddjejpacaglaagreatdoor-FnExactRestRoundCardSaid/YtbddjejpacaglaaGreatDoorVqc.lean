/- The functions of the rules. -/
import Derived.Test.YtbddjejpacaglaaGreatDoorVqb
namespace Go.Proofs.YtbddjejpacaglaaGreatDoor
open Go.RowKit

theorem Calls.quiet_of_same {P : Program} {f : FuncId} {args : Array Value} {w : World} {n : Nat} {v : Value}
    (h : Calls P f args (w.drewN n) fun e w' => e = .returned v ∧ w.drewN n = w') : Calls P f args (w.drewN n) fun e w'' => e = .returned v ∧ ∃ m, w'' = w.drewN m :=
  h.mono fun _ _ ⟨h1, h2⟩ => ⟨h1, n, h2.symm⟩
theorem countBetween_quiet {w : World} {v : Value} {l : List Int} {n : Nat} (h : IntSl w v l) (hs : l.length ≤ 1048576) (lo hi : Int) :
    Calls Tryz.prog 112 #[v, .int .i64 lo, .int .i64 hi] (w.drewN n) fun e w'' => e = .returned (.int .i64 (cbTo l lo hi l.length : Int)) ∧ ∃ m, w'' = w.drewN m :=
  Calls.quiet_of_same (countBetween_any (h.ext ((Ext.rfl' _).drewN' _)) hs lo hi)
theorem truthOf_quiet (b : Bool) {w : World} {n : Nat} : Calls Tryz.prog 119 #[.bool b] (w.drewN n) fun e w'' => e = .returned (.int .i64 (tru b)) ∧ ∃ m, w'' = w.drewN m :=
  Calls.quiet_of_same (truthOf_any b _)
theorem nearL_small {S : Sg} (h : SgOK S) : (nearL S).length ≤ 1048576 := by
  have := h.2.1
  unfold nearL
  split
  · show 1 ≤ 1048576; omega
  · omega
set_option maxHeartbeats 800000 in
set_option maxRecDepth 100000 in
theorem rule1_any {w : World} {sv av : Value} {S : Sg} {A : List Int} (hs : SightAt w sv S) (ho : SgOK S) (ha : IntSl w av A) (_hr : AllIn A (-1000000) 1000000) (_hl : A.length = 0) (y : Int) (p : Nat) (hp : w.cell? ⟨p, 0, none⟩ = some (.int .i64 y)) :
    Calls Tryz.prog 96 #[sv, av, .pointer (some ⟨p, 0, none⟩)] w fun e w' => e = .returned (.int .i64 (opv S 1 y A)) ∧ Ext w w' := by
  obtain ⟨a, c, rfl, hn⟩ := hs
  have HX := Lib.hid ((Ext.rfl' w).alloc' (.cells #[.int .i64 S.own, .int .i64 S.id, .int .i64 S.inp, .int .i64 S.rnd, .slice a S.near.length c] 100))
  have HN := Lib.hid (hn.ext HX.out)
  have HW := Lib.hid hn
  have HSK := Lib.hid ho
  have HSA := Lib.hid (show SightAt (w.alloc (.cells #[.int .i64 S.own, .int .i64 S.id, .int .i64 S.inp, .int .i64 S.rnd, .slice a S.near.length c] 100)) (.agg #[.int .i64 S.own, .int .i64 S.id, .int .i64 S.inp, .int .i64 S.rnd, .slice a S.near.length c]) S from ⟨_, _, rfl, HN.out⟩)
  have HAV := Lib.hid (show AllIn S.near (-1000000) 1000000 from ho.2.2)
  have hln := ho.2.1
  have HLN := Lib.hid (show S.near.length ≤ 1048576 by omega)
  obtain ⟨_, _, _, _, e, -, hln2, hln3, -⟩ := hn
  cases e
  unfold maxLen at hln3
  obtain ⟨a2, b2, o2, c2, rfl, -, hl2, hm2, -⟩ := ha
  unfold maxLen at hm2
  clear ho
  have hp' := HX.out.cell' hp
  have HV := Lib.hid (show opv S 1 y A = y by simp [opv])
  clear hp
  go_enter Tryz.func96, Tryz.ntmps96
  go_wp2
  go_ret
  exact ⟨by rw [HV.out]; rfl, HX.out⟩

set_option maxHeartbeats 800000 in
set_option maxRecDepth 100000 in
theorem rule2_any {w : World} {sv av : Value} {S : Sg} {A : List Int} (hs : SightAt w sv S) (ho : SgOK S) (ha : IntSl w av A) (_hr : AllIn A (-1000000) 1000000) (_hl : A.length = 0) (y : Int) :
    Calls Tryz.prog 97 #[sv, av] w fun e w' => e = .returned (.int .i64 (opv S 2 y A)) ∧ Ext w w' := by
  obtain ⟨a, c, rfl, hn⟩ := hs
  have HX := Lib.hid ((Ext.rfl' w).alloc' (.cells #[.int .i64 S.own, .int .i64 S.id, .int .i64 S.inp, .int .i64 S.rnd, .slice a S.near.length c] 100))
  have HN := Lib.hid (hn.ext HX.out)
  have HW := Lib.hid hn
  have HSK := Lib.hid ho
  have HSA := Lib.hid (show SightAt (w.alloc (.cells #[.int .i64 S.own, .int .i64 S.id, .int .i64 S.inp, .int .i64 S.rnd, .slice a S.near.length c] 100)) (.agg #[.int .i64 S.own, .int .i64 S.id, .int .i64 S.inp, .int .i64 S.rnd, .slice a S.near.length c]) S from ⟨_, _, rfl, HN.out⟩)
  have HAV := Lib.hid (show AllIn S.near (-1000000) 1000000 from ho.2.2)
  have hln := ho.2.1
  have HLN := Lib.hid (show S.near.length ≤ 1048576 by omega)
  obtain ⟨_, _, _, _, e, -, hln2, hln3, -⟩ := hn
  cases e
  unfold maxLen at hln3
  obtain ⟨a2, b2, o2, c2, rfl, -, hl2, hm2, -⟩ := ha
  unfold maxLen at hm2
  clear ho
  have HV := Lib.hid (show opv S 2 y A = S.own by simp [opv])
  go_enter Tryz.func97, Tryz.ntmps97
  go_wp2
  go_ret
  exact ⟨by rw [HV.out]; rfl, HX.out⟩

set_option maxHeartbeats 800000 in
set_option maxRecDepth 100000 in
theorem rule3_any {w : World} {sv av : Value} {S : Sg} {A : List Int} (hs : SightAt w sv S) (ho : SgOK S) (ha : IntSl w av A) (_hr : AllIn A (-1000000) 1000000) (_hl : A.length = 0) (y : Int) :
    Calls Tryz.prog 98 #[sv, av] w fun e w' => e = .returned (.int .i64 (opv S 3 y A)) ∧ Ext w w' := by
  obtain ⟨a, c, rfl, hn⟩ := hs
  have HX := Lib.hid ((Ext.rfl' w).alloc' (.cells #[.int .i64 S.own, .int .i64 S.id, .int .i64 S.inp, .int .i64 S.rnd, .slice a S.near.length c] 100))
  have HN := Lib.hid (hn.ext HX.out)
  have HW := Lib.hid hn
  have HSK := Lib.hid ho
  have HSA := Lib.hid (show SightAt (w.alloc (.cells #[.int .i64 S.own, .int .i64 S.id, .int .i64 S.inp, .int .i64 S.rnd, .slice a S.near.length c] 100)) (.agg #[.int .i64 S.own, .int .i64 S.id, .int .i64 S.inp, .int .i64 S.rnd, .slice a S.near.length c]) S from ⟨_, _, rfl, HN.out⟩)
  have HAV := Lib.hid (show AllIn S.near (-1000000) 1000000 from ho.2.2)
  have hln := ho.2.1
  have HLN := Lib.hid (show S.near.length ≤ 1048576 by omega)
  obtain ⟨_, _, _, _, e, -, hln2, hln3, -⟩ := hn
  cases e
  unfold maxLen at hln3
  obtain ⟨a2, b2, o2, c2, rfl, -, hl2, hm2, -⟩ := ha
  unfold maxLen at hm2
  clear ho
  have HV := Lib.hid (show opv S 3 y A = S.id by simp [opv])
  go_enter Tryz.func98, Tryz.ntmps98
  go_wp2
  go_ret
  exact ⟨by rw [HV.out]; rfl, HX.out⟩

set_option maxHeartbeats 800000 in
set_option maxRecDepth 100000 in
theorem rule4_any {w : World} {sv av : Value} {S : Sg} {A : List Int} (hs : SightAt w sv S) (ho : SgOK S) (ha : IntSl w av A) (_hr : AllIn A (-1000000) 1000000) (_hl : A.length = 0) (y : Int) :
    Calls Tryz.prog 99 #[sv, av] w fun e w' => e = .returned (.int .i64 (opv S 4 y A)) ∧ Ext w w' := by
  obtain ⟨a, c, rfl, hn⟩ := hs
  have HX := Lib.hid ((Ext.rfl' w).alloc' (.cells #[.int .i64 S.own, .int .i64 S.id, .int .i64 S.inp, .int .i64 S.rnd, .slice a S.near.length c] 100))
  have HN := Lib.hid (hn.ext HX.out)
  have HW := Lib.hid hn
  have HSK := Lib.hid ho
  have HSA := Lib.hid (show SightAt (w.alloc (.cells #[.int .i64 S.own, .int .i64 S.id, .int .i64 S.inp, .int .i64 S.rnd, .slice a S.near.length c] 100)) (.agg #[.int .i64 S.own, .int .i64 S.id, .int .i64 S.inp, .int .i64 S.rnd, .slice a S.near.length c]) S from ⟨_, _, rfl, HN.out⟩)
  have HAV := Lib.hid (show AllIn S.near (-1000000) 1000000 from ho.2.2)
  have hln := ho.2.1
  have HLN := Lib.hid (show S.near.length ≤ 1048576 by omega)
  obtain ⟨_, _, _, _, e, -, hln2, hln3, -⟩ := hn
  cases e
  unfold maxLen at hln3
  obtain ⟨a2, b2, o2, c2, rfl, -, hl2, hm2, -⟩ := ha
  unfold maxLen at hm2
  clear ho
  have HV := Lib.hid (show opv S 4 y A = (S.near.length : Int) by simp [opv])
  go_enter Tryz.func99, Tryz.ntmps99
  go_wp2
  go_ret
  exact ⟨by rw [HV.out]; rfl, HX.out⟩

set_option maxHeartbeats 800000 in
set_option maxRecDepth 100000 in
theorem rule5_any {w : World} {sv av : Value} {S : Sg} {A : List Int} (hs : SightAt w sv S) (ho : SgOK S) (ha : IntSl w av A) (_hr : AllIn A (-1000000) 1000000) (_hl : A.length = 0) (y : Int) :
    Calls Tryz.prog 100 #[sv, av] w fun e w' => e = .returned (.int .i64 (opv S 5 y A)) ∧ Ext w w' := by
  obtain ⟨a, c, rfl, hn⟩ := hs
  have HX := Lib.hid ((Ext.rfl' w).alloc' (.cells #[.int .i64 S.own, .int .i64 S.id, .int .i64 S.inp, .int .i64 S.rnd, .slice a S.near.length c] 100))
  have HN := Lib.hid (hn.ext HX.out)
  have HW := Lib.hid hn
  have HSK := Lib.hid ho
  have HSA := Lib.hid (show SightAt (w.alloc (.cells #[.int .i64 S.own, .int .i64 S.id, .int .i64 S.inp, .int .i64 S.rnd, .slice a S.near.length c] 100)) (.agg #[.int .i64 S.own, .int .i64 S.id, .int .i64 S.inp, .int .i64 S.rnd, .slice a S.near.length c]) S from ⟨_, _, rfl, HN.out⟩)
  have HAV := Lib.hid (show AllIn S.near (-1000000) 1000000 from ho.2.2)
  have hln := ho.2.1
  have HLN := Lib.hid (show S.near.length ≤ 1048576 by omega)
  obtain ⟨_, _, _, _, e, -, hln2, hln3, -⟩ := hn
  cases e
  unfold maxLen at hln3
  obtain ⟨a2, b2, o2, c2, rfl, -, hl2, hm2, -⟩ := ha
  unfold maxLen at hm2
  clear ho
  have HV := Lib.hid (show opv S 5 y A = S.inp by simp [opv])
  go_enter Tryz.func100, Tryz.ntmps100
  go_wp2
  go_ret
  exact ⟨by rw [HV.out]; rfl, HX.out⟩

set_option maxHeartbeats 800000 in
set_option maxRecDepth 100000 in
theorem rule6_any {w : World} {sv av : Value} {S : Sg} {A : List Int} (hs : SightAt w sv S) (ho : SgOK S) (ha : IntSl w av A) (_hr : AllIn A (-1000000) 1000000) (_hl : A.length = 0) (y : Int) :
    Calls Tryz.prog 101 #[sv, av] w fun e w' => e = .returned (.int .i64 (opv S 6 y A)) ∧ Ext w w' := by
  obtain ⟨a, c, rfl, hn⟩ := hs
  have HX := Lib.hid ((Ext.rfl' w).alloc' (.cells #[.int .i64 S.own, .int .i64 S.id, .int .i64 S.inp, .int .i64 S.rnd, .slice a S.near.length c] 100))
  have HN := Lib.hid (hn.ext HX.out)
  have HW := Lib.hid hn
  have HSK := Lib.hid ho
  have HSA := Lib.hid (show SightAt (w.alloc (.cells #[.int .i64 S.own, .int .i64 S.id, .int .i64 S.inp, .int .i64 S.rnd, .slice a S.near.length c] 100)) (.agg #[.int .i64 S.own, .int .i64 S.id, .int .i64 S.inp, .int .i64 S.rnd, .slice a S.near.length c]) S from ⟨_, _, rfl, HN.out⟩)
  have HAV := Lib.hid (show AllIn S.near (-1000000) 1000000 from ho.2.2)
  have hln := ho.2.1
  have HLN := Lib.hid (show S.near.length ≤ 1048576 by omega)
  obtain ⟨_, _, _, _, e, -, hln2, hln3, -⟩ := hn
  cases e
  unfold maxLen at hln3
  obtain ⟨a2, b2, o2, c2, rfl, -, hl2, hm2, -⟩ := ha
  unfold maxLen at hm2
  clear ho
  have HV := Lib.hid (show opv S 6 y A = S.rnd by simp [opv])
  go_enter Tryz.func101, Tryz.ntmps101
  go_wp2
  go_ret
  exact ⟨by rw [HV.out]; rfl, HX.out⟩

set_option maxHeartbeats 800000 in
set_option maxRecDepth 100000 in
theorem rule7_any {w : World} {sv av : Value} {S : Sg} {A : List Int} (hs : SightAt w sv S) (ho : SgOK S) (ha : IntSl w av A) (_hr : AllIn A (-1000000) 1000000) (_hl : A.length = 0) (y : Int) :
    Calls Tryz.prog 102 #[sv, av] w fun e w' => e = .returned (.int .i64 (opv S 7 y A)) ∧ Ext w w' := by
  obtain ⟨a, c, rfl, hn⟩ := hs
  have HX := Lib.hid ((Ext.rfl' w).alloc' (.cells #[.int .i64 S.own, .int .i64 S.id, .int .i64 S.inp, .int .i64 S.rnd, .slice a S.near.length c] 100))
  have HN := Lib.hid (hn.ext HX.out)
  have HW := Lib.hid hn
  have HSK := Lib.hid ho
  have HSA := Lib.hid (show SightAt (w.alloc (.cells #[.int .i64 S.own, .int .i64 S.id, .int .i64 S.inp, .int .i64 S.rnd, .slice a S.near.length c] 100)) (.agg #[.int .i64 S.own, .int .i64 S.id, .int .i64 S.inp, .int .i64 S.rnd, .slice a S.near.length c]) S from ⟨_, _, rfl, HN.out⟩)
  have HAV := Lib.hid (show AllIn S.near (-1000000) 1000000 from ho.2.2)
  have hln := ho.2.1
  have HLN := Lib.hid (show S.near.length ≤ 1048576 by omega)
  obtain ⟨_, _, _, _, e, -, hln2, hln3, -⟩ := hn
  cases e
  unfold maxLen at hln3
  obtain ⟨a2, b2, o2, c2, rfl, -, hl2, hm2, -⟩ := ha
  unfold maxLen at hm2
  clear ho
  have HV := Lib.hid (show opv S 7 y A = leastV S by simp [opv])
  have HE := Lib.hid (lessL_near S)
  go_enter Tryz.func102, Tryz.ntmps102
  go_wp2_with fail
  (with_reducible refine (nearOrOwn_any HSA.out HSK.out).mono ?_)
  rintro e w1 ⟨nv, rfl, hx, hv⟩
  have HY := Lib.hid (HX.out.trans' hx)
  have HNV := Lib.hid hv
  clear hx hv
  go_wp2_with fail
  (with_reducible refine (min_any HNV.out (nearL_len S) (nearL_small HSK.out)).mono ?_)
  rintro e _ ⟨rfl, rfl⟩
  rw [HE.out]
  go_wp2_with fail
  go_ret
  exact ⟨by rw [HV.out]; rfl, HY.out⟩

set_option maxHeartbeats 800000 in
set_option maxRecDepth 100000 in
theorem rule8_any {w : World} {sv av : Value} {S : Sg} {A : List Int} (hs : SightAt w sv S) (ho : SgOK S) (ha : IntSl w av A) (_hr : AllIn A (-1000000) 1000000) (_hl : A.length = 0) (y : Int) :
    Calls Tryz.prog 105 #[sv, av] w fun e w' => e = .returned (.int .i64 (opv S 8 y A)) ∧ Ext w w' := by
  obtain ⟨a, c, rfl, hn⟩ := hs
  have HX := Lib.hid ((Ext.rfl' w).alloc' (.cells #[.int .i64 S.own, .int .i64 S.id, .int .i64 S.inp, .int .i64 S.rnd, .slice a S.near.length c] 100))
  have HN := Lib.hid (hn.ext HX.out)
  have HW := Lib.hid hn
  have HSK := Lib.hid ho
  have HSA := Lib.hid (show SightAt (w.alloc (.cells #[.int .i64 S.own, .int .i64 S.id, .int .i64 S.inp, .int .i64 S.rnd, .slice a S.near.length c] 100)) (.agg #[.int .i64 S.own, .int .i64 S.id, .int .i64 S.inp, .int .i64 S.rnd, .slice a S.near.length c]) S from ⟨_, _, rfl, HN.out⟩)
  have HAV := Lib.hid (show AllIn S.near (-1000000) 1000000 from ho.2.2)
  have hln := ho.2.1
  have HLN := Lib.hid (show S.near.length ≤ 1048576 by omega)
  obtain ⟨_, _, _, _, e, -, hln2, hln3, -⟩ := hn
  cases e
  unfold maxLen at hln3
  obtain ⟨a2, b2, o2, c2, rfl, -, hl2, hm2, -⟩ := ha
  unfold maxLen at hm2
  clear ho
  have HV := Lib.hid (show opv S 8 y A = greatV S by simp [opv])
  have HE := Lib.hid (mostL_near S)
  go_enter Tryz.func105, Tryz.ntmps105
  go_wp2_with fail
  (with_reducible refine (nearOrOwn_any HSA.out HSK.out).mono ?_)
  rintro e w1 ⟨nv, rfl, hx, hv⟩
  have HY := Lib.hid (HX.out.trans' hx)
  have HNV := Lib.hid hv
  clear hx hv
  go_wp2_with fail
  (with_reducible refine (max_any HNV.out (nearL_len S) (nearL_small HSK.out)).mono ?_)
  rintro e _ ⟨rfl, rfl⟩
  rw [HE.out]
  go_wp2_with fail
  go_ret
  exact ⟨by rw [HV.out]; rfl, HY.out⟩

set_option maxHeartbeats 800000 in
set_option maxRecDepth 100000 in
theorem rule9_any {w : World} {sv av : Value} {S : Sg} {A : List Int} (hs : SightAt w sv S) (ho : SgOK S) (ha : IntSl w av A) (_hr : AllIn A (-1000000) 1000000) (_hl : A.length = 0) (y : Int) :
    Calls Tryz.prog 107 #[sv, av] w fun e w' => e = .returned (.int .i64 (opv S 9 y A)) ∧ Ext w w' := by
  obtain ⟨a, c, rfl, hn⟩ := hs
  have HX := Lib.hid ((Ext.rfl' w).alloc' (.cells #[.int .i64 S.own, .int .i64 S.id, .int .i64 S.inp, .int .i64 S.rnd, .slice a S.near.length c] 100))
  have HN := Lib.hid (hn.ext HX.out)
  have HW := Lib.hid hn
  have HSK := Lib.hid ho
  have HSA := Lib.hid (show SightAt (w.alloc (.cells #[.int .i64 S.own, .int .i64 S.id, .int .i64 S.inp, .int .i64 S.rnd, .slice a S.near.length c] 100)) (.agg #[.int .i64 S.own, .int .i64 S.id, .int .i64 S.inp, .int .i64 S.rnd, .slice a S.near.length c]) S from ⟨_, _, rfl, HN.out⟩)
  have HAV := Lib.hid (show AllIn S.near (-1000000) 1000000 from ho.2.2)
  have hln := ho.2.1
  have HLN := Lib.hid (show S.near.length ≤ 1048576 by omega)
  obtain ⟨_, _, _, _, e, -, hln2, hln3, -⟩ := hn
  cases e
  unfold maxLen at hln3
  obtain ⟨a2, b2, o2, c2, rfl, -, hl2, hm2, -⟩ := ha
  unfold maxLen at hm2
  clear ho
  have HV := Lib.hid (show opv S 9 y A = smTo S.near S.near.length by simp [opv])
  go_enter Tryz.func107, Tryz.ntmps107
  go_wp2_with fail
  (with_reducible refine (sumOf_any HN.out (by omega) HAV.out).mono ?_)
  rintro e _ ⟨rfl, rfl⟩
  go_wp2_with fail
  go_ret
  exact ⟨by rw [HV.out]; rfl, HX.out⟩

set_option maxHeartbeats 800000 in
set_option maxRecDepth 100000 in
theorem rule10_any {w : World} {sv av : Value} {S : Sg} {A : List Int} (hs : SightAt w sv S) (ho : SgOK S) (ha : IntSl w av A) (_hr : AllIn A (-1000000) 1000000) (_hl : A.length = 0) (y : Int) :
    Calls Tryz.prog 109 #[sv, av] w fun e w' => e = .returned (.int .i64 (opv S 10 y A)) ∧ Ext w w' := by
  obtain ⟨a, c, rfl, hn⟩ := hs
  have HX := Lib.hid ((Ext.rfl' w).alloc' (.cells #[.int .i64 S.own, .int .i64 S.id, .int .i64 S.inp, .int .i64 S.rnd, .slice a S.near.length c] 100))
  have HN := Lib.hid (hn.ext HX.out)
  have HW := Lib.hid hn
  have HSK := Lib.hid ho
  have HSA := Lib.hid (show SightAt (w.alloc (.cells #[.int .i64 S.own, .int .i64 S.id, .int .i64 S.inp, .int .i64 S.rnd, .slice a S.near.length c] 100)) (.agg #[.int .i64 S.own, .int .i64 S.id, .int .i64 S.inp, .int .i64 S.rnd, .slice a S.near.length c]) S from ⟨_, _, rfl, HN.out⟩)
  have HAV := Lib.hid (show AllIn S.near (-1000000) 1000000 from ho.2.2)
  have hln := ho.2.1
  have HLN := Lib.hid (show S.near.length ≤ 1048576 by omega)
  obtain ⟨_, _, _, _, e, -, hln2, hln3, -⟩ := hn
  cases e
  unfold maxLen at hln3
  obtain ⟨a2, b2, o2, c2, rfl, -, hl2, hm2, -⟩ := ha
  unfold maxLen at hm2
  clear ho
  have HV := Lib.hid (show opv S 10 y A = (fre S.near : Int) by simp [opv])
  go_enter Tryz.func109, Tryz.ntmps109
  go_wp2_with fail
  (with_reducible refine (leastFree_any HN.out HAV.out).mono ?_)
  rintro e _ ⟨rfl, rfl⟩
  go_wp2_with fail
  go_ret
  exact ⟨by rw [HV.out]; rfl, HX.out⟩

set_option maxHeartbeats 800000 in
set_option maxRecDepth 100000 in
theorem rule11_any {w : World} {sv av : Value} {S : Sg} {A : List Int} (hs : SightAt w sv S) (ho : SgOK S) (ha : IntSl w av A) (hr : AllIn A (-1000000) 1000000) (hl : A.length = 1) (y : Int) :
    Calls Tryz.prog 111 #[sv, av] w fun e w' => e = .returned (.int .i64 (opv S 11 y A)) ∧ Ext w w' := by
  obtain ⟨a, c, rfl, hn⟩ := hs
  have HX := Lib.hid ((Ext.rfl' w).alloc' (.cells #[.int .i64 S.own, .int .i64 S.id, .int .i64 S.inp, .int .i64 S.rnd, .slice a S.near.length c] 100))
  have HN := Lib.hid (hn.ext HX.out)
  have HW := Lib.hid hn
  have HSK := Lib.hid ho
  have HSA := Lib.hid (show SightAt (w.alloc (.cells #[.int .i64 S.own, .int .i64 S.id, .int .i64 S.inp, .int .i64 S.rnd, .slice a S.near.length c] 100)) (.agg #[.int .i64 S.own, .int .i64 S.id, .int .i64 S.inp, .int .i64 S.rnd, .slice a S.near.length c]) S from ⟨_, _, rfl, HN.out⟩)
  have HAV := Lib.hid (show AllIn S.near (-1000000) 1000000 from ho.2.2)
  have hln := ho.2.1
  have HLN := Lib.hid (show S.near.length ≤ 1048576 by omega)
  obtain ⟨_, _, _, _, e, -, hln2, hln3, -⟩ := hn
  cases e
  unfold maxLen at hln3
  obtain ⟨a2, b2, o2, c2, rfl, ha2, hl2, hm2, hc2⟩ := ha
  unfold maxLen at hm2
  obtain rfl := ha2 (by omega)
  obtain ⟨_, x0, rfl, _⟩ := hc2 0 (by omega)
  rw [Nat.add_zero] at x0
  have q0 := HX.out.cell' x0
  have r0 := hr 0 (by omega)
  clear hc2 ha2 hr ho x0
  rw [hl] at hl2 ⊢
  have HV := Lib.hid (show opv S 11 y A = (cbTo S.near (gi A 0) (gi A 0) S.near.length : Int) by simp [opv])
  generalize gi A 0 = z0 at *
  go_enter Tryz.func111, Tryz.ntmps111
  go_wp2_with fail
  go_quiet (exact countBetween_quiet HN.out HLN.out _ _)
  go_wp2
  go_ret
  exact ⟨by rw [HV.out]; rfl, HX.out.drewN' _⟩

set_option maxHeartbeats 800000 in
set_option maxRecDepth 100000 in
theorem rule12_any {w : World} {sv av : Value} {S : Sg} {A : List Int} (hs : SightAt w sv S) (ho : SgOK S) (ha : IntSl w av A) (hr : AllIn A (-1000000) 1000000) (hl : A.length = 1) (y : Int) :
    Calls Tryz.prog 113 #[sv, av] w fun e w' => e = .returned (.int .i64 (opv S 12 y A)) ∧ Ext w w' := by
  obtain ⟨a, c, rfl, hn⟩ := hs
  have HX := Lib.hid ((Ext.rfl' w).alloc' (.cells #[.int .i64 S.own, .int .i64 S.id, .int .i64 S.inp, .int .i64 S.rnd, .slice a S.near.length c] 100))
  have HN := Lib.hid (hn.ext HX.out)
  have HW := Lib.hid hn
  have HSK := Lib.hid ho
  have HSA := Lib.hid (show SightAt (w.alloc (.cells #[.int .i64 S.own, .int .i64 S.id, .int .i64 S.inp, .int .i64 S.rnd, .slice a S.near.length c] 100)) (.agg #[.int .i64 S.own, .int .i64 S.id, .int .i64 S.inp, .int .i64 S.rnd, .slice a S.near.length c]) S from ⟨_, _, rfl, HN.out⟩)
  have HAV := Lib.hid (show AllIn S.near (-1000000) 1000000 from ho.2.2)
  have hln := ho.2.1
  have HLN := Lib.hid (show S.near.length ≤ 1048576 by omega)
  obtain ⟨_, _, _, _, e, -, hln2, hln3, -⟩ := hn
  cases e
  unfold maxLen at hln3
  obtain ⟨a2, b2, o2, c2, rfl, ha2, hl2, hm2, hc2⟩ := ha
  unfold maxLen at hm2
  obtain rfl := ha2 (by omega)
  obtain ⟨_, x0, rfl, _⟩ := hc2 0 (by omega)
  rw [Nat.add_zero] at x0
  have q0 := HX.out.cell' x0
  have r0 := hr 0 (by omega)
  clear hc2 ha2 hr ho x0
  rw [hl] at hl2 ⊢
  have HV := Lib.hid (show opv S 12 y A = (cbTo S.near (-1000000) (gi A 0 - 1) S.near.length : Int) by simp [opv])
  generalize gi A 0 = z0 at *
  go_enter Tryz.func113, Tryz.ntmps113
  go_wp2_with fail
  go_quiet (exact countBetween_quiet HN.out HLN.out _ _)
  go_wp2
  go_ret
  exact ⟨by rw [HV.out]; rfl, HX.out.drewN' _⟩

set_option maxHeartbeats 800000 in
set_option maxRecDepth 100000 in
theorem rule13_any {w : World} {sv av : Value} {S : Sg} {A : List Int} (hs : SightAt w sv S) (ho : SgOK S) (ha : IntSl w av A) (hr : AllIn A (-1000000) 1000000) (hl : A.length = 2) (y : Int) :
    Calls Tryz.prog 114 #[sv, av] w fun e w' => e = .returned (.int .i64 (opv S 13 y A)) ∧ Ext w w' := by
  obtain ⟨a, c, rfl, hn⟩ := hs
  have HX := Lib.hid ((Ext.rfl' w).alloc' (.cells #[.int .i64 S.own, .int .i64 S.id, .int .i64 S.inp, .int .i64 S.rnd, .slice a S.near.length c] 100))
  have HN := Lib.hid (hn.ext HX.out)
  have HW := Lib.hid hn
  have HSK := Lib.hid ho
  have HSA := Lib.hid (show SightAt (w.alloc (.cells #[.int .i64 S.own, .int .i64 S.id, .int .i64 S.inp, .int .i64 S.rnd, .slice a S.near.length c] 100)) (.agg #[.int .i64 S.own, .int .i64 S.id, .int .i64 S.inp, .int .i64 S.rnd, .slice a S.near.length c]) S from ⟨_, _, rfl, HN.out⟩)
  have HAV := Lib.hid (show AllIn S.near (-1000000) 1000000 from ho.2.2)
  have hln := ho.2.1
  have HLN := Lib.hid (show S.near.length ≤ 1048576 by omega)
  obtain ⟨_, _, _, _, e, -, hln2, hln3, -⟩ := hn
  cases e
  unfold maxLen at hln3
  obtain ⟨a2, b2, o2, c2, rfl, ha2, hl2, hm2, hc2⟩ := ha
  unfold maxLen at hm2
  obtain rfl := ha2 (by omega)
  obtain ⟨_, x0, rfl, _⟩ := hc2 0 (by omega)
  obtain ⟨_, x1, rfl, _⟩ := hc2 1 (by omega)
  rw [Nat.add_zero] at x0
  have q0 := HX.out.cell' x0
  have r0 := hr 0 (by omega)
  have q1 := HX.out.cell' x1
  have r1 := hr 1 (by omega)
  clear hc2 ha2 hr ho x0 x1
  rw [hl] at hl2 ⊢
  have HV := Lib.hid (show opv S 13 y A = gi A 0 + gi A 1 by simp [opv])
  generalize gi A 0 = z0 at *
  generalize gi A 1 = z1 at *
  go_enter Tryz.func114, Tryz.ntmps114
  go_wp2
  go_quiet (fail)
  go_wp2
  go_ret
  exact ⟨by rw [HV.out]; rfl, HX.out.drewN' _⟩

set_option maxHeartbeats 800000 in
set_option maxRecDepth 100000 in
theorem rule14_any {w : World} {sv av : Value} {S : Sg} {A : List Int} (hs : SightAt w sv S) (ho : SgOK S) (ha : IntSl w av A) (hr : AllIn A (-1000000) 1000000) (hl : A.length = 2) (y : Int) :
    Calls Tryz.prog 115 #[sv, av] w fun e w' => e = .returned (.int .i64 (opv S 14 y A)) ∧ Ext w w' := by
  obtain ⟨a, c, rfl, hn⟩ := hs
  have HX := Lib.hid ((Ext.rfl' w).alloc' (.cells #[.int .i64 S.own, .int .i64 S.id, .int .i64 S.inp, .int .i64 S.rnd, .slice a S.near.length c] 100))
  have HN := Lib.hid (hn.ext HX.out)
  have HW := Lib.hid hn
  have HSK := Lib.hid ho
  have HSA := Lib.hid (show SightAt (w.alloc (.cells #[.int .i64 S.own, .int .i64 S.id, .int .i64 S.inp, .int .i64 S.rnd, .slice a S.near.length c] 100)) (.agg #[.int .i64 S.own, .int .i64 S.id, .int .i64 S.inp, .int .i64 S.rnd, .slice a S.near.length c]) S from ⟨_, _, rfl, HN.out⟩)
  have HAV := Lib.hid (show AllIn S.near (-1000000) 1000000 from ho.2.2)
  have hln := ho.2.1
  have HLN := Lib.hid (show S.near.length ≤ 1048576 by omega)
  obtain ⟨_, _, _, _, e, -, hln2, hln3, -⟩ := hn
  cases e
  unfold maxLen at hln3
  obtain ⟨a2, b2, o2, c2, rfl, ha2, hl2, hm2, hc2⟩ := ha
  unfold maxLen at hm2
  obtain rfl := ha2 (by omega)
  obtain ⟨_, x0, rfl, _⟩ := hc2 0 (by omega)
  obtain ⟨_, x1, rfl, _⟩ := hc2 1 (by omega)
  rw [Nat.add_zero] at x0
  have q0 := HX.out.cell' x0
  have r0 := hr 0 (by omega)
  have q1 := HX.out.cell' x1
  have r1 := hr 1 (by omega)
  clear hc2 ha2 hr ho x0 x1
  rw [hl] at hl2 ⊢
  have HV := Lib.hid (show opv S 14 y A = gi A 0 - gi A 1 by simp [opv])
  generalize gi A 0 = z0 at *
  generalize gi A 1 = z1 at *
  go_enter Tryz.func115, Tryz.ntmps115
  go_wp2
  go_quiet (fail)
  go_wp2
  go_ret
  exact ⟨by rw [HV.out]; rfl, HX.out.drewN' _⟩

set_option maxHeartbeats 800000 in
set_option maxRecDepth 100000 in
theorem rule15_any {w : World} {sv av : Value} {S : Sg} {A : List Int} (hs : SightAt w sv S) (ho : SgOK S) (ha : IntSl w av A) (hr : AllIn A (-1000000) 1000000) (hl : A.length = 2) (y : Int) :
    Calls Tryz.prog 116 #[sv, av] w fun e w' => e = .returned (.int .i64 (opv S 15 y A)) ∧ Ext w w' := by
  obtain ⟨a, c, rfl, hn⟩ := hs
  have HX := Lib.hid ((Ext.rfl' w).alloc' (.cells #[.int .i64 S.own, .int .i64 S.id, .int .i64 S.inp, .int .i64 S.rnd, .slice a S.near.length c] 100))
  have HN := Lib.hid (hn.ext HX.out)
  have HW := Lib.hid hn
  have HSK := Lib.hid ho
  have HSA := Lib.hid (show SightAt (w.alloc (.cells #[.int .i64 S.own, .int .i64 S.id, .int .i64 S.inp, .int .i64 S.rnd, .slice a S.near.length c] 100)) (.agg #[.int .i64 S.own, .int .i64 S.id, .int .i64 S.inp, .int .i64 S.rnd, .slice a S.near.length c]) S from ⟨_, _, rfl, HN.out⟩)
  have HAV := Lib.hid (show AllIn S.near (-1000000) 1000000 from ho.2.2)
  have hln := ho.2.1
  have HLN := Lib.hid (show S.near.length ≤ 1048576 by omega)
  obtain ⟨_, _, _, _, e, -, hln2, hln3, -⟩ := hn
  cases e
  unfold maxLen at hln3
  obtain ⟨a2, b2, o2, c2, rfl, ha2, hl2, hm2, hc2⟩ := ha
  unfold maxLen at hm2
  obtain rfl := ha2 (by omega)
  obtain ⟨_, x0, rfl, _⟩ := hc2 0 (by omega)
  obtain ⟨_, x1, rfl, _⟩ := hc2 1 (by omega)
  rw [Nat.add_zero] at x0
  have q0 := HX.out.cell' x0
  have r0 := hr 0 (by omega)
  have q1 := HX.out.cell' x1
  have r1 := hr 1 (by omega)
  clear hc2 ha2 hr ho x0 x1
  rw [hl] at hl2 ⊢
  have HV := Lib.hid (show opv S 15 y A = min (gi A 0) (gi A 1) by simp [opv])
  generalize gi A 0 = z0 at *
  generalize gi A 1 = z1 at *
  go_enter Tryz.func116, Tryz.ntmps116
  go_wp2
  go_quiet (fail)
  go_wp2
  go_ret
  exact ⟨by rw [HV.out]; rfl, HX.out.drewN' _⟩

set_option maxHeartbeats 800000 in
set_option maxRecDepth 100000 in
theorem rule16_any {w : World} {sv av : Value} {S : Sg} {A : List Int} (hs : SightAt w sv S) (ho : SgOK S) (ha : IntSl w av A) (hr : AllIn A (-1000000) 1000000) (hl : A.length = 2) (y : Int) :
    Calls Tryz.prog 117 #[sv, av] w fun e w' => e = .returned (.int .i64 (opv S 16 y A)) ∧ Ext w w' := by
  obtain ⟨a, c, rfl, hn⟩ := hs
  have HX := Lib.hid ((Ext.rfl' w).alloc' (.cells #[.int .i64 S.own, .int .i64 S.id, .int .i64 S.inp, .int .i64 S.rnd, .slice a S.near.length c] 100))
  have HN := Lib.hid (hn.ext HX.out)
  have HW := Lib.hid hn
  have HSK := Lib.hid ho
  have HSA := Lib.hid (show SightAt (w.alloc (.cells #[.int .i64 S.own, .int .i64 S.id, .int .i64 S.inp, .int .i64 S.rnd, .slice a S.near.length c] 100)) (.agg #[.int .i64 S.own, .int .i64 S.id, .int .i64 S.inp, .int .i64 S.rnd, .slice a S.near.length c]) S from ⟨_, _, rfl, HN.out⟩)
  have HAV := Lib.hid (show AllIn S.near (-1000000) 1000000 from ho.2.2)
  have hln := ho.2.1
  have HLN := Lib.hid (show S.near.length ≤ 1048576 by omega)
  obtain ⟨_, _, _, _, e, -, hln2, hln3, -⟩ := hn
  cases e
  unfold maxLen at hln3
  obtain ⟨a2, b2, o2, c2, rfl, ha2, hl2, hm2, hc2⟩ := ha
  unfold maxLen at hm2
  obtain rfl := ha2 (by omega)
  obtain ⟨_, x0, rfl, _⟩ := hc2 0 (by omega)
  obtain ⟨_, x1, rfl, _⟩ := hc2 1 (by omega)
  rw [Nat.add_zero] at x0
  have q0 := HX.out.cell' x0
  have r0 := hr 0 (by omega)
  have q1 := HX.out.cell' x1
  have r1 := hr 1 (by omega)
  clear hc2 ha2 hr ho x0 x1
  rw [hl] at hl2 ⊢
  have HV := Lib.hid (show opv S 16 y A = max (gi A 0) (gi A 1) by simp [opv])
  generalize gi A 0 = z0 at *
  generalize gi A 1 = z1 at *
  go_enter Tryz.func117, Tryz.ntmps117
  go_wp2
  go_quiet (fail)
  go_wp2
  go_ret
  exact ⟨by rw [HV.out]; rfl, HX.out.drewN' _⟩

set_option maxHeartbeats 800000 in
set_option maxRecDepth 100000 in
theorem rule17_any {w : World} {sv av : Value} {S : Sg} {A : List Int} (hs : SightAt w sv S) (ho : SgOK S) (ha : IntSl w av A) (hr : AllIn A (-1000000) 1000000) (hl : A.length = 2) (y : Int) :
    Calls Tryz.prog 118 #[sv, av] w fun e w' => e = .returned (.int .i64 (opv S 17 y A)) ∧ Ext w w' := by
  obtain ⟨a, c, rfl, hn⟩ := hs
  have HX := Lib.hid ((Ext.rfl' w).alloc' (.cells #[.int .i64 S.own, .int .i64 S.id, .int .i64 S.inp, .int .i64 S.rnd, .slice a S.near.length c] 100))
  have HN := Lib.hid (hn.ext HX.out)
  have HW := Lib.hid hn
  have HSK := Lib.hid ho
  have HSA := Lib.hid (show SightAt (w.alloc (.cells #[.int .i64 S.own, .int .i64 S.id, .int .i64 S.inp, .int .i64 S.rnd, .slice a S.near.length c] 100)) (.agg #[.int .i64 S.own, .int .i64 S.id, .int .i64 S.inp, .int .i64 S.rnd, .slice a S.near.length c]) S from ⟨_, _, rfl, HN.out⟩)
  have HAV := Lib.hid (show AllIn S.near (-1000000) 1000000 from ho.2.2)
  have hln := ho.2.1
  have HLN := Lib.hid (show S.near.length ≤ 1048576 by omega)
  obtain ⟨_, _, _, _, e, -, hln2, hln3, -⟩ := hn
  cases e
  unfold maxLen at hln3
  obtain ⟨a2, b2, o2, c2, rfl, ha2, hl2, hm2, hc2⟩ := ha
  unfold maxLen at hm2
  obtain rfl := ha2 (by omega)
  obtain ⟨_, x0, rfl, _⟩ := hc2 0 (by omega)
  obtain ⟨_, x1, rfl, _⟩ := hc2 1 (by omega)
  rw [Nat.add_zero] at x0
  have q0 := HX.out.cell' x0
  have r0 := hr 0 (by omega)
  have q1 := HX.out.cell' x1
  have r1 := hr 1 (by omega)
  clear hc2 ha2 hr ho x0 x1
  rw [hl] at hl2 ⊢
  have HV := Lib.hid (show opv S 17 y A = tru (decide (gi A 0 < gi A 1)) by simp [opv])
  generalize gi A 0 = z0 at *
  generalize gi A 1 = z1 at *
  go_enter Tryz.func118, Tryz.ntmps118
  go_wp2_with fail
  go_quiet (exact truthOf_quiet _)
  go_wp2
  go_ret
  exact ⟨by rw [HV.out]; rfl, HX.out.drewN' _⟩

set_option maxHeartbeats 800000 in
set_option maxRecDepth 100000 in
theorem rule18_any {w : World} {sv av : Value} {S : Sg} {A : List Int} (hs : SightAt w sv S) (ho : SgOK S) (ha : IntSl w av A) (hr : AllIn A (-1000000) 1000000) (hl : A.length = 2) (y : Int) :
    Calls Tryz.prog 120 #[sv, av] w fun e w' => e = .returned (.int .i64 (opv S 18 y A)) ∧ Ext w w' := by
  obtain ⟨a, c, rfl, hn⟩ := hs
  have HX := Lib.hid ((Ext.rfl' w).alloc' (.cells #[.int .i64 S.own, .int .i64 S.id, .int .i64 S.inp, .int .i64 S.rnd, .slice a S.near.length c] 100))
  have HN := Lib.hid (hn.ext HX.out)
  have HW := Lib.hid hn
  have HSK := Lib.hid ho
  have HSA := Lib.hid (show SightAt (w.alloc (.cells #[.int .i64 S.own, .int .i64 S.id, .int .i64 S.inp, .int .i64 S.rnd, .slice a S.near.length c] 100)) (.agg #[.int .i64 S.own, .int .i64 S.id, .int .i64 S.inp, .int .i64 S.rnd, .slice a S.near.length c]) S from ⟨_, _, rfl, HN.out⟩)
  have HAV := Lib.hid (show AllIn S.near (-1000000) 1000000 from ho.2.2)
  have hln := ho.2.1
  have HLN := Lib.hid (show S.near.length ≤ 1048576 by omega)
  obtain ⟨_, _, _, _, e, -, hln2, hln3, -⟩ := hn
  cases e
  unfold maxLen at hln3
  obtain ⟨a2, b2, o2, c2, rfl, ha2, hl2, hm2, hc2⟩ := ha
  unfold maxLen at hm2
  obtain rfl := ha2 (by omega)
  obtain ⟨_, x0, rfl, _⟩ := hc2 0 (by omega)
  obtain ⟨_, x1, rfl, _⟩ := hc2 1 (by omega)
  rw [Nat.add_zero] at x0
  have q0 := HX.out.cell' x0
  have r0 := hr 0 (by omega)
  have q1 := HX.out.cell' x1
  have r1 := hr 1 (by omega)
  clear hc2 ha2 hr ho x0 x1
  rw [hl] at hl2 ⊢
  have HV := Lib.hid (show opv S 18 y A = tru (decide (gi A 0 = gi A 1)) by simp [opv])
  generalize gi A 0 = z0 at *
  generalize gi A 1 = z1 at *
  go_enter Tryz.func120, Tryz.ntmps120
  go_wp2_with fail
  go_quiet (exact truthOf_quiet _)
  go_wp2
  go_ret
  exact ⟨by rw [HV.out]; rfl, HX.out.drewN' _⟩

set_option maxHeartbeats 800000 in
set_option maxRecDepth 100000 in
theorem rule19_any {w : World} {sv av : Value} {S : Sg} {A : List Int} (hs : SightAt w sv S) (ho : SgOK S) (ha : IntSl w av A) (hr : AllIn A (-1000000) 1000000) (hl : A.length = 3) (y : Int) :
    Calls Tryz.prog 121 #[sv, av] w fun e w' => e = .returned (.int .i64 (opv S 19 y A)) ∧ Ext w w' := by
  obtain ⟨a, c, rfl, hn⟩ := hs
  have HX := Lib.hid ((Ext.rfl' w).alloc' (.cells #[.int .i64 S.own, .int .i64 S.id, .int .i64 S.inp, .int .i64 S.rnd, .slice a S.near.length c] 100))
  have HN := Lib.hid (hn.ext HX.out)
  have HW := Lib.hid hn
  have HSK := Lib.hid ho
  have HSA := Lib.hid (show SightAt (w.alloc (.cells #[.int .i64 S.own, .int .i64 S.id, .int .i64 S.inp, .int .i64 S.rnd, .slice a S.near.length c] 100)) (.agg #[.int .i64 S.own, .int .i64 S.id, .int .i64 S.inp, .int .i64 S.rnd, .slice a S.near.length c]) S from ⟨_, _, rfl, HN.out⟩)
  have HAV := Lib.hid (show AllIn S.near (-1000000) 1000000 from ho.2.2)
  have hln := ho.2.1
  have HLN := Lib.hid (show S.near.length ≤ 1048576 by omega)
  obtain ⟨_, _, _, _, e, -, hln2, hln3, -⟩ := hn
  cases e
  unfold maxLen at hln3
  obtain ⟨a2, b2, o2, c2, rfl, ha2, hl2, hm2, hc2⟩ := ha
  unfold maxLen at hm2
  obtain rfl := ha2 (by omega)
  obtain ⟨_, x0, rfl, _⟩ := hc2 0 (by omega)
  obtain ⟨_, x1, rfl, _⟩ := hc2 1 (by omega)
  obtain ⟨_, x2, rfl, _⟩ := hc2 2 (by omega)
  rw [Nat.add_zero] at x0
  have q0 := HX.out.cell' x0
  have r0 := hr 0 (by omega)
  have q1 := HX.out.cell' x1
  have r1 := hr 1 (by omega)
  have q2 := HX.out.cell' x2
  have r2 := hr 2 (by omega)
  clear hc2 ha2 hr ho x0 x1 x2
  rw [hl] at hl2 ⊢
  have HV := Lib.hid (show opv S 19 y A = if 0 < gi A 0 then gi A 1 else gi A 2 by simp [opv])
  generalize gi A 0 = z0 at *
  generalize gi A 1 = z1 at *
  generalize gi A 2 = z2 at *
  by_cases hz : 0 < z0
  · have HZ := Lib.hid (show (if 0 < z0 then z1 else z2) = z1 from if_pos hz)
    go_enter Tryz.func121, Tryz.ntmps121
    go_wp2
    go_ret
    exact ⟨by rw [HV.out, HZ.out]; rfl, HX.out⟩
  · have HZ := Lib.hid (show (if 0 < z0 then z1 else z2) = z2 from if_neg hz)
    go_enter Tryz.func121, Tryz.ntmps121
    go_wp2
    go_ret
    exact ⟨by rw [HV.out, HZ.out]; rfl, HX.out⟩

end Go.Proofs.YtbddjejpacaglaaGreatDoor
