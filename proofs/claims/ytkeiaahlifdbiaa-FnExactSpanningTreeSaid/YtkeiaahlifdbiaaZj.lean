/- IsConnected, DiameterOf, CentresOf. -/
import Derived.Test.YtkeiaahlifdbiaaZi
namespace Go.Proofs.Ytkeiaahlifdbiaa
open Go.RowKit

/-- The greatest distance of each node. -/
def ecc (N : Net) : List Int := tab (fun v => mostL (dst N (v : Int))) N.ends.length
theorem most_dst {N : Net} (hG : GoodW N) {v : Nat} (hv : v < N.ends.length) : 0 ≤ mostL (dst N v) ∧ mostL (dst N v) < (N.ends.length : Int) ∧ most0 (dst N v) (dst N v).length = mostL (dst N v) := by
  have hx : 0 ≤ (v : Int) ∧ (v : Int) < N.ends.length := by omega
  have hs := dst_small hG hx
  have hz := dst_zero hG.leads hv
  have h1 := mostL_ge (l := dst N v) (i := v) (by omega)
  obtain ⟨i, hi, he⟩ := mostL_at (l := dst N v) (by omega)
  have := hs.2 i (by omega)
  exact ⟨by omega, by omega, most0_mostL (i := v) (by omega) (by omega)⟩
theorem ecc_in {N : Net} (hG : GoodW N) : ∀ i, i < (ecc N).length → inI64 (gi (ecc N) i) := fun i hi => by
  unfold ecc at hi ⊢
  rw [tab_len] at hi
  rw [gi_tab hi]
  have := most_dst hG hi
  have := hG.most
  unfold inI64
  omega
theorem ecc_len (N : Net) : (ecc N).length = N.ends.length := tab_len _ _
theorem gi_ecc {N : Net} {k : Nat} (h : k < N.ends.length) : gi (ecc N) k = mostL (dst N (k : Int)) := gi_tab h
theorem ecc_range {N : Net} (hG : GoodW N) {k : Nat} (hk : k < N.ends.length) : 0 ≤ gi (ecc N) k ∧ gi (ecc N) k < (N.ends.length : Int) := by
  rw [gi_ecc hk]
  have := most_dst hG hk
  omega
noncomputable def diamAns (N : Net) : Int := if dec (GC N) = true then mostL (ecc N) else 0
theorem diam_t {N : Net} (h : GC N) : diamAns N = mostL (ecc N) := by unfold diamAns; rw [if_pos (dec_true h)]
theorem diam_f {N : Net} (h : ¬ GC N) : diamAns N = 0 := by unfold diamAns; rw [if_neg (by rw [dec_false h]; simp)]
theorem ret_ib {x y : Int} {b c : Bool} (h : x = y) (k : b = c) : Ending.returned (.tuple #[.int .i64 x, .bool b]) = .returned (.tuple #[.int .i64 y, .bool c]) := by rw [h, k]
theorem ret_bb {x y : Bool} {b c : Bool} (h : x = y) (k : b = c) : Ending.returned (.tuple #[.bool x, .bool b]) = .returned (.tuple #[.bool y, .bool c]) := by rw [h, k]

set_option maxHeartbeats 6400000 in
set_option maxRecDepth 100000 in
theorem greatest_any {w : World} {vn : Value} {N : Net} (h : NetAt w vn N) :
    Calls Try.prog 108 #[vn] w fun e w' => ∃ v' bs, e = .returned (.tuple #[v', .bool (dec (GC N))]) ∧ Ext w w' ∧ OwnI w' v' (ansOf (GC N) (ecc N)) bs ∧ Fresh w bs := by
  have HA := Lib.hid h
  obtain ⟨v0, v1, v2, rfl, hEa, -, -⟩ := h
  obtain ⟨ea, eb, eo, ec, rfl, hea, hel, hem, hec⟩ := hEa
  unfold maxLen at hem
  have HEA := Lib.hid hea
  have HEC := Lib.hid hec
  clear hea hec
  obtain ⟨W1, hW1⟩ : ∃ W1, W1 = w.alloc (.cells #[.slice ea N.ends.length ec, v1, v2] 29) := ⟨_, rfl⟩
  have K0 := Lib.hid (show Ext w W1 by rw [hW1]; exact boxed_ext _ _ _ _ _)
  have R0 := Lib.hid (show W1.rowIs w.heap.size 29 3 (tri (.slice ea N.ends.length ec) v1 v2) by rw [hW1]; exact boxed_row _ _ _ _ _)
  obtain ⟨p0, p1, p2, -, -, -⟩ := row3_facts R0.out
  rw [hW1] at p0 p1 p2
  by_cases hg0 : GC N
  case neg =>
    have G0 := Lib.hid (dec_false hg0)
    have D := Lib.hid (dec_false (p := GC N) fun h => hg0 (h))
    have NB := Lib.hid (show ¬ (GC N) from fun h => hg0 (h))
    clear hg0
    go_enter Try.func108, Try.ntmps108
    go_wp2_with fail
    rw [← hW1]
    clear hW1 p0 p1 p2
    (with_reducible refine (isConnected_any (HA.out.ext K0.out)).mono ?_)
    rintro e w1g ⟨rfl, hxg⟩
    rw [G0.out]
    have K1 := Lib.hid (K0.out.trans' hxg)
    have R1 := Lib.hid (row_ext R0.out hxg)
    clear hxg
    obtain ⟨p0, p1, p2, -, -, -⟩ := row3_facts R1.out
    go_wp2
    go_ret2
    exact ⟨_, [], ret_mb D.out.symm, K1.out, by rw [ansOf_f NB.out]; exact own_nilI _, Fresh.nil _⟩
  have G0 := Lib.hid (dec_true hg0)
  have H0 := Lib.hid hg0
  clear hg0
  have HB := Lib.hid (show GC N from H0.out)
  have D := Lib.hid (dec_true HB.out)
  have HG := Lib.hid (good_w H0.out.1)
  have hA1 := HG.out.one
  have hA40 := HG.out.most
  have hmk := run_make_row' (P := Try.prog) 23 3 (.int .i64 0) 8 Try.underlying23 Try.info3 rfl .i64 .i64 N.ends.length (by omega) (by omega)
  go_enter Try.func108, Try.ntmps108
  go_wp2_with fail
  rw [← hW1]
  clear hW1 p0 p1 p2
  (with_reducible refine (isConnected_any (HA.out.ext K0.out)).mono ?_)
  rintro e w1g ⟨rfl, hxg⟩
  rw [G0.out]
  have K1 := Lib.hid (K0.out.trans' hxg)
  have R1 := Lib.hid (row_ext R0.out hxg)
  clear hxg
  obtain ⟨p0, p1, p2, -, -, -⟩ := row3_facts R1.out
  go_wp2_with fail
  clear p0 p1 p2 hmk
  obtain ⟨mb, hmb⟩ : ∃ mb, mb = w1g.heap.size := ⟨_, rfl⟩
  have HMB := Lib.hid hmb
  have HGE := Lib.hid (show w1g.heap.size ≤ mb by omega)
  rw [← hmb]
  clear hmb
  go_loopg [15] N.ends.length (fun g i wr => ∃ k : Nat, k ≤ N.ends.length ∧ g = N.ends.length - k ∧ i = .int .i64 k ∧ Hid (Ext w1g wr ∧ wr.rowIs mb 3 N.ends.length (tabRow (fun v => mostL (dst N (v : Int))) k)))
  case atStart => exact ⟨0, Nat.zero_le _, rfl, rfl, (Ext.rfl' _).alloc' _, by rw [HMB.out]; exact (World.rowIs_made _ _ _ _).congr fun i _ => by simp [tabRow]⟩
  case round =>
    obtain ⟨k, hk, rfl, rfl, Hr⟩ := hrel
    have X0 := Lib.hid Hr.out.1
    have T0 := Lib.hid Hr.out.2
    have E0 := Lib.hid (K1.out.trans' Hr.out.1)
    clear Hr
    by_cases hlt : k < N.ends.length
    · obtain ⟨p0, p1, p2, -, -, -⟩ := row3_facts (row_ext R1.out X0.out)
      have f1 := T0.out.cell hlt
      have f2 := T0.out.frozen k
      have HL := Lib.hid (dst_small HG.out (x := (k : Int)) (by omega)).1
      have HP := Lib.hid (show 0 < (dst N (k : Int)).length by have := HL.out; omega)
      have HS := Lib.hid (show (dst N (k : Int)).length ≤ 1048576 by have := HL.out; omega)
      go_wp2_with fail
      clear f1 f2 p0 p1 p2
      (with_reducible refine (distancesFrom_any k hlt (HA.out.ext E0.out) HG.out).mono ?_)
      rintro e w0l ⟨ud, bd, rfl, hx0l, hod, hfr⟩
      have OD := Lib.hid hod
      clear hod hfr
      have X1 := Lib.hid (X0.out.trans' hx0l)
      have T1 := Lib.hid (row_ext T0.out hx0l)
      have E1 := Lib.hid (E0.out.trans' hx0l)
      clear hx0l
      obtain ⟨p0, p1, p2, -, -, -⟩ := row3_facts (row_ext R1.out X1.out)
      have f1 := T1.out.cell hlt
      have f2 := T1.out.frozen k
      go_wp2_with fail
      clear f1 f2 p0 p1 p2
      (with_reducible refine (max_any OD.out.read HP.out HS.out).mono ?_)
      rintro e w1l ⟨rfl, hw1l⟩
      have hx1l : Ext w0l w1l := by rw [← hw1l]; exact Ext.rfl' _
      clear hw1l
      have X2 := Lib.hid (X1.out.trans' hx1l)
      have T2 := Lib.hid (row_ext T1.out hx1l)
      have E2 := Lib.hid (E1.out.trans' hx1l)
      clear hx1l
      obtain ⟨p0, p1, p2, -, -, -⟩ := row3_facts (row_ext R1.out X2.out)
      have f1 := T2.out.cell hlt
      have f2 := T2.out.frozen k
      go_wp2
      go_roundg (N.ends.length - (k + 1))
      case measure => omega
      case rel => exact ⟨k + 1, by omega, rfl, by go_num, X2.out.store HGE.out _, tabRow_step T2.out⟩
    · obtain rfl : k = N.ends.length := by omega
      have HR := Lib.hid (tabRow_num T0.out)
      go_wp2
      go_ret2
      exact ⟨_, [mb], ret_mb D.out.symm, E0.out, by rw [ansOf_t HB.out]; exact num_own HR.out (tab_len _ _) (by omega) (ecc_in HG.out), by simp, fun y hy => by
        simp only [List.mem_singleton] at hy
        subst hy
        have := HGE.out; have := K1.out.size; omega⟩

set_option maxHeartbeats 6400000 in
set_option maxRecDepth 100000 in
theorem diameterX_any {w : World} {vn : Value} {N : Net} (h : NetAt w vn N) :
    Calls Try.prog 52 #[vn] w fun e w' => e = .returned (.tuple #[.int .i64 (diamAns N), .bool (dec (GC N))]) ∧ Ext w w' := by
  have HA := Lib.hid h
  obtain ⟨v0, v1, v2, rfl, hEa, -, -⟩ := h
  clear hEa
  obtain ⟨W1, hW1⟩ : ∃ W1, W1 = w.alloc (.cells #[v0, v1, v2] 29) := ⟨_, rfl⟩
  have K0 := Lib.hid (show Ext w W1 by rw [hW1]; exact boxed_ext _ _ _ _ _)
  have R0 := Lib.hid (show W1.rowIs w.heap.size 29 3 (tri v0 v1 v2) by rw [hW1]; exact boxed_row _ _ _ _ _)
  obtain ⟨p0, p1, p2, -, -, -⟩ := row3_facts R0.out
  rw [hW1] at p0 p1 p2
  by_cases hc : GC N
  · have D := Lib.hid (dec_true hc)
    have E := Lib.hid (diam_t hc)
    have HL := Lib.hid (show 0 < (ecc N).length ∧ (ecc N).length ≤ 1048576 by rw [ecc_len]; have := (good_w hc.1).one; have := (good_w hc.1).most; omega)
    have AN := Lib.hid (ansOf_t (l := ecc N) hc)
    clear hc
    go_enter Try.func52, Try.ntmps52
    go_wp2_with fail
    rw [← hW1]
    clear hW1 p0 p1 p2
    (with_reducible refine (greatest_any (HA.out.ext K0.out)).mono ?_)
    rintro e wz ⟨ud, bd, rfl, hxz, hoz, hfz⟩
    rw [AN.out] at hoz
    rw [D.out]
    have KZ := Lib.hid (K0.out.trans' hxz)
    have OZ := Lib.hid hoz
    clear hxz hoz hfz
    go_wp2_with (first | (go_at_call 101; (with_reducible refine (max_any OZ.out.read HL.out.1 HL.out.2).mono ?_); rintro e _ ⟨rfl, rfl⟩) | fail)
    go_ret2
    exact ⟨ret_ib E.out.symm D.out.symm, KZ.out⟩
  · have D := Lib.hid (dec_false hc)
    have E := Lib.hid (diam_f hc)
    clear hc
    go_enter Try.func52, Try.ntmps52
    go_wp2_with fail
    rw [← hW1]
    clear hW1 p0 p1 p2
    (with_reducible refine (greatest_any (HA.out.ext K0.out)).mono ?_)
    rintro e wz ⟨ud, bd, rfl, hxz, hoz, hfz⟩
    rw [D.out]
    have KZ := Lib.hid (K0.out.trans' hxz)
    clear hxz hoz hfz
    go_wp2
    go_ret2
    exact ⟨ret_ib E.out.symm D.out.symm, KZ.out⟩

set_option maxHeartbeats 6400000 in
set_option maxRecDepth 100000 in
theorem meDiameter_any {w : World} {vn : Value} {N : Net} (h : NetAt w vn N) (hG : GoodW N) :
    Calls Try.prog 107 #[vn] w fun e w' => e = .returned (.int .i64 (mostL (ecc N))) ∧ Ext w w' := by
  have HA := Lib.hid h
  have HG := Lib.hid hG
  clear hG
  have hA1 := HG.out.one
  have hA40 := HG.out.most
  obtain ⟨v0, v1, v2, rfl, hEa, -, -⟩ := h
  obtain ⟨ea, eb, eo, ec, rfl, hea, hel, hem, hec⟩ := hEa
  unfold maxLen at hem
  clear hea hec
  obtain ⟨W1, hW1⟩ : ∃ W1, W1 = w.alloc (.cells #[.slice ea N.ends.length ec, v1, v2] 29) := ⟨_, rfl⟩
  have K0 := Lib.hid (show Ext w W1 by rw [hW1]; exact boxed_ext _ _ _ _ _)
  have R0 := Lib.hid (show W1.rowIs w.heap.size 29 3 (tri (.slice ea N.ends.length ec) v1 v2) by rw [hW1]; exact boxed_row _ _ _ _ _)
  obtain ⟨p0, p1, p2, -, -, -⟩ := row3_facts R0.out
  rw [hW1] at p0 p1 p2
  go_enter Try.func107, Try.ntmps107
  go_wp2_with fail
  rw [← hW1]
  clear hW1 p0 p1 p2
  go_loopg [3, 8] N.ends.length (fun g s i wr => ∃ k : Nat, k ≤ N.ends.length ∧ g = N.ends.length - k ∧ i = .int .i64 k ∧ s = .int .i64 (most0 (ecc N) k) ∧ Hid (Ext W1 wr))
  case atStart => exact ⟨0, Nat.zero_le _, rfl, rfl, rfl, Ext.rfl' _⟩
  case round =>
    obtain ⟨k, hk, rfl, rfl, rfl, Hr⟩ := hrel
    have X0 := Hr
    have E0 := Lib.hid (K0.out.trans' Hr.out)
    clear Hr
    by_cases hlt : k < N.ends.length
    · obtain ⟨p0, p1, p2, -, -, -⟩ := row3_facts (row_ext R0.out X0.out)
      have HL := Lib.hid (dst_small HG.out (x := (k : Int)) (by omega)).1
      have HM := Lib.hid (show most0 (ecc N) (k + 1) = moreI (most0 (ecc N) k) (most0 (dst N (k : Int)) (dst N (k : Int)).length) by rw [(most_dst HG.out hlt).2.2, ← gi_ecc hlt]; rfl)
      go_wp2_with fail
      clear p0 p1 p2
      (with_reducible refine (meFrom_any k hlt (HA.out.ext E0.out) HG.out).mono ?_)
      rintro e w0l ⟨ud, bd, rfl, hx0l, hod, hfr⟩
      have OD := Lib.hid hod
      have X1 := Lib.hid (X0.out.trans' hx0l)
      clear hod hfr hx0l
      go_wp2_with (first | (go_at_call 100; (with_reducible refine (meMost_any OD.out.read (by have := HL.out; omega)).mono ?_); rintro e _ ⟨rfl, rfl⟩) | (go_at_call 140; (with_reducible refine (l1Most_any _ _ _).mono ?_); rintro e _ ⟨rfl, rfl⟩) | fail)
      go_roundg (N.ends.length - (k + 1))
      case measure => omega
      case rel => exact ⟨k + 1, by omega, rfl, by go_num, by rw [HM.out], X1⟩
    · obtain rfl : k = N.ends.length := by omega
      have HF := Lib.hid (show most0 (ecc N) N.ends.length = mostL (ecc N) by
        have := most0_mostL (l := ecc N) (i := 0) (by rw [ecc_len]; omega) (ecc_range HG.out (by omega)).1
        rwa [ecc_len] at this)
      go_wp2
      go_ret
      exact ⟨by rw [HF.out]; rfl, E0.out⟩
set_option maxHeartbeats 6400000 in
set_option maxRecDepth 100000 in
theorem specDiameter_any {w : World} {vn : Value} {N : Net} (h : NetAt w vn N) :
    Calls Try.prog 51 #[vn] w fun e w' => e = .returned (.tuple #[.int .i64 (diamAns N), .bool (dec (GC N))]) ∧ Ext w w' := by
  have HA := Lib.hid h
  obtain ⟨v0, v1, v2, rfl, hEa, -, -⟩ := h
  clear hEa
  obtain ⟨W1, hW1⟩ : ∃ W1, W1 = w.alloc (.cells #[v0, v1, v2] 29) := ⟨_, rfl⟩
  have K0 := Lib.hid (show Ext w W1 by rw [hW1]; exact boxed_ext _ _ _ _ _)
  have R0 := Lib.hid (show W1.rowIs w.heap.size 29 3 (tri (v0) v1 v2) by rw [hW1]; exact boxed_row _ _ _ _ _)
  obtain ⟨p0, p1, p2, -, -, -⟩ := row3_facts R0.out
  rw [hW1] at p0 p1 p2
  by_cases hg0 : Good N
  case neg =>
    have G0 := Lib.hid (dec_false hg0)
    have D := Lib.hid (dec_false (p := GC N) fun h => hg0 (h.1))
    have NB := Lib.hid (show ¬ (GC N) from fun h => hg0 (h.1))
    clear hg0
    go_enter Try.func51, Try.ntmps51
    go_wp2_with fail
    rw [← hW1]
    clear hW1 p0 p1 p2
    (with_reducible refine (neGood_any (HA.out.ext K0.out)).mono ?_)
    rintro e w1g ⟨rfl, hxg⟩
    rw [G0.out]
    have K1 := Lib.hid (K0.out.trans' hxg)
    have R1 := Lib.hid (row_ext R0.out hxg)
    clear hxg
    obtain ⟨p0, p1, p2, -, -, -⟩ := row3_facts R1.out
    go_wp2
    go_ret2
    exact ⟨ret_ib (diam_f NB.out).symm D.out.symm, K1.out⟩
  have G0 := Lib.hid (dec_true hg0)
  have H0 := Lib.hid hg0
  clear hg0
  by_cases hg1 : Conn N
  case neg =>
    have G1 := Lib.hid (dec_false hg1)
    have D := Lib.hid (dec_false (p := GC N) fun h => hg1 (h.2))
    have NB := Lib.hid (show ¬ (GC N) from fun h => hg1 (h.2))
    clear hg1
    go_enter Try.func51, Try.ntmps51
    go_wp2_with fail
    rw [← hW1]
    clear hW1 p0 p1 p2
    (with_reducible refine (neGood_any (HA.out.ext K0.out)).mono ?_)
    rintro e w1g ⟨rfl, hxg⟩
    rw [G0.out]
    have K1 := Lib.hid (K0.out.trans' hxg)
    have R1 := Lib.hid (row_ext R0.out hxg)
    clear hxg
    obtain ⟨p0, p1, p2, -, -, -⟩ := row3_facts R1.out
    go_wp2_with fail
    clear p0 p1 p2
    (with_reducible refine (meConnected_any (HA.out.ext K1.out) (good_w H0.out)).mono ?_)
    rintro e w2g ⟨rfl, hxg⟩
    rw [G1.out]
    have K2 := Lib.hid (K1.out.trans' hxg)
    have R2 := Lib.hid (row_ext R1.out hxg)
    clear hxg
    obtain ⟨p0, p1, p2, -, -, -⟩ := row3_facts R2.out
    go_wp2
    go_ret2
    exact ⟨ret_ib (diam_f NB.out).symm D.out.symm, K2.out⟩
  have G1 := Lib.hid (dec_true hg1)
  have H1 := Lib.hid hg1
  clear hg1
  have HB := Lib.hid (show GC N from ⟨H0.out, H1.out⟩)
  have D := Lib.hid (dec_true HB.out)
  have E := Lib.hid (diam_t HB.out)
  go_enter Try.func51, Try.ntmps51
  go_wp2_with fail
  rw [← hW1]
  clear hW1 p0 p1 p2
  (with_reducible refine (neGood_any (HA.out.ext K0.out)).mono ?_)
  rintro e w1g ⟨rfl, hxg⟩
  rw [G0.out]
  have K1 := Lib.hid (K0.out.trans' hxg)
  have R1 := Lib.hid (row_ext R0.out hxg)
  clear hxg
  obtain ⟨p0, p1, p2, -, -, -⟩ := row3_facts R1.out
  go_wp2_with fail
  clear p0 p1 p2
  (with_reducible refine (meConnected_any (HA.out.ext K1.out) (good_w H0.out)).mono ?_)
  rintro e w2g ⟨rfl, hxg⟩
  rw [G1.out]
  have K2 := Lib.hid (K1.out.trans' hxg)
  have R2 := Lib.hid (row_ext R1.out hxg)
  clear hxg
  obtain ⟨p0, p1, p2, -, -, -⟩ := row3_facts R2.out
  go_wp2_with (first | (go_at_call 107; (with_reducible refine (meDiameter_any (HA.out.ext K2.out) (good_w H0.out)).mono ?_); rintro e wz ⟨rfl, hxz⟩; have KZ := Lib.hid (K2.out.trans' hxz); clear hxz) | fail)
  go_ret2
  exact ⟨ret_ib E.out.symm D.out.symm, KZ.out⟩
set_option maxHeartbeats 6400000 in
set_option maxRecDepth 100000 in
theorem specIsConnected_any {w : World} {vn : Value} {N : Net} (h : NetAt w vn N) :
    Calls Try.prog 49 #[vn] w fun e w' => e = .returned (.tuple #[.bool (dec (GC N)), .bool (dec (Good N))]) ∧ Ext w w' := by
  have HA := Lib.hid h
  obtain ⟨v0, v1, v2, rfl, hEa, -, -⟩ := h
  clear hEa
  obtain ⟨W1, hW1⟩ : ∃ W1, W1 = w.alloc (.cells #[v0, v1, v2] 29) := ⟨_, rfl⟩
  have K0 := Lib.hid (show Ext w W1 by rw [hW1]; exact boxed_ext _ _ _ _ _)
  have R0 := Lib.hid (show W1.rowIs w.heap.size 29 3 (tri (v0) v1 v2) by rw [hW1]; exact boxed_row _ _ _ _ _)
  obtain ⟨p0, p1, p2, -, -, -⟩ := row3_facts R0.out
  rw [hW1] at p0 p1 p2
  by_cases hg0 : Good N
  case neg =>
    have G0 := Lib.hid (dec_false hg0)
    have D := Lib.hid (dec_false (p := Good N) fun h => hg0 (h))
    have NB := Lib.hid (show ¬ (Good N) from fun h => hg0 (h))
    clear hg0
    go_enter Try.func49, Try.ntmps49
    go_wp2_with fail
    rw [← hW1]
    clear hW1 p0 p1 p2
    (with_reducible refine (neGood_any (HA.out.ext K0.out)).mono ?_)
    rintro e w1g ⟨rfl, hxg⟩
    rw [G0.out]
    have K1 := Lib.hid (K0.out.trans' hxg)
    have R1 := Lib.hid (row_ext R0.out hxg)
    clear hxg
    obtain ⟨p0, p1, p2, -, -, -⟩ := row3_facts R1.out
    go_wp2
    go_ret2
    exact ⟨ret_bb (dec_false (show ¬ GC N from fun h => NB.out h.1)).symm D.out.symm, K1.out⟩
  have G0 := Lib.hid (dec_true hg0)
  have H0 := Lib.hid hg0
  clear hg0
  have D := Lib.hid (dec_true H0.out)
  have E := Lib.hid (show dec (Conn N) = dec (GC N) by
    by_cases hc : Conn N
    · rw [dec_true hc, dec_true (show GC N from ⟨H0.out, hc⟩)]
    · rw [dec_false hc, dec_false (show ¬ GC N from fun h => hc h.2)])
  go_enter Try.func49, Try.ntmps49
  go_wp2_with fail
  rw [← hW1]
  clear hW1 p0 p1 p2
  (with_reducible refine (neGood_any (HA.out.ext K0.out)).mono ?_)
  rintro e w1g ⟨rfl, hxg⟩
  rw [G0.out]
  have K1 := Lib.hid (K0.out.trans' hxg)
  have R1 := Lib.hid (row_ext R0.out hxg)
  clear hxg
  obtain ⟨p0, p1, p2, -, -, -⟩ := row3_facts R1.out
  go_wp2_with (first | (go_at_call 105; (with_reducible refine (meConnected_any (HA.out.ext K1.out) (good_w H0.out)).mono ?_); rintro e wz ⟨rfl, hxz⟩; have KZ := Lib.hid (K1.out.trans' hxz); clear hxz) | fail)
  go_ret2
  exact ⟨ret_bb E.out D.out.symm, KZ.out⟩

set_option maxHeartbeats 1600000 in
set_option maxRecDepth 100000 in
theorem isConnectedX_any {w : World} {vn : Value} {N : Net} (h : NetAt w vn N) :
    Calls Try.prog 50 #[vn] w fun e w' => e = .returned (.tuple #[.bool (dec (GC N)), .bool (dec (Good N))]) ∧ Ext w w' := by
  have HA := Lib.hid h
  obtain ⟨v0, v1, v2, rfl, hEa, -, -⟩ := h
  clear hEa
  obtain ⟨W1, hW1⟩ : ∃ W1, W1 = w.alloc (.cells #[v0, v1, v2] 29) := ⟨_, rfl⟩
  have K0 := Lib.hid (show Ext w W1 by rw [hW1]; exact boxed_ext _ _ _ _ _)
  have R0 := Lib.hid (show W1.rowIs w.heap.size 29 3 (tri v0 v1 v2) by rw [hW1]; exact boxed_row _ _ _ _ _)
  obtain ⟨p0, p1, p2, -, -, -⟩ := row3_facts R0.out
  have P0 : ∀ x' : Wx W1, x'.w.cell? ⟨w.heap.size, 0, none⟩ = some v0 := fun x' => x'.ok.cell' p0
  have P1 : ∀ x' : Wx W1, x'.w.cell? ⟨w.heap.size, 1, none⟩ = some v1 := fun x' => x'.ok.cell' p1
  have P2 : ∀ x' : Wx W1, x'.w.cell? ⟨w.heap.size, 2, none⟩ = some v2 := fun x' => x'.ok.cell' p2
  rw [hW1] at p0 p1 p2
  go_enter Try.func50, Try.ntmps50
  go_wp2_with fail
  rw [← hW1]
  clear hW1 p0 p1 p2
  refine wp_region_ext (by kernel_rfl) (by kernel_rfl) ?_
  repeat (go_big_quiet_step (first | (go_at_call 106; exact in_ext_bool (isConnected_any (HA.out.ext (K0.out.trans' (Wx.ok _)))) rfl) | (go_at_call 73; exact in_ext_bool (isNetwork_any (HA.out.ext (K0.out.trans' (Wx.ok _)))) rfl)))
  refine wpQuiet_nil ?_
  rintro wq ⟨⟨_, hq⟩, rfl⟩
  have EQ := Lib.hid (K0.out.trans' hq)
  clear hq
  go_wp2
  go_ret2
  exact ⟨rfl, EQ.out⟩
end Go.Proofs.Ytkeiaahlifdbiaa
