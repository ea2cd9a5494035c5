/- The contract of separation. -/
import Derived.Test.YtapkmhicajalaaaVo
namespace Go.Proofs.Ytapkmhicajalaaa
open Go.RowKit

set_option maxHeartbeats 3200000 in
set_option maxRecDepth 100000 in
theorem separation_f {w : World} {va vb : Value} {A B : Net} (x y : Int) (h : NetAt w va A) (k : NetAt w vb B) (hno : ¬ BothOK A x B y) :
    Calls Try.prog 73 #[va, .int .i64 x, vb, .int .i64 y] w fun e w' => e = .returned (.tuple #[.int .i64 0, .bool false]) ∧ Ext w w' := by
  have HA := Lib.hid h
  have HB := Lib.hid k
  obtain ⟨v0, v1, v2, rfl, -, -, -⟩ := h
  obtain ⟨u0, u1, u2, rfl, -, -, -⟩ := k
  obtain ⟨W1, hW1⟩ : ∃ W1, W1 = (w.alloc (.cells #[v0, v1, v2] 31)).alloc (.cells #[u0, u1, u2] 31) := ⟨_, rfl⟩
  have EW := Lib.hid (show Ext w W1 by rw [hW1]; exact (boxed_ext _ _ _ _ _).trans' (boxed_ext _ _ _ _ _))
  have RA := Lib.hid (show W1.rowIs w.heap.size 31 3 (tri v0 v1 v2) by rw [hW1]; exact (boxed_row _ _ _ _ _).alloc _)
  have RB := Lib.hid (show W1.rowIs (w.heap.size + 1) 31 3 (tri u0 u1 u2) by rw [hW1]; simpa using boxed_row (boxed w v0 v1 v2 31) u0 u1 u2 31)
  obtain ⟨p0, p1, p2, -, -, -⟩ := row3_facts RA.out
  go_enter Try.func73, Try.ntmps73
  go_wp2_with fail
  rw [← hW1]
  clear hW1
  by_cases hA : Good A
  case neg =>
    have G := Lib.hid (dec_false hA)
    (with_reducible refine (isNetwork_any (HA.out.ext EW.out)).mono ?_)
    rintro e w1 ⟨rfl, hw⟩
    rw [G.out]
    have K := Lib.hid (EW.out.trans' hw)
    clear hw p0 p1 p2
    go_wp2
    go_ret2
    exact ⟨rfl, K.out⟩
  have GA := Lib.hid (dec_true hA)
  (with_reducible refine (isNetwork_any (HA.out.ext EW.out)).mono ?_)
  rintro e w1 ⟨rfl, hw⟩
  rw [GA.out]
  have K1 := Lib.hid hw
  clear hw p0 p1 p2
  obtain ⟨p0, p1, p2, -, -, -⟩ := row3_facts (row_ext RA.out K1.out)
  go_wp2_with fail
  by_cases hx : NodeOK A x
  case neg =>
    have G := Lib.hid (dec_false hx)
    (with_reducible refine (hasNode_any x (HA.out.ext (EW.out.trans' K1.out))).mono ?_)
    rintro e w2 ⟨rfl, hw⟩
    rw [G.out]
    have K := Lib.hid (EW.out.trans' (K1.out.trans' hw))
    clear hw p0 p1 p2
    go_wp2
    go_ret2
    exact ⟨rfl, K.out⟩
  have GX := Lib.hid (dec_true hx)
  (with_reducible refine (hasNode_any x (HA.out.ext (EW.out.trans' K1.out))).mono ?_)
  rintro e w2 ⟨rfl, hw⟩
  rw [GX.out]
  have K2 := Lib.hid (K1.out.trans' hw)
  clear hw p0 p1 p2
  obtain ⟨p0, p1, p2, -, -, -⟩ := row3_facts (row_ext RB.out K2.out)
  go_wp2_with fail
  by_cases hB : Good B
  case neg =>
    have G := Lib.hid (dec_false hB)
    (with_reducible refine (isNetwork_any (HB.out.ext (EW.out.trans' K2.out))).mono ?_)
    rintro e w3 ⟨rfl, hw⟩
    rw [G.out]
    have K := Lib.hid (EW.out.trans' (K2.out.trans' hw))
    clear hw p0 p1 p2
    go_wp2
    go_ret2
    exact ⟨rfl, K.out⟩
  have GB := Lib.hid (dec_true hB)
  (with_reducible refine (isNetwork_any (HB.out.ext (EW.out.trans' K2.out))).mono ?_)
  rintro e w3 ⟨rfl, hw⟩
  rw [GB.out]
  have K3 := Lib.hid (K2.out.trans' hw)
  clear hw p0 p1 p2
  obtain ⟨p0, p1, p2, -, -, -⟩ := row3_facts (row_ext RB.out K3.out)
  go_wp2_with fail
  have G := Lib.hid (dec_false (p := NodeOK B y) fun h => hno ⟨⟨hA, hx⟩, hB, h⟩)
  (with_reducible refine (hasNode_any y (HB.out.ext (EW.out.trans' K3.out))).mono ?_)
  rintro e w4 ⟨rfl, hw⟩
  rw [G.out]
  have K := Lib.hid (EW.out.trans' (K3.out.trans' hw))
  clear hw p0 p1 p2
  go_wp2
  go_ret2
  exact ⟨rfl, K.out⟩

set_option maxHeartbeats 3200000 in
set_option maxRecDepth 100000 in
theorem separation_t {w : World} {va vb : Value} {A B : Net} (x y : Nat) (h : NetAt w va A) (k : NetAt w vb B) (hyes : BothOK A x B y) :
    Calls Try.prog 73 #[va, .int .i64 x, vb, .int .i64 y] w fun e w' => e = .returned (.tuple #[.int .i64 (sepN (unionNet A B) x (A.ends.length + y)), .bool true]) ∧ Ext w w' := by
  have HA := Lib.hid h
  have HB := Lib.hid k
  have hA := Lib.hid hyes.1.1
  have hB := Lib.hid hyes.2.1
  have GA := Lib.hid (dec_true hyes.1.1)
  have GX := Lib.hid (dec_true hyes.1.2)
  have GB := Lib.hid (dec_true hyes.2.1)
  have GY := Lib.hid (dec_true hyes.2.2)
  have hx : x < A.ends.length := by have := hyes.1.2.2; omega
  have hy : y < B.ends.length := by have := hyes.2.2.2; omega
  have h40A : A.ends.length ≤ 40 := hyes.1.1.1.2
  have h40B : B.ends.length ≤ 40 := hyes.2.1.1.2
  have NI := Lib.hid (union_nodes hyes.1.1 hyes.2.1)
  have hl := Lib.hid (union_len A B)
  have hst := Lib.hid (stOf_lt NI.out (by have := hl.out; omega))
  obtain ⟨q, hq⟩ : ∃ q : Nat, q = A.ends.length + y := ⟨_, rfl⟩
  have hsum : (A.ends.length : Int) + (y : Int) = (q : Int) := by omega
  have hwr : IntKind.i64.wrap ((A.ends.length : Int) + (y : Int)) = (q : Int) := by rw [hsum]; exact IntWalk.i64_in _ (by omega)
  have hq80 : q < 80 := by omega
  have hql := Lib.hid (show q < (unionNet A B).ends.length by have := hl.out; omega)
  have hxl := Lib.hid (show x < (unionNet A B).ends.length by have := hl.out; omega)
  rw [← hq]
  clear hq
  obtain ⟨v0, v1, v2, rfl, hE, -, -⟩ := h
  obtain ⟨av, _, _, cv, rfl, -, -, cvm, -⟩ := hE
  unfold maxLen at cvm
  obtain ⟨u0, u1, u2, rfl, -, -, -⟩ := k
  clear hyes
  obtain ⟨W1, hW1⟩ : ∃ W1, W1 = (w.alloc (.cells #[.slice av A.ends.length cv, v1, v2] 31)).alloc (.cells #[u0, u1, u2] 31) := ⟨_, rfl⟩
  have EW := Lib.hid (show Ext w W1 by rw [hW1]; exact (boxed_ext _ _ _ _ _).trans' (boxed_ext _ _ _ _ _))
  have RA := Lib.hid (show W1.rowIs w.heap.size 31 3 (tri (.slice av A.ends.length cv) v1 v2) by rw [hW1]; exact (boxed_row _ _ _ _ _).alloc _)
  have RB := Lib.hid (show W1.rowIs (w.heap.size + 1) 31 3 (tri u0 u1 u2) by rw [hW1]; simpa using boxed_row (boxed w (.slice av A.ends.length cv) v1 v2 31) u0 u1 u2 31)
  obtain ⟨p0, p1, p2, -, -, -⟩ := row3_facts RA.out
  go_enter Try.func73, Try.ntmps73
  go_wp2_with fail
  rw [← hW1]
  clear hW1
  (with_reducible refine (isNetwork_any (HA.out.ext EW.out)).mono ?_)
  rintro e w1 ⟨rfl, hw⟩
  rw [GA.out]
  have K1 := Lib.hid hw
  clear hw p0 p1 p2
  obtain ⟨p0, p1, p2, -, -, -⟩ := row3_facts (row_ext RA.out K1.out)
  go_wp2_with fail
  (with_reducible refine (hasNode_any x (HA.out.ext (EW.out.trans' K1.out))).mono ?_)
  rintro e w2 ⟨rfl, hw⟩
  rw [GX.out]
  have K2 := Lib.hid (K1.out.trans' hw)
  clear hw p0 p1 p2
  obtain ⟨p0, p1, p2, -, -, -⟩ := row3_facts (row_ext RB.out K2.out)
  go_wp2_with fail
  (with_reducible refine (isNetwork_any (HB.out.ext (EW.out.trans' K2.out))).mono ?_)
  rintro e w3 ⟨rfl, hw⟩
  rw [GB.out]
  have K3 := Lib.hid (K2.out.trans' hw)
  clear hw p0 p1 p2
  obtain ⟨p0, p1, p2, -, -, -⟩ := row3_facts (row_ext RB.out K3.out)
  go_wp2_with fail
  (with_reducible refine (hasNode_any y (HB.out.ext (EW.out.trans' K3.out))).mono ?_)
  rintro e w4 ⟨rfl, hw⟩
  rw [GY.out]
  have K4 := Lib.hid (K3.out.trans' hw)
  clear hw p0 p1 p2
  obtain ⟨p0, p1, p2, -, -, -⟩ := row3_facts (row_ext RA.out K4.out)
  obtain ⟨q0, q1, q2, -, -, -⟩ := row3_facts (row_ext RB.out K4.out)
  go_wp2_with fail
  (with_reducible refine (sideBySide_any (HA.out.ext (EW.out.trans' K4.out)) (HB.out.ext (EW.out.trans' K4.out)) hA.out hB.out).mono ?_)
  rintro e w5 ⟨vu, bs, rfl, hw, ho, -⟩
  have K5 := Lib.hid (K4.out.trans' hw)
  have HU := Lib.hid ho.read
  clear hw ho p0 p1 p2 q0 q1 q2
  go_wp2_with fail
  (with_reducible refine (classesByDepth_any HU.out NI.out (by have := hl.out; omega) (by have := hl.out; omega)).mono ?_)
  rintro e w6 ⟨v', rfl, hw, hgr⟩
  have K6 := Lib.hid (K5.out.trans' hw)
  obtain ⟨b, c, rfl, hc1, hc2, hrows⟩ := hgr.rows (by rw [clsTo_len]; omega)
  rw [clsTo_len] at hc1 hrows ⊢
  have HRW := Lib.hid hrows
  unfold maxLen at hc2
  have hst80 : stOf (unionNet A B) < 80 := by have := hst.out; have := hl.out; omega
  clear hgr hrows hw
  obtain ⟨S, hS⟩ : ∃ S, S = stOf (unionNet A B) := ⟨_, rfl⟩
  rw [← hS] at hc1 HRW hst80 ⊢
  have HS := Lib.hid hS
  clear hS
  go_wp2_with fail
  go_loopg [37] (S + 1) (fun g i wr => ∃ k : Nat, k ≤ S + 1 ∧ g = S + 1 - k ∧ i = .int .i64 k ∧ Hid ((∀ s, s < k → gi (seqC (unionNet A B) s) x = gi (seqC (unionNet A B) s) q) ∧ Ext w6 wr))
  case atStart => exact ⟨0, Nat.zero_le _, rfl, rfl, fun s hs => absurd hs (by omega), Ext.rfl' _⟩
  case round =>
    obtain ⟨k, hk, rfl, rfl, Hr⟩ := hrel
    by_cases hlt : k < S + 1
    · obtain ⟨xv, cs, hcell, hO, -⟩ := HRW.out k hlt
      rw [gr_clsTo (by omega)] at hO
      obtain ⟨ca, cb, co, cc, rfl, hca, hcl, hcm, hcc⟩ := hO.read
      unfold maxLen at hcm
      have hxc : x < (seqC (unionNet A B) k).length := by rw [seqC_len]; exact hxl.out
      have hqc : q < (seqC (unionNet A B) k).length := by rw [seqC_len]; exact hql.out
      obtain rfl := hca (by omega)
      obtain ⟨_, r1, rfl, _⟩ := hcc x hxc
      obtain ⟨_, r2, rfl, _⟩ := hcc q hqc
      have hcell' := Hr.out.2.cell' hcell
      have r1' := Hr.out.2.cell' r1
      have r2' := Hr.out.2.cell' r2
      obtain ⟨p0, p1, p2, -, -, -⟩ := row3_facts (row_ext RA.out (K6.out.trans' Hr.out.2))
      clear hcell hO hca hcc r1 r2 p1 p2
      by_cases he : gi (seqC (unionNet A B) k) x = gi (seqC (unionNet A B) k) q
      · have d1 : (gi (seqC (unionNet A B) k) x != gi (seqC (unionNet A B) k) q) = false := by simp [he]
        have HE := Lib.hid he
        clear he
        go_wp2
        go_quiet (fail)
        go_wp2
        go_roundg (S + 1 - (k + 1))
        case measure => omega
        case rel =>
          refine ⟨k + 1, by omega, rfl, by go_num, fun s hs => ?_, Hr.out.2.drewN' _⟩
          by_cases e : s = k
          · subst e; exact HE.out
          · exact Hr.out.1 s (by omega)
      · have d1 : (gi (seqC (unionNet A B) k) x != gi (seqC (unionNet A B) k) q) = true := by simp [he]
        have HE := Lib.hid (sepN_t (N := unionNet A B) (u := x) (v := q) (t := k) ⟨by have := HS.out; omega, he, Hr.out.1⟩)
        clear he
        go_wp2
        go_quiet (fail)
        go_wp2
        go_ret2
        exact ⟨ret_i HE.out.symm rfl, EW.out.trans' (K6.out.trans' (Hr.out.2.drewN' _))⟩
    · obtain rfl : k = S + 1 := by omega
      have HE := Lib.hid (sepN_f (N := unionNet A B) (u := x) (v := q) fun s hs => Hr.out.1 s (by have := HS.out; omega))
      go_wp2
      go_ret2
      exact ⟨ret_i HE.out.symm rfl, EW.out.trans' (K6.out.trans' Hr.out.2)⟩
end Go.Proofs.Ytapkmhicajalaaa
