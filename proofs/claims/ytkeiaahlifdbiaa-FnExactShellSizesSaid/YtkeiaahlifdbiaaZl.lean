/- ShellSizes. -/
import Derived.Test.YtkeiaahlifdbiaaZj
namespace Go.Proofs.Ytkeiaahlifdbiaa
open Go.RowKit

/-- How many of the first k elements are d. -/
def cntTo (l : List Int) : Nat → Int → Int
  | 0, _ => 0
  | k + 1, d => if gi l k = d then cntTo l k d + 1 else cntTo l k d
theorem cntTo_range (l : List Int) : ∀ (k : Nat) (d : Int), 0 ≤ cntTo l k d ∧ cntTo l k d ≤ (k : Int)
  | 0, d => ⟨Int.le_refl _, Int.le_refl _⟩
  | k + 1, d => by
    have := cntTo_range l k d
    simp only [cntTo]
    split <;> omega
def cntRow (l : List Int) (k : Nat) : Nat → Value := fun i => .int .i64 (cntTo l k (i : Int))
theorem cntRow_step {w : World} {b n k d : Nat} {l : List Int} (h : w.rowIs b 3 n (cntRow l k)) (hd : gi l k = (d : Int)) : (w.setCell ⟨b, d, none⟩ (.int .i64 (cntTo l k (d : Int) + 1))).rowIs b 3 n (cntRow l (k + 1)) :=
  (h.set d _).congr fun i _ => by
    unfold cntRow
    simp only [cntTo]
    by_cases e : i = d
    · subst e; rw [if_pos hd, if_pos rfl]
    · rw [if_neg e, if_neg (by omega)]
theorem cntRow_same {w : World} {b n k : Nat} {l : List Int} (h : w.rowIs b 3 n (cntRow l k)) (hd : gi l k = -1) : w.rowIs b 3 n (cntRow l (k + 1)) :=
  h.congr fun i _ => by
    unfold cntRow
    simp only [cntTo]
    rw [if_neg (by omega)]
def shell (N : Net) (x : Int) : List Int := tab (fun d => cntTo (dst N x) N.ends.length (d : Int)) ((mostL (dst N x)).toNat + 1)
theorem shell_len {N : Net} (hG : GoodW N) {x : Nat} (hx : x < N.ends.length) : (shell N x).length ≤ 40 := by
  unfold shell
  rw [tab_len]
  have := most_dst hG hx
  have := hG.most
  omega
theorem shellAns_len (N : Net) (x : Int) : (ansOf (NodeAns N x) (shell N x)).length ≤ 40 := ansOf_len fun h => by
  obtain ⟨k, rfl, hk⟩ := node_natZ h
  exact shell_len (good_w h.1) hk
theorem shell_in {N : Net} (hG : GoodW N) (x : Int) : ∀ i, i < (shell N x).length → inI64 (gi (shell N x) i) := fun i hi => by
  unfold shell at hi ⊢
  rw [tab_len] at hi
  rw [gi_tab hi]
  have := cntTo_range (dst N x) N.ends.length (i : Int)
  have := hG.most
  unfold inI64
  omega
theorem cntRow_num {w : World} {b : Nat} {N : Net} {x : Int} (h : w.rowIs b 3 ((mostL (dst N x)).toNat + 1) (cntRow (dst N x) N.ends.length)) : w.rowIs b 3 ((mostL (dst N x)).toNat + 1) (numRow (shell N x)) :=
  h.congr fun i hi => by unfold cntRow numRow shell; rw [gi_tab hi]

set_option maxHeartbeats 6400000 in
set_option maxRecDepth 100000 in
theorem specShell_any {w : World} {vn : Value} {N : Net} (x : Int) (h : NetAt w vn N) :
    Calls Try.prog 45 #[vn, .int .i64 x] w fun e w' => ∃ v' bs, e = .returned (.tuple #[v', .bool (dec (NodeAns N x))]) ∧ Ext w w' ∧ OwnI w' v' (ansOf (NodeAns N x) (shell N x)) bs ∧ Fresh w bs := by
  have HA := Lib.hid h
  obtain ⟨v0, v1, v2, rfl, hEa, -, -⟩ := h
  clear hEa
  obtain ⟨W1, hW1⟩ : ∃ W1, W1 = w.alloc (.cells #[v0, v1, v2] 29) := ⟨_, rfl⟩
  have K0 := Lib.hid (show Ext w W1 by rw [hW1]; exact boxed_ext _ _ _ _ _)
  have R0 := Lib.hid (show W1.rowIs w.heap.size 29 3 (tri (v0) v1 v2) by rw [hW1]; exact boxed_row _ _ _ _ _)
  obtain ⟨p0, p1, p2, -, -, -⟩ := row3_facts R0.out
  rw [hW1] at p0 p1 p2
  by_cases hg0 : NodeAns N x
  case neg =>
    have G0 := Lib.hid (dec_false hg0)
    have D := Lib.hid (dec_false (p := NodeAns N x) fun h => hg0 (h))
    have NB := Lib.hid (show ¬ (NodeAns N x) from fun h => hg0 (h))
    clear hg0
    go_enter Try.func45, Try.ntmps45
    go_wp2_with fail
    rw [← hW1]
    clear hW1 p0 p1 p2
    (with_reducible refine (neNode_any _ (HA.out.ext K0.out)).mono ?_)
    rintro e w1g ⟨rfl, hxg⟩
    rw [G0.out]
    have K1 := Lib.hid (K0.out.trans' hxg)
    have R1 := Lib.hid (row_ext R0.out hxg)
    clear hxg
    obtain ⟨p0, p1, p2, -, -, -⟩ := row3_facts R1.out
    go_wp2
    go_ret2
    exact ⟨_, [], ret_mb D.out.symm, K1.out, by rw [ansOf_f NB.out]; exact own_nilI _, Fresh.nil _⟩
  have G0 := Lib.hid (dec_true hg0)
  have H0 := Lib.hid hg0
  clear hg0
  have HB := Lib.hid (show NodeAns N x from H0.out)
  have D := Lib.hid (dec_true HB.out)
  obtain ⟨xk, rfl, hxk⟩ := node_natZ HB.out
  have HG := Lib.hid (good_w HB.out.1)
  have hA1 := HG.out.one
  have hA40 := HG.out.most
  have HSM := Lib.hid (dst_small HG.out (x := (xk : Int)) (by omega))
  have HMD := Lib.hid (most_dst HG.out hxk)
  have HCN := Lib.hid (fun (w : World) (b : Nat) => cntRow_num (w := w) (b := b) (N := N) (x := (xk : Int)))
  have HSI := Lib.hid (shell_in HG.out (xk : Int))
  have HSL := Lib.hid (shell_len HG.out hxk)
  have HSE := Lib.hid (show (shell N (xk : Int)).length = (mostL (dst N (xk : Int))).toNat + 1 from tab_len _ _)
  obtain ⟨E, hE⟩ : ∃ E, E = dst N (xk : Int) := ⟨_, rfl⟩
  have HE := Lib.hid hE
  rw [← hE] at HSM HMD HCN HSE
  obtain ⟨mm, hmm⟩ := Int.eq_ofNat_of_zero_le HMD.out.1
  have HMM := Lib.hid hmm
  have hm40 : mm < 40 := by have := HMD.out.2.1; omega
  rw [hmm, Int.toNat_natCast] at HCN HSE
  have hmk := run_make_row' (P := Try.prog) 23 3 (.int .i64 0) 8 Try.underlying23 Try.info3 rfl .i64 .i64 (mm + 1) (by omega) (by omega)
  push_cast at hmk
  clear hE hmm
  go_enter Try.func45, Try.ntmps45
  go_wp2_with fail
  rw [← hW1]
  clear hW1 p0 p1 p2
  (with_reducible refine (neNode_any _ (HA.out.ext K0.out)).mono ?_)
  rintro e w1g ⟨rfl, hxg⟩
  rw [G0.out]
  have K1 := Lib.hid (K0.out.trans' hxg)
  have R1 := Lib.hid (row_ext R0.out hxg)
  clear hxg
  obtain ⟨p0, p1, p2, -, -, -⟩ := row3_facts R1.out
  go_wp2_with fail
  clear p0 p1 p2
  (with_reducible refine (meFrom_any xk hxk (HA.out.ext K1.out) HG.out).mono ?_)
  rintro e wz ⟨ud, bd, rfl, hxz, hoz, hfz⟩
  rw [← HE.out] at hoz
  obtain ⟨na, nc, rfl⟩ := hoz.1.slice
  have KZ := Lib.hid (K1.out.trans' hxz)
  have OZ := Lib.hid hoz
  have HM0 := Lib.hid HMD.out.2.2
  rw [HMM.out] at HM0
  clear hxz hoz hfz
  go_wp2_with (first | (go_at_call 100; (with_reducible refine (meMost_any OZ.out.read (by have := HSM.out.1; omega)).mono ?_); rintro e _ ⟨rfl, rfl⟩; rw [HM0.out]) | fail)
  rw [HSM.out.1] at OZ ⊢
  clear hmk
  obtain ⟨mb, hmb⟩ : ∃ mb, mb = wz.heap.size := ⟨_, rfl⟩
  have HMB := Lib.hid hmb
  have HGE := Lib.hid (show wz.heap.size ≤ mb by omega)
  rw [← hmb]
  clear hmb
  go_loopg [23] N.ends.length (fun g i wr => ∃ k : Nat, k ≤ N.ends.length ∧ g = N.ends.length - k ∧ i = .int .i64 k ∧ Hid (Ext wz wr ∧ wr.rowIs mb 3 (mm + 1) (cntRow E k)))
  case atStart => exact ⟨0, Nat.zero_le _, rfl, rfl, (Ext.rfl' _).alloc' _, by rw [HMB.out]; exact (World.rowIs_made _ _ _ _).congr fun i _ => by simp [cntRow, cntTo]⟩
  case round =>
    obtain ⟨k, hk, rfl, rfl, Hr⟩ := hrel
    have X0 := Lib.hid Hr.out.1
    have T0 := Lib.hid Hr.out.2
    have O0 := Lib.hid (OZ.out.ext Hr.out.1)
    clear Hr
    by_cases hlt : k < N.ends.length
    · obtain ⟨na', nb', no', nc', e, ha, hl, hmx, hcn⟩ := O0.out.read
      simp only [Value.slice.injEq] at e
      obtain ⟨rfl, -, rfl⟩ := e
      rw [HSM.out.1] at ha hl
      obtain rfl := ha (by omega)
      obtain ⟨_, hn1, rfl, _⟩ := hcn k (by rw [HSM.out.1]; exact hlt)
      unfold maxLen at hmx
      have hrg := HSM.out.2 k hlt
      have hmo := mostL_ge (l := E) (i := k) (by rw [HSM.out.1]; exact hlt)
      rw [HMM.out] at hmo
      obtain ⟨d, hd⟩ : ∃ d, d = gi E k := ⟨_, rfl⟩
      rw [← hd] at hn1 hrg hmo
      have HDD := Lib.hid hd
      clear hcn ha hd
      by_cases hin : d = -1
      · subst hin
        have T1 := Lib.hid (cntRow_same T0.out HDD.out.symm)
        go_wp2
        go_roundg (N.ends.length - (k + 1))
        case measure => omega
        case rel => exact ⟨k + 1, by omega, rfl, by go_num, X0.out, T1.out⟩
      · obtain ⟨z, rfl⟩ := Int.eq_ofNat_of_zero_le (show 0 ≤ d by omega)
        have hz : z < mm + 1 := by omega
        have hbq : (((z : Nat) : Int) == -1) = false := beq_eq_false_iff_ne.2 hin
        have f1 := T0.out.cell hz
        have f2 := T0.out.frozen z
        have hcr := cntTo_range E k (z : Int)
        unfold cntRow at f1
        have T1 := Lib.hid (cntRow_step T0.out HDD.out.symm)
        obtain ⟨c, hc⟩ : ∃ c, c = cntTo E k (z : Int) := ⟨_, rfl⟩
        rw [← hc] at f1 hcr T1
        clear hc hin
        go_wp2
        go_roundg (N.ends.length - (k + 1))
        case measure => omega
        case rel => exact ⟨k + 1, by omega, rfl, by go_num, X0.out.store HGE.out _, T1.out⟩
    · obtain rfl : k = N.ends.length := by omega
      have HR := Lib.hid (HCN.out _ _ T0.out)
      go_wp2
      go_ret2
      exact ⟨_, [mb], ret_mb D.out.symm, KZ.out.trans' X0.out, by rw [ansOf_t HB.out]; exact num_own HR.out HSE.out (by omega) HSI.out, by simp, fun y hy => by
        simp only [List.mem_singleton] at hy
        subst hy
        have := HGE.out; have := KZ.out.size; omega⟩
set_option maxHeartbeats 6400000 in
set_option maxRecDepth 100000 in
theorem shellX_any {w : World} {vn : Value} {N : Net} (x : Int) (h : NetAt w vn N) :
    Calls Try.prog 46 #[vn, .int .i64 x] w fun e w' => ∃ v' bs, e = .returned (.tuple #[v', .bool (dec (NodeAns N x))]) ∧ Ext w w' ∧ OwnI w' v' (ansOf (NodeAns N x) (shell N x)) bs ∧ Fresh w bs := by
  have HA := Lib.hid h
  obtain ⟨v0, v1, v2, rfl, hEa, -, -⟩ := h
  clear hEa
  obtain ⟨W1, hW1⟩ : ∃ W1, W1 = w.alloc (.cells #[v0, v1, v2] 29) := ⟨_, rfl⟩
  have K0 := Lib.hid (show Ext w W1 by rw [hW1]; exact boxed_ext _ _ _ _ _)
  have R0 := Lib.hid (show W1.rowIs w.heap.size 29 3 (tri v0 v1 v2) by rw [hW1]; exact boxed_row _ _ _ _ _)
  obtain ⟨p0, p1, p2, -, -, -⟩ := row3_facts R0.out
  rw [hW1] at p0 p1 p2
  by_cases hc : NodeAns N x
  case neg =>
    have D := Lib.hid (dec_false hc)
    have NB := Lib.hid hc
    clear hc
    go_enter Try.func46, Try.ntmps46
    go_wp2_with fail
    rw [← hW1]
    clear hW1 p0 p1 p2
    (with_reducible refine (distancesX_any x (HA.out.ext K0.out)).mono ?_)
    rintro e wz ⟨ud, bd, rfl, hxz, hoz, hfz⟩
    rw [D.out]
    have KZ := Lib.hid (K0.out.trans' hxz)
    clear hxz hoz hfz
    go_wp2
    go_ret2
    exact ⟨_, [], ret_mb D.out.symm, KZ.out, by rw [ansOf_f NB.out]; exact own_nilI _, Fresh.nil _⟩
  have HB := Lib.hid (show NodeAns N x from hc)
  have D := Lib.hid (dec_true HB.out)
  obtain ⟨xk, rfl, hxk⟩ := node_natZ HB.out
  have HG := Lib.hid (good_w HB.out.1)
  have hA1 := HG.out.one
  have hA40 := HG.out.most
  have HSM := Lib.hid (dst_small HG.out (x := (xk : Int)) (by omega))
  have HMD := Lib.hid (most_dst HG.out hxk)
  have HCN := Lib.hid (fun (w : World) (b : Nat) => cntRow_num (w := w) (b := b) (N := N) (x := (xk : Int)))
  have HSI := Lib.hid (shell_in HG.out (xk : Int))
  have HSL := Lib.hid (shell_len HG.out hxk)
  have HSE := Lib.hid (show (shell N (xk : Int)).length = (mostL (dst N (xk : Int))).toNat + 1 from tab_len _ _)
  obtain ⟨E, hE⟩ : ∃ E, E = dst N (xk : Int) := ⟨_, rfl⟩
  have HE := Lib.hid hE
  rw [← hE] at HSM HMD HCN HSE
  obtain ⟨mm, hmm⟩ := Int.eq_ofNat_of_zero_le HMD.out.1
  have HMM := Lib.hid hmm
  have hm40 : mm < 40 := by have := HMD.out.2.1; omega
  rw [hmm, Int.toNat_natCast] at HCN HSE
  have hmk := run_make_row' (P := Try.prog) 23 3 (.int .i64 0) 8 Try.underlying23 Try.info3 rfl .i64 .i64 (mm + 1) (by omega) (by omega)
  push_cast at hmk
  clear hE hmm
  clear hc
  go_enter Try.func46, Try.ntmps46
  go_wp2_with fail
  rw [← hW1]
  clear hW1 p0 p1 p2
  (with_reducible refine (distancesX_any (xk : Int) (HA.out.ext K0.out)).mono ?_)
  rintro e wz ⟨ud, bd, rfl, hxz, hoz, hfz⟩
  rw [ansOf_t HB.out, ← HE.out] at hoz
  rw [D.out]
  obtain ⟨na, nc, rfl⟩ := hoz.1.slice
  have KZ := Lib.hid (K0.out.trans' hxz)
  have OZ := Lib.hid hoz
  clear hxz hoz hfz
  go_wp2_with (first | (go_at_call 101; (with_reducible refine (max_any OZ.out.read (by have := HSM.out.1; omega) (by have := HSM.out.1; omega)).mono ?_); rintro e _ ⟨rfl, rfl⟩; rw [HMM.out]) | fail)
  rw [HSM.out.1] at OZ ⊢
  clear hmk
  obtain ⟨mb, hmb⟩ : ∃ mb, mb = wz.heap.size := ⟨_, rfl⟩
  have HMB := Lib.hid hmb
  have HGE := Lib.hid (show wz.heap.size ≤ mb by omega)
  rw [← hmb]
  clear hmb
  go_loopg [25] N.ends.length (fun g i wr => ∃ k : Nat, k ≤ N.ends.length ∧ g = N.ends.length - k ∧ i = .int .i64 k ∧ Hid (Ext wz wr ∧ wr.rowIs mb 3 (mm + 1) (cntRow E k)))
  case atStart => exact ⟨0, Nat.zero_le _, rfl, rfl, (Ext.rfl' _).alloc' _, by rw [HMB.out]; exact (World.rowIs_made _ _ _ _).congr fun i _ => by simp [cntRow, cntTo]⟩
  case round =>
    obtain ⟨k, hk, rfl, rfl, Hr⟩ := hrel
    have X0 := Lib.hid Hr.out.1
    have T0 := Lib.hid Hr.out.2
    have O0 := Lib.hid (OZ.out.ext Hr.out.1)
    clear Hr
    by_cases hlt : k < N.ends.length
    · obtain ⟨na', nb', no', nc', e, ha, hl, hmx, hcn⟩ := O0.out.read
      simp only [Value.slice.injEq] at e
      obtain ⟨rfl, -, rfl⟩ := e
      rw [HSM.out.1] at ha hl
      obtain rfl := ha (by omega)
      obtain ⟨_, hn1, rfl, _⟩ := hcn k (by rw [HSM.out.1]; exact hlt)
      unfold maxLen at hmx
      have hrg := HSM.out.2 k hlt
      have hmo := mostL_ge (l := E) (i := k) (by rw [HSM.out.1]; exact hlt)
      rw [HMM.out] at hmo
      obtain ⟨d, hd⟩ : ∃ d, d = gi E k := ⟨_, rfl⟩
      rw [← hd] at hn1 hrg hmo
      have HDD := Lib.hid hd
      clear hcn ha hd
      by_cases hin : d = -1
      · subst hin
        have T1 := Lib.hid (cntRow_same T0.out HDD.out.symm)
        go_wp2
        go_roundg (N.ends.length - (k + 1))
        case measure => omega
        case rel => exact ⟨k + 1, by omega, rfl, by go_num, X0.out, T1.out⟩
      · obtain ⟨z, rfl⟩ := Int.eq_ofNat_of_zero_le (show 0 ≤ d by omega)
        have hz : z < mm + 1 := by omega
        have hbq : (((z : Nat) : Int) == -1) = false := beq_eq_false_iff_ne.2 hin
        have f1 := T0.out.cell hz
        have f2 := T0.out.frozen z
        have hcr := cntTo_range E k (z : Int)
        unfold cntRow at f1
        have T1 := Lib.hid (cntRow_step T0.out HDD.out.symm)
        obtain ⟨c, hc⟩ : ∃ c, c = cntTo E k (z : Int) := ⟨_, rfl⟩
        rw [← hc] at f1 hcr T1
        clear hc hin
        go_wp2
        go_roundg (N.ends.length - (k + 1))
        case measure => omega
        case rel => exact ⟨k + 1, by omega, rfl, by go_num, X0.out.store HGE.out _, T1.out⟩
    · obtain rfl : k = N.ends.length := by omega
      have HR := Lib.hid (HCN.out _ _ T0.out)
      go_wp2
      go_ret2
      exact ⟨_, [mb], ret_mb D.out.symm, KZ.out.trans' X0.out, by rw [ansOf_t HB.out]; exact num_own HR.out HSE.out (by omega) HSI.out, by simp, fun y hy => by
        simp only [List.mem_singleton] at hy
        subst hy
        have := HGE.out; have := KZ.out.size; omega⟩
end Go.Proofs.Ytkeiaahlifdbiaa
