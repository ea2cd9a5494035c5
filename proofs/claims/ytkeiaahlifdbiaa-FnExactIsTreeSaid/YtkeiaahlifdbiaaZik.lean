/- ComponentsOf, IsConnected, DiameterOf. -/
import Derived.Test.YtkeiaahlifdbiaaZhk
namespace Go.Proofs.Ytkeiaahlifdbiaa
open Go.RowKit

theorem idxs_first (l : List Int) (lo hi : Int) : ∀ (k : Nat), ∀ x ∈ idxs l lo hi k, gi (idxs l lo hi k) 0 ≤ x
  | 0, x, h => by simp [idxs] at h
  | k + 1, x, h => by
    have ih := idxs_first l lo hi k
    have hr := idxs_range l lo hi k
    simp only [idxs] at h ⊢
    split at h
    · rename_i hc
      rw [if_pos hc]
      by_cases e : (idxs l lo hi k).length = 0
      · have e2 := List.length_eq_zero_iff.1 e
        rw [e2] at h ⊢
        simp only [List.nil_append, List.mem_singleton] at h
        subst h
        exact Int.le_refl _
      · have hg : gi (idxs l lo hi k ++ [(k : Int)]) 0 = gi (idxs l lo hi k) 0 := by
          exact Begins.at ⟨[(k : Int)], rfl⟩ (by omega)
        rw [hg]
        rcases List.mem_append.1 h with h1 | h1
        · exact ih x h1
        · obtain rfl := List.mem_singleton.1 h1
          have := hr 0 (by omega)
          omega
    · rename_i hc
      rw [if_neg hc]
      exact ih x h
/-- The least node of a component is the first of its ball. -/
theorem part_ball {N : Net} (hG : GoodW N) {v : Nat} (hv : v < N.ends.length) : 0 < (ball N v 0 40).length ∧ gi (ball N v 0 40) 0 = lessL (wk N v) := by
  have hx : 0 ≤ (v : Int) ∧ (v : Int) < N.ends.length := by omega
  have ok := dst_ok hG.leads hx
  have wo := wk_ok hG.leads hx
  have h40 := hG.most
  have hmem : ∀ x : Int, x ∈ ball N v 0 40 ↔ x ∈ wk N v := fun x => by
    unfold ball
    rw [idxs_mem]
    constructor
    · rintro ⟨u, h1, rfl, h2, -⟩
      exact (ok.has u h1).1 (by omega)
    · intro h
      have hr := wo.range x h
      have hg := ok.got hr.1 hr.2 h
      have hb := ok.rng x.toNat (by omega)
      have := wo.len
      exact ⟨x.toNat, by omega, by omega, by omega, by omega⟩
  have hp := wkTo_pos N (v : Int) N.ends.length
  obtain ⟨i, hi, he⟩ := lessL_at (l := wk N v) hp
  have hm : lessL (wk N v) ∈ ball N v 0 40 := (hmem _).2 (by rw [he]; exact gi_in hi)
  have hl := List.length_pos_of_mem hm
  refine ⟨hl, ?_⟩
  have h1 : gi (ball N v 0 40) 0 ≤ lessL (wk N v) := idxs_first _ _ _ _ _ hm
  obtain ⟨j, hj, hje⟩ := in_gi ((hmem _).1 (gi_in hl))
  have h2 := lessL_le hj
  omega
def parts (N : Net) : List Int := tab (fun v => lessL (wk N (v : Int))) N.ends.length
theorem less_range {N : Net} (hG : GoodW N) {v : Nat} (hv : v < N.ends.length) : 0 ≤ lessL (wk N v) ∧ lessL (wk N v) < (N.ends.length : Int) := by
  obtain ⟨i, hi, he⟩ := lessL_at (l := wk N v) (wkTo_pos N (v : Int) N.ends.length)
  rw [he]
  exact (wk_ok hG.leads (by omega)).range _ (gi_in hi)
theorem parts_in {N : Net} (hG : GoodW N) : ∀ i, i < (parts N).length → inI64 (gi (parts N) i) := fun i hi => by
  unfold parts at hi ⊢
  rw [tab_len] at hi
  rw [gi_tab hi]
  have := less_range hG hi
  have := hG.most
  unfold inI64
  omega
theorem partsAns_len (N : Net) : (ansOf (Good N) (parts N)).length ≤ 40 := ansOf_len fun h => by
  unfold parts; rw [tab_len]; exact (good_w h).most

set_option maxHeartbeats 800000 in
set_option maxRecDepth 100000 in
theorem leastNode_any {w : World} {na : Option Addr} {nc : Nat} {vc : Value} {L : List Int} (hL : IntSl w (.slice na L.length nc) L) (h1 : 0 < L.length) (hs : L.length ≤ 1048576) :
    Calls Try.prog 104 #[.agg #[.slice na L.length nc, vc]] w fun e w' => e = .returned (.int .i64 (lessL L)) ∧ Ext w w' := by
  have HL := Lib.hid hL
  clear hL
  go_enter Try.func104, Try.ntmps104
  go_wp2_with (first | (go_at_call 109; (with_reducible refine (min_any (HL.out.ext ((Ext.rfl' w).alloc' _)) h1 hs).mono ?_); rintro e _ ⟨rfl, rfl⟩) | fail)
  go_ret
  exact ⟨rfl, (Ext.rfl' w).alloc' _⟩

set_option maxHeartbeats 6400000 in
set_option maxRecDepth 100000 in
theorem componentsX_any {w : World} {vn : Value} {N : Net} (h : NetAt w vn N) :
    Calls Try.prog 48 #[vn] w fun e w' => ∃ v' bs, e = .returned (.tuple #[v', .bool (dec (Good N))]) ∧ Ext w w' ∧ OwnI w' v' (ansOf (Good N) (parts N)) bs ∧ Fresh w bs := by
  have HA := Lib.hid h
  obtain ⟨v0, v1, v2, rfl, hEa, -, -⟩ := h
  obtain ⟨ea, eb, eo, ec, rfl, hea, hel, hem, hec⟩ := hEa
  unfold maxLen at hem
  have HEA := Lib.hid hea
  have HEC := Lib.hid hec
  clear hea hec
  obtain ⟨W1, hW1⟩ : ∃ W1, W1 = w.alloc (.cells #[.slice ea N.ends.length ec, v1, v2] 29) := ⟨_, rfl⟩
  have K0 := Lib.hid (show Ext w W1 by rw [hW1]; exact boxed_ext _ _ _ _ _)
  have R0 := Lib.hid (show W1.rowIs w.heap.size 29 3 (tri (.slice ea N.ends.length ec) v1 v2) by rw [hW1]; exact boxed_row _ _ _ _ _)
  obtain ⟨p0, p1, p2, -, -, -⟩ := row3_facts R0.out
  rw [hW1] at p0 p1 p2
  by_cases hg0 : Good N
  case neg =>
    have G0 := Lib.hid (dec_false hg0)
    have D := Lib.hid (dec_false (p := Good N) fun h => hg0 (h))
    have NB := Lib.hid (show ¬ (Good N) from fun h => hg0 (h))
    clear hg0
    go_enter Try.func48, Try.ntmps48
    go_wp2_with fail
    rw [← hW1]
    clear hW1 p0 p1 p2
    (with_reducible refine (isNetwork_any (HA.out.ext K0.out)).mono ?_)
    rintro e w1g ⟨rfl, hxg⟩
    rw [G0.out]
    have K1 := Lib.hid (K0.out.trans' hxg)
    have R1 := Lib.hid (row_ext R0.out hxg)
    clear hxg
    obtain ⟨p0, p1, p2, -, -, -⟩ := row3_facts R1.out
    go_wp2
    go_ret2
    exact ⟨_, [], ret_mb D.out.symm, K1.out, by rw [ansOf_f NB.out]; exact own_nilI _, Fresh.nil _⟩
  have G0 := Lib.hid (dec_true hg0)
  have H0 := Lib.hid hg0
  clear hg0
  have HB := Lib.hid (show Good N from H0.out)
  have D := Lib.hid (dec_true HB.out)
  have HG := Lib.hid (good_w H0.out)
  have hA1 := HG.out.one
  have hA40 := HG.out.most
  have hmk := run_make_row' (P := Try.prog) 23 3 (.int .i64 0) 8 Try.underlying23 Try.info3 rfl .i64 .i64 N.ends.length (by omega) (by omega)
  go_enter Try.func48, Try.ntmps48
  go_wp2_with fail
  rw [← hW1]
  clear hW1 p0 p1 p2
  (with_reducible refine (isNetwork_any (HA.out.ext K0.out)).mono ?_)
  rintro e w1g ⟨rfl, hxg⟩
  rw [G0.out]
  have K1 := Lib.hid (K0.out.trans' hxg)
  have R1 := Lib.hid (row_ext R0.out hxg)
  clear hxg
  obtain ⟨p0, p1, p2, -, -, -⟩ := row3_facts R1.out
  go_wp2_with fail
  clear p0 p1 p2 hmk
  obtain ⟨mb, hmb⟩ : ∃ mb, mb = w1g.heap.size := ⟨_, rfl⟩
  have HMB := Lib.hid hmb
  have HGE := Lib.hid (show w1g.heap.size ≤ mb by omega)
  rw [← hmb]
  clear hmb
  go_loopg [15] N.ends.length (fun g i wr => ∃ k : Nat, k ≤ N.ends.length ∧ g = N.ends.length - k ∧ i = .int .i64 k ∧ Hid (Ext w1g wr ∧ wr.rowIs mb 3 N.ends.length (tabRow (fun v => lessL (wk N (v : Int))) k)))
  case atStart => exact ⟨0, Nat.zero_le _, rfl, rfl, (Ext.rfl' _).alloc' _, by rw [HMB.out]; exact (World.rowIs_made _ _ _ _).congr fun i _ => by simp [tabRow]⟩
  case round =>
    obtain ⟨k, hk, rfl, rfl, Hr⟩ := hrel
    have X0 := Lib.hid Hr.out.1
    have T0 := Lib.hid Hr.out.2
    have E0 := Lib.hid (K1.out.trans' Hr.out.1)
    clear Hr
    by_cases hlt : k < N.ends.length
    · obtain ⟨p0, p1, p2, -, -, -⟩ := row3_facts (row_ext R1.out X0.out)
      have f1 := T0.out.cell hlt
      have f2 := T0.out.frozen k
      have HP := Lib.hid (show 0 < (wk N (k : Int)).length from wkTo_pos N (k : Int) N.ends.length)
      have HS := Lib.hid (show (wk N (k : Int)).length ≤ 1048576 by have := (wk_ok HG.out.leads (v := (k : Int)) (by omega)).len; omega)
      go_wp2_with fail
      clear f1 f2 p0 p1 p2
      (with_reducible refine (walkFrom_any k hlt (HA.out.ext E0.out) HG.out).mono ?_)
      rintro e w0l ⟨un, uc, bn, bc, rfl, hx0l, hon, hoc, hfr⟩
      obtain ⟨na, nc, rfl⟩ := hon.1.slice
      obtain ⟨ca, cc, rfl⟩ := hoc.1.slice
      have ON := Lib.hid hon
      clear hon hoc hfr
      have X1 := Lib.hid (X0.out.trans' hx0l)
      have T1 := Lib.hid (row_ext T0.out hx0l)
      have E1 := Lib.hid (E0.out.trans' hx0l)
      clear hx0l
      obtain ⟨p0, p1, p2, -, -, -⟩ := row3_facts (row_ext R1.out X1.out)
      have f1 := T1.out.cell hlt
      have f2 := T1.out.frozen k
      go_wp2_with fail
      clear f1 f2 p0 p1 p2
      (with_reducible refine (leastNode_any ON.out.read HP.out HS.out).mono ?_)
      rintro e w1l ⟨rfl, hx1l⟩
      have X2 := Lib.hid (X1.out.trans' hx1l)
      have T2 := Lib.hid (row_ext T1.out hx1l)
      have E2 := Lib.hid (E1.out.trans' hx1l)
      clear hx1l
      obtain ⟨p0, p1, p2, -, -, -⟩ := row3_facts (row_ext R1.out X2.out)
      have f1 := T2.out.cell hlt
      have f2 := T2.out.frozen k
      go_wp2
      go_roundg (N.ends.length - (k + 1))
      case measure => omega
      case rel => exact ⟨k + 1, by omega, rfl, by go_num, X2.out.store HGE.out _, tabRow_step T2.out⟩
    · obtain rfl : k = N.ends.length := by omega
      have HR := Lib.hid (tabRow_num T0.out)
      go_wp2
      go_ret2
      exact ⟨_, [mb], ret_mb D.out.symm, E0.out, by rw [ansOf_t HB.out]; exact num_own HR.out (tab_len _ _) (by omega) (parts_in HG.out), by simp, fun y hy => by
        simp only [List.mem_singleton] at hy
        subst hy
        have := HGE.out; have := K1.out.size; omega⟩

set_option maxHeartbeats 6400000 in
set_option maxRecDepth 100000 in
theorem meParts_any {w : World} {vn : Value} {N : Net} (h : NetAt w vn N) (hG : GoodW N) :
    Calls Try.prog 102 #[vn] w fun e w' => ∃ v' bs, e = .returned v' ∧ Ext w w' ∧ OwnI w' v' (parts N) bs ∧ Fresh w bs := by
  have HA := Lib.hid h
  have HG := Lib.hid hG
  clear hG
  have hA1 := HG.out.one
  have hA40 := HG.out.most
  obtain ⟨v0, v1, v2, rfl, hEa, -, -⟩ := h
  obtain ⟨ea, eb, eo, ec, rfl, hea, hel, hem, hec⟩ := hEa
  unfold maxLen at hem
  clear hea hec
  obtain ⟨i0, hi, hz0, hz1, hz2⟩ := info_parts Try.info3
  have I0 := Lib.hid (And.intro hi (And.intro hz0 (And.intro hz1 hz2)))
  clear hi hz0 hz1 hz2
  obtain ⟨W1, hW1⟩ : ∃ W1, W1 = w.alloc (.cells #[.slice ea N.ends.length ec, v1, v2] 29) := ⟨_, rfl⟩
  have K0 := Lib.hid (show Ext w W1 by rw [hW1]; exact boxed_ext _ _ _ _ _)
  have R0 := Lib.hid (show W1.rowIs w.heap.size 29 3 (tri (.slice ea N.ends.length ec) v1 v2) by rw [hW1]; exact boxed_row _ _ _ _ _)
  have Z1 := Lib.hid (show W1.heap.size = w.heap.size + 1 by rw [hW1]; simp)
  obtain ⟨p0, p1, p2, -, -, -⟩ := row3_facts R0.out
  rw [hW1] at p0 p1 p2
  go_enter Try.func102, Try.ntmps102
  go_wp2_with fail
  rw [← hW1]
  clear hW1 p0 p1 p2
  go_loopg [3, 8] N.ends.length (fun g s i wr => ∃ k : Nat, k ≤ N.ends.length ∧ g = N.ends.length - k ∧ i = .int .i64 k ∧ Hid (Ext W1 wr ∧ GrowN (w.heap.size + 1) wr s (tab (fun v => lessL (wk N (v : Int))) k)))
  case atStart => exact ⟨0, Nat.zero_le _, rfl, rfl, Ext.rfl' _, GrowN.nil _ _⟩
  case round =>
    obtain ⟨k, hk, rfl, rfl, Hr⟩ := hrel
    have X0 := Lib.hid Hr.out.1
    have T0 := Lib.hid Hr.out.2
    have E0 := Lib.hid (K0.out.trans' Hr.out.1)
    clear Hr
    by_cases hlt : k < N.ends.length
    · obtain ⟨p0, p1, p2, -, -, -⟩ := row3_facts (row_ext R0.out X0.out)
      go_wp2_with fail
      clear p0 p1 p2
      (with_reducible refine (meBall_any k 40 hlt (HA.out.ext E0.out) HG.out).mono ?_)
      rintro e w0l ⟨ub, bb, rfl, hx0l, hob, hfb⟩
      obtain ⟨hp, hpe⟩ := part_ball HG.out hlt
      obtain ⟨_, b', o', c', rfl, ha', hl', hm', hc'⟩ := hob.read
      obtain rfl := ha' hp
      obtain ⟨_, hc0, rfl, -⟩ := hc' 0 hp
      rw [hpe] at hc0
      unfold maxLen at hm'
      rw [Nat.add_zero] at hc0
      have hbl : (ball N (k : Int) 0 40).length ≤ N.ends.length := ball_len _ _ _ _
      have X1 := Lib.hid (X0.out.trans' hx0l)
      have T1 := Lib.hid (T0.out.ext hx0l)
      have E1 := Lib.hid (E0.out.trans' hx0l)
      have hsz := X1.out.size
      have hz1 := Z1.out
      have hS : (tab (fun v => lessL (wk N (v : Int))) k).length ≤ k := by rw [tab_len]; exact Nat.le_refl _
      have HSU := Lib.hid (tab_succ (fun v => lessL (wk N (v : Int))) k)
      obtain ⟨z, hz⟩ : ∃ z, z = lessL (wk N (k : Int)) := ⟨_, rfl⟩
      rw [← hz] at hc0 HSU
      clear hob hfb hx0l ha' hc' hpe hz
      go_wp2_with (first | (at_builtin; refine wpList_app2 rfl (.tmp 11) (.tmp 17) 23 rfl (w.heap.size + 1) 3 i0 (.int .i64 0) 1 8 Try.underlying23 I0.out.1 I0.out.2.1 I0.out.2.2.1 I0.out.2.2.2 rfl (by decide) _ (tab (fun v => lessL (wk N (v : Int))) k).length (intCells (tab (fun v => lessL (wk N (v : Int))) k)) rfl (T1.out.ext ((Ext.rfl' _).alloc' _)) (some ⟨w0l.heap.size, 0, none⟩) 1 1 (intCells [z]) rfl (src_lits w0l [z] 1 rfl 3) (by unfold maxLen; omega) (by omega) (by simp; omega) ?_))
      intro v' w4 hg
      have gx := T1.out.ext ((Ext.rfl' w0l).alloc' (.cells #[.int .i64 z] 3))
      have FI := Lib.hid (show Ext W1 w4 ∧ GrowN (w.heap.size + 1) w4 v' (tab (fun v => lessL (wk N (v : Int))) k ++ [z]) from
        ⟨grown_ext (X1.out.alloc' _) (by omega) gx hg.1.2.1, GrowN.step hg.1 rfl⟩)
      clear hg gx
      go_wp2
      go_roundg (N.ends.length - (k + 1))
      case measure => omega
      case rel => exact ⟨k + 1, by omega, rfl, by go_num, FI.out.1, by rw [HSU.out]; exact FI.out.2⟩
    · obtain rfl : k = N.ends.length := by omega
      go_wp2
      go_ret
      obtain ⟨bs, ho, hn, hb⟩ := T0.out.own (parts_in HG.out)
      exact ⟨_, bs, rfl, E0.out, ho, hn, fun b hb' => by have := hb b hb'; omega⟩
set_option maxHeartbeats 6400000 in
set_option maxRecDepth 100000 in
theorem specComponents_any {w : World} {vn : Value} {N : Net} (h : NetAt w vn N) :
    Calls Try.prog 47 #[vn] w fun e w' => ∃ v' bs, e = .returned (.tuple #[v', .bool (dec (Good N))]) ∧ Ext w w' ∧ OwnI w' v' (ansOf (Good N) (parts N)) bs ∧ Fresh w bs := by
  have HA := Lib.hid h
  obtain ⟨v0, v1, v2, rfl, hEa, -, -⟩ := h
  clear hEa
  obtain ⟨W1, hW1⟩ : ∃ W1, W1 = w.alloc (.cells #[v0, v1, v2] 29) := ⟨_, rfl⟩
  have K0 := Lib.hid (show Ext w W1 by rw [hW1]; exact boxed_ext _ _ _ _ _)
  have R0 := Lib.hid (show W1.rowIs w.heap.size 29 3 (tri (v0) v1 v2) by rw [hW1]; exact boxed_row _ _ _ _ _)
  obtain ⟨p0, p1, p2, -, -, -⟩ := row3_facts R0.out
  rw [hW1] at p0 p1 p2
  by_cases hg0 : Good N
  case neg =>
    have G0 := Lib.hid (dec_false hg0)
    have D := Lib.hid (dec_false (p := Good N) fun h => hg0 (h))
    have NB := Lib.hid (show ¬ (Good N) from fun h => hg0 (h))
    clear hg0
    go_enter Try.func47, Try.ntmps47
    go_wp2_with fail
    rw [← hW1]
    clear hW1 p0 p1 p2
    (with_reducible refine (neGood_any (HA.out.ext K0.out)).mono ?_)
    rintro e w1g ⟨rfl, hxg⟩
    rw [G0.out]
    have K1 := Lib.hid (K0.out.trans' hxg)
    have R1 := Lib.hid (row_ext R0.out hxg)
    clear hxg
    obtain ⟨p0, p1, p2, -, -, -⟩ := row3_facts R1.out
    go_wp2
    go_ret2
    exact ⟨_, [], ret_mb D.out.symm, K1.out, by rw [ansOf_f NB.out]; exact own_nilI _, Fresh.nil _⟩
  have G0 := Lib.hid (dec_true hg0)
  have H0 := Lib.hid hg0
  clear hg0
  have HB := Lib.hid (show Good N from H0.out)
  have D := Lib.hid (dec_true HB.out)
  have HG := Lib.hid (good_w H0.out)
  go_enter Try.func47, Try.ntmps47
  go_wp2_with fail
  rw [← hW1]
  clear hW1 p0 p1 p2
  (with_reducible refine (neGood_any (HA.out.ext K0.out)).mono ?_)
  rintro e w1g ⟨rfl, hxg⟩
  rw [G0.out]
  have K1 := Lib.hid (K0.out.trans' hxg)
  have R1 := Lib.hid (row_ext R0.out hxg)
  clear hxg
  obtain ⟨p0, p1, p2, -, -, -⟩ := row3_facts R1.out
  go_wp2_with fail
  clear p0 p1 p2
  (with_reducible refine (meParts_any (HA.out.ext K1.out) HG.out).mono ?_)
  rintro e wz ⟨ud, bd, rfl, hxz, hoz, hfz⟩
  have KZ := Lib.hid (K1.out.trans' hxz)
  have OZ := Lib.hid hoz
  have FZ := Lib.hid (hfz.of K1.out.size)
  clear hxz hoz hfz
  go_wp2
  go_ret2
  exact ⟨_, bd, ret_mb D.out.symm, KZ.out, by rw [ansOf_t HB.out]; exact OZ.out, FZ.out⟩
end Go.Proofs.Ytkeiaahlifdbiaa
