/- The contracts of PullNodes and ComposeMaps. -/
import Derived.Test.YtgacbfblpkikkaaQj
namespace Go.Proofs.Ytgacbfblpkikkaa
open Go.RowKit Go.Maps

/-- The elements of l at the first k places of a list. -/
def thrTo (l p : List Int) (k : Nat) : List Int := (List.range k).map fun i => gi l (gi p i).toNat
def thr (l p : List Int) : List Int := thrTo l p p.length
theorem length_thrTo (l p : List Int) (k : Nat) : (thrTo l p k).length = k := by simp [thrTo]
theorem length_thr (l p : List Int) : (thr l p).length = p.length := length_thrTo _ _ _
theorem gi_thrTo (l p : List Int) (k i : Nat) (h : i < k) : gi (thrTo l p k) i = gi l (gi p i).toNat := by simp [gi, thrTo, h]
theorem gi_thr (l p : List Int) (i : Nat) (h : i < p.length) : gi (thr l p) i = gi l (gi p i).toNat := gi_thrTo _ _ _ _ h
theorem thrTo_succ (l p : List Int) (k : Nat) : thrTo l p (k + 1) = thrTo l p k ++ [gi l (gi p k).toNat] := by simp [thrTo, List.range_succ]
theorem thr_in {w : World} {v : Value} {l p : List Int} (h : IntSl w v l) (hp : ImIn p l.length) : ∀ i, i < (thr l p).length → inI64 (gi (thr l p) i) := fun i hi => by
  rw [length_thr] at hi
  rw [gi_thr _ _ _ hi]
  have := hp i hi
  exact h.range _ (by omega)
def PullB (A B : Net) (m l : List Int) : Prop := PmAns A B m ∧ l.length = B.ends.length
noncomputable def pullAns (A B : Net) (m l : List Int) : List Int := if dec (PullB A B m l) = true then thr l m else []
theorem pullAns_t {A B : Net} {m l : List Int} (h : PullB A B m l) : pullAns A B m l = thr l m := by unfold pullAns; rw [if_pos (dec_true h)]
theorem pullAns_f {A B : Net} {m l : List Int} (h : ¬ PullB A B m l) : pullAns A B m l = [] := by unfold pullAns; rw [if_neg (by rw [dec_false h]; simp)]
theorem pullAns_len (A B : Net) (m l : List Int) : (pullAns A B m l).length ≤ 1048576 := by
  by_cases h : PullB A B m l
  · rw [pullAns_t h, length_thr]; have := (fib_small h.1).1; omega
  · rw [pullAns_f h]; simp
theorem own_nilI' (w : World) : OwnI w (.slice none 0 0) [] [] := own_nilI w
theorem ints_row {w : World} {b : Nat} {l : List Int} {n : Nat} (h : w.rowIs b 3 n (copied l n)) (hl : l.length = n) (hn : n ≤ 1048576) (hr : ∀ i, i < l.length → inI64 (gi l i)) : OwnI w (.slice (some ⟨b, 0, none⟩) n n) l [b] := by
  subst hl
  exact ⟨own_made (by simpa using h) (by unfold maxLen; omega) fun i hi => by simp [copied, show i < l.length by omega], hr⟩

set_option maxHeartbeats 3200000 in
set_option maxRecDepth 100000 in
theorem pullNodes_any {w : World} {va vb vm vl : Value} {A B : Net} {m l : List Int} (h : NetAt w va A) (k : NetAt w vb B) (hf : IntSl w vm m) (hg : IntSl w vl l) :
    Calls Try.prog 57 #[va, vb, vm, vl] w fun e w' => ∃ v' bs, e = .returned (.tuple #[v', .bool (dec (PullB A B m l))]) ∧ Ext w w' ∧ OwnI w' v' (pullAns A B m l) bs ∧ Fresh w bs := by
  have HRA := Lib.hid (fun (hp : ImIn m l.length) => thr_in hg hp)
  have HA := Lib.hid h
  have HB := Lib.hid k
  have HF := Lib.hid hf
  obtain ⟨v0, v1, v2, rfl, -, -, -⟩ := h
  obtain ⟨u0, u1, u2, rfl, hEb, -, -⟩ := k
  obtain ⟨fa, fb, fo, fc, rfl, -, hfl, hfm, -⟩ := hEb
  unfold maxLen at hfm
  obtain ⟨la, lb, lo, lc, rfl, hla, hll, hlm, hlc⟩ := hf
  unfold maxLen at hlm
  have HLA := Lib.hid hla
  have HLC := Lib.hid hlc
  clear hla hlc
  obtain ⟨W1, hW1⟩ : ∃ W1, W1 = (w.alloc (.cells #[v0, v1, v2] 29)).alloc (.cells #[.slice fa B.ends.length fc, u1, u2] 29) := ⟨_, rfl⟩
  have EW := Lib.hid (show Ext w W1 by rw [hW1]; exact (boxed_ext _ _ _ _ _).trans' (boxed_ext _ _ _ _ _))
  have RA := Lib.hid (show W1.rowIs w.heap.size 29 3 (tri v0 v1 v2) by rw [hW1]; exact (boxed_row _ _ _ _ _).alloc _)
  have RB := Lib.hid (show W1.rowIs (w.heap.size + 1) 29 3 (tri (.slice fa B.ends.length fc) u1 u2) by rw [hW1]; simpa using boxed_row (boxed w v0 v1 v2 29) (.slice fa B.ends.length fc) u1 u2 29)
  obtain ⟨p0, p1, p2, -, -, -⟩ := row3_facts RA.out
  obtain ⟨q0, q1, q2, -, -, -⟩ := row3_facts RB.out
  rw [hW1] at p0 p1 p2 q0 q1 q2
  obtain ⟨ga, gb, go, gc, rfl, hga, hgl, hgm, hgc⟩ := hg
  unfold maxLen at hgm
  have HGA := Lib.hid hga
  have HGC := Lib.hid hgc
  clear hga hgc
  by_cases hp : PmAns A B m
  case neg =>
    have D := Lib.hid (dec_false hp)
    have E := Lib.hid (show ¬ PullB A B m l from fun h => hp h.1)
    clear hp
    go_enter Try.func57, Try.ntmps57
    go_wp2_with fail
    rw [← hW1]
    clear hW1 p0 p1 p2 q0 q1 q2
    (with_reducible refine (keepsPorts_any (HA.out.ext EW.out) (HB.out.ext EW.out) (HF.out.ext EW.out)).mono ?_)
    rintro e w1 ⟨rfl, hx1⟩
    have K1 := Lib.hid (EW.out.trans' hx1)
    rw [D.out]
    clear hx1
    go_wp2
    go_ret2
    exact ⟨_, [], ret_mb (dec_false E.out).symm, K1.out, by rw [pullAns_f E.out]; exact own_nilI _, Fresh.nil _⟩
  have D := Lib.hid (dec_true hp)
  have HP := Lib.hid hp
  obtain ⟨h1, h2, h3⟩ := fib_small hp
  clear hp
  by_cases hl : l.length = B.ends.length
  case neg =>
    have hlb : ((l.length : Int) != (B.ends.length : Int)) = true := by simp; omega
    have E := Lib.hid (show ¬ PullB A B m l from fun h => hl h.2)
    clear hl
    go_enter Try.func57, Try.ntmps57
    go_wp2_with fail
    rw [← hW1]
    clear hW1 p0 p1 p2 q0 q1 q2
    (with_reducible refine (keepsPorts_any (HA.out.ext EW.out) (HB.out.ext EW.out) (HF.out.ext EW.out)).mono ?_)
    rintro e w1 ⟨rfl, hx1⟩
    have K1 := Lib.hid (EW.out.trans' hx1)
    rw [D.out]
    obtain ⟨q0, q1, q2, -, -, -⟩ := row3_facts (row_ext RB.out hx1)
    clear hx1
    go_wp2
    go_ret2
    exact ⟨_, [], ret_mb (dec_false E.out).symm, K1.out, by rw [pullAns_f E.out]; exact own_nilI _, Fresh.nil _⟩
  have hlb : ((l.length : Int) != (B.ends.length : Int)) = false := by simp; omega
  have E := Lib.hid (show PullB A B m l from ⟨HP.out, hl⟩)
  have HIN := Lib.hid (show ImIn m l.length by rw [hl]; exact pm_in HP.out.ok)
  clear hl
  have hmk := run_make_row' (P := Try.prog) 23 3 (.int .i64 0) 8 Try.underlying23 Try.info3 rfl .i64 .i64 m.length (by omega) (by omega)
  go_enter Try.func57, Try.ntmps57
  go_wp2_with fail
  rw [← hW1]
  clear hW1 p0 p1 p2 q0 q1 q2
  (with_reducible refine (keepsPorts_any (HA.out.ext EW.out) (HB.out.ext EW.out) (HF.out.ext EW.out)).mono ?_)
  rintro e w1 ⟨rfl, hx1⟩
  have K1 := Lib.hid (EW.out.trans' hx1)
  rw [D.out]
  obtain ⟨q0, q1, q2, -, -, -⟩ := row3_facts (row_ext RB.out hx1)
  clear hx1
  go_wp2_with fail
  clear hmk q0 q1 q2
  go_loopg [31] m.length (fun g i wr => ∃ k : Nat, k ≤ m.length ∧ g = m.length - k ∧ i = .int .i64 k ∧ Hid (Ext w1 wr ∧ wr.rowIs w1.heap.size 3 m.length (copied (thr l m) k)))
  case atStart => exact ⟨0, Nat.zero_le _, rfl, rfl, (Ext.rfl' _).alloc' _, (World.rowIs_made _ _ _ _).congr fun i _ => by simp [copied]⟩
  case round =>
    obtain ⟨k, hk, rfl, rfl, Hr⟩ := hrel
    by_cases hlt : k < m.length
    · obtain ⟨_, hmy, rfl, hmr⟩ := HLC.out k hlt
      obtain ⟨hz0, hz1⟩ := HIN.out k hlt
      obtain ⟨z, hz⟩ := Int.eq_ofNat_of_zero_le hz0
      have hzl : z < l.length := by omega
      rw [hz] at hmy
      have HZ := Lib.hid (show gi (thr l m) k = gi l z by rw [gi_thr _ _ _ hlt, hz, Int.toNat_natCast])
      clear hz hz0 hz1 hmr
      obtain rfl := HLA.out (by omega)
      obtain rfl := HGA.out (by omega)
      obtain ⟨_, hgy, rfl, -⟩ := HGC.out z hzl
      have c1 := Hr.out.1.cell' (K1.out.cell' hmy)
      have c2 := Hr.out.1.cell' (K1.out.cell' hgy)
      have f1 := Hr.out.2.cell hlt
      have f2 := Hr.out.2.frozen k
      clear hmy hgy
      go_wp2
      go_roundg (m.length - (k + 1))
      case measure => omega
      case rel => exact ⟨k + 1, by omega, rfl, by go_num, Hr.out.1.store (Nat.le_refl _) _, by rw [← HZ.out]; exact copied_step Hr.out.2⟩
    · obtain rfl : k = m.length := by omega
      go_wp2
      go_ret2
      refine ⟨_, [w1.heap.size], ret_mb (dec_true E.out).symm, K1.out.trans' Hr.out.1, ?_, by simp, fun x hx => ?_⟩
      · rw [pullAns_t E.out]
        exact ints_row Hr.out.2 (length_thr _ _) (by omega) (HRA.out HIN.out)
      · simp only [List.mem_singleton] at hx
        subst hx
        exact K1.out.size

set_option maxHeartbeats 3200000 in
set_option maxRecDepth 100000 in
theorem coThrough_any {w : World} {vl va : Value} {l p : List Int} (hl : IntSl w vl l) (ha : IntSl w va p) (hin : ImIn p l.length) (hp20 : p.length ≤ 1048576) :
    Calls Try.prog 90 #[vl, va] w fun e w' => ∃ v' bs, e = .returned v' ∧ Ext w w' ∧ OwnI w' v' (thr l p) bs ∧ Fresh w bs := by
  have HP20 := Lib.hid hp20
  have HIN := Lib.hid hin
  have HRA := Lib.hid (thr_in hl hin)
  clear hin hp20
  obtain ⟨la, lb, lo, lc, rfl, hla, hll, hlm, hlc⟩ := hl
  obtain ⟨ga, gb, go, gc, rfl, hga, hgl, hgm, hgc⟩ := ha
  unfold maxLen at hlm hgm
  have HLA := Lib.hid hla
  have HLC := Lib.hid hlc
  have HGA := Lib.hid hga
  have HGC := Lib.hid hgc
  clear hla hlc hga hgc
  obtain ⟨i0, hi, hz0, hz1, hz2⟩ := info_parts Try.info3
  have I0 := Lib.hid (show Try.prog.info? 3 = some i0 ∧ i0.zero = some (.int .i64 0) ∧ i0.size = 1 ∧ i0.bytes = 8 from ⟨hi, hz0, hz1, hz2⟩)
  clear hi hz0 hz1 hz2
  go_enter Try.func90, Try.ntmps90
  go_wp2
  go_loopg [5, 10] p.length (fun g s i wr => ∃ k : Nat, k ≤ p.length ∧ g = p.length - k ∧ i = .int .i64 k ∧ Hid (Ext w wr ∧ GrowN w.heap.size wr s (thrTo l p k)))
  case atStart => exact ⟨0, Nat.zero_le _, rfl, rfl, Ext.rfl' _, GrowN.nil _ _⟩
  case round =>
    obtain ⟨k, hk, rfl, rfl, Hr⟩ := hrel
    by_cases hlt : k < p.length
    · obtain ⟨_, hgy, rfl, -⟩ := HGC.out k hlt
      obtain ⟨hz0, hz1⟩ := HIN.out k hlt
      obtain ⟨z, hz⟩ := Int.eq_ofNat_of_zero_le hz0
      have hzl : z < l.length := by omega
      rw [hz] at hgy
      have HZ := Lib.hid (show thrTo l p (k + 1) = thrTo l p k ++ [gi l z] by rw [thrTo_succ, hz, Int.toNat_natCast])
      clear hz hz0 hz1
      obtain rfl := HGA.out (by omega)
      obtain rfl := HLA.out (by omega)
      obtain ⟨_, hly, rfl, -⟩ := HLC.out z hzl
      obtain ⟨x, hx⟩ : ∃ x, gi l z = x := ⟨_, rfl⟩
      rw [hx] at hly HZ
      clear hx
      have c1 := Hr.out.1.cell' hgy
      have c2 := Hr.out.1.cell' hly
      have hp20 := HP20.out
      have hlen := length_thrTo l p k
      have HLEN := Lib.hid hlen
      have SZ := Lib.hid Hr.out.1.size
      clear hgy hly hlen
      go_wp2_with (at_builtin; refine wpList_app2 rfl _ _ 23 rfl w.heap.size 3 i0 (.int .i64 0) 1 8 Try.underlying23 I0.out.1 I0.out.2.1 I0.out.2.2.1 I0.out.2.2.2 rfl (by decide) _ (thrTo l p k).length (intCells (thrTo l p k)) rfl (Hr.out.2.ext ((Ext.rfl' _).alloc' _)) (some ⟨wr.heap.size, 0, none⟩) 1 1 [.int .i64 x] rfl (src_one wr _ _ rfl) (by have := HLEN.out; unfold maxLen; omega) (by have := HLEN.out; omega) (by have := SZ.out; simp; omega) ?_; intro v' w3 hg)
      have FI := Lib.hid (show Ext w w3 ∧ GrowN w.heap.size w3 v' (thrTo l p k ++ [x]) from ⟨grown_ext (Hr.out.1.alloc' (.cells #[.int .i64 x] 3)) (Nat.le_refl _) (Hr.out.2.ext ((Ext.rfl' _).alloc' _)) hg.1.2.1, GrowN.step hg.1 rfl⟩)
      clear hg
      go_wp2
      go_roundg (p.length - (k + 1))
      case measure => omega
      case rel => exact ⟨k + 1, by omega, rfl, by go_num, FI.out.1, by rw [HZ.out]; exact FI.out.2⟩
    · obtain rfl : k = p.length := by omega
      go_wp2
      go_ret
      obtain ⟨bs, ho, hnd, hge⟩ := Hr.out.2.own HRA.out
      exact ⟨_, bs, rfl, Hr.out.1, ho, hnd, hge⟩

set_option maxHeartbeats 3200000 in
set_option maxRecDepth 100000 in
theorem specPullNodes_any {w : World} {va vb vm vl : Value} {A B : Net} {m l : List Int} (h : NetAt w va A) (k : NetAt w vb B) (hf : IntSl w vm m) (hg : IntSl w vl l) :
    Calls Try.prog 56 #[va, vb, vm, vl] w fun e w' => ∃ v' bs, e = .returned (.tuple #[v', .bool (dec (PullB A B m l))]) ∧ Ext w w' ∧ OwnI w' v' (pullAns A B m l) bs ∧ Fresh w bs := by
  have HG := Lib.hid hg
  have HA := Lib.hid h
  have HB := Lib.hid k
  have HF := Lib.hid hf
  obtain ⟨v0, v1, v2, rfl, -, -, -⟩ := h
  obtain ⟨u0, u1, u2, rfl, hEb, -, -⟩ := k
  obtain ⟨fa, fb, fo, fc, rfl, -, hfl, hfm, -⟩ := hEb
  unfold maxLen at hfm
  clear hf
  obtain ⟨W1, hW1⟩ : ∃ W1, W1 = (w.alloc (.cells #[v0, v1, v2] 29)).alloc (.cells #[.slice fa B.ends.length fc, u1, u2] 29) := ⟨_, rfl⟩
  have EW := Lib.hid (show Ext w W1 by rw [hW1]; exact (boxed_ext _ _ _ _ _).trans' (boxed_ext _ _ _ _ _))
  have RA := Lib.hid (show W1.rowIs w.heap.size 29 3 (tri v0 v1 v2) by rw [hW1]; exact (boxed_row _ _ _ _ _).alloc _)
  have RB := Lib.hid (show W1.rowIs (w.heap.size + 1) 29 3 (tri (.slice fa B.ends.length fc) u1 u2) by rw [hW1]; simpa using boxed_row (boxed w v0 v1 v2 29) (.slice fa B.ends.length fc) u1 u2 29)
  obtain ⟨p0, p1, p2, -, -, -⟩ := row3_facts RA.out
  obtain ⟨q0, q1, q2, -, -, -⟩ := row3_facts RB.out
  rw [hW1] at p0 p1 p2 q0 q1 q2
  obtain ⟨ga, gb, go, gc, rfl, -, hgl, hgm, -⟩ := hg
  unfold maxLen at hgm
  by_cases hp : PmAns A B m
  case neg =>
    have D := Lib.hid (dec_false hp)
    have E := Lib.hid (show ¬ PullB A B m l from fun h => hp h.1)
    clear hp
    go_enter Try.func56, Try.ntmps56
    go_wp2_with fail
    rw [← hW1]
    clear hW1 p0 p1 p2 q0 q1 q2
    (with_reducible refine (coAsked_any (HA.out.ext EW.out) (HB.out.ext EW.out) (HF.out.ext EW.out)).mono ?_)
    rintro e w1 ⟨rfl, hx1⟩
    have K1 := Lib.hid (EW.out.trans' hx1)
    rw [D.out]
    clear hx1
    go_wp2
    go_ret2
    exact ⟨_, [], ret_mb (dec_false E.out).symm, K1.out, by rw [pullAns_f E.out]; exact own_nilI _, Fresh.nil _⟩
  have D := Lib.hid (dec_true hp)
  have HP := Lib.hid hp
  obtain ⟨h1, h2, h3⟩ := fib_small hp
  clear hp
  by_cases hl : l.length = B.ends.length
  case neg =>
    have hlb : ((l.length : Int) != (B.ends.length : Int)) = true := by simp; omega
    have E := Lib.hid (show ¬ PullB A B m l from fun h => hl h.2)
    clear hl
    go_enter Try.func56, Try.ntmps56
    go_wp2_with fail
    rw [← hW1]
    clear hW1 p0 p1 p2 q0 q1 q2
    (with_reducible refine (coAsked_any (HA.out.ext EW.out) (HB.out.ext EW.out) (HF.out.ext EW.out)).mono ?_)
    rintro e w1 ⟨rfl, hx1⟩
    have K1 := Lib.hid (EW.out.trans' hx1)
    rw [D.out]
    obtain ⟨q0, q1, q2, -, -, -⟩ := row3_facts (row_ext RB.out hx1)
    clear hx1
    go_wp2
    go_ret2
    exact ⟨_, [], ret_mb (dec_false E.out).symm, K1.out, by rw [pullAns_f E.out]; exact own_nilI _, Fresh.nil _⟩
  have hlb : ((l.length : Int) != (B.ends.length : Int)) = false := by simp; omega
  have E := Lib.hid (show PullB A B m l from ⟨HP.out, hl⟩)
  have HIN := Lib.hid (show ImIn m l.length by rw [hl]; exact pm_in HP.out.ok)
  clear hl
  go_enter Try.func56, Try.ntmps56
  go_wp2_with fail
  rw [← hW1]
  clear hW1 p0 p1 p2 q0 q1 q2
  (with_reducible refine (coAsked_any (HA.out.ext EW.out) (HB.out.ext EW.out) (HF.out.ext EW.out)).mono ?_)
  rintro e w1 ⟨rfl, hx1⟩
  have K1 := Lib.hid (EW.out.trans' hx1)
  rw [D.out]
  obtain ⟨q0, q1, q2, -, -, -⟩ := row3_facts (row_ext RB.out hx1)
  clear hx1
  go_wp2_with fail
  (with_reducible refine (coThrough_any (HG.out.ext K1.out) (HF.out.ext K1.out) HIN.out (by omega)).mono ?_)
  rintro e w2 ⟨v', bs, rfl, hx2, ho, hfr⟩
  have K2 := Lib.hid (K1.out.trans' hx2)
  have HO := Lib.hid ho
  have HFR := Lib.hid (hfr.of K1.out.size)
  clear hx2 ho hfr q0 q1 q2
  go_wp2
  go_ret2
  exact ⟨_, bs, ret_mb (dec_true E.out).symm, K2.out, by rw [pullAns_t E.out]; exact HO.out, HFR.out⟩

theorem pullNodesL_any {w : World} {va vb vm vl : Value} {A B : Net} {m l : List Int} (h : NetAt w va A) (k : NetAt w vb B) (hf : IntSl w vm m) (_ : m.length ≤ 1048576) (hg : IntSl w vl l) (_ : l.length ≤ 1048576) :
    Calls Try.prog 57 #[va, vb, vm, vl] w fun e w' => ∃ v' bs, e = .returned (.tuple #[v', .bool (dec (PullB A B m l))]) ∧ Ext w w' ∧ OwnI w' v' (pullAns A B m l) bs ∧ Fresh w bs := pullNodes_any h k hf hg
theorem specPullNodesL_any {w : World} {va vb vm vl : Value} {A B : Net} {m l : List Int} (h : NetAt w va A) (k : NetAt w vb B) (hf : IntSl w vm m) (_ : m.length ≤ 1048576) (hg : IntSl w vl l) (_ : l.length ≤ 1048576) :
    Calls Try.prog 56 #[va, vb, vm, vl] w fun e w' => ∃ v' bs, e = .returned (.tuple #[v', .bool (dec (PullB A B m l))]) ∧ Ext w w' ∧ OwnI w' v' (pullAns A B m l) bs ∧ Fresh w bs := specPullNodes_any h k hf hg
end Go.Proofs.Ytgacbfblpkikkaa
