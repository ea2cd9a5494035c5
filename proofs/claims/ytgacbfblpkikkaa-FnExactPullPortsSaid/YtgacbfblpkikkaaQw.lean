/- The contracts of PullPorts. -/
import Derived.Test.YtgacbfblpkikkaaQv
namespace Go.Proofs.Ytgacbfblpkikkaa
open Go.RowKit Go.Maps

/-- The lists at the first k places. -/
def thsTo (l : List (List Int)) (p : List Int) (k : Nat) : List (List Int) := (List.range k).map fun i => gr l (gi p i).toNat
theorem length_thsTo (l : List (List Int)) (p : List Int) (k : Nat) : (thsTo l p k).length = k := by simp [thsTo]
theorem gr_thsTo (l : List (List Int)) (p : List Int) (k i : Nat) (h : i < k) : gr (thsTo l p k) i = gr l (gi p i).toNat := by simp [gr, thsTo, h]
theorem thsTo_succ (l : List (List Int)) (p : List Int) (k : Nat) : thsTo l p (k + 1) = thsTo l p k ++ [gr l (gi p k).toNat] := by simp [thsTo, List.range_succ]
def LenB (B : Net) (l : List (List Int)) (k : Nat) : Prop := ∀ z, z < k → (gr l z).length = (gr B.ends z).length
def PpB (A B : Net) (m : List Int) (l : List (List Int)) : Prop := PmAns A B m ∧ l.length = B.ends.length ∧ LenB B l B.ends.length
noncomputable def ppAns (A B : Net) (m : List Int) (l : List (List Int)) : List (List Int) := if dec (PpB A B m l) = true then thsTo l m m.length else []
theorem ppAns_t {A B : Net} {m : List Int} {l : List (List Int)} (h : PpB A B m l) : ppAns A B m l = thsTo l m m.length := by unfold ppAns; rw [if_pos (dec_true h)]
theorem ppAns_f {A B : Net} {m : List Int} {l : List (List Int)} (h : ¬ PpB A B m l) : ppAns A B m l = [] := by unfold ppAns; rw [if_neg (by rw [dec_false h]; simp)]
theorem lenB_six {B : Net} {l : List (List Int)} (hB : Good B) (h : LenB B l B.ends.length) {z : Nat} (hz : z < B.ends.length) : (gr l z).length ≤ 6 := by rw [h z hz]; exact (good_w hB).deg z hz
theorem ppAns_small (A B : Net) (m : List Int) (l : List (List Int)) : IISmall (ppAns A B m l) := by
  by_cases h : PpB A B m l
  · rw [ppAns_t h]
    have h1 := (fib_small h.1).1
    refine ⟨by rw [length_thsTo]; omega, fun i => ?_⟩
    by_cases hi : i < m.length
    · rw [gr_thsTo _ _ _ _ hi]
      have := pm_in h.1.ok i hi
      have := lenB_six h.1.two.2 h.2.2 (z := (gi m i).toNat) (by omega)
      omega
    · rw [gr_out _ _ (by rw [length_thsTo]; omega)]; simp
  · rw [ppAns_f h]
    exact ⟨by simp, fun i => by simp [gr]⟩
/-- One row is laid anew. -/
theorem Fam.fresh {B n k : Nat} {w w2 : World} {R : Nat → Value} {L : Nat → List Int} {v' : Value} {row : List Int} (h : Fam B w n R L) (hx : Ext w w2) (hB : B ≤ w.heap.size) (hv : GrowN w.heap.size w2 v' row) : Fam B w2 n (put1 R k v') (fun i => if i = k then row else L i) := by
  have H := h.ext hx
  refine ⟨fun i hi => ?_, fun i j hi hj hij b => ?_⟩
  · by_cases e : i = k
    · simp only [put1, if_pos e]
      refine ⟨hv.1, ?_⟩
      rcases hv.2 with h0 | ⟨g, cap, cur, h1, h2, h3⟩
      · exact .inl h0
      · exact .inr ⟨g, cap, cur, h1, by omega, h3⟩
    · simp only [put1, if_neg e]; exact H.own i hi
  · by_cases e : i = k
    · have e2 : j ≠ k := fun e2 => hij (by omega)
      simp only [put1, if_pos e, if_neg e2]
      intro h1 h2
      have := (hv.lt b h1).1
      have := ((h.own j hj).lt b h2).2
      omega
    · by_cases e3 : j = k
      · simp only [put1, if_neg e, if_pos e3]
        intro h1 h2
        have := (hv.lt b h2).1
        have := ((h.own i hi).lt b h1).2
        omega
      · simp only [put1, if_neg e, if_neg e3]
        exact H.ap i j hi hj hij b
def upTo (l : List (List Int)) (p : List Int) (k : Nat) : Nat → List Int := fun i => if i < k then gr l (gi p i).toNat else []
theorem upTo_step (l : List (List Int)) (p : List Int) (k : Nat) : (fun i => if i = k then gr l (gi p k).toNat else upTo l p k i) = upTo l p (k + 1) := by
  funext i
  unfold upTo
  by_cases e : i = k
  · subst e; simp
  · by_cases e2 : i < k
    · simp [e, e2, show i < k + 1 by omega]
    · simp [e, e2, show ¬ i < k + 1 by omega]

set_option maxHeartbeats 6400000 in
set_option maxRecDepth 100000 in
theorem pullPorts_any {w : World} {va vb vm vl : Value} {A B : Net} {m : List Int} {l : List (List Int)} (h : NetAt w va A) (k : NetAt w vb B) (hf : IntSl w vm m) (hg : IntSS w vl l) :
    Calls Try.prog 59 #[va, vb, vm, vl] w fun e w' => ∃ v' bs, e = .returned (.tuple #[v', .bool (dec (PpB A B m l))]) ∧ Ext w w' ∧ OwnII w' v' (ppAns A B m l) bs ∧ Fresh w bs := by
  have HA := Lib.hid h
  have HB := Lib.hid k
  have HF := Lib.hid hf
  obtain ⟨v0, v1, v2, rfl, -, -, -⟩ := h
  obtain ⟨u0, u1, u2, rfl, hEb, -, -⟩ := k
  obtain ⟨fa, fb, fo, fc, rfl, hfa, hfl, hfm, hfc⟩ := hEb
  unfold maxLen at hfm
  have HFA := Lib.hid hfa
  have HFC := Lib.hid hfc
  clear hfa hfc
  obtain ⟨la, lb, lo, lc, rfl, hla, hll, hlm, hlc⟩ := hf
  unfold maxLen at hlm
  have HLA := Lib.hid hla
  have HLC := Lib.hid hlc
  clear hla hlc
  obtain ⟨W1, hW1⟩ : ∃ W1, W1 = (w.alloc (.cells #[v0, v1, v2] 29)).alloc (.cells #[.slice fa B.ends.length fc, u1, u2] 29) := ⟨_, rfl⟩
  have EW := Lib.hid (show Ext w W1 by rw [hW1]; exact (boxed_ext _ _ _ _ _).trans' (boxed_ext _ _ _ _ _))
  have RA := Lib.hid (show W1.rowIs w.heap.size 29 3 (tri v0 v1 v2) by rw [hW1]; exact (boxed_row _ _ _ _ _).alloc _)
  have RB := Lib.hid (show W1.rowIs (w.heap.size + 1) 29 3 (tri (.slice fa B.ends.length fc) u1 u2) by rw [hW1]; simpa using boxed_row (boxed w v0 v1 v2 29) (.slice fa B.ends.length fc) u1 u2 29)
  obtain ⟨p0, p1, p2, -, -, -⟩ := row3_facts RA.out
  obtain ⟨q0, q1, q2, -, -, -⟩ := row3_facts RB.out
  rw [hW1] at p0 p1 p2 q0 q1 q2
  obtain ⟨ga, gb, go, gc, rfl, hga, hgl, hgm, hgc⟩ := hg
  unfold maxLen at hgm
  have HGA := Lib.hid hga
  have HGC := Lib.hid hgc
  clear hga hgc
  by_cases hp : PmAns A B m
  case neg =>
    have D := Lib.hid (dec_false hp)
    have E := Lib.hid (show ¬ PpB A B m l from fun h => hp h.1)
    clear hp
    go_enter Try.func59, Try.ntmps59
    go_wp2_with fail
    rw [← hW1]
    clear hW1 p0 p1 p2 q0 q1 q2
    (with_reducible refine (keepsPorts_any (HA.out.ext EW.out) (HB.out.ext EW.out) (HF.out.ext EW.out)).mono ?_)
    rintro e W2 ⟨rfl, hx1⟩
    have X2 := Lib.hid hx1
    have K2 := Lib.hid (EW.out.trans' hx1)
    rw [D.out]
    clear hx1
    go_wp2
    go_ret2
    first | exact ⟨_, [], ret_mb (dec_false E.out).symm, K2.out, by rw [ppAns_f E.out]; exact own_nilII _, Fresh.nil _⟩ | exact ⟨_, ret_mb (dec_false E.out).symm, K2.out, [], by rw [ppAns_f E.out]; exact own_nilII _, Fresh.nil _⟩
  have D := Lib.hid (dec_true hp)
  have HP := Lib.hid hp
  obtain ⟨h1, h2, h3⟩ := fib_small hp
  clear hp
  by_cases hl : l.length = B.ends.length
  case neg =>
    have hlb : ((l.length : Int) != (B.ends.length : Int)) = true := by simp; omega
    have E := Lib.hid (show ¬ PpB A B m l from fun h => hl h.2.1)
    clear hl
    go_enter Try.func59, Try.ntmps59
    go_wp2_with fail
    rw [← hW1]
    clear hW1 p0 p1 p2 q0 q1 q2
    (with_reducible refine (keepsPorts_any (HA.out.ext EW.out) (HB.out.ext EW.out) (HF.out.ext EW.out)).mono ?_)
    rintro e W2 ⟨rfl, hx1⟩
    have X2 := Lib.hid hx1
    have K2 := Lib.hid (EW.out.trans' hx1)
    rw [D.out]
    clear hx1
    obtain ⟨q0, q1, q2, -, -, -⟩ := row3_facts (row_ext RB.out X2.out)
    go_wp2
    go_ret2
    first | exact ⟨_, [], ret_mb (dec_false E.out).symm, K2.out, by rw [ppAns_f E.out]; exact own_nilII _, Fresh.nil _⟩ | exact ⟨_, ret_mb (dec_false E.out).symm, K2.out, [], by rw [ppAns_f E.out]; exact own_nilII _, Fresh.nil _⟩
  have hlb : ((l.length : Int) != (B.ends.length : Int)) = false := by simp; omega
  have HLB := Lib.hid hl
  have HIN := Lib.hid (show ImIn m l.length by rw [hl]; exact pm_in HP.out.ok)
  clear hl
  obtain ⟨i0, hi, hz0, hz1, hz2⟩ := info_parts Try.info3
  have I0 := Lib.hid (show Try.prog.info? 3 = some i0 ∧ i0.zero = some (.int .i64 0) ∧ i0.size = 1 ∧ i0.bytes = 8 from ⟨hi, hz0, hz1, hz2⟩)
  clear hi hz0 hz1 hz2
  go_enter Try.func59, Try.ntmps59
  go_wp2_with fail
  rw [← hW1]
  clear hW1 p0 p1 p2 q0 q1 q2
  (with_reducible refine (keepsPorts_any (HA.out.ext EW.out) (HB.out.ext EW.out) (HF.out.ext EW.out)).mono ?_)
  rintro e W2 ⟨rfl, hx1⟩
  have X2 := Lib.hid hx1
  have K2 := Lib.hid (EW.out.trans' hx1)
  rw [D.out]
  clear hx1
  obtain ⟨q0, q1, q2, -, -, -⟩ := row3_facts (row_ext RB.out X2.out)
  go_wp2_with fail
  clear q0 q1 q2
  go_loopg [30] l.length (fun g i wr => ∃ k : Nat, k ≤ l.length ∧ g = l.length - k ∧ i = .int .i64 k ∧ Hid (Ext W2 wr ∧ LenB B l k))
  case atStart => exact ⟨0, Nat.zero_le _, rfl, rfl, Ext.rfl' _, fun z hz => absurd hz (by omega)⟩
  case round =>
    obtain ⟨k, hk, rfl, rfl, Hr⟩ := hrel
    by_cases hlt : k < l.length
    · have hkB : k < B.ends.length := by have := HLB.out; omega
      obtain ⟨_, hgy, hrow⟩ := HGC.out k hlt
      obtain ⟨ra, rb, ro, rc, rfl, -, hrl, hrm, -⟩ := hrow
      obtain ⟨_, hby, hrowb⟩ := HFC.out k hkB
      obtain ⟨ba, bb, bo, bc, rfl, -, hbl, hbm, -⟩ := hrowb
      unfold maxLen at hrm hbm
      obtain rfl := HGA.out (by omega)
      obtain rfl := HFA.out (by omega)
      have XR := Lib.hid (X2.out.trans' Hr.out.1)
      have KR := Lib.hid (K2.out.trans' Hr.out.1)
      have c1 := KR.out.cell' hgy
      have c2 := KR.out.cell' hby
      obtain ⟨q0, q1, q2, -, -, -⟩ := row3_facts (row_ext RB.out XR.out)
      clear hgy hby
      by_cases he : (gr l k).length = (gr B.ends k).length
      · have heb : (((gr l k).length : Int) != ((gr B.ends k).length : Int)) = false := by simp; omega
        have HE := Lib.hid he
        clear he
        go_wp2
        go_roundg (l.length - (k + 1))
        case measure => omega
        case rel =>
          refine ⟨k + 1, by omega, rfl, by go_num, Hr.out.1, fun z hz => ?_⟩
          by_cases e : z = k
          · subst e; exact HE.out
          · exact Hr.out.2 z (by omega)
      · have heb : (((gr l k).length : Int) != ((gr B.ends k).length : Int)) = true := by simp; omega
        have E := Lib.hid (show ¬ PpB A B m l from fun h => he (h.2.2 k hkB))
        clear he
        go_wp2
        go_ret2
        first | exact ⟨_, [], ret_mb (dec_false E.out).symm, KR.out, by rw [ppAns_f E.out]; exact own_nilII _, Fresh.nil _⟩ | exact ⟨_, ret_mb (dec_false E.out).symm, KR.out, [], by rw [ppAns_f E.out]; exact own_nilII _, Fresh.nil _⟩
    obtain rfl : k = l.length := by omega
    have E := Lib.hid (show PpB A B m l from ⟨HP.out, HLB.out, fun z hz => Hr.out.2 z (by have := HLB.out; omega)⟩)
    have K3 := Lib.hid (K2.out.trans' Hr.out.1)
    clear Hr
    have hmk := make_rows m.length (by omega)
    go_wp2_with fail
    clear hmk
    obtain ⟨W4, hW4⟩ : ∃ W4 : World, W4 = wr := ⟨_, rfl⟩
    subst hW4
    go_loopg [50] m.length (fun g i wx => ∃ v : Nat, v ≤ m.length ∧ g = m.length - v ∧ i = .int .i64 v ∧ Hid (Ext W4 wx ∧ ∃ R, wx.rowIs W4.heap.size 23 m.length R ∧ Fam W4.heap.size wx m.length R (upTo l m v)))
    case atStart => exact ⟨0, Nat.zero_le _, rfl, rfl, (Ext.rfl' _).alloc' _, nils, made_nils W4 m.length, Fam.nil _ _ _⟩
    case round =>
      obtain ⟨v, hv, rfl, rfl, Hs⟩ := hrel
      by_cases hvt : v < m.length
      · obtain ⟨_, hmy, rfl, hmr⟩ := HLC.out v hvt
        obtain ⟨hz0, hz1⟩ := HIN.out v hvt
        obtain ⟨z, hz⟩ := Int.eq_ofNat_of_zero_le hz0
        have hzl : z < l.length := by omega
        rw [hz] at hmy
        have HZ := Lib.hid (show (gi m v).toNat = z by rw [hz, Int.toNat_natCast])
        clear hz hz0 hz1 hmr
        have h6 := lenB_six E.out.1.two.2 E.out.2.2 (z := z) (by have := HLB.out; omega)
        obtain rfl := HLA.out (by omega)
        obtain ⟨_, hgy, hrow⟩ := HGC.out z hzl
        have HRW := Lib.hid hrow
        obtain ⟨ra, rb, ro, rc, rfl, -, hrl, hrm, -⟩ := hrow
        unfold maxLen at hrm
        obtain rfl := HGA.out (by omega)
        obtain ⟨hE, R, hR, hF⟩ := Hs.out
        have SE := Lib.hid hE
        have SR := Lib.hid hR
        have SF := Lib.hid hF
        have KS := Lib.hid (K3.out.trans' hE)
        clear hE hR hF
        have c1 := KS.out.cell' hmy
        have c2 := KS.out.cell' hgy
        obtain ⟨hn, hsrc⟩ := IntSl.src (HRW.out.ext KS.out) (fun p v h => h)
        have SRC := Lib.hid hsrc
        clear hmy hgy hn hsrc
        go_wp2_with (at_builtin; refine wpList_app2 rfl _ _ 23 rfl wr.heap.size 3 i0 (.int .i64 0) 1 8 Try.underlying23 I0.out.1 I0.out.2.1 I0.out.2.2.1 I0.out.2.2.2 rfl (by decide) (.slice none 0 0) 0 [] rfl (World.ownsRow_nil _ _ _ _) ra (gr l z).length rc (intCells (gr l z)) rfl SRC.out (by unfold maxLen; omega) (by omega) (Nat.le_refl _) ?_; intro v' w2 hg2; have HG2 := Lib.hid (show Grew2 wr w2 wr.heap.size 3 1 (.slice none 0 0) v' (0 + (gr l z).length) ([] ++ intCells (gr l z)) from hg2); have GN := Lib.hid (show GrowN wr.heap.size w2 v' (gr l z) by have := HG2.out.1.1; rw [Nat.zero_add, List.nil_append] at this; exact this); have XE := Lib.hid (show Ext wr w2 from ext_row (Ext.rfl' wr) HG2.out.1.2.1 (fun k hk => by simp [Value.ownBlock] at hk)); have SR2 := Lib.hid (row_ext SR.out XE.out); have g1 := SR2.out.cell hvt; have g2 := SR2.out.frozen v; clear hg2; obtain ⟨ya, yc, rfl⟩ := GN.out.slice)
        have hF2 := SF.out.fresh (k := v) XE.out SE.out.size GN.out
        rw [← HZ.out, upTo_step] at hF2
        go_roundg (m.length - (v + 1))
        case measure => omega
        case rel =>
          refine ⟨v + 1, by omega, rfl, by go_num, (SE.out.trans' XE.out).store (Nat.le_refl _) _, put1 R v _, (SR2.out.set v _).congr fun i _ => by simp [put1, HZ.out], hF2.keep fun x _ _ ht => ?_⟩
          refine Below.heap_setCell _ _ _ _ fun e => ?_
          obtain ⟨cur, ht⟩ := ht
          obtain ⟨cur', hb⟩ := rowIs.blk SR2.out
          subst e
          rw [ht] at hb
          cases hb
      · obtain rfl : v = m.length := by omega
        go_wp2
        go_ret2
        obtain ⟨hE, R, hR, hF⟩ := Hs.out
        have hIS := Lib.hid (fun z (hz : z < l.length) => (HGC.out z hz))
        obtain ⟨bs, ho, hnd, hge⟩ := Fam.done (l := thsTo l m m.length) (hF.congr (fun i _ => rfl) fun i hi => by rw [gr_thsTo _ _ _ _ hi]; simp [upTo, hi]) (length_thsTo _ _ _) (by unfold maxLen; omega) (fun i hi j hj => by
          rw [gr_thsTo _ _ _ _ hi] at hj ⊢
          obtain ⟨hz0, hz1⟩ := HIN.out i hi
          obtain ⟨_, -, hrow⟩ := HGC.out (gi m i).toNat (by omega)
          exact hrow.range j hj) hR (Nat.le_refl _)
        have hHO := Lib.hid ho
        first | exact ⟨_, bs, ret_mb (dec_true E.out).symm, K3.out.trans' hE, by rw [ppAns_t E.out]; exact ho, hnd, fun x hx => by have := hge x hx; have := K3.out.size; omega⟩ | exact ⟨_, ret_mb (dec_true E.out).symm, K3.out.trans' hE, bs, by rw [ppAns_t E.out]; exact ho, hnd, fun x hx => by have := hge x hx; have := K3.out.size; omega⟩

set_option maxHeartbeats 6400000 in
set_option maxRecDepth 100000 in
theorem specPullPorts_any {w : World} {va vb vm vl : Value} {A B : Net} {m : List Int} {l : List (List Int)} (h : NetAt w va A) (k : NetAt w vb B) (hf : IntSl w vm m) (hg : IntSS w vl l) :
    Calls Try.prog 58 #[va, vb, vm, vl] w fun e w' => ∃ v' bs, e = .returned (.tuple #[v', .bool (dec (PpB A B m l))]) ∧ Ext w w' ∧ OwnII w' v' (ppAns A B m l) bs ∧ Fresh w bs := by
  have HA := Lib.hid h
  have HB := Lib.hid k
  have HF := Lib.hid hf
  obtain ⟨v0, v1, v2, rfl, -, -, -⟩ := h
  obtain ⟨u0, u1, u2, rfl, hEb, -, -⟩ := k
  obtain ⟨fa, fb, fo, fc, rfl, hfa, hfl, hfm, hfc⟩ := hEb
  unfold maxLen at hfm
  have HFA := Lib.hid hfa
  have HFC := Lib.hid hfc
  clear hfa hfc
  obtain ⟨la, lb, lo, lc, rfl, hla, hll, hlm, hlc⟩ := hf
  unfold maxLen at hlm
  have HLA := Lib.hid hla
  have HLC := Lib.hid hlc
  clear hla hlc
  obtain ⟨W1, hW1⟩ : ∃ W1, W1 = (w.alloc (.cells #[v0, v1, v2] 29)).alloc (.cells #[.slice fa B.ends.length fc, u1, u2] 29) := ⟨_, rfl⟩
  have EW := Lib.hid (show Ext w W1 by rw [hW1]; exact (boxed_ext _ _ _ _ _).trans' (boxed_ext _ _ _ _ _))
  have RA := Lib.hid (show W1.rowIs w.heap.size 29 3 (tri v0 v1 v2) by rw [hW1]; exact (boxed_row _ _ _ _ _).alloc _)
  have RB := Lib.hid (show W1.rowIs (w.heap.size + 1) 29 3 (tri (.slice fa B.ends.length fc) u1 u2) by rw [hW1]; simpa using boxed_row (boxed w v0 v1 v2 29) (.slice fa B.ends.length fc) u1 u2 29)
  obtain ⟨p0, p1, p2, -, -, -⟩ := row3_facts RA.out
  obtain ⟨q0, q1, q2, -, -, -⟩ := row3_facts RB.out
  rw [hW1] at p0 p1 p2 q0 q1 q2
  obtain ⟨ga, gb, go, gc, rfl, hga, hgl, hgm, hgc⟩ := hg
  unfold maxLen at hgm
  have HGA := Lib.hid hga
  have HGC := Lib.hid hgc
  clear hga hgc
  by_cases hp : PmAns A B m
  case neg =>
    have D := Lib.hid (dec_false hp)
    have E := Lib.hid (show ¬ PpB A B m l from fun h => hp h.1)
    clear hp
    go_enter Try.func58, Try.ntmps58
    go_wp2_with fail
    rw [← hW1]
    clear hW1 p0 p1 p2 q0 q1 q2
    (with_reducible refine (coAsked_any (HA.out.ext EW.out) (HB.out.ext EW.out) (HF.out.ext EW.out)).mono ?_)
    rintro e W2 ⟨rfl, hx1⟩
    have X2 := Lib.hid hx1
    have K2 := Lib.hid (EW.out.trans' hx1)
    rw [D.out]
    clear hx1
    go_wp2
    go_ret2
    first | exact ⟨_, [], ret_mb (dec_false E.out).symm, K2.out, by rw [ppAns_f E.out]; exact own_nilII _, Fresh.nil _⟩ | exact ⟨_, ret_mb (dec_false E.out).symm, K2.out, [], by rw [ppAns_f E.out]; exact own_nilII _, Fresh.nil _⟩
  have D := Lib.hid (dec_true hp)
  have HP := Lib.hid hp
  obtain ⟨h1, h2, h3⟩ := fib_small hp
  clear hp
  by_cases hl : l.length = B.ends.length
  case neg =>
    have hlb : ((l.length : Int) != (B.ends.length : Int)) = true := by simp; omega
    have E := Lib.hid (show ¬ PpB A B m l from fun h => hl h.2.1)
    clear hl
    go_enter Try.func58, Try.ntmps58
    go_wp2_with fail
    rw [← hW1]
    clear hW1 p0 p1 p2 q0 q1 q2
    (with_reducible refine (coAsked_any (HA.out.ext EW.out) (HB.out.ext EW.out) (HF.out.ext EW.out)).mono ?_)
    rintro e W2 ⟨rfl, hx1⟩
    have X2 := Lib.hid hx1
    have K2 := Lib.hid (EW.out.trans' hx1)
    rw [D.out]
    clear hx1
    obtain ⟨q0, q1, q2, -, -, -⟩ := row3_facts (row_ext RB.out X2.out)
    go_wp2
    go_ret2
    first | exact ⟨_, [], ret_mb (dec_false E.out).symm, K2.out, by rw [ppAns_f E.out]; exact own_nilII _, Fresh.nil _⟩ | exact ⟨_, ret_mb (dec_false E.out).symm, K2.out, [], by rw [ppAns_f E.out]; exact own_nilII _, Fresh.nil _⟩
  have hlb : ((l.length : Int) != (B.ends.length : Int)) = false := by simp; omega
  have HLB := Lib.hid hl
  have HIN := Lib.hid (show ImIn m l.length by rw [hl]; exact pm_in HP.out.ok)
  clear hl
  obtain ⟨i1, hi, hz0, hz1, hz2⟩ := info_parts infoQ
  have I1 := Lib.hid (show Try.prog.info? 23 = some i1 ∧ i1.zero = some (.slice none 0 0) ∧ i1.size = 1 ∧ i1.bytes = 24 from ⟨hi, hz0, hz1, hz2⟩)
  clear hi hz0 hz1 hz2
  go_enter Try.func58, Try.ntmps58
  go_wp2_with fail
  rw [← hW1]
  clear hW1 p0 p1 p2 q0 q1 q2
  (with_reducible refine (coAsked_any (HA.out.ext EW.out) (HB.out.ext EW.out) (HF.out.ext EW.out)).mono ?_)
  rintro e W2 ⟨rfl, hx1⟩
  have X2 := Lib.hid hx1
  have K2 := Lib.hid (EW.out.trans' hx1)
  rw [D.out]
  clear hx1
  obtain ⟨q0, q1, q2, -, -, -⟩ := row3_facts (row_ext RB.out X2.out)
  go_wp2_with fail
  clear q0 q1 q2
  go_loopg [30] l.length (fun g i wr => ∃ k : Nat, k ≤ l.length ∧ g = l.length - k ∧ i = .int .i64 k ∧ Hid (Ext W2 wr ∧ LenB B l k))
  case atStart => exact ⟨0, Nat.zero_le _, rfl, rfl, Ext.rfl' _, fun z hz => absurd hz (by omega)⟩
  case round =>
    obtain ⟨k, hk, rfl, rfl, Hr⟩ := hrel
    by_cases hlt : k < l.length
    · have hkB : k < B.ends.length := by have := HLB.out; omega
      obtain ⟨_, hgy, hrow⟩ := HGC.out k hlt
      obtain ⟨ra, rb, ro, rc, rfl, -, hrl, hrm, -⟩ := hrow
      obtain ⟨_, hby, hrowb⟩ := HFC.out k hkB
      obtain ⟨ba, bb, bo, bc, rfl, -, hbl, hbm, -⟩ := hrowb
      unfold maxLen at hrm hbm
      obtain rfl := HGA.out (by omega)
      obtain rfl := HFA.out (by omega)
      have XR := Lib.hid (X2.out.trans' Hr.out.1)
      have KR := Lib.hid (K2.out.trans' Hr.out.1)
      have c1 := KR.out.cell' hgy
      have c2 := KR.out.cell' hby
      obtain ⟨q0, q1, q2, -, -, -⟩ := row3_facts (row_ext RB.out XR.out)
      clear hgy hby
      by_cases he : (gr l k).length = (gr B.ends k).length
      · have heb : (((gr l k).length : Int) != ((gr B.ends k).length : Int)) = false := by simp; omega
        have HE := Lib.hid he
        clear he
        go_wp2
        go_roundg (l.length - (k + 1))
        case measure => omega
        case rel =>
          refine ⟨k + 1, by omega, rfl, by go_num, Hr.out.1, fun z hz => ?_⟩
          by_cases e : z = k
          · subst e; exact HE.out
          · exact Hr.out.2 z (by omega)
      · have heb : (((gr l k).length : Int) != ((gr B.ends k).length : Int)) = true := by simp; omega
        have E := Lib.hid (show ¬ PpB A B m l from fun h => he (h.2.2 k hkB))
        clear he
        go_wp2
        go_ret2
        first | exact ⟨_, [], ret_mb (dec_false E.out).symm, KR.out, by rw [ppAns_f E.out]; exact own_nilII _, Fresh.nil _⟩ | exact ⟨_, ret_mb (dec_false E.out).symm, KR.out, [], by rw [ppAns_f E.out]; exact own_nilII _, Fresh.nil _⟩
    obtain rfl : k = l.length := by omega
    have E := Lib.hid (show PpB A B m l from ⟨HP.out, HLB.out, fun z hz => Hr.out.2 z (by have := HLB.out; omega)⟩)
    have K3 := Lib.hid (K2.out.trans' Hr.out.1)
    clear Hr
    go_wp2_with fail
    obtain ⟨W4, hW4⟩ : ∃ W4 : World, W4 = wr := ⟨_, rfl⟩
    subst hW4
    go_loopg [12, 47] m.length (fun g s i wx => ∃ v : Nat, v ≤ m.length ∧ g = m.length - v ∧ i = .int .i64 v ∧ Hid (Ext W4 wx ∧ GrowI W4.heap.size wx s (thsTo l m v) (thsTo l m v).length))
    case atStart => exact ⟨0, Nat.zero_le _, rfl, rfl, Ext.rfl' _, by simpa [thsTo] using GrowI.nil W4.heap.size W4 []⟩
    case round =>
      obtain ⟨v, hv, rfl, rfl, Hs⟩ := hrel
      by_cases hvt : v < m.length
      · obtain ⟨_, hmy, rfl, hmr⟩ := HLC.out v hvt
        obtain ⟨hz0, hz1⟩ := HIN.out v hvt
        obtain ⟨z, hz⟩ := Int.eq_ofNat_of_zero_le hz0
        have hzl : z < l.length := by omega
        rw [hz] at hmy
        have HZ := Lib.hid (show (gi m v).toNat = z by rw [hz, Int.toNat_natCast])
        clear hz hz0 hz1 hmr
        have h6 := lenB_six E.out.1.two.2 E.out.2.2 (z := z) (by have := HLB.out; omega)
        obtain rfl := HLA.out (by omega)
        obtain ⟨_, hgy, hrow⟩ := HGC.out z hzl
        have HRW := Lib.hid hrow
        obtain ⟨ra, rb, ro, rc, rfl, -, hrl, hrm, -⟩ := hrow
        unfold maxLen at hrm
        obtain rfl := HGA.out (by omega)
        obtain ⟨hE, hG⟩ := Hs.out
        have SE := Lib.hid hE
        have KS := Lib.hid (K3.out.trans' hE)
        obtain ⟨R, T, g1, g2, g3, g4⟩ := hG
        have G1 := Lib.hid g1
        have HB2 := Lib.hid hE.size
        have HLEN := Lib.hid (length_thsTo l m v)
        have HS := Lib.hid (show thsTo l m (v + 1) = thsTo l m v ++ [gr l z] by rw [thsTo_succ, HZ.out])
        clear hE g1
        have c1 := KS.out.cell' hmy
        have c2 := KS.out.cell' hgy
        clear hmy hgy
        go_wp2_with fail
        clear c1 c2
        (with_reducible refine (l1Own_any (HRW.out.ext KS.out) (by omega)).mono ?_)
        rintro e w5 ⟨ya, yc, bs, rfl, hx5, ho, hfr⟩
        have X5 := Lib.hid hx5
        have OI := Lib.hid ho
        have FR := Lib.hid hfr
        have SZ := Lib.hid hx5.size
        clear hx5 ho hfr
        go_wp2_with (at_builtin; refine wpList_app2 rfl _ _ 41 rfl W4.heap.size 23 i1 (.slice none 0 0) 1 24 Try.underlying41 I1.out.1 I1.out.2.1 I1.out.2.2.1 I1.out.2.2.2 rfl (by decide) _ (thsTo l m v).length ((List.range (thsTo l m v).length).map R) rfl (owns_ext G1.out (X5.out.alloc' _)) (some ⟨w5.heap.size, 0, none⟩) 1 1 [.slice ya (gr l z).length yc] rfl (src_one w5 _ _ rfl) (by have := HLEN.out; unfold maxLen; omega) (by have := HLEN.out; omega) (by have := HB2.out; have := SZ.out; simp; omega) ?_; intro v'' w6 hg)
        have FI := Lib.hid (show Ext W4 w6 ∧ GrowI W4.heap.size w6 v'' (thsTo l m v ++ [gr l z]) (thsTo l m v ++ [gr l z]).length from
          ⟨grown_ext ((SE.out.trans' X5.out).alloc' (.cells #[.slice ya (gr l z).length yc] 23)) (Nat.le_refl _) (owns_ext G1.out (X5.out.alloc' _)) hg.1.2.1, grow_snoc G1.out g2 g3 g4 X5.out OI.out FR.out HB2.out hg.1⟩)
        clear hg g2 g3 g4
        go_wp2
        go_roundg (m.length - (v + 1))
        case measure => omega
        case rel => exact ⟨v + 1, by omega, rfl, by go_num, FI.out.1, by rw [HS.out]; exact FI.out.2⟩
      · obtain rfl : v = m.length := by omega
        go_wp2
        go_ret2
        obtain ⟨bs, ho, hnd, hge⟩ := Hs.out.2.done
        first | exact ⟨_, bs, ret_mb (dec_true E.out).symm, K3.out.trans' Hs.out.1, by rw [ppAns_t E.out]; exact ho, hnd, fun x hx => by have := hge x hx; have := K3.out.size; omega⟩ | exact ⟨_, ret_mb (dec_true E.out).symm, K3.out.trans' Hs.out.1, bs, by rw [ppAns_t E.out]; exact ho, hnd, fun x hx => by have := hge x hx; have := K3.out.size; omega⟩

theorem pullPortsL_any {w : World} {va vb vm vl : Value} {A B : Net} {m : List Int} {l : List (List Int)} (h : NetAt w va A) (k : NetAt w vb B) (hf : IntSl w vm m) (_ : m.length ≤ 1048576) (hg : IntSS w vl l) (_ : IISmall l) :
    Calls Try.prog 59 #[va, vb, vm, vl] w fun e w' => ∃ v' bs, e = .returned (.tuple #[v', .bool (dec (PpB A B m l))]) ∧ Ext w w' ∧ OwnII w' v' (ppAns A B m l) bs ∧ Fresh w bs := pullPorts_any h k hf hg
theorem specPullPortsL_any {w : World} {va vb vm vl : Value} {A B : Net} {m : List Int} {l : List (List Int)} (h : NetAt w va A) (k : NetAt w vb B) (hf : IntSl w vm m) (_ : m.length ≤ 1048576) (hg : IntSS w vl l) (_ : IISmall l) :
    Calls Try.prog 58 #[va, vb, vm, vl] w fun e w' => ∃ v' bs, e = .returned (.tuple #[v', .bool (dec (PpB A B m l))]) ∧ Ext w w' ∧ OwnII w' v' (ppAns A B m l) bs ∧ Fresh w bs := specPullPorts_any h k hf hg
end Go.Proofs.Ytgacbfblpkikkaa
