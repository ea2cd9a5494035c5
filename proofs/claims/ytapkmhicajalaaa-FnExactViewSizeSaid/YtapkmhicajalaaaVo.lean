/- Two networks beside each other and the depth at which two of their nodes are apart; the contracts of neNode, viBoth and separation. -/
import Derived.Test.YtapkmhicajalaaaVn
import Derived.Test.YtapkmhicajalaaaNeUn
import Derived.Test.YtapkmhicajalaaaSs
namespace Go.Proofs.Ytapkmhicajalaaa
open Go.RowKit

def BothOK (A : Net) (v : Int) (B : Net) (w : Int) : Prop := NodeAns A v ∧ NodeAns B w

theorem union_nodes {A B : Net} (hA : Good A) (hB : Good B) : NodesIn (unionNet A B) := by
  have a := good_nodes hA
  have b := good_nodes hB
  refine ⟨?_, fun v hv i hi => ?_⟩
  · have := a.len; have := b.len
    show (A.inputs ++ B.inputs).length = (unionEnds A B).length
    rw [length_unionEnds, List.length_append]; omega
  · have hv : v < (unionEnds A B).length := hv
    show 0 ≤ gn (gr (unionEnds A B) v) i ∧ gn (gr (unionEnds A B) v) i < ((unionEnds A B).length : Int)
    have hi : i < (gr (unionEnds A B) v).length := hi
    rw [length_unionEnds] at hv ⊢
    by_cases h : v < A.ends.length
    · rw [gr_unionEnds_left _ _ _ h] at hi ⊢
      have := a.node v h i hi
      omega
    · obtain ⟨j, rfl⟩ : ∃ j, v = A.ends.length + j := ⟨v - A.ends.length, by omega⟩
      have hj : j < B.ends.length := by omega
      rw [gr_unionEnds_right _ _ _ hj] at hi ⊢
      rw [length_shiftRow] at hi
      rw [gn_shiftRow _ _ _ hi]
      have := b.node j hj i hi
      omega
theorem union_len (A B : Net) : (unionNet A B).ends.length = A.ends.length + B.ends.length := length_unionEnds A B

open Classical in
/-- The first depth at which they are apart; 81 for twins. -/
noncomputable def sepN (N : Net) (u v : Nat) : Int := if h : ∃ t, SepAt N u v t then (Classical.choose h : Nat) else 81
theorem sepN_t {N : Net} {u v t : Nat} (h : SepAt N u v t) : sepN N u v = t := by
  have he : ∃ t, SepAt N u v t := ⟨t, h⟩
  rw [sepN, dif_pos he, sep_one (Classical.choose_spec he) h]
theorem sepN_f {N : Net} {u v : Nat} (h : NoSep N u v) : sepN N u v = 81 := by
  have he : ¬ ∃ t, SepAt N u v t := fun ⟨t, ht⟩ => sep_no ht h
  rw [sepN, dif_neg he]
theorem sep_or {N : Net} {u v : Nat} : (∃ t, SepAt N u v t) ∨ NoSep N u v := by
  rcases Classical.em (∃ t, t ≤ stOf N ∧ gi (seqC N t) u ≠ gi (seqC N t) v) with ⟨t, ht⟩ | hno
  · left
    induction t using Nat.strongRecOn with
    | ind t ih =>
      rcases Classical.em (∃ s, s < t ∧ gi (seqC N s) u ≠ gi (seqC N s) v) with ⟨s, hs, hd⟩ | hn
      · exact ih s hs ⟨by omega, hd⟩
      · exact ⟨t, ht.1, ht.2, fun s hs => Classical.byContradiction fun hd => hn ⟨s, hs, hd⟩⟩
  · right
    exact fun s hs => Classical.byContradiction fun hd => hno ⟨s, hs, hd⟩

set_option maxHeartbeats 800000 in
set_option maxRecDepth 100000 in
theorem neNode_any {w : World} {v : Value} {N : Net} (x : Int) (h : NetAt w v N) :
    Calls Try.prog 74 #[v, .int .i64 x] w fun e w' => e = .returned (.bool (dec (NodeAns N x))) ∧ Ext w w' := by
  have HN := Lib.hid h
  obtain ⟨v0, v1, v2, rfl, hE, hI, hP⟩ := h
  clear hI hP
  obtain ⟨a, b, o, c, rfl, ha, hl, hm, hc⟩ := hE
  unfold maxLen at hm
  clear ha hc
  have HX := Lib.hid (boxed_ext w (.slice a N.ends.length c) v1 v2 31)
  have HR := Lib.hid (row3_made w (.slice a N.ends.length c) v1 v2 31)
  obtain ⟨p0, p1, p2, -, -, -⟩ := row3_facts HR.out
  by_cases hg : Good N
  · have G := Lib.hid (dec_true hg)
    have D := Lib.hid (show dec (InB x 0 ((N.ends.length : Int) - 1)) = dec (NodeAns N x) from dec_congr ⟨fun h => ⟨hg, h.1, by have := h.2; omega⟩, fun h => ⟨h.2.1, by have := h.2.2; omega⟩⟩)
    clear hg
    go_enter Try.func74, Try.ntmps74
    go_wp2_with fail
    (with_reducible refine (neGood_any (HN.out.ext HX.out)).mono ?_)
    rintro e w1 ⟨rfl, hw⟩
    rw [G.out]
    have K1 := Lib.hid (HX.out.trans' hw)
    obtain ⟨q0, q1, q2, -, -, -⟩ := row3_facts (row_ext HR.out hw)
    clear hw p0 p1 p2
    go_wp2_with (go_at_call 96; (with_reducible refine (l1In_any x _ _ _).mono ?_); rintro e w' ⟨rfl, rfl⟩; rw [D.out])
    go_ret
    exact ⟨rfl, K1.out⟩
  · have G := Lib.hid (dec_false hg)
    have D := Lib.hid (dec_false (p := NodeAns N x) fun h => hg h.1)
    clear hg
    go_enter Try.func74, Try.ntmps74
    go_wp2_with (go_at_call 59; (with_reducible refine (neGood_any (HN.out.ext HX.out)).mono ?_); rintro e w1 ⟨rfl, hw⟩; rw [G.out]; have K1 := Lib.hid (HX.out.trans' hw); clear hw)
    go_ret
    exact ⟨bool_of D.out.symm, K1.out⟩

set_option maxHeartbeats 1600000 in
set_option maxRecDepth 100000 in
theorem viBoth_f {w : World} {va vb : Value} {A B : Net} (x y : Int) (h : NetAt w va A) (k : NetAt w vb B) (hno : ¬ BothOK A x B y) :
    Calls Try.prog 72 #[va, .int .i64 x, vb, .int .i64 y] w fun e w' => e = .returned (.tuple #[znet, .int .i64 0, .bool false]) ∧ Ext w w' := by
  have HA := Lib.hid h
  have HB := Lib.hid k
  obtain ⟨v0, v1, v2, rfl, -, -, -⟩ := h
  obtain ⟨u0, u1, u2, rfl, -, -, -⟩ := k
  obtain ⟨W1, hW1⟩ : ∃ W1, W1 = (w.alloc (.cells #[v0, v1, v2] 31)).alloc (.cells #[u0, u1, u2] 31) := ⟨_, rfl⟩
  have EW := Lib.hid (show Ext w W1 by rw [hW1]; exact (boxed_ext _ _ _ _ _).trans' (boxed_ext _ _ _ _ _))
  have RA := Lib.hid (show W1.rowIs w.heap.size 31 3 (tri v0 v1 v2) by rw [hW1]; exact (boxed_row _ _ _ _ _).alloc _)
  have RB := Lib.hid (show W1.rowIs (w.heap.size + 1) 31 3 (tri u0 u1 u2) by rw [hW1]; simpa using boxed_row (boxed w v0 v1 v2 31) u0 u1 u2 31)
  have HZ := Lib.hid (show W1.heap.size = w.heap.size + 2 by rw [hW1]; simp)
  obtain ⟨W0, hW0⟩ : ∃ W0, W0 = W1.alloc (.cells #[.slice none 0 0, .slice none 0 0, .slice none 0 0] 31) := ⟨_, rfl⟩
  have E0 := Lib.hid (show Ext W1 W0 by rw [hW0]; exact (Ext.rfl' _).alloc' _)
  have RQ := Lib.hid (show W0.rowIs (w.heap.size + 2) 31 3 (tri (.slice none 0 0) (.slice none 0 0) (.slice none 0 0)) by rw [hW0, ← HZ.out]; exact row3_made _ _ _ _ _)
  obtain ⟨p0, p1, p2, -, -, -⟩ := row3_facts (row_ext RA.out E0.out)
  by_cases ha : NodeAns A x
  · have G := Lib.hid (dec_true ha)
    have D := Lib.hid (dec_false (p := NodeAns B y) fun h => hno ⟨ha, h⟩)
    go_enter Try.func72, Try.ntmps72
    go_wp2_with fail
    rw [← hW1, ← hW0]
    clear hW1 hW0
    (with_reducible refine (neNode_any x (HA.out.ext (EW.out.trans' E0.out))).mono ?_)
    rintro e w1 ⟨rfl, hw⟩
    rw [G.out]
    have K1 := Lib.hid (E0.out.trans' hw)
    obtain ⟨q0, q1, q2, -, -, -⟩ := row3_facts (row_ext RB.out K1.out)
    have R1 := Lib.hid (row_ext RQ.out hw)
    clear hw p0 p1 p2
    go_wp2_with fail
    (with_reducible refine (neNode_any y (HB.out.ext (EW.out.trans' K1.out))).mono ?_)
    rintro e w2 ⟨rfl, hw⟩
    rw [D.out]
    have K2 := Lib.hid (K1.out.trans' hw)
    obtain ⟨t0, t1, t2, s0, s1, s2⟩ := row3_facts (row_ext R1.out hw)
    have HQ := HZ.out
    clear hw q0 q1 q2
    go_wp2
    refine bodyPost_ret (v := .tuple #[znet, .int .i64 0, .bool false]) (by simp [results, Try.results72, go_sem, t0, t1, t2, znet]) rfl ⟨rfl, store3_ext (EW.out.trans' K2.out) (by omega) _ _ _⟩
  · have G := Lib.hid (dec_false ha)
    go_enter Try.func72, Try.ntmps72
    go_wp2_with fail
    rw [← hW1, ← hW0]
    clear hW1 hW0
    (with_reducible refine (neNode_any x (HA.out.ext (EW.out.trans' E0.out))).mono ?_)
    rintro e w2 ⟨rfl, hw⟩
    rw [G.out]
    have K2 := Lib.hid (E0.out.trans' hw)
    obtain ⟨t0, t1, t2, s0, s1, s2⟩ := row3_facts (row_ext RQ.out hw)
    have HQ := HZ.out
    clear hw p0 p1 p2
    go_wp2
    refine bodyPost_ret (v := .tuple #[znet, .int .i64 0, .bool false]) (by simp [results, Try.results72, go_sem, t0, t1, t2, znet]) rfl ⟨rfl, store3_ext (EW.out.trans' K2.out) (by omega) _ _ _⟩

set_option maxHeartbeats 1600000 in
set_option maxRecDepth 100000 in
theorem viBoth_t {w : World} {va vb : Value} {A B : Net} (x y : Int) (h : NetAt w va A) (k : NetAt w vb B) (hyes : BothOK A x B y) :
    Calls Try.prog 72 #[va, .int .i64 x, vb, .int .i64 y] w fun e w' => ∃ v' bs, e = .returned (.tuple #[v', .int .i64 (y + A.ends.length), .bool true]) ∧ Ext w w' ∧ OwnNet w' v' (unionNet A B) bs ∧ Fresh w bs := by
  have HA := Lib.hid h
  have HB := Lib.hid k
  have GA := Lib.hid hyes.1.1
  have GB := Lib.hid hyes.2.1
  have h40 : A.ends.length ≤ 40 := hyes.1.1.1.2
  have hy0 := hyes.2.2.1
  have hy1 : y < 40 := by have := hyes.2.2.2; have := hyes.2.1.1.2; omega
  have G := Lib.hid (dec_true hyes.1)
  have D := Lib.hid (dec_true hyes.2)
  obtain ⟨v0, v1, v2, rfl, hE, -, -⟩ := h
  obtain ⟨av, _, _, cv, rfl, -, -, cvm, -⟩ := hE
  unfold maxLen at cvm
  obtain ⟨u0, u1, u2, rfl, -, -, -⟩ := k
  clear hyes
  obtain ⟨W1, hW1⟩ : ∃ W1, W1 = (w.alloc (.cells #[.slice av A.ends.length cv, v1, v2] 31)).alloc (.cells #[u0, u1, u2] 31) := ⟨_, rfl⟩
  have EW := Lib.hid (show Ext w W1 by rw [hW1]; exact (boxed_ext _ _ _ _ _).trans' (boxed_ext _ _ _ _ _))
  have RA := Lib.hid (show W1.rowIs w.heap.size 31 3 (tri (.slice av A.ends.length cv) v1 v2) by rw [hW1]; exact (boxed_row _ _ _ _ _).alloc _)
  have RB := Lib.hid (show W1.rowIs (w.heap.size + 1) 31 3 (tri u0 u1 u2) by rw [hW1]; simpa using boxed_row (boxed w (.slice av A.ends.length cv) v1 v2 31) u0 u1 u2 31)
  have HZ := Lib.hid (show W1.heap.size = w.heap.size + 2 by rw [hW1]; simp)
  obtain ⟨W0, hW0⟩ : ∃ W0, W0 = W1.alloc (.cells #[.slice none 0 0, .slice none 0 0, .slice none 0 0] 31) := ⟨_, rfl⟩
  have E0 := Lib.hid (show Ext W1 W0 by rw [hW0]; exact (Ext.rfl' _).alloc' _)
  have RQ := Lib.hid (show W0.rowIs (w.heap.size + 2) 31 3 (tri (.slice none 0 0) (.slice none 0 0) (.slice none 0 0)) by rw [hW0, ← HZ.out]; exact row3_made _ _ _ _ _)
  obtain ⟨p0, p1, p2, -, -, -⟩ := row3_facts (row_ext RA.out E0.out)
  go_enter Try.func72, Try.ntmps72
  go_wp2_with fail
  rw [← hW1, ← hW0]
  clear hW1 hW0
  (with_reducible refine (neNode_any x (HA.out.ext (EW.out.trans' E0.out))).mono ?_)
  rintro e w1 ⟨rfl, hw⟩
  rw [G.out]
  have K1 := Lib.hid (E0.out.trans' hw)
  obtain ⟨q0, q1, q2, -, -, -⟩ := row3_facts (row_ext RB.out K1.out)
  have R1 := Lib.hid (row_ext RQ.out hw)
  clear hw p0 p1 p2
  go_wp2_with fail
  (with_reducible refine (neNode_any y (HB.out.ext (EW.out.trans' K1.out))).mono ?_)
  rintro e w2 ⟨rfl, hw⟩
  rw [D.out]
  have K2 := Lib.hid (K1.out.trans' hw)
  have R2 := Lib.hid (row_ext R1.out hw)
  have HQ := Lib.hid (show W1.heap.size ≤ w.heap.size + 2 by rw [HZ.out]; exact Nat.le_refl _)
  clear hw q0 q1 q2
  have mkS : ∀ w' : World, Ext W1 w' → w'.cell? ⟨w.heap.size, 0, none⟩ = some (.slice av A.ends.length cv) ∧ w'.cell? ⟨w.heap.size, 1, none⟩ = some v1 ∧ w'.cell? ⟨w.heap.size, 2, none⟩ = some v2 ∧ w'.cell? ⟨w.heap.size + 1, 0, none⟩ = some u0 ∧ w'.cell? ⟨w.heap.size + 1, 1, none⟩ = some u1 ∧ w'.cell? ⟨w.heap.size + 1, 2, none⟩ = some u2 ∧ Hid (Ext W1 w') := fun w' he => by
    obtain ⟨a1, a2, a3, -⟩ := row3_facts (row_ext RA.out he)
    obtain ⟨b1, b2, b3, -⟩ := row3_facts (row_ext RB.out he)
    exact ⟨a1, a2, a3, b1, b2, b3, he⟩
  have S0 := mkS _ K2.out
  obtain ⟨p0, p1, p2, q0, q1, q2, -⟩ := S0
  go_wp2_with fail
  go_region_held3 (fun w' => w'.cell? ⟨w.heap.size, 0, none⟩ = some (.slice av A.ends.length cv) ∧ w'.cell? ⟨w.heap.size, 1, none⟩ = some v1 ∧ w'.cell? ⟨w.heap.size, 2, none⟩ = some v2 ∧ w'.cell? ⟨w.heap.size + 1, 0, none⟩ = some u0 ∧ w'.cell? ⟨w.heap.size + 1, 1, none⟩ = some u1 ∧ w'.cell? ⟨w.heap.size + 1, 2, none⟩ = some u2 ∧ Hid (Ext W1 w'))
    (first | exact mkS _ K2.out | exact mkS _ K2.out.drew' | exact mkS _ K3.out | exact mkS _ (store3_ext K3.out HQ.out _ _ _))
    (first | (go_at_call 83; (with_reducible refine (neUnion_any (HA.out.ext (EW.out.trans' (by first | exact K2.out | exact K2.out.drew'))) (HB.out.ext (EW.out.trans' (by first | exact K2.out | exact K2.out.drew'))) GA.out GB.out).mono ?_); rintro e w3 ⟨v', bs, rfl, hx, ho, hf⟩; obtain ⟨a0, c0, a1, c1, a2, c2, rfl⟩ := ho.agg; have K3 := Lib.hid (Ext.trans' (by first | exact K2.out | exact K2.out.drew') hx); have O3 := Lib.hid ho; have F3 := Lib.hid (show bs.Nodup ∧ ∀ b ∈ bs, w2.heap.size ≤ b from ⟨hf.1, fun b hb => by have := hf.2 b hb; simpa using this⟩); obtain ⟨f0, f1, f2, g0, g1, g2⟩ := row3_facts (row_ext R2.out (by first | exact hx | exact (Ext.rfl' _).drew'.trans' hx))))
  have hwr : IntKind.i64.wrap (y + (A.ends.length : Int)) = y + (A.ends.length : Int) := IntWalk.i64_in _ (by omega)
  rw [hwr]
  go_wp2_with fail
  have hc := close_at (q := w.heap.size + 2) (EW.out.trans' K3.out) (by omega) O3.out F3.out.1 (fun b hb => by have := F3.out.2 b hb; have := R2.out.lt; omega)
  refine bodyPost_ret (v := .tuple #[.agg #[.slice a0 (unionNet A B).ends.length c0, .slice a1 (unionNet A B).ids.length c1, .slice a2 (unionNet A B).inputs.length c2], .int .i64 (y + A.ends.length), .bool true]) (by simp [results, Try.results72, go_sem, f0, f1, f2]) rfl ?_
  exact ⟨_, _, rfl, hc.1, hc.2.1, hc.2.2⟩
end Go.Proofs.Ytapkmhicajalaaa
