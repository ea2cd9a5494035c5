/- DistancesFrom and BallOf. -/
import Derived.Test.YtkpdbceglejbnaaZe
namespace Go.Proofs.Ytkpdbceglejbnaa
open Go.RowKit

/-- A list, if something holds. -/
noncomputable def ansOf (B : Prop) (l : List Int) : List Int := if dec B = true then l else []
theorem ansOf_t {B : Prop} {l : List Int} (h : B) : ansOf B l = l := by unfold ansOf; rw [if_pos (dec_true h)]
theorem ansOf_f {B : Prop} {l : List Int} (h : ¬ B) : ansOf B l = [] := by unfold ansOf; rw [if_neg (by rw [dec_false h]; simp)]
theorem ansOf_len {B : Prop} {l : List Int} {n : Nat} (h : B → l.length ≤ n) : (ansOf B l).length ≤ n := by
  by_cases hb : B
  · rw [ansOf_t hb]; exact h hb
  · rw [ansOf_f hb]; simp
theorem node_natZ {N : Net} {x : Int} (h : NodeAns N x) : ∃ k : Nat, x = k ∧ k < N.ends.length := ⟨x.toNat, by have := h.2.1; omega, by have := h.2; unfold NodeOK at this; omega⟩
def BallB (N : Net) (x r : Int) : Prop := NodeAns N x ∧ InB r 0 40
theorem dstAns_len (N : Net) (x : Int) : (ansOf (NodeAns N x) (dst N x)).length ≤ 40 := ansOf_len fun h => by
  have := (dst_small (good_w h.1) h.2).1
  have := (good_w h.1).most
  omega
theorem ballAns_len (N : Net) (x r : Int) : (ansOf (BallB N x r) (ball N x 0 r)).length ≤ 40 := ansOf_len fun h => by
  have := ball_len N x 0 r
  have := (good_w h.1.1).most
  omega

set_option maxHeartbeats 6400000 in
set_option maxRecDepth 100000 in
theorem ballX_any {w : World} {vn : Value} {N : Net} (x r : Int) (h : NetAt w vn N) :
    Calls Try.prog 106 #[vn, .int .i64 x, .int .i64 r] w fun e w' => ∃ v' bs, e = .returned (.tuple #[v', .bool (dec (BallB N x r))]) ∧ Ext w w' ∧ OwnI w' v' (ansOf (BallB N x r) (ball N x 0 r)) bs ∧ Fresh w bs := by
  have HA := Lib.hid h
  obtain ⟨v0, v1, v2, rfl, hEa, -, -⟩ := h
  clear hEa
  obtain ⟨W1, hW1⟩ : ∃ W1, W1 = w.alloc (.cells #[v0, v1, v2] 34) := ⟨_, rfl⟩
  have K0 := Lib.hid (show Ext w W1 by rw [hW1]; exact boxed_ext _ _ _ _ _)
  have R0 := Lib.hid (show W1.rowIs w.heap.size 34 3 (tri v0 v1 v2) by rw [hW1]; exact boxed_row _ _ _ _ _)
  obtain ⟨p0, p1, p2, -, -, -⟩ := row3_facts R0.out
  rw [hW1] at p0 p1 p2
  by_cases hg0 : Good N
  case neg =>
    have G0 := Lib.hid (dec_false hg0)
    have D := Lib.hid (dec_false (p := BallB N x r) fun h => hg0 (h.1.1))
    have NB := Lib.hid (show ¬ (BallB N x r) from fun h => hg0 (h.1.1))
    clear hg0
    go_enter Try.func106, Try.ntmps106
    go_wp2_with fail
    rw [← hW1]
    clear hW1 p0 p1 p2
    (with_reducible refine (isNetwork_any (HA.out.ext K0.out)).mono ?_)
    rintro e w1g ⟨rfl, hxg⟩
    rw [G0.out]
    have K1 := Lib.hid (K0.out.trans' hxg)
    have R1 := Lib.hid (row_ext R0.out hxg)
    clear hxg
    obtain ⟨p0, p1, p2, -, -, -⟩ := row3_facts R1.out
    go_wp2
    go_ret2
    exact ⟨_, [], ret_mb D.out.symm, K1.out, by rw [ansOf_f NB.out]; exact own_nilI _, Fresh.nil _⟩
  have G0 := Lib.hid (dec_true hg0)
  have H0 := Lib.hid hg0
  clear hg0
  by_cases hg1 : NodeOK N x
  case neg =>
    have G1 := Lib.hid (dec_false hg1)
    have D := Lib.hid (dec_false (p := BallB N x r) fun h => hg1 (h.1.2))
    have NB := Lib.hid (show ¬ (BallB N x r) from fun h => hg1 (h.1.2))
    clear hg1
    go_enter Try.func106, Try.ntmps106
    go_wp2_with fail
    rw [← hW1]
    clear hW1 p0 p1 p2
    (with_reducible refine (isNetwork_any (HA.out.ext K0.out)).mono ?_)
    rintro e w1g ⟨rfl, hxg⟩
    rw [G0.out]
    have K1 := Lib.hid (K0.out.trans' hxg)
    have R1 := Lib.hid (row_ext R0.out hxg)
    clear hxg
    obtain ⟨p0, p1, p2, -, -, -⟩ := row3_facts R1.out
    go_wp2_with fail
    clear p0 p1 p2
    (with_reducible refine (hasNode_any _ (HA.out.ext K1.out)).mono ?_)
    rintro e w2g ⟨rfl, hxg⟩
    rw [G1.out]
    have K2 := Lib.hid (K1.out.trans' hxg)
    have R2 := Lib.hid (row_ext R1.out hxg)
    clear hxg
    obtain ⟨p0, p1, p2, -, -, -⟩ := row3_facts R2.out
    go_wp2
    go_ret2
    exact ⟨_, [], ret_mb D.out.symm, K2.out, by rw [ansOf_f NB.out]; exact own_nilI _, Fresh.nil _⟩
  have G1 := Lib.hid (dec_true hg1)
  have H1 := Lib.hid hg1
  clear hg1
  by_cases hg2 : InB r 0 40
  case neg =>
    have G2 := Lib.hid (dec_false hg2)
    have D := Lib.hid (dec_false (p := BallB N x r) fun h => hg2 (h.2))
    have NB := Lib.hid (show ¬ (BallB N x r) from fun h => hg2 (h.2))
    clear hg2
    go_enter Try.func106, Try.ntmps106
    go_wp2_with fail
    rw [← hW1]
    clear hW1 p0 p1 p2
    (with_reducible refine (isNetwork_any (HA.out.ext K0.out)).mono ?_)
    rintro e w1g ⟨rfl, hxg⟩
    rw [G0.out]
    have K1 := Lib.hid (K0.out.trans' hxg)
    have R1 := Lib.hid (row_ext R0.out hxg)
    clear hxg
    obtain ⟨p0, p1, p2, -, -, -⟩ := row3_facts R1.out
    go_wp2_with fail
    clear p0 p1 p2
    (with_reducible refine (hasNode_any _ (HA.out.ext K1.out)).mono ?_)
    rintro e w2g ⟨rfl, hxg⟩
    rw [G1.out]
    have K2 := Lib.hid (K1.out.trans' hxg)
    have R2 := Lib.hid (row_ext R1.out hxg)
    clear hxg
    obtain ⟨p0, p1, p2, -, -, -⟩ := row3_facts R2.out
    go_wp2_with fail
    clear p0 p1 p2
    (with_reducible refine (isBetween_any _ _ _ _).mono ?_)
    rintro e _ ⟨rfl, rfl⟩
    rw [G2.out]
    obtain ⟨p0, p1, p2, -, -, -⟩ := row3_facts R2.out
    go_wp2
    go_ret2
    exact ⟨_, [], ret_mb D.out.symm, K2.out, by rw [ansOf_f NB.out]; exact own_nilI _, Fresh.nil _⟩
  have G2 := Lib.hid (dec_true hg2)
  have H2 := Lib.hid hg2
  clear hg2
  have HB := Lib.hid (show BallB N x r from ⟨⟨H0.out, H1.out⟩, H2.out⟩)
  have D := Lib.hid (dec_true HB.out)
  obtain ⟨xk, rfl, hxk⟩ := node_natZ HB.out.1
  have HG := Lib.hid (good_w HB.out.1.1)
  go_enter Try.func106, Try.ntmps106
  go_wp2_with fail
  rw [← hW1]
  clear hW1 p0 p1 p2
  (with_reducible refine (isNetwork_any (HA.out.ext K0.out)).mono ?_)
  rintro e w1g ⟨rfl, hxg⟩
  rw [G0.out]
  have K1 := Lib.hid (K0.out.trans' hxg)
  have R1 := Lib.hid (row_ext R0.out hxg)
  clear hxg
  obtain ⟨p0, p1, p2, -, -, -⟩ := row3_facts R1.out
  go_wp2_with fail
  clear p0 p1 p2
  (with_reducible refine (hasNode_any _ (HA.out.ext K1.out)).mono ?_)
  rintro e w2g ⟨rfl, hxg⟩
  rw [G1.out]
  have K2 := Lib.hid (K1.out.trans' hxg)
  have R2 := Lib.hid (row_ext R1.out hxg)
  clear hxg
  obtain ⟨p0, p1, p2, -, -, -⟩ := row3_facts R2.out
  go_wp2_with fail
  clear p0 p1 p2
  (with_reducible refine (isBetween_any _ _ _ _).mono ?_)
  rintro e _ ⟨rfl, rfl⟩
  rw [G2.out]
  obtain ⟨p0, p1, p2, -, -, -⟩ := row3_facts R2.out
  go_wp2_with fail
  clear p0 p1 p2
  (with_reducible refine (nodesAround_any xk 0 r hxk (HA.out.ext K2.out) HG.out).mono ?_)
  rintro e wz ⟨ud, bd, rfl, hxz, hoz, hfz⟩
  have KZ := Lib.hid (K2.out.trans' hxz)
  have OZ := Lib.hid hoz
  have FZ := Lib.hid (hfz.of K2.out.size)
  clear hxz hoz hfz
  go_wp2
  go_ret2
  exact ⟨_, bd, ret_mb D.out.symm, KZ.out, by rw [ansOf_t HB.out]; exact OZ.out, FZ.out⟩
end Go.Proofs.Ytkpdbceglejbnaa
