/- The law's functions on refusals. -/
import Derived.Test.YtkpdbceglejbnaaTko
import Derived.Test.YtkpdbceglejbnaaKc
namespace Go.Proofs.Ytkpdbceglejbnaa
open Go.RowKit

set_option maxHeartbeats 800000 in
set_option maxRecDepth 100000 in
theorem eqRefusal_same {w : World} {v1 v2 : Value} {l : List Int} (t u x : Int) (h1 : IntSl w v1 l) (h2 : IntSl w v2 l) :
    Calls Try.prog 37 #[rfV t u x v1, rfV t u x v2] w fun e w' => e = .returned (.bool true) ∧ Ext w w' := by
  have H1 := Lib.hid h1
  have H2 := Lib.hid h2
  obtain ⟨a1, _, _, c1, rfl, -, -, -, -⟩ := h1
  obtain ⟨a2, _, _, c2, rfl, -, -, -, -⟩ := h2
  have b1 : (t != t) = false := by simp
  have b2 : (u != u) = false := by simp
  have b3 : (x != x) = false := by simp
  have HX := Lib.hid (((Ext.rfl' w).alloc' (.cells #[.int .i64 t, .slice a1 l.length c1, .int .i64 u, .int .i64 x] 52)).alloc' (.cells #[.int .i64 t, .slice a2 l.length c2, .int .i64 u, .int .i64 x] 52))
  have R1 := Lib.hid ((row4_made w (.int .i64 t) (.slice a1 l.length c1) (.int .i64 u) (.int .i64 x) 52).alloc (.cells #[.int .i64 t, .slice a2 l.length c2, .int .i64 u, .int .i64 x] 52))
  have R2 := Lib.hid (show World.rowIs ((w.alloc (.cells #[.int .i64 t, .slice a1 l.length c1, .int .i64 u, .int .i64 x] 52)).alloc (.cells #[.int .i64 t, .slice a2 l.length c2, .int .i64 u, .int .i64 x] 52)) (w.heap.size + 1) 52 4 (quad (.int .i64 t) (.slice a2 l.length c2) (.int .i64 u) (.int .i64 x)) by simpa using row4_made (w.alloc (.cells #[.int .i64 t, .slice a1 l.length c1, .int .i64 u, .int .i64 x] 52)) (.int .i64 t) (.slice a2 l.length c2) (.int .i64 u) (.int .i64 x) 52)
  obtain ⟨p0, p1, p2, p3, -, -, -, -⟩ := row4_facts R1.out
  obtain ⟨q0, q1, q2, q3, -, -, -, -⟩ := row4_facts R2.out
  go_enter Try.func37, Try.ntmps37
  go_wp2_with fail
  (with_reducible refine (eqIntS_same (H1.out.ext HX.out) (H2.out.ext HX.out)).mono ?_)
  rintro e w1 ⟨rfl, hx⟩
  have K := Lib.hid (HX.out.trans' hx)
  obtain ⟨r0, r1, r2, r3, -, -, -, -⟩ := row4_facts (row_ext R1.out hx)
  obtain ⟨s0, s1, s2, s3, -, -, -, -⟩ := row4_facts (row_ext R2.out hx)
  clear hx p0 p1 p2 p3 q0 q1 q2 q3
  go_wp2
  go_ret
  exact ⟨rfl, K.out⟩

set_option maxHeartbeats 800000 in
set_option maxRecDepth 100000 in
theorem markRefusal_own {w : World} {v : Value} {l : List Int} {bs : List Nat} (t u x k : Int) (h : OwnI w v l bs) (hs : l.length ≤ 1048576) (h0 : 0 ≤ k) (h1 : k ≤ 1125899906842624) :
    Calls Try.prog 38 #[rfV t u x v, .int .i64 k] w fun e w' => e = .returned (.int .i64 (k + l.length)) ∧ Chg w w' bs ∧ OwnI w' v (marks k l.length) bs := by
  have H := Lib.hid h
  obtain ⟨a1, c1, rfl⟩ := h.1.slice
  have HX := Lib.hid ((Ext.rfl' w).alloc' (.cells #[.int .i64 t, .slice a1 l.length c1, .int .i64 u, .int .i64 x] 52))
  have R1 := Lib.hid (row4_made w (.int .i64 t) (.slice a1 l.length c1) (.int .i64 u) (.int .i64 x) 52)
  obtain ⟨p0, p1, p2, p3, -, -, -, -⟩ := row4_facts R1.out
  clear h
  go_enter Try.func38, Try.ntmps38
  go_wp2_with fail
  (with_reducible refine (markIntS_any k (H.out.ext HX.out) hs h0 h1).mono ?_)
  rintro e w1 ⟨rfl, hc, hm⟩
  have K := Lib.hid ((Chg.of_ext HX.out bs).trans' hc)
  have O := Lib.hid hm
  clear hc hm p0 p1 p2 p3
  go_wp2
  go_ret
  exact ⟨rfl, K.out, O.out⟩

set_option maxHeartbeats 800000 in
set_option maxRecDepth 100000 in
theorem heldRefusal_any {w : World} {v : Value} (t u x k : Int) (n : Nat) (h : IntSl w v (marks k n)) (hs : n ≤ 1048576) (h0 : 0 ≤ k) (h1 : k ≤ 1125899906842624) :
    Calls Try.prog 39 #[rfV t u x v, .int .i64 k] w fun e w' => e = .returned (.int .i64 (k + n)) ∧ Ext w w' := by
  have H := Lib.hid h
  obtain ⟨a1, _, _, c1, rfl, -, -, -, -⟩ := h
  have HX := Lib.hid ((Ext.rfl' w).alloc' (.cells #[.int .i64 t, .slice a1 (marks k n).length c1, .int .i64 u, .int .i64 x] 52))
  have R1 := Lib.hid (row4_made w (.int .i64 t) (.slice a1 (marks k n).length c1) (.int .i64 u) (.int .i64 x) 52)
  obtain ⟨p0, p1, p2, p3, -, -, -, -⟩ := row4_facts R1.out
  go_enter Try.func39, Try.ntmps39
  go_wp2_with fail
  (with_reducible refine (heldIntS_any k n (H.out.ext HX.out) hs h0 h1).mono ?_)
  rintro e _ ⟨rfl, rfl⟩
  clear p0 p1 p2 p3
  have d : decide (k + (n : Int) < 0) = false := by simp; omega
  go_wp2
  go_ret
  exact ⟨rfl, HX.out⟩
end Go.Proofs.Ytkpdbceglejbnaa
