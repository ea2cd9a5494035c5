/- The contract of the function that compares networks. -/
import Derived.Test.YtndgbildkeglfaaEq2
namespace Go.Proofs.Ytndgbildkeglfaa
open Go.RowKit

theorem net_eq_iff (N1 N2 : Net) : N1 = N2 ↔ N1.ends = N2.ends ∧ N1.ids = N2.ids ∧ N1.inputs = N2.inputs := by
  cases N1; cases N2; simp

set_option maxHeartbeats 1600000 in
set_option maxRecDepth 100000 in
theorem eqNetwork_any {w : World} {v1 v2 : Value} {N1 N2 : Net} (h1 : NetAt w v1 N1) (h2 : NetAt w v2 N2) :
    Calls Try.prog 23 #[v1, v2] w fun e w' => e = .returned (.bool (decide (N1 = N2))) ∧ Ext w w' := by
  obtain ⟨x0, x1, x2, rfl, hx0, hx1, hx2⟩ := h1
  obtain ⟨y0, y1, y2, rfl, hy0, hy1, hy2⟩ := h2
  have HX0 := Lib.hid hx0
  have HX1 := Lib.hid hx1
  have HX2 := Lib.hid hx2
  have HY0 := Lib.hid hy0
  have HY1 := Lib.hid hy1
  have HY2 := Lib.hid hy2
  clear hx0 hx1 hx2 hy0 hy1 hy2
  have hA := (row3_made w x0 x1 x2 30).alloc (.cells #[y0, y1, y2] 30)
  have hB := row3_made (w.alloc (.cells #[x0, x1, x2] 30)) y0 y1 y2 30
  have hX := ((Ext.rfl' w).alloc' (.cells #[x0, x1, x2] 30)).alloc' (.cells #[y0, y1, y2] 30)
  simp only [World.size_alloc] at hB
  have K := Lib.hid (And.intro hA (And.intro hB hX))
  clear hA hB hX
  by_cases e0 : N1.ends = N2.ends
  · have E0 := Lib.hid (show decide (N1.ends = N2.ends) = true by simpa using e0)
    have He0 := Lib.hid e0
    clear e0
    go_enter Try.func23, Try.ntmps23
    go_wp2_with fail
    (with_reducible refine (eqEndSS_any (HX0.out.ext K.out.2.2) (HY0.out.ext K.out.2.2)).mono ?_)
    rintro e w1 ⟨rfl, hw1⟩
    rw [E0.out]
    have K1 := Lib.hid (And.intro (row_ext K.out.1 hw1) (And.intro (row_ext K.out.2.1 hw1) (K.out.2.2.trans' hw1)))
    clear hw1
    obtain ⟨p0, p1, p2, _, _, _⟩ := row3_facts K1.out.1
    obtain ⟨q0, q1, q2, _, _, _⟩ := row3_facts K1.out.2.1
    by_cases e1 : N1.ids = N2.ids
    · have E1 := Lib.hid (show decide (N1.ids = N2.ids) = true by simpa using e1)
      have He1 := Lib.hid e1
      clear e1
      go_wp2_with fail
      (with_reducible refine (eqIntS_any (HX1.out.ext K1.out.2.2) (HY1.out.ext K1.out.2.2)).mono ?_)
      rintro e w2 ⟨rfl, hw2⟩
      rw [E1.out]
      have K2 := Lib.hid (And.intro (row_ext K1.out.1 hw2) (And.intro (row_ext K1.out.2.1 hw2) (K1.out.2.2.trans' hw2)))
      clear hw2 p0 p1 p2 q0 q1 q2
      obtain ⟨p0, p1, p2, _, _, _⟩ := row3_facts K2.out.1
      obtain ⟨q0, q1, q2, _, _, _⟩ := row3_facts K2.out.2.1
      by_cases e2 : N1.inputs = N2.inputs
      · have E2 := Lib.hid (show decide (N1.inputs = N2.inputs) = true by simpa using e2)
        have He2 := Lib.hid e2
        clear e2
        go_wp2_with fail
        (with_reducible refine (eqIntS_any (HX2.out.ext K2.out.2.2) (HY2.out.ext K2.out.2.2)).mono ?_)
        rintro e w3 ⟨rfl, hw3⟩
        rw [E2.out]
        have Hw3 := Lib.hid hw3
        clear hw3
        go_wp2
        go_ret
        exact ⟨ret_bool (by rw [eq_comm, decide_eq_true_iff, net_eq_iff]; exact ⟨He0.out, He1.out, He2.out⟩), K2.out.2.2.trans' Hw3.out⟩
      · have E2 := Lib.hid (show decide (N1.inputs = N2.inputs) = false by simpa using e2)
        have He2 := Lib.hid e2
        clear e2
        go_wp2_with fail
        (with_reducible refine (eqIntS_any (HX2.out.ext K2.out.2.2) (HY2.out.ext K2.out.2.2)).mono ?_)
        rintro e w3 ⟨rfl, hw3⟩
        rw [E2.out]
        have Hw3 := Lib.hid hw3
        clear hw3
        go_wp2
        go_ret
        exact ⟨ret_bool (by rw [eq_comm, decide_eq_false_iff_not, net_eq_iff]; intro h; exact He2.out h.2.2), K2.out.2.2.trans' Hw3.out⟩
    · have E1 := Lib.hid (show decide (N1.ids = N2.ids) = false by simpa using e1)
      have He1 := Lib.hid e1
      clear e1
      go_wp2_with fail
      (with_reducible refine (eqIntS_any (HX1.out.ext K1.out.2.2) (HY1.out.ext K1.out.2.2)).mono ?_)
      rintro e w2 ⟨rfl, hw2⟩
      rw [E1.out]
      have Hw2 := Lib.hid hw2
      clear hw2
      go_wp2
      go_ret
      exact ⟨ret_bool (by rw [eq_comm, decide_eq_false_iff_not, net_eq_iff]; intro h; exact He1.out h.2.1), K1.out.2.2.trans' Hw2.out⟩
  · have E0 := Lib.hid (show decide (N1.ends = N2.ends) = false by simpa using e0)
    have He0 := Lib.hid e0
    clear e0
    go_enter Try.func23, Try.ntmps23
    go_wp2_with fail
    (with_reducible refine (eqEndSS_any (HX0.out.ext K.out.2.2) (HY0.out.ext K.out.2.2)).mono ?_)
    rintro e w1 ⟨rfl, hw1⟩
    rw [E0.out]
    have Hw1 := Lib.hid hw1
    clear hw1
    go_wp2
    go_ret
    exact ⟨ret_bool (by rw [eq_comm, decide_eq_false_iff_not, net_eq_iff]; intro h; exact He0.out h.1), K.out.2.2.trans' Hw1.out⟩
end Go.Proofs.Ytndgbildkeglfaa
