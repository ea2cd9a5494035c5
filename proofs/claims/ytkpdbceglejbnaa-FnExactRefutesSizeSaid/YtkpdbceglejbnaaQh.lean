/- The contracts of fibresUnder and FibresOf. -/
import Derived.Test.YtkpdbceglejbnaaQg
import Derived.Test.YtkpdbceglejbnaaQe
namespace Go.Proofs.Ytkpdbceglejbnaa
open Go.RowKit Go.Maps

theorem pm_in {A B : Net} {m : List Int} (h : PmOK A B m) : ImIn m B.ends.length := fun v hv => h.node (by have := h.1; omega)

/-- The list of all fibres, where there is a port map. -/
noncomputable def fibAns (A B : Net) (m : List Int) : List (List Int) := if dec (PmAns A B m) = true then fibs m B.ends.length else []
theorem fibAns_t {A B : Net} {m : List Int} (h : PmAns A B m) : fibAns A B m = fibs m B.ends.length := by unfold fibAns; rw [if_pos (dec_true h)]
theorem fibAns_f {A B : Net} {m : List Int} (h : ¬ PmAns A B m) : fibAns A B m = [] := by unfold fibAns; rw [if_neg (by rw [dec_false h]; simp)]
theorem fib_small {A B : Net} {m : List Int} (h : PmAns A B m) : m.length ≤ 40 ∧ B.ends.length ≤ 40 ∧ 1 ≤ B.ends.length := ⟨by have := h.2.1; have := h.1.1.1.2; omega, h.1.2.1.2, h.1.2.1.1⟩
theorem fibAns_small (A B : Net) (m : List Int) : IISmall (fibAns A B m) := by
  by_cases h : PmAns A B m
  · rw [fibAns_t h]
    obtain ⟨h1, h2, -⟩ := fib_small h
    refine ⟨by rw [length_fibs]; omega, fun i => ?_⟩
    by_cases hi : i < B.ends.length
    · rw [gr_fibs _ _ _ hi]; have := fibTo_len m (i : Int) m.length; unfold fib; omega
    · rw [gr_out _ _ (by rw [length_fibs]; omega)]; simp
  · rw [fibAns_f h]
    exact ⟨by simp, fun i => by simp [gr]⟩
theorem ret_mb {v : Value} {b c : Bool} (h : b = c) : Ending.returned (.tuple #[v, .bool b]) = .returned (.tuple #[v, .bool c]) := by rw [h]
theorem own_nilII (w : World) : OwnII w (.slice none 0 0) [] [] :=
  ⟨nils, [], fun _ => [], ⟨0, by simp, by unfold maxLen; omega, .inl ⟨rfl, rfl, none, ⟨rfl, rfl⟩, rfl⟩⟩, fun i hi => absurd hi (by simp), rfl⟩

set_option maxHeartbeats 1600000 in
set_option maxRecDepth 100000 in
theorem fibresUnder_any {w : World} {va vb vm : Value} {A B : Net} {m : List Int} (h : NetAt w va A) (k : NetAt w vb B) (hf : IntSl w vm m) :
    Calls Try.prog 147 #[va, vb, vm] w fun e w' => (PmAns A B m ∧ ∃ b R, e = .returned (.tuple #[.map (some b), .bool true]) ∧ Ext w w' ∧ FMap w.heap.size w' b m B.ends.length R) ∨ (¬ PmAns A B m ∧ e = .returned (.tuple #[.map none, .bool false]) ∧ Ext w w') := by
  have HA := Lib.hid h
  have HB := Lib.hid k
  have HF := Lib.hid hf
  obtain ⟨v0, v1, v2, rfl, -, -, -⟩ := h
  obtain ⟨u0, u1, u2, rfl, hEb, -, -⟩ := k
  obtain ⟨fa, fb, fo, fc, rfl, -, hfl, hfm, -⟩ := hEb
  unfold maxLen at hfm
  clear hf
  obtain ⟨W1, hW1⟩ : ∃ W1, W1 = (w.alloc (.cells #[v0, v1, v2] 34)).alloc (.cells #[.slice fa B.ends.length fc, u1, u2] 34) := ⟨_, rfl⟩
  have EW := Lib.hid (show Ext w W1 by rw [hW1]; exact (boxed_ext _ _ _ _ _).trans' (boxed_ext _ _ _ _ _))
  have RA := Lib.hid (show W1.rowIs w.heap.size 34 3 (tri v0 v1 v2) by rw [hW1]; exact (boxed_row _ _ _ _ _).alloc _)
  have RB := Lib.hid (show W1.rowIs (w.heap.size + 1) 34 3 (tri (.slice fa B.ends.length fc) u1 u2) by rw [hW1]; simpa using boxed_row (boxed w v0 v1 v2 34) (.slice fa B.ends.length fc) u1 u2 34)
  obtain ⟨p0, p1, p2, -, -, -⟩ := row3_facts RA.out
  obtain ⟨q0, q1, q2, -, -, -⟩ := row3_facts RB.out
  rw [hW1] at p0 p1 p2 q0 q1 q2
  by_cases hp : PmAns A B m
  case neg =>
    have D := Lib.hid (dec_false hp)
    have HP := Lib.hid hp
    clear hp
    go_enter Try.func147, Try.ntmps147
    go_wp2_with fail
    rw [← hW1]
    clear hW1 p0 p1 p2 q0 q1 q2
    (with_reducible refine (keepsPorts_any (HA.out.ext EW.out) (HB.out.ext EW.out) (HF.out.ext EW.out)).mono ?_)
    rintro e w1 ⟨rfl, hx1⟩
    rw [D.out]
    have K1 := Lib.hid (EW.out.trans' hx1)
    clear hx1
    go_wp2
    go_ret2
    exact .inr ⟨HP.out, rfl, K1.out⟩
  have D := Lib.hid (dec_true hp)
  have HP := Lib.hid hp
  obtain ⟨h1, h2, h3⟩ := fib_small hp
  clear hp
  go_enter Try.func147, Try.ntmps147
  go_wp2_with fail
  rw [← hW1]
  clear hW1 p0 p1 p2 q0 q1 q2
  (with_reducible refine (keepsPorts_any (HA.out.ext EW.out) (HB.out.ext EW.out) (HF.out.ext EW.out)).mono ?_)
  rintro e w1 ⟨rfl, hx1⟩
  rw [D.out]
  have K1 := Lib.hid (EW.out.trans' hx1)
  obtain ⟨q0, q1, q2, -, -, -⟩ := row3_facts (row_ext RB.out hx1)
  clear hx1
  go_wp2_with fail
  (with_reducible refine (fibresByImage_any B.ends.length (by omega) (HF.out.ext K1.out) (by omega)).mono ?_)
  rintro e w2 (⟨-, b, R, rfl, hx, hm⟩ | ⟨hn, -, -⟩)
  · have K2 := Lib.hid (K1.out.trans' hx)
    have M := Lib.hid hm
    clear hx hm q0 q1 q2
    go_wp2
    go_ret2
    obtain ⟨m1, m2, m3⟩ := M.out
    exact .inl ⟨HP.out, b, R, rfl, K2.out, m1, ⟨fun i hi => ⟨by have := (m2.own i hi).1; have := K1.out.size; omega, by
      rcases (m2.own i hi).2 with h | ⟨g, cap, cur, h1, h2, h3⟩
      · exact .inl h
      · exact .inr ⟨g, cap, cur, h1, by have := K1.out.size; omega, h3⟩⟩, m2.ap⟩, by have := K1.out.size; omega⟩
  · exact absurd (pm_in HP.out.2) hn
end Go.Proofs.Ytkpdbceglejbnaa
