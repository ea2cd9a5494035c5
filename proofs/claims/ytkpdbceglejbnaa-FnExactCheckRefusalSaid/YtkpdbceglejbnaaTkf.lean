/- The outputs that make a leader; whether a task can be met by classes: the program. -/
import Derived.Test.YtkpdbceglejbnaaTke
namespace Go.Proofs.Ytkpdbceglejbnaa
open Go.RowKit

theorem ldr_cell (c : List Int) (k : Nat) (h : ¬ HasA c) : copied (ldr c) c.length k = .int .i64 0 := by
  unfold copied
  split
  · rename_i hk
    have := al_range c
    rw [ldr_at hk, if_neg (fun e => h (this.2.2.1 (by omega)))]
  · rfl
theorem ldr_cellV {c : List Int} {v : Nat} (k : Nat) (h : alV c = (v : Int)) (hv : v < c.length) : copied (ldr c) c.length k = if k = v then .int .i64 1 else .int .i64 0 := by
  unfold copied
  by_cases e : k = v
  · subst e; rw [if_pos hv, ldr_at hv, if_pos h.symm, if_pos rfl]
  · rw [if_neg e]
    split
    · rename_i hk; rw [ldr_at hk, if_neg (by omega)]
    · rfl
theorem ldr_in (c : List Int) : ∀ i, i < c.length → inI64 (gi (ldr c) i) := fun i hi => by
  rw [ldr_at hi]; unfold inI64; split <;> omega

set_option maxHeartbeats 1600000 in
set_option maxRecDepth 100000 in
theorem outputs_1 {w : World} {vc : Value} {c : List Int} (k : IntSl w vc c) (h6 : c.length ≤ 1048576) :
    Calls Try.prog 71 #[kL, vc] w fun e w' => ∃ b, e = .returned (.slice (some ⟨b, 0, none⟩) c.length c.length) ∧ Ext w w' ∧ OwnI w' (.slice (some ⟨b, 0, none⟩) c.length c.length) (ldr c) [b] ∧ w.heap.size ≤ b := by
  have q := assert_1
  have HC := Lib.hid k
  obtain ⟨ca, cb, co, cc, rfl, -, hcl, hcm, -⟩ := k
  unfold maxLen at hcm
  have hmk := run_make_row' (P := Try.prog) 26 3 (.int .i64 0) 8 Try.underlying26 Try.info3 rfl .i64 .i64 c.length (by omega) (by omega)
  obtain ⟨W1, hW1⟩ : ∃ W1, W1 = w.alloc (.cells (madeCells #[.int .i64 0] c.length) 3) := ⟨_, rfl⟩
  have K1 := Lib.hid (show Ext w W1 by rw [hW1]; exact (Ext.rfl' w).alloc' _)
  have R1 := Lib.hid (show W1.rowIs w.heap.size 3 c.length (fun _ => .int .i64 0) by rw [hW1]; exact World.rowIs_made _ _ _ _)
  go_enter Try.func71, Try.ntmps71
  go_wp2_with fail
  rw [← hW1]
  clear hW1 hmk
  (with_reducible refine (firstAlone_any (HC.out.ext K1.out) h6).mono ?_)
  rintro e w2 ⟨rfl, hx⟩
  have K2 := Lib.hid (K1.out.trans' hx)
  have R2 := Lib.hid (row_ext R1.out hx)
  clear hx
  have hal := al_range c
  by_cases hA : HasA c
  · obtain ⟨v, hv⟩ := Int.eq_ofNat_of_zero_le (hal.2.2.2 hA)
    have hvl : v < c.length := by omega
    have HV := Lib.hid hv
    rw [hv]
    have r0 := R2.out.cell hvl
    have f0 := R2.out.frozen v
    clear hal hA hv
    go_wp2
    go_ret
    refine ⟨w.heap.size, rfl, K2.out.store (p := ⟨w.heap.size, v, none⟩) (Nat.le_refl _) _, own_row (ldr_len c) (ldr_in c) h6 ?_, Nat.le_refl _⟩
    exact (R2.out.set v _).congr fun i hi => (ldr_cellV i HV.out hvl).symm
  · have d : decide (alV c ≥ 0) = false := by simp; have := hal.2.2; by_cases e : 0 ≤ alV c; exact absurd (this.1 e) hA; omega
    have d2 : decide (0 ≤ alV c) = false := d
    have HNA := Lib.hid hA
    clear hal hA
    go_wp2
    go_ret
    exact ⟨w.heap.size, rfl, K2.out, own_row (ldr_len c) (ldr_in c) h6 (R2.out.congr fun i hi => (ldr_cell c i HNA.out).symm), Nat.le_refl _⟩

theorem ahead_1 (w : World) : (nilAhead 326 122 (.agg #[]) "loop.example/g01084/impl.isMetBy").run Try.prog w = .ok (some false) w := by kernel_rfl
theorem meth_1 (w : World) : (method 326 122 (.agg #[]) "loop.example/g01084/impl.isMetBy").run Try.prog w = .ok (229, .agg #[]) w := by kernel_rfl
theorem ahead_2 (w : World) : (nilAhead 326 123 (.agg #[]) "loop.example/g01084/impl.isMetBy").run Try.prog w = .ok (some false) w := by kernel_rfl
theorem meth_2 (w : World) : (method 326 123 (.agg #[]) "loop.example/g01084/impl.isMetBy").run Try.prog w = .ok (232, .agg #[]) w := by kernel_rfl
theorem ahead_3 (w : World) : (nilAhead 326 124 (.agg #[]) "loop.example/g01084/impl.isMetBy").run Try.prog w = .ok (some false) w := by kernel_rfl
theorem meth_3 (w : World) : (method 326 124 (.agg #[]) "loop.example/g01084/impl.isMetBy").run Try.prog w = .ok (237, .agg #[]) w := by kernel_rfl
set_option maxHeartbeats 1600000 in
set_option maxRecDepth 100000 in
theorem canWith_2 {w : World} {v vc : Value} {N : Net} {c : List Int} (h : NetAt w v N) (k : IntSl w vc c) (h6 : c.length ≤ 1048576) (hl : c.length = N.ends.length) (hG : Good N) :
    Calls Try.prog 67 #[kC, v, vc] w fun e w' => e = .returned (.bool (dec (Can N 2 c))) ∧ Ext w w' := by
  have HN := Lib.hid h
  have HC := Lib.hid k
  obtain ⟨v0, v1, v2, rfl, -, -, -⟩ := h
  obtain ⟨W1, hW1⟩ : ∃ W1, W1 = w.alloc (.cells #[v0, v1, v2] 34) := ⟨_, rfl⟩
  have KX := Lib.hid (show Ext w W1 by rw [hW1]; exact boxed_ext _ _ _ _ _)
  have R0 := Lib.hid (show W1.rowIs w.heap.size 34 3 (tri v0 v1 v2) by rw [hW1]; exact boxed_row _ _ _ _ _)
  obtain ⟨p0, p1, p2, -, -, -⟩ := row3_facts R0.out
  have P0 : ∀ x' : Wx W1, x'.w.cell? ⟨w.heap.size, 0, none⟩ = some v0 := fun x' => x'.ok.cell' p0
  have P1 : ∀ x' : Wx W1, x'.w.cell? ⟨w.heap.size, 1, none⟩ = some v1 := fun x' => x'.ok.cell' p1
  have P2 : ∀ x' : Wx W1, x'.w.cell? ⟨w.heap.size, 2, none⟩ = some v2 := fun x' => x'.ok.cell' p2
  have HL := Lib.hid (show dec (Meets N 2 c) = dec (Can N 2 c) from dec_congr meets_2.symm)
  have HG := Lib.hid hG
  have q := ahead_2
  have q2 := meth_2
  clear p0 p1 p2 hG
  go_enter Try.func67, Try.ntmps67
  go_wp2_with fail
  rw [← hW1]
  clear hW1
  refine wp_region_ext (by kernel_rfl) (by kernel_rfl) ?_
  repeat (go_big_quiet_step ((first | (go_at_call 71; exact in_same outputs_2) | (go_at_call 232; exact in_ext_bool (met_2 (HN.out.ext (KX.out.trans' (Wx.ok _))) (HC.out.ext (KX.out.trans' (Wx.ok _))) h6 hl HG.out) HL.out))))
  refine wpQuiet_nil ?_
  rintro wq ⟨⟨_, hz2⟩, rfl⟩
  have E2 := Lib.hid (KX.out.trans' hz2)
  clear hz2 P0 P1 P2
  go_wp2
  go_ret
  exact ⟨rfl, E2.out⟩

set_option maxHeartbeats 1600000 in
set_option maxRecDepth 100000 in
theorem canWith_3 {w : World} {v vc : Value} {N : Net} {c : List Int} (h : NetAt w v N) (k : IntSl w vc c) (h6 : c.length ≤ 1048576) (hl : c.length = N.ends.length) (hG : Good N) :
    Calls Try.prog 67 #[kN, v, vc] w fun e w' => e = .returned (.bool (dec (Can N 3 c))) ∧ Ext w w' := by
  have HN := Lib.hid h
  have HC := Lib.hid k
  obtain ⟨v0, v1, v2, rfl, -, -, -⟩ := h
  obtain ⟨W1, hW1⟩ : ∃ W1, W1 = w.alloc (.cells #[v0, v1, v2] 34) := ⟨_, rfl⟩
  have KX := Lib.hid (show Ext w W1 by rw [hW1]; exact boxed_ext _ _ _ _ _)
  have R0 := Lib.hid (show W1.rowIs w.heap.size 34 3 (tri v0 v1 v2) by rw [hW1]; exact boxed_row _ _ _ _ _)
  obtain ⟨p0, p1, p2, -, -, -⟩ := row3_facts R0.out
  have P0 : ∀ x' : Wx W1, x'.w.cell? ⟨w.heap.size, 0, none⟩ = some v0 := fun x' => x'.ok.cell' p0
  have P1 : ∀ x' : Wx W1, x'.w.cell? ⟨w.heap.size, 1, none⟩ = some v1 := fun x' => x'.ok.cell' p1
  have P2 : ∀ x' : Wx W1, x'.w.cell? ⟨w.heap.size, 2, none⟩ = some v2 := fun x' => x'.ok.cell' p2
  have HL := Lib.hid (show dec (Meets N 3 c) = dec (Can N 3 c) from dec_congr meets_3.symm)
  have HG := Lib.hid hG
  have q := ahead_3
  have q2 := meth_3
  clear p0 p1 p2 hG
  go_enter Try.func67, Try.ntmps67
  go_wp2_with fail
  rw [← hW1]
  clear hW1
  refine wp_region_ext (by kernel_rfl) (by kernel_rfl) ?_
  repeat (go_big_quiet_step ((first | (go_at_call 71; exact in_same outputs_3) | (go_at_call 237; exact in_ext_bool (met_3 (HN.out.ext (KX.out.trans' (Wx.ok _))) (HC.out.ext (KX.out.trans' (Wx.ok _))) h6 hl HG.out) HL.out))))
  refine wpQuiet_nil ?_
  rintro wq ⟨⟨_, hz2⟩, rfl⟩
  have E2 := Lib.hid (KX.out.trans' hz2)
  clear hz2 P0 P1 P2
  go_wp2
  go_ret
  exact ⟨rfl, E2.out⟩

set_option maxHeartbeats 1600000 in
set_option maxRecDepth 100000 in
theorem canWith_1 {w : World} {v vc : Value} {N : Net} {c : List Int} (h : NetAt w v N) (k : IntSl w vc c) (h6 : c.length ≤ 1048576) (hp : 0 < c.length) :
    Calls Try.prog 67 #[kL, v, vc] w fun e w' => e = .returned (.bool (dec (Can N 1 c))) ∧ Ext w w' := by
  have HN := Lib.hid h
  have HC := Lib.hid k
  obtain ⟨v0, v1, v2, rfl, -, -, -⟩ := h
  obtain ⟨W1, hW1⟩ : ∃ W1, W1 = w.alloc (.cells #[v0, v1, v2] 34) := ⟨_, rfl⟩
  have KX := Lib.hid (show Ext w W1 by rw [hW1]; exact boxed_ext _ _ _ _ _)
  have R0 := Lib.hid (show W1.rowIs w.heap.size 34 3 (tri v0 v1 v2) by rw [hW1]; exact boxed_row _ _ _ _ _)
  obtain ⟨p0, p1, p2, -, -, -⟩ := row3_facts R0.out
  have mkS : ∀ w' : World, Ext W1 w' → w'.cell? ⟨w.heap.size, 0, none⟩ = some v0 ∧ w'.cell? ⟨w.heap.size, 1, none⟩ = some v1 ∧ w'.cell? ⟨w.heap.size, 2, none⟩ = some v2 ∧ Hid (Ext W1 w') := fun w' h => ⟨h.cell' p0, h.cell' p1, h.cell' p2, h⟩
  have HL := Lib.hid (show dec (Meets N 1 (ldr c)) = dec (Can N 1 c) from dec_congr (meets_can (t := 1) hp))
  have q := ahead_1
  have q2 := meth_1
  clear p0 p1 p2
  go_enter Try.func67, Try.ntmps67
  go_wp2_with fail
  rw [← hW1]
  clear hW1
  go_region_held3 (fun w' => w'.cell? ⟨w.heap.size, 0, none⟩ = some v0 ∧ w'.cell? ⟨w.heap.size, 1, none⟩ = some v1 ∧ w'.cell? ⟨w.heap.size, 2, none⟩ = some v2 ∧ Hid (Ext W1 w')) (first | exact mkS _ (Ext.rfl' W1).drew' | exact mkS _ XA.out | exact mkS _ XB.out | fail)
    (first | (go_at_call 71; (with_reducible refine (outputs_1 (HC.out.ext (KX.out.trans' (‹_ ∧ _ ∧ _ ∧ Hid (Ext W1 _)›).2.2.2.out)) h6).mono ?_); rintro e wA ⟨ob, rfl, hx, ho, -⟩; have XA := Lib.hid (Ext.trans' ((‹_ ∧ _ ∧ _ ∧ Hid (Ext W1 _)›).2.2.2.out) hx); have OA := Lib.hid ho.read; clear hx ho) | (go_at_call 229; (with_reducible refine (met_1 (HN.out.ext (KX.out.trans' XA.out)) OA.out (by rw [ldr_len]; exact h6)).mono ?_); rintro e wB ⟨rfl, hx⟩; have XB := Lib.hid (Ext.trans' XA.out hx); clear hx))
  all_goals go_wp2
  all_goals go_ret
  all_goals exact ⟨ret_bool HL.out, KX.out.trans' XB.out⟩

end Go.Proofs.Ytkpdbceglejbnaa
