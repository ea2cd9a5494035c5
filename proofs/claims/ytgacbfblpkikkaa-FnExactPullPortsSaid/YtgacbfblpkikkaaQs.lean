/- The contracts of isConnected and coConnected. -/
import Derived.Test.YtgacbfblpkikkaaQr
import Derived.Test.YtgacbfblpkikkaaJw
namespace Go.Proofs.Ytgacbfblpkikkaa
open Go.RowKit Go.Maps

theorem walkFrom0 {w : World} {v : Value} {N : Net} (h : NetAt w v N) (hG : GoodW N) :
    Calls Try.prog 88 #[v, .int .i64 0] w fun e w' => ∃ vn vc bn bc, e = .returned (.agg #[vn, vc]) ∧ Ext w w' ∧ OwnI w' vn (wk N 0) bn ∧ OwnI w' vc (code N 0) bc ∧ Fresh w (bn ++ bc) := walkFrom_any 0 hG.one h hG
theorem coReach0 {w : World} {v : Value} {N : Net} (h : NetAt w v N) (hG : GoodW N) :
    Calls Try.prog 120 #[v, .int .i64 0] w fun e w' => ∃ v' bs, e = .returned v' ∧ Ext w w' ∧ OwnI w' v' (wk N 0) bs ∧ Fresh w bs := coReach_any 0 hG.one h hG
def GC (N : Net) : Prop := Good N ∧ Conn N

set_option maxHeartbeats 3200000 in
set_option maxRecDepth 100000 in
theorem isConnected_any {w : World} {v : Value} {N : Net} (h : NetAt w v N) :
    Calls Try.prog 86 #[v] w fun e w' => e = .returned (.bool (dec (GC N))) ∧ Ext w w' := by
  have HA := Lib.hid h
  obtain ⟨v0, v1, v2, rfl, hE, -, -⟩ := h
  obtain ⟨ea, eb, eo, ec, rfl, -, hel, hem, -⟩ := hE
  unfold maxLen at hem
  obtain ⟨W1, hW1⟩ : ∃ W1, W1 = w.alloc (.cells #[.slice ea N.ends.length ec, v1, v2] 29) := ⟨_, rfl⟩
  have EW := Lib.hid (show Ext w W1 by rw [hW1]; exact boxed_ext _ _ _ _ _)
  have RA := Lib.hid (show W1.rowIs w.heap.size 29 3 (tri (.slice ea N.ends.length ec) v1 v2) by rw [hW1]; exact boxed_row _ _ _ _ _)
  obtain ⟨p0, p1, p2, -, -, -⟩ := row3_facts RA.out
  have mkS : ∀ w' : World, Ext W1 w' → w'.cell? ⟨w.heap.size, 0, none⟩ = some (.slice ea N.ends.length ec) ∧ w'.cell? ⟨w.heap.size, 1, none⟩ = some v1 ∧ w'.cell? ⟨w.heap.size, 2, none⟩ = some v2 := fun w' h => ⟨h.cell' p0, h.cell' p1, h.cell' p2⟩
  rw [hW1] at p0 p1 p2
  by_cases hg : Good N
  case neg =>
    have DA := Lib.hid (dec_false hg)
    have E := Lib.hid (dec_false (p := GC N) fun h => hg h.1)
    have P0 : ∀ x' : Wx W1, x'.w.cell? ⟨w.heap.size, 0, none⟩ = some (.slice ea N.ends.length ec) := fun x' => (mkS _ x'.ok).1
    have P1 : ∀ x' : Wx W1, x'.w.cell? ⟨w.heap.size, 1, none⟩ = some v1 := fun x' => (mkS _ x'.ok).2.1
    have P2 : ∀ x' : Wx W1, x'.w.cell? ⟨w.heap.size, 2, none⟩ = some v2 := fun x' => (mkS _ x'.ok).2.2
    clear hg mkS
    go_enter Try.func86, Try.ntmps86
    go_wp2_with fail
    rw [← hW1]
    clear hW1 p0 p1 p2
    refine wp_region_ext (by kernel_rfl) (by kernel_rfl) ?_
    repeat (go_big_quiet_step ((go_at_call 76; exact in_ext_bool (isNetwork_any (HA.out.ext (EW.out.trans' (Wx.ok _)))) DA.out)))
    refine wpQuiet_nil ?_
    rintro wq ⟨⟨_, hq⟩, rfl⟩
    have EQ := Lib.hid (EW.out.trans' hq)
    clear hq
    go_wp2
    go_ret
    exact ⟨ret_bool E.out.symm, EQ.out⟩
  have DA := Lib.hid (dec_true hg)
  have GA := Lib.hid (good_w hg)
  have HG := Lib.hid hg
  clear hg
  go_enter Try.func86, Try.ntmps86
  go_wp2_with fail
  rw [← hW1]
  clear hW1 p0 p1 p2
  refine wp_region_gate (n := 10) (S := fun w' => w'.cell? ⟨w.heap.size, 0, none⟩ = some (.slice ea N.ends.length ec) ∧ w'.cell? ⟨w.heap.size, 1, none⟩ = some v1 ∧ w'.cell? ⟨w.heap.size, 2, none⟩ = some v2) (by kernel_rfl) (mkS _ (Ext.rfl' W1).drew') (fun hHeld => ?_)
  refine wpAnyG_take (i := 0) (v := ?_) rfl (by decide +kernel) (by kernel_rfl) (by decide) (by kernel_rfl) (by kernel_rfl) (fun _ _ _ h => h) (Or.inl ⟨by kernel_rfl, ?_⟩) hHeld ?_
  rotate_left 1
  · (intro w' hSw; (try dsimp only at hSw); go_simp) <;> with_reducible rfl
  simp only [Act.put]
  refine wpAnyG_one (i := 1) rfl (by kernel_rfl) rfl (fun K hK => ?_)
  go_simp
  (with_reducible refine (isNetwork_any (HA.out.ext (EW.out.trans' (Ext.rfl' W1).drew'))).mono ?_)
  rintro e w3 ⟨rfl, hx3⟩
  rw [DA.out]
  have X3 := Lib.hid ((Ext.rfl' W1).drew'.trans' hx3)
  clear hHeld hx3
  refine hK.out _ _ (fun _ => mkS _ X3.out) (fun hHeld' => ?_)
  have hHeld := hHeld' (by decide)
  clear hK K hHeld'
  refine wpAnyG_take (i := 2) (v := ?_) rfl (by decide +kernel) (by kernel_rfl) (by decide) (by kernel_rfl) (by kernel_rfl) (fun _ _ _ h => h) (Or.inl ⟨by kernel_rfl, ?_⟩) hHeld ?_
  rotate_left 1
  · (intro w' hSw; (try dsimp only at hSw); go_simp) <;> with_reducible rfl
  simp only [Act.put]
  refine wpAnyG_take (i := 3) (v := ?_) rfl (by decide +kernel) (by kernel_rfl) (by decide) (by kernel_rfl) (by kernel_rfl) (fun _ _ _ h => h) (Or.inl ⟨by kernel_rfl, ?_⟩) hHeld ?_
  rotate_left 1
  · (intro w' hSw; (try dsimp only at hSw); go_simp) <;> with_reducible rfl
  simp only [Act.put]
  refine wpAnyG_take (i := 7) (v := ?_) rfl (by decide +kernel) (by kernel_rfl) (by decide) (by kernel_rfl) (by kernel_rfl) (fun _ _ _ h => h) (Or.inl ⟨by kernel_rfl, ?_⟩) hHeld ?_
  rotate_left 1
  · (intro w' hSw; (try dsimp only at hSw); go_simp) <;> with_reducible rfl
  simp only [Act.put]
  refine wpAnyG_take (i := 8) (v := ?_) rfl (by decide +kernel) (by kernel_rfl) (by decide) (by kernel_rfl) (by kernel_rfl) (fun _ _ _ h => h) (Or.inl ⟨by kernel_rfl, ?_⟩) hHeld ?_
  rotate_left 1
  · (intro w' hSw; (try dsimp only at hSw); go_simp) <;> with_reducible rfl
  simp only [Act.put]
  refine wpAnyG_take (i := 9) (v := ?_) rfl (by decide +kernel) (by kernel_rfl) (by decide) (by kernel_rfl) (by kernel_rfl) (fun _ _ _ h => h) (Or.inl ⟨by kernel_rfl, ?_⟩) hHeld ?_
  rotate_left 1
  · (intro w' hSw; (try dsimp only at hSw); go_simp) <;> with_reducible rfl
  simp only [Act.put]
  refine wpAnyG_oneG (i := 4) rfl (by kernel_rfl) (by kernel_rfl) (fun K hK => ?_)
  go_simp
  (with_reducible refine (walkFrom0 (HA.out.ext (EW.out.trans' X3.out)) GA.out).mono ?_)
  rintro e w4 ⟨vn, vc, bn, bc, rfl, hx4, ho, -, -⟩
  have X4 := Lib.hid (X3.out.trans' hx4)
  obtain ⟨na, nc, rfl⟩ := ho.1.slice
  clear hHeld hx4 ho
  refine hK.out _ _ (fun _ => mkS _ X4.out) (fun hHeld' => ?_)
  have hHeld := hHeld' (by decide)
  clear hK K hHeld'
  refine wpAnyG_oneG (i := 5) rfl (by kernel_rfl) (by kernel_rfl) (fun K hK => ?_)
  go_simp
  refine hK.out _ _ (fun _ => hHeld) (fun _ => ?_)
  clear hK K
  refine wpAnyG_oneG (i := 6) rfl (by kernel_rfl) (by kernel_rfl) (fun K hK => ?_)
  go_simp
  refine hK.out _ _ (fun _ => hHeld) (fun _ => ?_)
  clear hK K
  refine wpAnyG_oneG (i := 10) rfl (by kernel_rfl) (by kernel_rfl) (fun K hK => ?_)
  go_simp
  refine hK.out _ _ (fun h => absurd rfl h) (fun _ => ?_)
  clear hK K
  refine wpAnyG_oneG (i := 11) rfl (by kernel_rfl) (by kernel_rfl) (fun K hK => ?_)
  go_simp
  refine hK.out _ _ (fun _ => hHeld) (fun _ => ?_)
  clear hK K
  refine wpAnyG_oneG (i := 12) rfl (by kernel_rfl) (by kernel_rfl) (fun K hK => ?_)
  go_simp
  refine hK.out _ _ (fun _ => hHeld) (fun _ => ?_)
  clear hK K
  refine wpAnyG_done (by kernel_rfl) ?_ _
  clear hHeld mkS
  by_cases hc : Conn N
  · have E := Lib.hid (dec_true (p := GC N) ⟨HG.out, hc⟩)
    have hcb : (((wk N 0).length : Int) == (N.ends.length : Int)) = true := by unfold Conn at hc; simp; omega
    clear hc
    go_wp2
    go_ret
    exact ⟨ret_bool (hcb.trans E.out.symm), EW.out.trans' X4.out⟩
  · have E := Lib.hid (dec_false (p := GC N) fun h => hc h.2)
    have hcb : (((wk N 0).length : Int) == (N.ends.length : Int)) = false := by unfold Conn at hc; exact beq_eq_false_iff_ne.2 (by omega)
    clear hc
    go_wp2
    go_ret
    exact ⟨ret_bool (hcb.trans E.out.symm), EW.out.trans' X4.out⟩

set_option maxHeartbeats 3200000 in
set_option maxRecDepth 100000 in
theorem coConnected_any {w : World} {v : Value} {N : Net} (h : NetAt w v N) (hG : GoodW N) :
    Calls Try.prog 84 #[v] w fun e w' => e = .returned (.bool (dec (Conn N))) ∧ Ext w w' := by
  have HA := Lib.hid h
  have GA := Lib.hid hG
  clear hG
  obtain ⟨v0, v1, v2, rfl, hE, -, -⟩ := h
  obtain ⟨ea, eb, eo, ec, rfl, -, hel, hem, -⟩ := hE
  unfold maxLen at hem
  obtain ⟨W1, hW1⟩ : ∃ W1, W1 = w.alloc (.cells #[.slice ea N.ends.length ec, v1, v2] 29) := ⟨_, rfl⟩
  have EW := Lib.hid (show Ext w W1 by rw [hW1]; exact boxed_ext _ _ _ _ _)
  have RA := Lib.hid (show W1.rowIs w.heap.size 29 3 (tri (.slice ea N.ends.length ec) v1 v2) by rw [hW1]; exact boxed_row _ _ _ _ _)
  obtain ⟨p0, p1, p2, -, -, -⟩ := row3_facts RA.out
  have Hd := Lib.hid (Ext.rfl' W1).drew'
  go_enter Try.func84, Try.ntmps84
  go_wp2_with fail
  rw [← hW1]
  clear hW1
  go_region_held3 (fun w' => w'.cell? ⟨w.heap.size, 0, none⟩ = some (.slice ea N.ends.length ec) ∧ w'.cell? ⟨w.heap.size, 1, none⟩ = some v1 ∧ w'.cell? ⟨w.heap.size, 2, none⟩ = some v2 ∧ Hid (Ext W1 w'))
    (first | exact ⟨p0, p1, p2, Hd⟩ | exact ⟨hx.cell' p0, hx.cell' p1, hx.cell' p2, Hd.out.trans' hx⟩)
    (first | (go_at_call 120; (with_reducible refine (coReach0 (HA.out.ext (EW.out.trans' Hd.out)) GA.out).mono ?_); rintro e w3 ⟨nv, nbs, rfl, hx, hon, -⟩; have X3 := Lib.hid (Hd.out.trans' hx); obtain ⟨na, nc, rfl⟩ := hon.1.slice; clear hon))
  rename_i hh
  clear hh hx p0 p1 p2
  by_cases hc : Conn N
  · have E := Lib.hid (dec_true hc)
    have hcb : (((wk N 0).length : Int) == (N.ends.length : Int)) = true := by unfold Conn at hc; simp; omega
    clear hc
    go_wp2
    go_ret
    exact ⟨ret_bool (hcb.trans E.out.symm), EW.out.trans' X3.out⟩
  · have E := Lib.hid (dec_false hc)
    have hcb : (((wk N 0).length : Int) == (N.ends.length : Int)) = false := by unfold Conn at hc; exact beq_eq_false_iff_ne.2 (by omega)
    clear hc
    go_wp2
    go_ret
    exact ⟨ret_bool (hcb.trans E.out.symm), EW.out.trans' X3.out⟩
end Go.Proofs.Ytgacbfblpkikkaa
