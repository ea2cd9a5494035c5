/- Rows of numbers in memory of their own; isConnected. -/
import Derived.Test.YtkpdbceglejbnaaJw
namespace Go.Proofs.Ytkpdbceglejbnaa
open Go.RowKit

theorem setgi {l : List Int} {k i : Nat} {x : Int} (hk : k < l.length) : gi (l.set k x) i = if i = k then x else gi l i := by
  simp only [gi, List.getD]
  by_cases e : i = k
  · subst e; simp [hk]
  · rw [if_neg e, List.getElem?_set_ne (by omega)]
def numRow (L : List Int) : Nat → Value := fun i => .int .i64 (gi L i)
theorem numRow_set {w : World} {b n x : Nat} {F : List Int} {y : Int} (h : w.rowIs b 3 n (numRow F)) (hF : F.length = n) (hx : x < n) : (w.setCell ⟨b, x, none⟩ (.int .i64 y)).rowIs b 3 n (numRow (F.set x y)) :=
  (h.set x _).congr fun i _ => by
    unfold numRow
    rw [setgi (by omega)]
    by_cases e : i = x
    · subst e; simp
    · simp [e]
theorem num_own {w : World} {b : Nat} {F : List Int} {n : Nat} (h : w.rowIs b 3 n (numRow F)) (hF : F.length = n) (hn : n ≤ 1048576) (hr : ∀ i, i < F.length → inI64 (gi F i)) : OwnI w (.slice (some ⟨b, 0, none⟩) n n) F [b] := by
  subst hF
  exact ⟨own_made (g := numRow F) (by rw [Nat.mul_one]; exact h) (by unfold maxLen; omega) fun i _ => rfl, hr⟩

theorem field_nodes (a b : Option Addr) (n c m d : Nat) (w : World) : (Instr.field 139 (.agg #[.slice a n c, .slice b m d]) 0).run Try.prog w = .ok (.slice a n c) w := by
  first | kernel_rfl | rfl | (unfold Instr.field; simp [go_sem, Try.underlying139])
theorem start_row {w : World} {b n x : Nat} (h : w.rowIs b 3 n (fun _ => .int .i64 (-1))) (hx : x < n) : (w.setCell ⟨b, x, none⟩ (.int .i64 0)).rowIs b 3 n (numRow ((List.replicate n (-1)).set x 0)) :=
  (h.set x _).congr fun i hi => by
    unfold numRow
    rw [setgi (by simpa using hx)]
    by_cases e : i = x
    · subst e; simp
    · simp [e, gi, List.getD, hi]
theorem keep_off {w : World} {v : Value} {l : List Int} {bs : List Nat} {b i : Nat} {u : Value} (h : OwnI w v l bs) (hb : b ∉ bs) : OwnI (w.setCell ⟨b, i, none⟩ u) v l bs :=
  h.keep fun x hx => Below.heap_setCell _ _ _ _ fun e => hb (by have : x = b := e; rw [← this]; exact hx)

theorem ret_mb {v : Value} {b c : Bool} (h : b = c) : Ending.returned (.tuple #[v, .bool b]) = .returned (.tuple #[v, .bool c]) := by rw [h]
/-- A guarded operation that alone may come up now. -/
theorem wpAnyG_oneG {P : Program} {ops : Array Oper} {Q : Exit → Act → World → Prop} {S : World → Prop} {n i : Nat} {o : Oper} {fuel : Nat} {listed : Array Bool} {a : Act} {w : World} (ho : ops[i]? = some o) (hr : Region.ready .any ops listed = [i]) (hw : Region.wanted o (yielded ops a.tmps) = true)
    (h : ∀ K' : Act → World → Prop, Shut (∀ a w, (i ≠ n → S w) → ((i ≠ n → S w) → wpAnyG P ops Q S n fuel (listed.setIfInBounds i true) a w) → K' a w) → Oper.wp P o a w K' Q) : wpAnyG P ops Q S n (fuel + 1) listed a w := by
  refine ⟨fun h0 => (by rw [hr] at h0; cases h0), fun j hj => ?_⟩
  rw [hr] at hj
  obtain rfl := List.mem_singleton.1 hj
  refine wpOp_step ho (fun K' hK => ?_)
  rw [if_pos hw]
  exact h K' (fun a w hS hW => hK a w ⟨hS, hW hS⟩)
def Conn (A : Net) : Prop := (wk A 0).length = A.ends.length
theorem walkFrom0 {w : World} {v : Value} {N : Net} (h : NetAt w v N) (hG : GoodW N) :
    Calls Try.prog 135 #[v, .int .i64 0] w fun e w' => ∃ vn vc bn bc, e = .returned (.agg #[vn, vc]) ∧ Ext w w' ∧ OwnI w' vn (wk N 0) bn ∧ OwnI w' vc (code N 0) bc ∧ Fresh w (bn ++ bc) := walkFrom_any 0 hG.one h hG
def GC (N : Net) : Prop := Good N ∧ Conn N

set_option maxHeartbeats 3200000 in
set_option maxRecDepth 100000 in
theorem isConnected_any {w : World} {v : Value} {N : Net} (h : NetAt w v N) :
    Calls Try.prog 88 #[v] w fun e w' => e = .returned (.bool (dec (GC N))) ∧ Ext w w' := by
  have HA := Lib.hid h
  obtain ⟨v0, v1, v2, rfl, hE, -, -⟩ := h
  obtain ⟨ea, eb, eo, ec, rfl, -, hel, hem, -⟩ := hE
  unfold maxLen at hem
  obtain ⟨W1, hW1⟩ : ∃ W1, W1 = w.alloc (.cells #[.slice ea N.ends.length ec, v1, v2] 34) := ⟨_, rfl⟩
  have EW := Lib.hid (show Ext w W1 by rw [hW1]; exact boxed_ext _ _ _ _ _)
  have RA := Lib.hid (show W1.rowIs w.heap.size 34 3 (tri (.slice ea N.ends.length ec) v1 v2) by rw [hW1]; exact boxed_row _ _ _ _ _)
  obtain ⟨p0, p1, p2, -, -, -⟩ := row3_facts RA.out
  have mkS : ∀ w' : World, Ext W1 w' → w'.cell? ⟨w.heap.size, 0, none⟩ = some (.slice ea N.ends.length ec) ∧ w'.cell? ⟨w.heap.size, 1, none⟩ = some v1 ∧ w'.cell? ⟨w.heap.size, 2, none⟩ = some v2 := fun w' h => ⟨h.cell' p0, h.cell' p1, h.cell' p2⟩
  rw [hW1] at p0 p1 p2
  by_cases hg : Good N
  case neg =>
    have DA := Lib.hid (dec_false hg)
    have E := Lib.hid (dec_false (p := GC N) fun h => hg h.1)
    have P0 : ∀ x' : Wx W1, x'.w.cell? ⟨w.heap.size, 0, none⟩ = some (.slice ea N.ends.length ec) := fun x' => (mkS _ x'.ok).1
    have P1 : ∀ x' : Wx W1, x'.w.cell? ⟨w.heap.size, 1, none⟩ = some v1 := fun x' => (mkS _ x'.ok).2.1
    have P2 : ∀ x' : Wx W1, x'.w.cell? ⟨w.heap.size, 2, none⟩ = some v2 := fun x' => (mkS _ x'.ok).2.2
    clear hg mkS
    go_enter Try.func88, Try.ntmps88
    go_wp2_with fail
    rw [← hW1]
    clear hW1 p0 p1 p2
    refine wp_region_ext (by kernel_rfl) (by kernel_rfl) ?_
    repeat (go_big_quiet_step ((go_at_call 73; exact in_ext_bool (isNetwork_any (HA.out.ext (EW.out.trans' (Wx.ok _)))) DA.out)))
    refine wpQuiet_nil ?_
    rintro wq ⟨⟨_, hq⟩, rfl⟩
    have EQ := Lib.hid (EW.out.trans' hq)
    clear hq
    go_wp2
    go_ret
    exact ⟨ret_bool E.out.symm, EQ.out⟩
  have DA := Lib.hid (dec_true hg)
  have GA := Lib.hid (good_w hg)
  have HG := Lib.hid hg
  clear hg
  go_enter Try.func88, Try.ntmps88
  go_wp2_with fail
  rw [← hW1]
  clear hW1 p0 p1 p2
  refine wp_region_gate (n := 10) (S := fun w' => w'.cell? ⟨w.heap.size, 0, none⟩ = some (.slice ea N.ends.length ec) ∧ w'.cell? ⟨w.heap.size, 1, none⟩ = some v1 ∧ w'.cell? ⟨w.heap.size, 2, none⟩ = some v2) (by kernel_rfl) (mkS _ (Ext.rfl' W1).drew') (fun hHeld => ?_)
  refine wpAnyG_take (i := 0) (v := ?_) rfl (by decide +kernel) (by kernel_rfl) (by decide) (by kernel_rfl) (by kernel_rfl) (fun _ _ _ h => h) (Or.inl ⟨by kernel_rfl, ?_⟩) hHeld ?_
  rotate_left 1
  · (intro w' hSw; (try dsimp only at hSw); go_simp) <;> with_reducible rfl
  simp only [Act.put]
  refine wpAnyG_one (i := 1) rfl (by kernel_rfl) rfl (fun K hK => ?_)
  go_simp
  (with_reducible refine (isNetwork_any (HA.out.ext (EW.out.trans' (Ext.rfl' W1).drew'))).mono ?_)
  rintro e w3 ⟨rfl, hx3⟩
  rw [DA.out]
  have X3 := Lib.hid ((Ext.rfl' W1).drew'.trans' hx3)
  clear hHeld hx3
  refine hK.out _ _ (fun _ => mkS _ X3.out) (fun hHeld' => ?_)
  have hHeld := hHeld' (by decide)
  clear hK K hHeld'
  refine wpAnyG_take (i := 2) (v := ?_) rfl (by decide +kernel) (by kernel_rfl) (by decide) (by kernel_rfl) (by kernel_rfl) (fun _ _ _ h => h) (Or.inl ⟨by kernel_rfl, ?_⟩) hHeld ?_
  rotate_left 1
  · (intro w' hSw; (try dsimp only at hSw); go_simp) <;> with_reducible rfl
  simp only [Act.put]
  refine wpAnyG_take (i := 3) (v := ?_) rfl (by decide +kernel) (by kernel_rfl) (by decide) (by kernel_rfl) (by kernel_rfl) (fun _ _ _ h => h) (Or.inl ⟨by kernel_rfl, ?_⟩) hHeld ?_
  rotate_left 1
  · (intro w' hSw; (try dsimp only at hSw); go_simp) <;> with_reducible rfl
  simp only [Act.put]
  refine wpAnyG_take (i := 7) (v := ?_) rfl (by decide +kernel) (by kernel_rfl) (by decide) (by kernel_rfl) (by kernel_rfl) (fun _ _ _ h => h) (Or.inl ⟨by kernel_rfl, ?_⟩) hHeld ?_
  rotate_left 1
  · (intro w' hSw; (try dsimp only at hSw); go_simp) <;> with_reducible rfl
  simp only [Act.put]
  refine wpAnyG_take (i := 8) (v := ?_) rfl (by decide +kernel) (by kernel_rfl) (by decide) (by kernel_rfl) (by kernel_rfl) (fun _ _ _ h => h) (Or.inl ⟨by kernel_rfl, ?_⟩) hHeld ?_
  rotate_left 1
  · (intro w' hSw; (try dsimp only at hSw); go_simp) <;> with_reducible rfl
  simp only [Act.put]
  refine wpAnyG_take (i := 9) (v := ?_) rfl (by decide +kernel) (by kernel_rfl) (by decide) (by kernel_rfl) (by kernel_rfl) (fun _ _ _ h => h) (Or.inl ⟨by kernel_rfl, ?_⟩) hHeld ?_
  rotate_left 1
  · (intro w' hSw; (try dsimp only at hSw); go_simp) <;> with_reducible rfl
  simp only [Act.put]
  refine wpAnyG_oneG (i := 4) rfl (by kernel_rfl) (by kernel_rfl) (fun K hK => ?_)
  go_simp
  (with_reducible refine (walkFrom0 (HA.out.ext (EW.out.trans' X3.out)) GA.out).mono ?_)
  rintro e w4 ⟨vn, vc, bn, bc, rfl, hx4, ho, -, -⟩
  have X4 := Lib.hid (X3.out.trans' hx4)
  obtain ⟨na, nc, rfl⟩ := ho.1.slice
  clear hHeld hx4 ho
  refine hK.out _ _ (fun _ => mkS _ X4.out) (fun hHeld' => ?_)
  have hHeld := hHeld' (by decide)
  clear hK K hHeld'
  refine wpAnyG_oneG (i := 5) rfl (by kernel_rfl) (by kernel_rfl) (fun K hK => ?_)
  go_simp
  refine hK.out _ _ (fun _ => hHeld) (fun _ => ?_)
  clear hK K
  refine wpAnyG_oneG (i := 6) rfl (by kernel_rfl) (by kernel_rfl) (fun K hK => ?_)
  go_simp
  refine hK.out _ _ (fun _ => hHeld) (fun _ => ?_)
  clear hK K
  refine wpAnyG_oneG (i := 10) rfl (by kernel_rfl) (by kernel_rfl) (fun K hK => ?_)
  go_simp
  refine hK.out _ _ (fun h => absurd rfl h) (fun _ => ?_)
  clear hK K
  refine wpAnyG_oneG (i := 11) rfl (by kernel_rfl) (by kernel_rfl) (fun K hK => ?_)
  go_simp
  refine hK.out _ _ (fun _ => hHeld) (fun _ => ?_)
  clear hK K
  refine wpAnyG_oneG (i := 12) rfl (by kernel_rfl) (by kernel_rfl) (fun K hK => ?_)
  go_simp
  refine hK.out _ _ (fun _ => hHeld) (fun _ => ?_)
  clear hK K
  refine wpAnyG_done (by kernel_rfl) ?_ _
  clear hHeld mkS
  by_cases hc : Conn N
  · have E := Lib.hid (dec_true (p := GC N) ⟨HG.out, hc⟩)
    have hcb : (((wk N 0).length : Int) == (N.ends.length : Int)) = true := by unfold Conn at hc; simp; omega
    clear hc
    go_wp2
    go_ret
    exact ⟨ret_bool (hcb.trans E.out.symm), EW.out.trans' X4.out⟩
  · have E := Lib.hid (dec_false (p := GC N) fun h => hc h.2)
    have hcb : (((wk N 0).length : Int) == (N.ends.length : Int)) = false := by unfold Conn at hc; exact beq_eq_false_iff_ne.2 (by omega)
    clear hc
    go_wp2
    go_ret
    exact ⟨ret_bool (hcb.trans E.out.symm), EW.out.trans' X4.out⟩
end Go.Proofs.Ytkpdbceglejbnaa
