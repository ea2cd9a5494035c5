/- The rule of an operation. -/
import Derived.Test.YtbddjejpacaglaaGreatDoorVpd
namespace Go.Proofs.YtbddjejpacaglaaGreatDoor
open Go.RowKit

/-- The rule of an operation of this kind with this Value. -/
def RuleIs (B : Nat) (w : World) (x y : Int) (v : Value) : Prop := ∃ k p : Nat, k < 19 ∧ x = (k : Int) + 1 ∧ v = ruleV y p k ∧ w.cell? ⟨p, 0, none⟩ = some (.int .i64 y) ∧ B ≤ p
theorem RuleIs.ext {B : Nat} {w w' : World} {x y : Int} {v : Value} (h : RuleIs B w x y v) (he : Ext w w') : RuleIs B w' x y v :=
  let ⟨k, p, a, b, c, d, e⟩ := h; ⟨k, p, a, b, c, he.cell' d, e⟩
/-- The greatest Value of a kind. -/
def gtop (x : Int) : Int := if x = 1 then 1000000 else 0
theorem opOK_iff (x y : Int) : OpOK x y ↔ InB x 1 19 ∧ InB y 0 (gtop x) := by
  unfold OpOK InB gtop
  split <;> constructor <;> intro h <;> omega
theorem isKind_none {x : Int} (h : ∀ k, k < 19 → isKind x k = false) : ¬ InB x 1 19 := fun hb => by
  unfold InB at hb
  have := h (x - 1).toNat (by omega)
  simp only [isKind, decide_eq_false_iff_not] at this
  omega
theorem isKind_hit {x : Int} {k : Nat} (hk : k < 19) (h : isKind x k = true) : x = (k : Int) + 1 ∧ InB x 1 19 := by
  simp only [isKind, decide_eq_true_eq] at h
  unfold InB; omega
theorem isKind_not {x : Int} (h : ¬ InB x 1 19) (k : Nat) (hk : k < 19) : isKind x k = false := by
  simp only [isKind, decide_eq_false_iff_not]
  unfold InB at h; omega
/-- What ruleOf answers. -/
theorem ruleAns_kind {B : Nat} {x c : Int} {w : World} {v : Value} {ok : Bool} (h : RuleAns B (isKind x) c w v ok) : (ok = false ∧ v = zrule ∧ ¬ InB x 1 19) ∨ (ok = true ∧ InB x 1 19 ∧ RuleIs B w x c v) := by
  rcases h with ⟨h1, h2, h3⟩ | ⟨h1, k, p, hk, h2, h3, h4, h5⟩
  · exact .inl ⟨h1, h2, isKind_none h3⟩
  · obtain ⟨e1, e2⟩ := isKind_hit hk h2
    exact .inr ⟨h1, e2, k, p, hk, e1, h4, h5⟩
theorem enters_ruleOf (args : Array Value) (w : World) : (callFunc 80 args).run Tryz.prog w = .ok (.enter 80 args) w := enters_of Tryz.func80 (by kernel_rfl) rfl args w

theorem val2_made (w : World) (x y : Value) (t : Nat) : (w.alloc (.cells #[x, y] t)).cell? ⟨w.heap.size, 0, none⟩ = some x ∧ (w.alloc (.cells #[x, y] t)).cell? ⟨w.heap.size, 1, none⟩ = some y := by constructor <;> simp
set_option maxHeartbeats 3200000 in
set_option maxRecDepth 100000 in
theorem ruleOf_any (x y : Int) (hy : inI64 y) {w : World} (hP : Pw w) :
    Calls Tryz.prog 60 #[.agg #[.int .i64 x, .int .i64 y]] w fun e w' => ∃ v, e = .returned (.tuple #[v, .bool (dec (OpOK x y))]) ∧ Ext w w' ∧ (¬ OpOK x y → v = zrule) ∧ (OpOK x y → RuleIs w.heap.size w' x y v) := by
  obtain ⟨b0, b1⟩ := val2_made w (.int .i64 x) (.int .i64 y) 59
  have hA := (Ext.rfl' (w.alloc (.cells #[.int .i64 x, .int .i64 y] 59))).alloc' (.cells #[.int .i64 0, .string { data := #[] }, .int .i64 0, .nilFunc] 92)
  have B0 := Lib.hid (hA.cell' b0)
  have B1 := Lib.hid (hA.cell' b1)
  have K0 := Lib.hid (((Ext.rfl' w).alloc' (.cells #[.int .i64 x, .int .i64 y] 59)).trans' hA)
  have r0 := row4_made (w.alloc (.cells #[.int .i64 x, .int .i64 y] 59)) (.int .i64 0) (.string { data := #[] }) (.int .i64 0) .nilFunc 92
  rw [show (w.alloc (.cells #[.int .i64 x, .int .i64 y] 59)).heap.size = w.heap.size + 1 by simp] at r0
  have R0 := Lib.hid r0
  have P0 := Lib.hid (hP.ext K0.out)
  clear b0 b1 hA hP r0
  by_cases h1 : InB x 1 19
  · by_cases hx1 : x = 1
    · have b1 : (x == 1) = true := beq_iff_eq.2 hx1
      have HG := Lib.hid (show gtop x = 1000000 by simp [gtop, hx1])
      by_cases h2 : InB y 0 1000000
      · have E2 := Lib.hid (dec_true h2)
        have HO := Lib.hid (show OpOK x y from (opOK_iff x y).2 ⟨h1, by rw [HG.out]; exact h2⟩)
        have H1 := Lib.hid h1
        clear h1 h2 hx1
        go_enter Tryz.func60, Tryz.ntmps60
        go_wp2_with fail
        (with_reducible refine (ruleWith_any 80 #[.pointer (some ⟨w.heap.size, 0, none⟩)] enters_ruleOf (isKind x) y hy P0.out (fun W hW k p _ => by simpa using ruleOf1_any x y w.heap.size p k (hW.cell' B0.out))).mono ?_)
        rintro e w1 ⟨rv, ok, rfl, hx, hr⟩
        obtain ⟨-, -, hn⟩ | ⟨rfl, -, hr⟩ := ruleAns_kind hr
        · exact absurd H1.out hn
        obtain ⟨k, p, hk, he, rfl, hcp, hpl⟩ := hr
        have hy1 := (Ext.rfl' w1).alloc' (.cells #[.int .i64 ((k : Int) + 1), .string (bs (vword y k)), .int .i64 (nd ((k : Int) + 1)), .func (.func (vf k)) #[] (vcap p k)] 92)
        have K1 := Lib.hid ((K0.out.trans' hx).trans' hy1)
        have R1 := Lib.hid (row_ext (row_ext R0.out hx) hy1)
        have BY := hy1.cell' (hx.cell' B1.out)
        have CP := Lib.hid (hy1.cell' hcp)
        have KA := Lib.hid (show x = (k : Int) + 1 from he)
        have HK := Lib.hid hk
        have PN := Lib.hid (show w.heap.size + 1 < p by simp at hpl; omega)
        obtain ⟨c0, c1, c2, c3, d0, d1, d2, d3⟩ := row4_facts R1.out
        unfold ruleV
        clear hx hcp he hk hy1 hpl
        go_wp2_with fail
        (with_reducible refine (isBetweenK_any _ _ _ _).mono ?_)
        rintro e _ ⟨rfl, rfl⟩
        rw [E2.out]
        go_wp2_with fail
        have K3 := Lib.hid (K1.out.store4 (Nat.le_succ _) (.int .i64 ((k : Int) + 1)) (.string (bs (vword y k))) (.int .i64 (nd ((k : Int) + 1))) (.func (.func (vf k)) #[] (vcap p k)))
        obtain ⟨z0, z1, z2, z3, -, -, -, -⟩ := row4_facts (row4_put R1.out (.int .i64 ((k : Int) + 1)) (.string (bs (vword y k))) (.int .i64 (nd ((k : Int) + 1))) (.func (.func (vf k)) #[] (vcap p k)))
        refine bodyPost_ret (v := .tuple #[ruleV y p k, .bool true]) (by simp [results, Tryz.results60, go_sem, ruleV, z0, z1, z2, z3]) rfl ⟨_, by rw [dec_true HO.out], K3.out, fun h => absurd HO.out h, fun _ => ⟨k, p, HK.out, KA.out, rfl, ?_, by have := PN.out; omega⟩⟩
        rw [cell4_other (by have := PN.out; omega)]; exact CP.out
      · have E2 := Lib.hid (dec_false h2)
        have HO := Lib.hid (show ¬ OpOK x y from fun h => h2 (by have := ((opOK_iff x y).1 h).2; rw [HG.out] at this; exact this))
        have H1 := Lib.hid h1
        clear h1 h2 hx1
        go_enter Tryz.func60, Tryz.ntmps60
        go_wp2_with fail
        (with_reducible refine (ruleWith_any 80 #[.pointer (some ⟨w.heap.size, 0, none⟩)] enters_ruleOf (isKind x) y hy P0.out (fun W hW k p _ => by simpa using ruleOf1_any x y w.heap.size p k (hW.cell' B0.out))).mono ?_)
        rintro e w1 ⟨rv, ok, rfl, hx, hr⟩
        obtain ⟨-, -, hn⟩ | ⟨rfl, -, hr⟩ := ruleAns_kind hr
        · exact absurd H1.out hn
        obtain ⟨k, p, hk, he, rfl, hcp, hpl⟩ := hr
        have hy1 := (Ext.rfl' w1).alloc' (.cells #[.int .i64 ((k : Int) + 1), .string (bs (vword y k)), .int .i64 (nd ((k : Int) + 1)), .func (.func (vf k)) #[] (vcap p k)] 92)
        have K1 := Lib.hid ((K0.out.trans' hx).trans' hy1)
        have R1 := Lib.hid (row_ext (row_ext R0.out hx) hy1)
        have BY := hy1.cell' (hx.cell' B1.out)
        have CP := Lib.hid (hy1.cell' hcp)
        have KA := Lib.hid (show x = (k : Int) + 1 from he)
        have HK := Lib.hid hk
        have PN := Lib.hid (show w.heap.size + 1 < p by simp at hpl; omega)
        obtain ⟨c0, c1, c2, c3, d0, d1, d2, d3⟩ := row4_facts R1.out
        unfold ruleV
        clear hx hcp he hk hy1 hpl
        go_wp2_with fail
        (with_reducible refine (isBetweenK_any _ _ _ _).mono ?_)
        rintro e _ ⟨rfl, rfl⟩
        rw [E2.out]
        go_wp2_with fail
        have K3 := Lib.hid (K1.out.store4 (Nat.le_succ _) (.int .i64 0) (.string { data := #[] }) (.int .i64 0) .nilFunc)
        obtain ⟨z0, z1, z2, z3, -, -, -, -⟩ := row4_facts (row4_put R1.out (.int .i64 0) (.string { data := #[] }) (.int .i64 0) .nilFunc)
        refine bodyPost_ret (v := .tuple #[zrule, .bool false]) (by simp [results, Tryz.results60, go_sem, zrule, z0, z1, z2, z3]) rfl ⟨_, by rw [dec_false HO.out], K3.out, fun _ => rfl, fun h => absurd h HO.out⟩
    · have b1 : (x == 1) = false := beq_eq_false_iff_ne.2 hx1
      have HG := Lib.hid (show gtop x = 0 by simp [gtop, hx1])
      by_cases h2 : InB y 0 0
      · have E2 := Lib.hid (dec_true h2)
        have HO := Lib.hid (show OpOK x y from (opOK_iff x y).2 ⟨h1, by rw [HG.out]; exact h2⟩)
        have H1 := Lib.hid h1
        clear h1 h2 hx1
        go_enter Tryz.func60, Tryz.ntmps60
        go_wp2_with fail
        (with_reducible refine (ruleWith_any 80 #[.pointer (some ⟨w.heap.size, 0, none⟩)] enters_ruleOf (isKind x) y hy P0.out (fun W hW k p _ => by simpa using ruleOf1_any x y w.heap.size p k (hW.cell' B0.out))).mono ?_)
        rintro e w1 ⟨rv, ok, rfl, hx, hr⟩
        obtain ⟨-, -, hn⟩ | ⟨rfl, -, hr⟩ := ruleAns_kind hr
        · exact absurd H1.out hn
        obtain ⟨k, p, hk, he, rfl, hcp, hpl⟩ := hr
        have hy1 := (Ext.rfl' w1).alloc' (.cells #[.int .i64 ((k : Int) + 1), .string (bs (vword y k)), .int .i64 (nd ((k : Int) + 1)), .func (.func (vf k)) #[] (vcap p k)] 92)
        have K1 := Lib.hid ((K0.out.trans' hx).trans' hy1)
        have R1 := Lib.hid (row_ext (row_ext R0.out hx) hy1)
        have BY := hy1.cell' (hx.cell' B1.out)
        have CP := Lib.hid (hy1.cell' hcp)
        have KA := Lib.hid (show x = (k : Int) + 1 from he)
        have HK := Lib.hid hk
        have PN := Lib.hid (show w.heap.size + 1 < p by simp at hpl; omega)
        obtain ⟨c0, c1, c2, c3, d0, d1, d2, d3⟩ := row4_facts R1.out
        unfold ruleV
        clear hx hcp he hk hy1 hpl
        go_wp2_with fail
        (with_reducible refine (isBetweenK_any _ _ _ _).mono ?_)
        rintro e _ ⟨rfl, rfl⟩
        rw [E2.out]
        go_wp2_with fail
        have K3 := Lib.hid (K1.out.store4 (Nat.le_succ _) (.int .i64 ((k : Int) + 1)) (.string (bs (vword y k))) (.int .i64 (nd ((k : Int) + 1))) (.func (.func (vf k)) #[] (vcap p k)))
        obtain ⟨z0, z1, z2, z3, -, -, -, -⟩ := row4_facts (row4_put R1.out (.int .i64 ((k : Int) + 1)) (.string (bs (vword y k))) (.int .i64 (nd ((k : Int) + 1))) (.func (.func (vf k)) #[] (vcap p k)))
        refine bodyPost_ret (v := .tuple #[ruleV y p k, .bool true]) (by simp [results, Tryz.results60, go_sem, ruleV, z0, z1, z2, z3]) rfl ⟨_, by rw [dec_true HO.out], K3.out, fun h => absurd HO.out h, fun _ => ⟨k, p, HK.out, KA.out, rfl, ?_, by have := PN.out; omega⟩⟩
        rw [cell4_other (by have := PN.out; omega)]; exact CP.out
      · have E2 := Lib.hid (dec_false h2)
        have HO := Lib.hid (show ¬ OpOK x y from fun h => h2 (by have := ((opOK_iff x y).1 h).2; rw [HG.out] at this; exact this))
        have H1 := Lib.hid h1
        clear h1 h2 hx1
        go_enter Tryz.func60, Tryz.ntmps60
        go_wp2_with fail
        (with_reducible refine (ruleWith_any 80 #[.pointer (some ⟨w.heap.size, 0, none⟩)] enters_ruleOf (isKind x) y hy P0.out (fun W hW k p _ => by simpa using ruleOf1_any x y w.heap.size p k (hW.cell' B0.out))).mono ?_)
        rintro e w1 ⟨rv, ok, rfl, hx, hr⟩
        obtain ⟨-, -, hn⟩ | ⟨rfl, -, hr⟩ := ruleAns_kind hr
        · exact absurd H1.out hn
        obtain ⟨k, p, hk, he, rfl, hcp, hpl⟩ := hr
        have hy1 := (Ext.rfl' w1).alloc' (.cells #[.int .i64 ((k : Int) + 1), .string (bs (vword y k)), .int .i64 (nd ((k : Int) + 1)), .func (.func (vf k)) #[] (vcap p k)] 92)
        have K1 := Lib.hid ((K0.out.trans' hx).trans' hy1)
        have R1 := Lib.hid (row_ext (row_ext R0.out hx) hy1)
        have BY := hy1.cell' (hx.cell' B1.out)
        have CP := Lib.hid (hy1.cell' hcp)
        have KA := Lib.hid (show x = (k : Int) + 1 from he)
        have HK := Lib.hid hk
        have PN := Lib.hid (show w.heap.size + 1 < p by simp at hpl; omega)
        obtain ⟨c0, c1, c2, c3, d0, d1, d2, d3⟩ := row4_facts R1.out
        unfold ruleV
        clear hx hcp he hk hy1 hpl
        go_wp2_with fail
        (with_reducible refine (isBetweenK_any _ _ _ _).mono ?_)
        rintro e _ ⟨rfl, rfl⟩
        rw [E2.out]
        go_wp2_with fail
        have K3 := Lib.hid (K1.out.store4 (Nat.le_succ _) (.int .i64 0) (.string { data := #[] }) (.int .i64 0) .nilFunc)
        obtain ⟨z0, z1, z2, z3, -, -, -, -⟩ := row4_facts (row4_put R1.out (.int .i64 0) (.string { data := #[] }) (.int .i64 0) .nilFunc)
        refine bodyPost_ret (v := .tuple #[zrule, .bool false]) (by simp [results, Tryz.results60, go_sem, zrule, z0, z1, z2, z3]) rfl ⟨_, by rw [dec_false HO.out], K3.out, fun _ => rfl, fun h => absurd h HO.out⟩
  · have b1 : (x == 1) = false := beq_eq_false_iff_ne.2 (by intro e; subst e; exact h1 (by unfold InB; omega))
    have HO := Lib.hid (show ¬ OpOK x y from fun h => h1 h.1)
    have H1 := Lib.hid h1
    clear h1
    go_enter Tryz.func60, Tryz.ntmps60
    go_wp2_with fail
    (with_reducible refine (ruleWith_any 80 #[.pointer (some ⟨w.heap.size, 0, none⟩)] enters_ruleOf (isKind x) y hy P0.out (fun W hW k p _ => by simpa using ruleOf1_any x y w.heap.size p k (hW.cell' B0.out))).mono ?_)
    rintro e w1 ⟨rv, ok, rfl, hx, hr⟩
    obtain ⟨rfl, rfl, -⟩ := (ruleAns_kind hr).resolve_right (fun h => H1.out h.2.1)
    have hy1 := (Ext.rfl' w1).alloc' (.cells #[.int .i64 0, .string { data := #[] }, .int .i64 0, .nilFunc] 92)
    have K1 := Lib.hid ((K0.out.trans' hx).trans' hy1)
    have R1 := Lib.hid (row_ext (row_ext R0.out hx) hy1)
    obtain ⟨c0, c1, c2, c3, d0, d1, d2, d3⟩ := row4_facts R1.out
    unfold zrule
    clear hx hy1
    go_wp2_with fail
    have K3 := Lib.hid (K1.out.store4 (Nat.le_succ _) (.int .i64 0) (.string { data := #[] }) (.int .i64 0) .nilFunc)
    obtain ⟨z0, z1, z2, z3, -, -, -, -⟩ := row4_facts (row4_put R1.out (.int .i64 0) (.string { data := #[] }) (.int .i64 0) .nilFunc)
    refine bodyPost_ret (v := .tuple #[zrule, .bool false]) (by simp [results, Tryz.results60, go_sem, zrule, z0, z1, z2, z3]) rfl ⟨_, by rw [dec_false HO.out], K3.out, fun _ => rfl, fun h => absurd h HO.out⟩
end Go.Proofs.YtbddjejpacaglaaGreatDoor
