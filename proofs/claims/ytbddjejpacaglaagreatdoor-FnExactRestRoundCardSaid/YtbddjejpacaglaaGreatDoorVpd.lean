/- The first rule that fits; the rule of an operation. -/
import Derived.Test.YtbddjejpacaglaaGreatDoorVpc
import Derived.Laws.EntriesVeiled
namespace Go.Proofs.YtbddjejpacaglaaGreatDoor
open Go.RowKit

def fstP (p : Nat → Bool) : Nat → Int
  | 0 => -1
  | k + 1 => if fstP p k = -1 then (if p k = true then (k : Int) else -1) else fstP p k
theorem fstP_none {p : Nat → Bool} : ∀ k, (∀ j, j < k → p j = false) → fstP p k = -1
  | 0, _ => rfl
  | k + 1, h => by
    have ih := fstP_none (p := p) k fun j hj => h j (by omega)
    simp only [fstP]
    rw [if_pos ih, if_neg (by rw [h k (by omega)]; simp)]
theorem fstP_hit {p : Nat → Bool} {k : Nat} (h : ∀ j, j < k → p j = false) (hk : p k = true) : ∀ n, k < n → fstP p n = (k : Int)
  | 0, hn => by omega
  | n + 1, hn => by
    simp only [fstP]
    by_cases e : n = k
    · subst e
      rw [if_pos (fstP_none _ h), if_pos hk]
    · have ih := fstP_hit h hk n (by omega)
      rw [if_neg (by omega), ih]
theorem fstP_range (p : Nat → Bool) : ∀ n, -1 ≤ fstP p n ∧ fstP p n < (n : Int)
  | 0 => by simp [fstP]
  | n + 1 => by
    have ih := fstP_range p n
    simp only [fstP]
    split
    · split <;> omega
    · omega

def quad (x0 x1 x2 x3 : Value) : Nat → Value
  | 0 => x0
  | 1 => x1
  | 2 => x2
  | _ => x3
theorem row4_made (w : World) (x0 x1 x2 x3 : Value) (t : Nat) : (w.alloc (.cells #[x0, x1, x2, x3] t)).rowIs w.heap.size t 4 (quad x0 x1 x2 x3) :=
  World.rowIs_alloc w #[x0, x1, x2, x3] t _ fun i hi => by
    have h : i < 4 := hi
    match i, h with
    | 0, _ => rfl
    | 1, _ => rfl
    | 2, _ => rfl
    | 3, _ => rfl
theorem row4_facts {w : World} {b t : Nat} {x0 x1 x2 x3 : Value} (h : w.rowIs b t 4 (quad x0 x1 x2 x3)) :
    w.cell? ⟨b, 0, none⟩ = some x0 ∧ w.cell? ⟨b, 1, none⟩ = some x1 ∧ w.cell? ⟨b, 2, none⟩ = some x2 ∧ w.cell? ⟨b, 3, none⟩ = some x3 ∧ w.frozen? ⟨b, 0, none⟩ = false ∧ w.frozen? ⟨b, 1, none⟩ = false ∧ w.frozen? ⟨b, 2, none⟩ = false ∧ w.frozen? ⟨b, 3, none⟩ = false :=
  ⟨h.cell (i := 0) (by omega), h.cell (i := 1) (by omega), h.cell (i := 2) (by omega), h.cell (i := 3) (by omega), h.frozen _, h.frozen _, h.frozen _, h.frozen _⟩
theorem row4_last {w : World} {b t : Nat} {x0 x1 x2 x3 : Value} (h : w.rowIs b t 4 (quad x0 x1 x2 x3)) (y0 y1 y2 : Value) :
    (((w.setCell ⟨b, 0, none⟩ y0).setCell ⟨b, 1, none⟩ y1).setCell ⟨b, 2, none⟩ y2).cell? ⟨b, 3, none⟩ = some x3 ∧ (((w.setCell ⟨b, 0, none⟩ y0).setCell ⟨b, 1, none⟩ y1).setCell ⟨b, 2, none⟩ y2).frozen? ⟨b, 3, none⟩ = false :=
  ⟨(((h.set 0 y0).set 1 y1).set 2 y2).cell (i := 3) (by omega), (((h.set 0 y0).set 1 y1).set 2 y2).frozen _⟩
theorem row4_put {w : World} {b t : Nat} {x0 x1 x2 x3 : Value} (h : w.rowIs b t 4 (quad x0 x1 x2 x3)) (y0 y1 y2 y3 : Value) :
    ((((w.setCell ⟨b, 0, none⟩ y0).setCell ⟨b, 1, none⟩ y1).setCell ⟨b, 2, none⟩ y2).setCell ⟨b, 3, none⟩ y3).rowIs b t 4 (quad y0 y1 y2 y3) :=
  ((((h.set 0 y0).set 1 y1).set 2 y2).set 3 y3).congr fun i hi => by match i, hi with | 0, _ => rfl | 1, _ => rfl | 2, _ => rfl | 3, _ => rfl
theorem cell4_other {w : World} {b q : Nat} (hq : q ≠ b) (y0 y1 y2 y3 : Value) (i : Nat) :
    ((((w.setCell ⟨b, 0, none⟩ y0).setCell ⟨b, 1, none⟩ y1).setCell ⟨b, 2, none⟩ y2).setCell ⟨b, 3, none⟩ y3).cell? ⟨q, i, none⟩ = w.cell? ⟨q, i, none⟩ := by
  rw [World.cell?_setCell_far _ _ _ _ (Ne.symm hq), World.cell?_setCell_far _ _ _ _ (Ne.symm hq), World.cell?_setCell_far _ _ _ _ (Ne.symm hq), World.cell?_setCell_far _ _ _ _ (Ne.symm hq)]
theorem Ext.store4 {a b : World} (h : Ext a b) {p : Nat} (hp : a.heap.size ≤ p) (y0 y1 y2 y3 : Value) : Ext a ((((b.setCell ⟨p, 0, none⟩ y0).setCell ⟨p, 1, none⟩ y1).setCell ⟨p, 2, none⟩ y2).setCell ⟨p, 3, none⟩ y3) :=
  (((h.store (p := ⟨p, 0, none⟩) hp _).store (p := ⟨p, 1, none⟩) hp _).store (p := ⟨p, 2, none⟩) hp _).store (p := ⟨p, 3, none⟩) hp _

set_option maxHeartbeats 1600000 in
set_option maxRecDepth 100000 in
theorem indexFuncV_any (K : Nat) (caps : Array Value) (eg : ∀ args w, (callFunc K args).run Tryz.prog w = .ok (.enter K args) w) (r : Nat → Bool) {w : World} {b p : Nat} {c : Int} (h : RulesIn w b c p)
    (hs : ∀ W, Ext w W → ∀ k : Nat, k < 19 → Calls Tryz.prog K (#[ruleV c p k] ++ caps) W fun e w' => e = .returned (.bool (r k)) ∧ Ext W w') :
    Calls Tryz.prog 92 #[.slice (some ⟨b, 0, none⟩) 19 19, .func (.func K) #[] caps] w fun e w' => e = .returned (.int .i64 (fstP r 19)) ∧ Ext w w' := by
  have HS := Lib.hid hs
  have HV := Lib.hid h
  clear hs h
  go_enter Tryz.func92, Tryz.ntmps92
  go_wp2
  go_loopg [8] 19 (fun g i wr => ∃ k : Nat, k ≤ 19 ∧ g = 19 - k ∧ i = .int .i64 (k : Int) ∧ Hid (Ext w wr ∧ ∀ j, j < k → r j = false))
  case atStart => exact ⟨0, Nat.zero_le _, rfl, rfl, Ext.rfl' w, fun j hj => absurd hj (by omega)⟩
  case round =>
    obtain ⟨k, hk, rfl, rfl, Hr⟩ := hrel
    by_cases hlt : k < 19
    · obtain ⟨s0, s1, s2, s3⟩ := (HV.out.ext Hr.out.1).2 k hlt
      have cS := HS.out _ Hr.out.1 k hlt
      unfold ruleV at cS
      cases hsp : r k <;> rw [hsp] at cS
      · have Hsp := Lib.hid hsp
        clear hsp
        generalize vword c k = vw at *
        generalize vcap p k = vc at *
        generalize vf k = vk at *
        generalize (nd ((k : Int) + 1) : Int) = vn at *
        go_wp2_with (go_at_fn K; refine cS.mono ?_; rintro e W' ⟨rfl, hx⟩; have HY := Lib.hid hx; clear hx)
        go_roundg (19 - (k + 1))
        case measure => omega
        case rel =>
          refine ⟨k + 1, by omega, rfl, by go_num, Hr.out.1.trans' HY.out, fun j hj => ?_⟩
          by_cases e : j = k
          · subst e; exact Hsp.out
          · exact Hr.out.2 j (by omega)
      · have HI := Lib.hid (show fstP r 19 = (k : Int) from fstP_hit Hr.out.2 hsp 19 hlt)
        clear hsp
        generalize vword c k = vw at *
        generalize vcap p k = vc at *
        generalize vf k = vk at *
        generalize (nd ((k : Int) + 1) : Int) = vn at *
        go_wp2_with (go_at_fn K; refine cS.mono ?_; rintro e W' ⟨rfl, hx⟩; have HY := Lib.hid hx; clear hx)
        go_ret
        exact ⟨ret_i64 HI.out.symm, Hr.out.1.trans' HY.out⟩
    · obtain rfl : k = 19 := by omega
      have HI := Lib.hid (show fstP r 19 = -1 from fstP_none 19 Hr.out.2)
      go_wp2
      go_ret
      exact ⟨ret_i64 HI.out.symm, Hr.out.1⟩

/-- No rule. -/
def zrule : Value := .agg #[.int .i64 0, .string { data := #[] }, .int .i64 0, .nilFunc]
/-- The rule that is answered: none, or the first one that fits. -/
def RuleAns (B : Nat) (r : Nat → Bool) (c : Int) (w : World) (v : Value) (ok : Bool) : Prop :=
  (ok = false ∧ v = zrule ∧ ∀ k, k < 19 → r k = false) ∨ ok = true ∧ ∃ k p, k < 19 ∧ r k = true ∧ (∀ j, j < k → r j = false) ∧ v = ruleV c p k ∧ w.cell? ⟨p, 0, none⟩ = some (.int .i64 c) ∧ B ≤ p
theorem Tryz.infoVR : (Tryz.prog.info? 92).map (fun i => (i.zero, i.size, i.bytes)) = some (some zrule, 4, 40) := by kernel_rfl
theorem fstP_cases (p : Nat → Bool) : ∀ n, (fstP p n = -1 ∧ ∀ j, j < n → p j = false) ∨ ∃ k : Nat, k < n ∧ fstP p n = (k : Int) ∧ p k = true ∧ ∀ j, j < k → p j = false
  | 0 => .inl ⟨rfl, fun j hj => absurd hj (by omega)⟩
  | n + 1 => by
    rcases fstP_cases p n with ⟨h1, h2⟩ | ⟨k, hk, h1, h2, h3⟩
    · cases hp : p n
      · exact .inl ⟨by simp [fstP, h1, hp], fun j hj => by
          by_cases e : j = n
          · subst e; exact hp
          · exact h2 j (by omega)⟩
      · exact .inr ⟨n, by omega, by simp [fstP, h1, hp], hp, h2⟩
    · exact .inr ⟨k, by omega, by simp only [fstP]; rw [if_neg (by omega), h1], h2, h3⟩

set_option maxHeartbeats 1600000 in
set_option maxRecDepth 100000 in
theorem ruleWith_any (K : Nat) (caps : Array Value) (eg : ∀ args w, (callFunc K args).run Tryz.prog w = .ok (.enter K args) w) (r : Nat → Bool) (c : Int) (h0 : inI64 c) {w : World} (hP : Pw w)
    (hs : ∀ W, Ext w W → ∀ k p : Nat, k < 19 → Calls Tryz.prog K (#[ruleV c p k] ++ caps) W fun e w' => e = .returned (.bool (r k)) ∧ Ext W w') :
    Calls Tryz.prog 79 #[.int .i64 c, .func (.func K) #[] caps] w fun e w' => ∃ v ok, e = .returned (.tuple #[v, .bool ok]) ∧ Ext w w' ∧ RuleAns w.heap.size r c w' v ok := by
  have HS := Lib.hid hs
  clear hs
  have K0 := Lib.hid (Ext.rfl' w |>.alloc' (.cells #[.int .i64 0, .string { data := #[] }, .int .i64 0, .nilFunc] 92))
  have R0 := Lib.hid (row4_made w (.int .i64 0) (.string { data := #[] }) (.int .i64 0) .nilFunc 92)
  have P0 := Lib.hid (hP.ext K0.out)
  clear hP
  rcases fstP_cases r 19 with ⟨f1, f2⟩ | ⟨k, hk, f1, f2, f3⟩
  · have F := Lib.hid (And.intro f1 f2)
    clear f1 f2
    go_enter Tryz.func79, Tryz.ntmps79
    go_wp2_with (first | (go_at_call 91; (with_reducible refine (valueRules_any c h0 _ P0.out).mono ?_); rintro e w1 ⟨b, p, rfl, hx, hr, hp⟩; have HP := Lib.hid (show p ≠ w.heap.size by simp at hp; omega); have HP2 := Lib.hid (show w.heap.size ≤ p by simp at hp; omega); clear hp; have K1 := Lib.hid (K0.out.trans' hx); have R1 := Lib.hid (row_ext R0.out hx); have V1 := Lib.hid hr; clear hx hr) | (go_at_call 92; (with_reducible refine (indexFuncV_any K caps eg r V1.out (fun W hW k hk => HS.out W (K1.out.trans' hW) k p hk)).mono ?_); rintro e w2 ⟨rfl, hx⟩; rw [F.out.1]; have K2 := Lib.hid (K1.out.trans' hx); have R2 := Lib.hid (row_ext R1.out hx); obtain ⟨c0, c1, c2, c3, d0, d1, d2, d3⟩ := row4_facts R2.out; clear hx))
    have K3 := Lib.hid (K2.out.store4 (Nat.le_refl _) (.int .i64 0) (.string { data := #[] }) (.int .i64 0) .nilFunc)
    obtain ⟨z0, z1, z2, z3, -, -, -, -⟩ := row4_facts (row4_put R2.out (.int .i64 0) (.string { data := #[] }) (.int .i64 0) .nilFunc)
    refine bodyPost_ret (v := .tuple #[zrule, .bool false]) (by simp [results, Tryz.results79, go_sem, zrule, z0, z1, z2, z3]) rfl ⟨_, _, rfl, K3.out, .inl ⟨rfl, rfl, F.out.2⟩⟩
  · have F := Lib.hid f1
    have F2 := Lib.hid (And.intro f2 f3)
    clear f1 f2 f3
    go_enter Tryz.func79, Tryz.ntmps79
    go_wp2_with (first | (go_at_call 91; (with_reducible refine (valueRules_any c h0 _ P0.out).mono ?_); rintro e w1 ⟨b, p, rfl, hx, hr, hp⟩; have HP := Lib.hid (show p ≠ w.heap.size by simp at hp; omega); have HP2 := Lib.hid (show w.heap.size ≤ p by simp at hp; omega); clear hp; have K1 := Lib.hid (K0.out.trans' hx); have R1 := Lib.hid (row_ext R0.out hx); have V1 := Lib.hid hr; clear hx hr) | (go_at_call 92; (with_reducible refine (indexFuncV_any K caps eg r V1.out (fun W hW k hk => HS.out W (K1.out.trans' hW) k p hk)).mono ?_); rintro e w2 ⟨rfl, hx⟩; rw [F.out]; have K2 := Lib.hid (K1.out.trans' hx); have R2 := Lib.hid (row_ext R1.out hx); have V2 := Lib.hid (V1.out.ext hx); obtain ⟨c0, c1, c2, c3, d0, d1, d2, d3⟩ := row4_facts R2.out; obtain ⟨s0, s1, s2, s3⟩ := V2.out.2 k hk; clear hx))
    have K3 := Lib.hid (K2.out.store4 (Nat.le_refl _) (.int .i64 ((k : Int) + 1)) (.string (bs (vword c k))) (.int .i64 (nd ((k : Int) + 1))) (.func (.func (vf k)) #[] (vcap p k)))
    obtain ⟨z0, z1, z2, z3, -, -, -, -⟩ := row4_facts (row4_put R2.out (.int .i64 ((k : Int) + 1)) (.string (bs (vword c k))) (.int .i64 (nd ((k : Int) + 1))) (.func (.func (vf k)) #[] (vcap p k)))
    refine bodyPost_ret (v := .tuple #[ruleV c p k, .bool true]) (by simp [results, Tryz.results79, go_sem, ruleV, z0, z1, z2, z3]) rfl ⟨_, _, rfl, K3.out, .inr ⟨rfl, k, p, hk, F2.out.1, F2.out.2, rfl, ?_, HP2.out⟩⟩
    rw [cell4_other HP.out]; exact V2.out.1

/-- The kind of a rule is the asked one. -/
def isKind (x : Int) (k : Nat) : Bool := decide ((k : Int) + 1 = x)
set_option maxHeartbeats 800000 in
set_option maxRecDepth 100000 in
theorem ruleOf1_any (x c : Int) (b p k : Nat) {w : World} (h : w.cell? ⟨b, 0, none⟩ = some (.int .i64 x)) :
    Calls Tryz.prog 80 #[ruleV c p k, .pointer (some ⟨b, 0, none⟩)] w fun e w' => e = .returned (.bool (isKind x k)) ∧ Ext w w' := by
  unfold ruleV
  generalize vword c k = vw at *
  generalize vcap p k = vc at *
  generalize vf k = vk at *
  generalize (nd ((k : Int) + 1) : Int) = vn at *
  obtain ⟨j, hj⟩ : ∃ j : Int, j = (k : Int) + 1 := ⟨_, rfl⟩
  have HJ := Lib.hid hj
  rw [← hj]
  clear hj
  have HX := Lib.hid ((Ext.rfl' w).alloc' (.cells #[.int .i64 j, .string (bs vw), .int .i64 vn, .func (.func vk) #[] vc] 92))
  have h' := HX.out.cell' h
  clear h
  by_cases e : j = x
  · have b1 : (j == x) = true := beq_iff_eq.2 e
    have HE := Lib.hid (show isKind x k = true by simp only [isKind, ← HJ.out]; exact decide_eq_true e)
    clear e
    go_enter Tryz.func80, Tryz.ntmps80
    go_wp2
    go_ret
    exact ⟨ret_bool HE.out.symm, HX.out⟩
  · have b1 : (j == x) = false := beq_eq_false_iff_ne.2 e
    have HE := Lib.hid (show isKind x k = false by simp only [isKind, ← HJ.out]; exact decide_eq_false e)
    clear e
    go_enter Tryz.func80, Tryz.ntmps80
    go_wp2
    go_ret
    exact ⟨ret_bool HE.out.symm, HX.out⟩
end Go.Proofs.YtbddjejpacaglaaGreatDoor
