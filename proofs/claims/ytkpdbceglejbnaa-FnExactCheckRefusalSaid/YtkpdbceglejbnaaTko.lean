/- The contracts of both sides' RefusalOf. -/
import Derived.Test.YtkpdbceglejbnaaTkn2
namespace Go.Proofs.Ytkpdbceglejbnaa
open Go.RowKit

def quad (x0 x1 x2 x3 : Value) : Nat → Value
  | 0 => x0
  | 1 => x1
  | 2 => x2
  | _ => x3
theorem row4_made (w : World) (x0 x1 x2 x3 : Value) (t : Nat) : (w.alloc (.cells #[x0, x1, x2, x3] t)).rowIs w.heap.size t 4 (quad x0 x1 x2 x3) :=
  World.rowIs_alloc w #[x0, x1, x2, x3] t _ fun i hi => by
    have h : i < 4 := hi
    match i, h with
    | 0, _ => rfl
    | 1, _ => rfl
    | 2, _ => rfl
    | 3, _ => rfl
theorem row4_facts {w : World} {b t : Nat} {x0 x1 x2 x3 : Value} (h : w.rowIs b t 4 (quad x0 x1 x2 x3)) :
    w.cell? ⟨b, 0, none⟩ = some x0 ∧ w.cell? ⟨b, 1, none⟩ = some x1 ∧ w.cell? ⟨b, 2, none⟩ = some x2 ∧ w.cell? ⟨b, 3, none⟩ = some x3 ∧ w.frozen? ⟨b, 0, none⟩ = false ∧ w.frozen? ⟨b, 1, none⟩ = false ∧ w.frozen? ⟨b, 2, none⟩ = false ∧ w.frozen? ⟨b, 3, none⟩ = false :=
  ⟨h.cell (i := 0) (by omega), h.cell (i := 1) (by omega), h.cell (i := 2) (by omega), h.cell (i := 3) (by omega), h.frozen _, h.frozen _, h.frozen _, h.frozen _⟩
theorem row4_last {w : World} {b t : Nat} {x0 x1 x2 x3 : Value} (h : w.rowIs b t 4 (quad x0 x1 x2 x3)) (y0 y1 y2 : Value) :
    (((w.setCell ⟨b, 0, none⟩ y0).setCell ⟨b, 1, none⟩ y1).setCell ⟨b, 2, none⟩ y2).cell? ⟨b, 3, none⟩ = some x3 ∧ (((w.setCell ⟨b, 0, none⟩ y0).setCell ⟨b, 1, none⟩ y1).setCell ⟨b, 2, none⟩ y2).frozen? ⟨b, 3, none⟩ = false :=
  ⟨(((h.set 0 y0).set 1 y1).set 2 y2).cell (i := 3) (by omega), (((h.set 0 y0).set 1 y1).set 2 y2).frozen _⟩
theorem row4_put {w : World} {b t : Nat} {x0 x1 x2 x3 : Value} (h : w.rowIs b t 4 (quad x0 x1 x2 x3)) (y0 y1 y2 y3 : Value) :
    ((((w.setCell ⟨b, 0, none⟩ y0).setCell ⟨b, 1, none⟩ y1).setCell ⟨b, 2, none⟩ y2).setCell ⟨b, 3, none⟩ y3).rowIs b t 4 (quad y0 y1 y2 y3) :=
  ((((h.set 0 y0).set 1 y1).set 2 y2).set 3 y3).congr fun i hi => by match i, hi with | 0, _ => rfl | 1, _ => rfl | 2, _ => rfl | 3, _ => rfl
theorem cell4_other {w : World} {b q : Nat} (hq : q ≠ b) (y0 y1 y2 y3 : Value) (i : Nat) :
    ((((w.setCell ⟨b, 0, none⟩ y0).setCell ⟨b, 1, none⟩ y1).setCell ⟨b, 2, none⟩ y2).setCell ⟨b, 3, none⟩ y3).cell? ⟨q, i, none⟩ = w.cell? ⟨q, i, none⟩ := by
  rw [World.cell?_setCell_far _ _ _ _ (Ne.symm hq), World.cell?_setCell_far _ _ _ _ (Ne.symm hq), World.cell?_setCell_far _ _ _ _ (Ne.symm hq), World.cell?_setCell_far _ _ _ _ (Ne.symm hq)]
theorem Ext.store4 {a b : World} (h : Ext a b) {p : Nat} (hp : a.heap.size ≤ p) (y0 y1 y2 y3 : Value) : Ext a ((((b.setCell ⟨p, 0, none⟩ y0).setCell ⟨p, 1, none⟩ y1).setCell ⟨p, 2, none⟩ y2).setCell ⟨p, 3, none⟩ y3) :=
  (((h.store (p := ⟨p, 0, none⟩) hp _).store (p := ⟨p, 1, none⟩) hp _).store (p := ⟨p, 2, none⟩) hp _).store (p := ⟨p, 3, none⟩) hp _


def RoB (N : Net) (t : Int) : Prop := (Good N ∧ InB t 1 3) ∧ HasP (Rf N t (twC N))
theorem can_has {N : Net} {t : Int} {c : List Int} : ¬ Can N t c ↔ HasP (Rf N t c) := by
  unfold Can
  by_cases h : HasP (Rf N t c)
  · exact ⟨fun _ => h, fun _ k => k h⟩
  · exact ⟨fun k => absurd h k, fun k => absurd k h⟩
noncomputable def roT (N : Net) (t : Int) : Int := if dec (RoB N t) = true then t else 0
noncomputable def roL (N : Net) (t : Int) : List Int := if dec (RoB N t) = true then twC N else []
noncomputable def roU (N : Net) (t : Int) : Int := if dec (RoB N t) = true then fpU (Rf N t (twC N)) else 0
noncomputable def roV (N : Net) (t : Int) : Int := if dec (RoB N t) = true then fpV (Rf N t (twC N)) else 0
theorem ro_f {N : Net} {t : Int} (h : ¬ RoB N t) : roT N t = 0 ∧ roL N t = [] ∧ roU N t = 0 ∧ roV N t = 0 ∧ dec (RoB N t) = false := by
  unfold roT roL roU roV; rw [dec_false h]; exact ⟨rfl, rfl, rfl, rfl, rfl⟩
theorem ro_t {N : Net} {t : Int} (h : RoB N t) : roT N t = t ∧ roL N t = twC N ∧ roU N t = fpU (Rf N t (twC N)) ∧ roV N t = fpV (Rf N t (twC N)) ∧ dec (RoB N t) = true := by
  unfold roT roL roU roV; rw [dec_true h]; exact ⟨rfl, rfl, rfl, rfl, rfl⟩
theorem roL_len (N : Net) (t : Int) : (roL N t).length ≤ 1048576 := by
  by_cases h : RoB N t
  · rw [(ro_t h).2.1, twC_len]; have := h.1.1.1.2; omega
  · rw [(ro_f h).2.1]; simp
/-- A refusal as a value: four words. -/
abbrev rfV (t u x : Int) (v : Value) : Value := .agg #[.int .i64 t, v, .int .i64 u, .int .i64 x]
theorem own_off4 {w : World} {v : Value} {l : List Int} {bs : List Nat} {b i : Nat} {u : Value} (h : OwnI w v l bs) (hb : b ∉ bs) : OwnI (w.setCell ⟨b, i, none⟩ u) v l bs :=
  h.keep fun c hc => Go.Deep.blk_setCell_other _ _ _ _ (fun e => hb (by subst e; exact hc))
theorem own_store4 {w : World} {v : Value} {l : List Int} {bs : List Nat} {p q : Nat} (h : OwnI w v l bs) (hb : ∀ b ∈ bs, q ≤ b) (hp : p < q) (x0 x1 x2 x3 : Value) : OwnI ((((w.setCell ⟨p, 0, none⟩ x0).setCell ⟨p, 1, none⟩ x1).setCell ⟨p, 2, none⟩ x2).setCell ⟨p, 3, none⟩ x3) v l bs := by
  have hn : p ∉ bs := fun k => by have := hb p k; omega
  exact own_off4 (own_off4 (own_off4 (own_off4 h hn) hn) hn) hn
theorem ret_rf {t u x t' u' x' : Int} {v : Value} {b c : Bool} (h1 : t = t') (h2 : u = u') (h3 : x = x') (h4 : b = c) : Ending.returned (.tuple #[rfV t u x v, .bool b]) = .returned (.tuple #[rfV t' u' x' v, .bool c]) := by rw [h1, h2, h3, h4]

set_option maxHeartbeats 1600000 in
set_option maxRecDepth 100000 in
theorem refusalOf_any {w : World} {v : Value} {N : Net} (t : Int) (h : NetAt w v N) :
    Calls Try.prog 36 #[v, .int .i64 t] w fun e w' => ∃ v' bs, e = .returned (.tuple #[rfV (roT N t) (roU N t) (roV N t) v', .bool (dec (RoB N t))]) ∧ Ext w w' ∧ OwnI w' v' (roL N t) bs ∧ Fresh w bs := by
  have HN := Lib.hid h
  obtain ⟨v0, v1, v2, rfl, -, -, -⟩ := h
  have HX := Lib.hid ((boxed_ext w v0 v1 v2 34).alloc' (.cells #[.int .i64 0, .slice none 0 0, .int .i64 0, .int .i64 0] 52))
  have HR := Lib.hid ((row3_made w v0 v1 v2 34).alloc (.cells #[.int .i64 0, .slice none 0 0, .int .i64 0, .int .i64 0] 52))
  have R4 := Lib.hid (show World.rowIs ((boxed w v0 v1 v2 34).alloc (.cells #[.int .i64 0, .slice none 0 0, .int .i64 0, .int .i64 0] 52)) (w.heap.size + 1) 52 4 (quad (.int .i64 0) (.slice none 0 0) (.int .i64 0) (.int .i64 0)) by simpa using row4_made (boxed w v0 v1 v2 34) (.int .i64 0) (.slice none 0 0) (.int .i64 0) (.int .i64 0) 52)
  obtain ⟨p0, p1, p2, -, -, -⟩ := row3_facts HR.out
  by_cases ht : InB t 1 3
  case neg =>
    have D := Lib.hid (ro_f (N := N) fun k : RoB N t => ht k.1.2)
    obtain ⟨b, hb⟩ : ∃ b, b = dec (Good N) := ⟨_, rfl⟩
    have G := Lib.hid hb.symm
    clear hb
    go_enter Try.func36, Try.ntmps36
    go_wp2_with (first | (go_at_call 54; (with_reducible refine (taskKind_f ht _).mono ?_); rintro e _ ⟨rfl, rfl⟩) | (go_at_call 70; (with_reducible refine (twinClasses_any (HN.out.ext HX.out)).mono ?_); rintro e w1 ⟨v', bs, rfl, hx, hw, hf⟩; rw [G.out]; have K1 := Lib.hid (HX.out.trans' hx); have R1 := Lib.hid (row_ext R4.out hx); have W1 := Lib.hid hw; have F1 := Lib.hid (hf.of HX.out.size); have Z1 := Lib.hid (show ∀ b ∈ bs, w.heap.size + 2 ≤ b from fun b hb => by have := hf.2 b hb; simpa using this); obtain ⟨q0, q1, q2, -, -, -⟩ := row3_facts (row_ext HR.out hx); obtain ⟨c0, c1, c2, c3, d0, d1, d2, d3⟩ := row4_facts R1.out; clear hx hw hf p0 p1 p2))
    have KS := Lib.hid (K1.out.store4 (p := w.heap.size + 1) (by omega) (.int .i64 0) (.slice none 0 0) (.int .i64 0) (.int .i64 0))
    obtain ⟨z0, z1, z2, z3, -, -, -, -⟩ := row4_facts (row4_put R1.out (.int .i64 0) (.slice none 0 0) (.int .i64 0) (.int .i64 0))
    refine bodyPost_ret (v := .tuple #[.agg #[.int .i64 0, .slice none 0 0, .int .i64 0, .int .i64 0], .bool false]) (by simp [results, Try.results36, go_sem, z0, z1, z2, z3]) rfl ⟨_, [], ret_rf D.out.1.symm D.out.2.2.1.symm D.out.2.2.2.1.symm D.out.2.2.2.2.symm, KS.out, by rw [D.out.2.1]; exact own_nil0 _, Fresh.nil _⟩
  by_cases hg : Good N
  case neg =>
    have G := Lib.hid (dec_false hg)
    have D := Lib.hid (ro_f (N := N) fun k : RoB N t => hg k.1.1)
    clear hg
    go_enter Try.func36, Try.ntmps36
    go_wp2_with (first | (go_at_call 54; (with_reducible refine (taskKind_t ht _).mono ?_); rintro e _ ⟨rfl, rfl⟩) | (go_at_call 70; (with_reducible refine (twinClasses_any (HN.out.ext HX.out)).mono ?_); rintro e w1 ⟨v', bs, rfl, hx, hw, hf⟩; rw [G.out]; have K1 := Lib.hid (HX.out.trans' hx); have R1 := Lib.hid (row_ext R4.out hx); have W1 := Lib.hid hw; have F1 := Lib.hid (hf.of HX.out.size); have Z1 := Lib.hid (show ∀ b ∈ bs, w.heap.size + 2 ≤ b from fun b hb => by have := hf.2 b hb; simpa using this); obtain ⟨q0, q1, q2, -, -, -⟩ := row3_facts (row_ext HR.out hx); obtain ⟨c0, c1, c2, c3, d0, d1, d2, d3⟩ := row4_facts R1.out; clear hx hw hf p0 p1 p2))
    have KS := Lib.hid (K1.out.store4 (p := w.heap.size + 1) (by omega) (.int .i64 0) (.slice none 0 0) (.int .i64 0) (.int .i64 0))
    obtain ⟨z0, z1, z2, z3, -, -, -, -⟩ := row4_facts (row4_put R1.out (.int .i64 0) (.slice none 0 0) (.int .i64 0) (.int .i64 0))
    refine bodyPost_ret (v := .tuple #[.agg #[.int .i64 0, .slice none 0 0, .int .i64 0, .int .i64 0], .bool false]) (by simp [results, Try.results36, go_sem, z0, z1, z2, z3]) rfl ⟨_, [], ret_rf D.out.1.symm D.out.2.2.1.symm D.out.2.2.2.1.symm D.out.2.2.2.2.symm, KS.out, by rw [D.out.2.1]; exact own_nil0 _, Fresh.nil _⟩
  have G := Lib.hid (dec_true hg)
  have HG := Lib.hid hg
  have HL := Lib.hid (twC_len N)
  have TWA := Lib.hid (show twAns N = twC N from twAns_t hg)
  by_cases hc : HasP (Rf N t (twC N))
  case neg =>
    have CC := Lib.hid (dec_false hc)
    have D := Lib.hid (ro_f (N := N) fun k : RoB N t => hc k.2)
    clear hg hc
    go_enter Try.func36, Try.ntmps36
    go_wp2_with (first | (go_at_call 54; (with_reducible refine (taskKind_t ht _).mono ?_); rintro e _ ⟨rfl, rfl⟩) | (go_at_call 70; (with_reducible refine (twinClasses_any (HN.out.ext HX.out)).mono ?_); rintro e w1 ⟨_, bs, rfl, hx, hw, hf⟩; rw [G.out]; rw [TWA.out] at hw; obtain ⟨va, vc, rfl⟩ := hw.1.slice; have K1 := Lib.hid (HX.out.trans' hx); have R1 := Lib.hid (row_ext R4.out hx); have W1 := Lib.hid hw; have F1 := Lib.hid (hf.of HX.out.size); have Z1 := Lib.hid (show ∀ b ∈ bs, w.heap.size + 2 ≤ b from fun b hb => by have := hf.2 b hb; simpa using this); obtain ⟨q0, q1, q2, -, -, -⟩ := row3_facts (row_ext HR.out hx); obtain ⟨c0, c1, c2, c3, d0, d1, d2, d3⟩ := row4_facts R1.out; clear hx hw hf p0 p1 p2) | (go_at_call 82; (with_reducible refine (refPair_any ht (HN.out.ext K1.out) W1.out.read HL.out HG.out).mono ?_); rintro e w3 ⟨rfl, hx⟩; rw [CC.out]; have K3 := Lib.hid (K1.out.trans' hx); have R3 := Lib.hid (row_ext R1.out hx); have W3 := Lib.hid (W1.out.ext hx); obtain ⟨e0, e1, e2, e3, f0, f1, f2, f3⟩ := row4_facts R3.out; clear hx c0 c1 c2 c3 d0 d1 d2 d3))
    have KS := Lib.hid (K3.out.store4 (p := w.heap.size + 1) (by omega) (.int .i64 0) (.slice none 0 0) (.int .i64 0) (.int .i64 0))
    obtain ⟨z0, z1, z2, z3, -, -, -, -⟩ := row4_facts (row4_put R3.out (.int .i64 0) (.slice none 0 0) (.int .i64 0) (.int .i64 0))
    refine bodyPost_ret (v := .tuple #[.agg #[.int .i64 0, .slice none 0 0, .int .i64 0, .int .i64 0], .bool false]) (by simp [results, Try.results36, go_sem, z0, z1, z2, z3]) rfl ⟨_, [], ret_rf D.out.1.symm D.out.2.2.1.symm D.out.2.2.2.1.symm D.out.2.2.2.2.symm, KS.out, by rw [D.out.2.1]; exact own_nil0 _, Fresh.nil _⟩
  have CC := Lib.hid (dec_true hc)
  have D := Lib.hid (ro_t (N := N) (t := t) ⟨⟨hg, ht⟩, hc⟩)
  clear hg hc
  go_enter Try.func36, Try.ntmps36
  go_wp2_with (first | (go_at_call 54; (with_reducible refine (taskKind_t ht _).mono ?_); rintro e _ ⟨rfl, rfl⟩) | (go_at_call 70; (with_reducible refine (twinClasses_any (HN.out.ext HX.out)).mono ?_); rintro e w1 ⟨_, bs, rfl, hx, hw, hf⟩; rw [G.out]; rw [TWA.out] at hw; obtain ⟨va, vc, rfl⟩ := hw.1.slice; have K1 := Lib.hid (HX.out.trans' hx); have R1 := Lib.hid (row_ext R4.out hx); have W1 := Lib.hid hw; have F1 := Lib.hid (hf.of HX.out.size); have Z1 := Lib.hid (show ∀ b ∈ bs, w.heap.size + 2 ≤ b from fun b hb => by have := hf.2 b hb; simpa using this); obtain ⟨q0, q1, q2, -, -, -⟩ := row3_facts (row_ext HR.out hx); obtain ⟨c0, c1, c2, c3, d0, d1, d2, d3⟩ := row4_facts R1.out; clear hx hw hf p0 p1 p2) | (go_at_call 82; (with_reducible refine (refPair_any ht (HN.out.ext K1.out) W1.out.read HL.out HG.out).mono ?_); rintro e w3 ⟨rfl, hx⟩; rw [CC.out]; have K3 := Lib.hid (K1.out.trans' hx); have R3 := Lib.hid (row_ext R1.out hx); have W3 := Lib.hid (W1.out.ext hx); obtain ⟨e0, e1, e2, e3, f0, f1, f2, f3⟩ := row4_facts R3.out; clear hx c0 c1 c2 c3 d0 d1 d2 d3))
  have KS := Lib.hid (K3.out.store4 (p := w.heap.size + 1) (by omega) (.int .i64 t) (.slice va (twC N).length vc) (.int .i64 (fpU (Rf N t (twC N)))) (.int .i64 (fpV (Rf N t (twC N)))))
  obtain ⟨z0, z1, z2, z3, -, -, -, -⟩ := row4_facts (row4_put R3.out (.int .i64 t) (.slice va (twC N).length vc) (.int .i64 (fpU (Rf N t (twC N)))) (.int .i64 (fpV (Rf N t (twC N)))))
  refine bodyPost_ret (v := .tuple #[.agg #[.int .i64 t, .slice va (twC N).length vc, .int .i64 (fpU (Rf N t (twC N))), .int .i64 (fpV (Rf N t (twC N)))], .bool true]) (by simp [results, Try.results36, go_sem, z0, z1, z2, z3]) rfl ⟨_, bs, ret_rf D.out.1.symm D.out.2.2.1.symm D.out.2.2.2.1.symm D.out.2.2.2.2.symm, KS.out, by rw [D.out.2.1]; exact own_store4 W3.out Z1.out (by omega) _ _ _ _, F1.out⟩

end Go.Proofs.Ytkpdbceglejbnaa
