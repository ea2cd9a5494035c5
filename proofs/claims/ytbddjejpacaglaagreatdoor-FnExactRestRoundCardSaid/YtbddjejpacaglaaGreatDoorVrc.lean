/- The model's round of a network. -/
import Derived.Test.YtbddjejpacaglaaGreatDoorVrb
import Derived.Test.YtbddjejpacaglaaGreatDoorVqh
namespace Go.Proofs.YtbddjejpacaglaaGreatDoor
open Go.RowKit

def five (x0 x1 x2 x3 x4 : Value) : Nat → Value
  | 0 => x0
  | 1 => x1
  | 2 => x2
  | 3 => x3
  | _ => x4
theorem row5r_made (w : World) (x0 x1 x2 x3 x4 : Value) (t : Nat) : (w.alloc (.cells #[x0, x1, x2, x3, x4] t)).rowIs w.heap.size t 5 (five x0 x1 x2 x3 x4) :=
  World.rowIs_alloc w #[x0, x1, x2, x3, x4] t _ fun i hi => by
    have h : i < 5 := hi
    match i, h with
    | 0, _ => rfl
    | 1, _ => rfl
    | 2, _ => rfl
    | 3, _ => rfl
    | 4, _ => rfl
theorem row5r_facts {w : World} {b t : Nat} {x0 x1 x2 x3 x4 : Value} (h : w.rowIs b t 5 (five x0 x1 x2 x3 x4)) :
    w.cell? ⟨b, 0, none⟩ = some x0 ∧ w.cell? ⟨b, 1, none⟩ = some x1 ∧ w.cell? ⟨b, 2, none⟩ = some x2 ∧ w.cell? ⟨b, 3, none⟩ = some x3 ∧ w.cell? ⟨b, 4, none⟩ = some x4 :=
  ⟨h.cell (i := 0) (by omega), h.cell (i := 1) (by omega), h.cell (i := 2) (by omega), h.cell (i := 3) (by omega), h.cell (i := 4) (by omega)⟩
theorem row5r_frozen {w : World} {b t : Nat} {x0 x1 x2 x3 x4 : Value} (h : w.rowIs b t 5 (five x0 x1 x2 x3 x4)) :
    w.frozen? ⟨b, 0, none⟩ = false ∧ w.frozen? ⟨b, 1, none⟩ = false ∧ w.frozen? ⟨b, 2, none⟩ = false ∧ w.frozen? ⟨b, 3, none⟩ = false ∧ w.frozen? ⟨b, 4, none⟩ = false :=
  ⟨h.frozen _, h.frozen _, h.frozen _, h.frozen _, h.frozen _⟩
theorem row5r_put {w : World} {b t : Nat} {x0 x1 x2 x3 x4 : Value} (h : w.rowIs b t 5 (five x0 x1 x2 x3 x4)) (y0 y1 y2 y3 y4 : Value) :
    (((((w.setCell ⟨b, 0, none⟩ y0).setCell ⟨b, 1, none⟩ y1).setCell ⟨b, 2, none⟩ y2).setCell ⟨b, 3, none⟩ y3).setCell ⟨b, 4, none⟩ y4).rowIs b t 5 (five y0 y1 y2 y3 y4) :=
  (((((h.set 0 y0).set 1 y1).set 2 y2).set 3 y3).set 4 y4).congr fun i hi => by match i, hi with | 0, _ => rfl | 1, _ => rfl | 2, _ => rfl | 3, _ => rfl | 4, _ => rfl
theorem row5r_set1 {w : World} {b t : Nat} {x0 x1 x2 x3 x4 : Value} (h : w.rowIs b t 5 (five x0 x1 x2 x3 x4)) (y : Value) : (w.setCell ⟨b, 1, none⟩ y).rowIs b t 5 (five x0 y x2 x3 x4) :=
  (h.set 1 y).congr fun i hi => by match i, hi with | 0, _ => rfl | 1, _ => rfl | 2, _ => rfl | 3, _ => rfl | 4, _ => rfl
theorem Ext.store5 {a b : World} (h : Ext a b) {p : Nat} (hp : a.heap.size ≤ p) (y0 y1 y2 y3 y4 : Value) : Ext a (((((b.setCell ⟨p, 0, none⟩ y0).setCell ⟨p, 1, none⟩ y1).setCell ⟨p, 2, none⟩ y2).setCell ⟨p, 3, none⟩ y3).setCell ⟨p, 4, none⟩ y4) :=
  ((((h.store (p := ⟨p, 0, none⟩) hp _).store (p := ⟨p, 1, none⟩) hp _).store (p := ⟨p, 2, none⟩) hp _).store (p := ⟨p, 3, none⟩) hp _).store (p := ⟨p, 4, none⟩) hp _
/-- What a node knows lies in a box that is not older than W; its identifier is still to come. -/
def NodeBox (W w : World) (p : Nat) (S : Sg) (x : Int) : Prop :=
  Ext W w ∧ W.heap.size ≤ p ∧ ∃ a c bs, w.rowIs p 86 5 (five (.int .i64 S.own) (.int .i64 x) (.int .i64 S.inp) (.int .i64 S.rnd) (.slice a S.near.length c)) ∧ OwnI w (.slice a S.near.length c) S.near bs ∧ ∀ b ∈ bs, b ≠ p

theorem own_sl {w : World} {v : Value} {l : List Int} {bs : List Nat} (h : OwnI w v l bs) : ∃ a c, v = .slice a l.length c := by
  obtain ⟨a, _, _, c, e, -⟩ := h.read
  exact ⟨a, c, e⟩
theorem OwnI.put5 {w : World} {v : Value} {l : List Int} {bs : List Nat} (h : OwnI w v l bs) {p : Nat} (hb : ∀ b ∈ bs, b ≠ p) (y0 y1 y2 y3 y4 : Value) :
    OwnI (((((w.setCell ⟨p, 0, none⟩ y0).setCell ⟨p, 1, none⟩ y1).setCell ⟨p, 2, none⟩ y2).setCell ⟨p, 3, none⟩ y3).setCell ⟨p, 4, none⟩ y4) v l bs :=
  h.keep fun b hm => by
    have e := hb b hm
    rw [Go.Deep.blk_setCell_other _ _ _ _ e, Go.Deep.blk_setCell_other _ _ _ _ e, Go.Deep.blk_setCell_other _ _ _ _ e, Go.Deep.blk_setCell_other _ _ _ _ e, Go.Deep.blk_setCell_other _ _ _ _ e]
theorem node_store {W w : World} {p : Nat} {S : Sg} {z0 z1 z2 z3 z4 : Value} {a : Option Addr} {c : Nat} {bs : List Nat} (R : w.rowIs p 86 5 (five z0 z1 z2 z3 z4)) (X : Ext W w) (hp : W.heap.size ≤ p) (O : OwnI w (.slice a S.near.length c) S.near bs) (hb : ∀ b ∈ bs, b ≠ p) :
    NodeBox W (((((w.setCell ⟨p, 0, none⟩ (.int .i64 S.own)).setCell ⟨p, 1, none⟩ (.int .i64 0)).setCell ⟨p, 2, none⟩ (.int .i64 S.inp)).setCell ⟨p, 3, none⟩ (.int .i64 S.rnd)).setCell ⟨p, 4, none⟩ (.slice a S.near.length c)) p S 0 :=
  ⟨X.store5 hp _ _ _ _ _, hp, a, c, bs, row5r_put R _ _ _ _ _, O.put5 hb _ _ _ _ _, hb⟩
theorem node_alloc {W w : World} {S : Sg} {a : Option Addr} {c : Nat} {bs : List Nat} (X : Ext W w) (O : OwnI w (.slice a S.near.length c) S.near bs) :
    NodeBox W (w.alloc (.cells #[.int .i64 S.own, .int .i64 0, .int .i64 S.inp, .int .i64 S.rnd, .slice a S.near.length c] 86)) w.heap.size S 0 :=
  ⟨X.alloc' _, X.size, a, c, bs, row5r_made _ _ _ _ _ _ _, O.ext ((Ext.rfl' w).alloc' _), fun b hb => by have := O.1.lt b hb; omega⟩

/-- A list of numbers grows by one. -/
theorem grow_push {W w2 w3 : World} {v v' : Value} {k : Nat} {L : List Int} {x : Int} (hl : L.length = k) (hg : Grew w2 w3 W.heap.size 3 1 v v' (k + 1) (intCells L ++ intCells [x])) (hB : ∀ b, v.ownBlock = some b → W.heap.size ≤ b) (he : Ext W w2) :
    ∃ a c, v' = .slice a (k + 1) c ∧ Ext W w3 ∧ GrowN W.heap.size w3 (.slice a (k + 1) c) (L ++ [x]) := by
  subst hl
  have hx := hg.ext he hB
  have hG := GrowN.step hg rfl
  obtain ⟨a, c, rfl⟩ := hG.slice
  have e : (L ++ [x]).length = L.length + 1 := by simp
  rw [e] at hG
  exact ⟨a, c, by rw [e], hx, hG⟩

set_option maxHeartbeats 12800000 in
set_option maxRecDepth 100000 in
theorem vaStep_any {w : World} {pv vn vs : Value} {l : List (Int × Int)} {N : Net} {s : List Int} (hpv : EndSl w pv l) (hp : ProgOK l) (h : NetAt w vn N) (hs : IntSl w vs s) (hv : ValsOK N s) (r : Int) :
    Calls Tryz.prog 34 #[pv, vn, .int .i64 r, vs] w fun e w' => ∃ v' bs, e = .returned v' ∧ Ext w w' ∧ OwnI w' v' (stepV l N r s) bs ∧ Fresh w bs := by
  have HN := Lib.hid h
  have HS := Lib.hid hs
  have HPV := Lib.hid hpv
  have HP := Lib.hid hp
  have HV := Lib.hid hv
  have hn40 := hv.1.1.2
  have hil := inp_len hv.1
  have hdl := ids_len hv.1
  have hsl := hv.2.1
  obtain ⟨v0, v1, v2, rfl, hE, hI, hIn⟩ := h
  obtain ⟨ea, _, _, ec, rfl, -, hel, hem, -⟩ := hE
  obtain ⟨ia, ib, io, ic, rfl, hia, hidl, hidm, hic⟩ := hI
  obtain ⟨na, nb, no, nc, rfl, hna, hnl, hnm, hnc⟩ := hIn
  obtain ⟨sa, sb, so, sc, rfl, hsa, hsl2, hsm, hsc⟩ := hs
  unfold maxLen at hem hidm hnm hsm
  have HIC := Lib.hid hic
  have HIA := Lib.hid hia
  have HNC := Lib.hid hnc
  have HNA := Lib.hid hna
  have HSC := Lib.hid hsc
  have HSA := Lib.hid hsa
  have HIL := Lib.hid hil
  have HDL := Lib.hid hdl
  have HSL := Lib.hid hsl
  obtain ⟨W1, hW1⟩ : ∃ W1 : World, W1 = w.alloc (.cells #[.slice ea N.ends.length ec, .slice ia N.ids.length ic, .slice na N.inputs.length nc] 35) := ⟨_, rfl⟩
  have R := row3_made w (.slice ea N.ends.length ec) (.slice ia N.ids.length ic) (.slice na N.inputs.length nc) 35
  rw [← hW1] at R
  have HR := Lib.hid R
  have HX1 := Lib.hid (show Ext w W1 by rw [hW1]; exact (Ext.rfl' w).alloc' _)
  have HW1 := Lib.hid hW1
  obtain ⟨i0, hi, hz0, hz1, hz2⟩ := info_parts Tryz.info3
  have I0 := Lib.hid (And.intro hi (And.intro hz0 (And.intro hz1 hz2)))
  clear hi hz0 hz1 hz2 R hW1 hpv hp hv hic hia hnc hna hsc hsa hil hdl hsl
  go_enter Tryz.func34, Tryz.ntmps34
  go_wp2_with fail
  go_loopg [9, 15] N.ends.length (fun g t9 i wr => ∃ (k : Nat) (a : Option Addr) (c : Nat), k ≤ N.ends.length ∧ g = N.ends.length - k ∧ t9 = .slice a k c ∧ i = .int .i64 (k : Int) ∧ Hid (Ext W1 wr ∧ GrowN W1.heap.size wr (.slice a k c) (stepTo l N r s k)))
  case atStart => exact ⟨0, _, _, Nat.zero_le _, rfl, rfl, rfl, by rw [HW1.out]; exact Ext.rfl' _, GrowN.nil _ _⟩
  case round =>
    obtain ⟨k, a, c, hk, rfl, rfl, rfl, Hr⟩ := hrel
    by_cases hlt : k < N.ends.length
    · obtain ⟨_, qs, rfl, -⟩ := HSC.out k (by have := HSL.out; omega)
      obtain ⟨_, qn, rfl, -⟩ := HNC.out k (by have := HIL.out; omega)
      obtain rfl := HSA.out (by have := HSL.out; omega)
      obtain rfl := HNA.out (by have := HIL.out; omega)
      have hks : k < s.length := by have := HSL.out; omega
      have hkn : k < N.inputs.length := by have := HIL.out; omega
      have q1 := Hr.out.1.cell' (HX1.out.cell' qs)
      have q2 := Hr.out.1.cell' (HX1.out.cell' qn)
      obtain ⟨e0, e1, e2, -, -, -⟩ := row3_facts (row_ext HR.out Hr.out.1)
      have hg6 : (gr N.ends k).length ≤ 1048576 := by have := near_len HV.out hlt; omega
      have hg6' : (nears (gr N.ends k)).length ≤ 1048576 := by rw [length_nears]; exact hg6
      have HIM := Lib.hid (near_im HV.out hlt)
      have HD := Lib.hid (Ext.rfl' wr).drew'
      clear qs qn
      go_wp2_with fail
      go_cut [11] from 18 to 34 (fun t11 wx => ∃ p : Nat, t11 = .pointer (some ⟨p, 0, none⟩) ∧ Hid (NodeBox wr wx p (sgV N r s k) 0))
      case first =>
        have mkS : ∀ w' : World, Ext wr w' → w'.cell? ⟨w.heap.size, 0, none⟩ = some (.slice ea N.ends.length ec) ∧ w'.cell? ⟨w.heap.size, 1, none⟩ = some (.slice ia N.ids.length ic) ∧ w'.cell? ⟨w.heap.size, 2, none⟩ = some (.slice (some ⟨nb, no, none⟩) N.inputs.length nc) ∧ w'.cell? ⟨sb, so + k, none⟩ = some (.int .i64 (gi s k)) ∧ w'.cell? ⟨nb, no + k, none⟩ = some (.int .i64 (gi N.inputs k)) ∧ Hid (Ext wr w') := fun w' h => ⟨h.cell' e0, h.cell' e1, h.cell' e2, h.cell' q1, h.cell' q2, h⟩
        go_region_held3 (fun w' => w'.cell? ⟨w.heap.size, 0, none⟩ = some (.slice ea N.ends.length ec) ∧ w'.cell? ⟨w.heap.size, 1, none⟩ = some (.slice ia N.ids.length ic) ∧ w'.cell? ⟨w.heap.size, 2, none⟩ = some (.slice (some ⟨nb, no, none⟩) N.inputs.length nc) ∧ w'.cell? ⟨sb, so + k, none⟩ = some (.int .i64 (gi s k)) ∧ w'.cell? ⟨nb, no + k, none⟩ = some (.int .i64 (gi N.inputs k)) ∧ Hid (Ext wr w'))
          (first | (with_reducible exact mkS _ (Ext.rfl' wr).drew') | (with_reducible exact mkS _ (Ext.store5 X2.out (by have := X1.out.size; have := X2.out.size; first | exact Nat.le_refl _ | omega | (simp; omega)) _ _ _ _ _)) | (with_reducible exact mkS _ ((Ext.rfl' wr).alloc' _).drew') | (with_reducible exact mkS _ (Ext.trans' (‹_ ∧ _ ∧ _ ∧ _ ∧ _ ∧ Hid (Ext wr _)›).2.2.2.2.2.out hx)) | (with_reducible exact mkS _ (Ext.alloc' (‹_ ∧ _ ∧ _ ∧ _ ∧ _ ∧ Hid (Ext wr _)›).2.2.2.2.2.out _)) | (refine mkS _ ?_; (repeat (with_reducible first | exact Ext.rfl' wr | refine Ext.drew' ?_ | exact X2.out | exact X1.out | refine Ext.alloc' ?_ _)); done) | fail)
          (first
            | (go_at_call 57; (with_reducible refine (neNear_any k hlt (HN.out.ext ((HX1.out.trans' Hr.out.1).trans' (‹_ ∧ _ ∧ _ ∧ _ ∧ _ ∧ Hid (Ext wr _)›).2.2.2.2.2.out)) hg6).mono ?_); rintro e w1 ⟨x1, b1, rfl, hx, ho, -⟩; have X1 := Lib.hid (Ext.trans' (‹_ ∧ _ ∧ _ ∧ _ ∧ _ ∧ Hid (Ext wr _)›).2.2.2.2.2.out hx); have O1 := Lib.hid ho.read; clear ho; (try (first | (have R := row_ext (Hid.out ‹Hid (World.rowIs _ _ 86 5 (five (.int .i64 0) (.int .i64 0) (.int .i64 0) (.int .i64 0) (.slice none 0 0)))›) hx; (try simp only [World.size_alloc] at R); have R := Lib.hid R) | (have R := row_ext (row5r_made _ (.int .i64 0) (.int .i64 0) (.int .i64 0) (.int .i64 0) (.slice none 0 0) 86) hx; (try simp only [World.size_alloc] at R); have R := Lib.hid R) | (have R := row_ext (row_ext (row5r_made _ (.int .i64 0) (.int .i64 0) (.int .i64 0) (.int .i64 0) (.slice none 0 0) 86) ((Ext.rfl' _).drew')) hx; (try simp only [World.size_alloc] at R); have R := Lib.hid R))); (try (have RL := Lib.hid R.out.lt)))
            | (go_at_call 56; (with_reducible refine (coThrough_any (HS.out.ext ((HX1.out.trans' Hr.out.1).trans' (‹_ ∧ _ ∧ _ ∧ _ ∧ _ ∧ Hid (Ext wr _)›).2.2.2.2.2.out)) (O1.out.ext (by first | exact Ext.rfl' _ | exact (Ext.rfl' _).alloc' _)) HIM.out hg6').mono ?_); rintro e w2 ⟨x2, b2, rfl, hx, ho, hf⟩; have X2 := Lib.hid (Ext.trans' (‹_ ∧ _ ∧ _ ∧ _ ∧ _ ∧ Hid (Ext wr _)›).2.2.2.2.2.out hx); obtain ⟨ca, cc, rfl⟩ := own_sl ho; have O2 := Lib.hid ho; have F2 := Lib.hid hf; clear ho hf; (try (first | (have R := row_ext (Hid.out ‹Hid (World.rowIs _ _ 86 5 (five (.int .i64 0) (.int .i64 0) (.int .i64 0) (.int .i64 0) (.slice none 0 0)))›) hx; (try simp only [World.size_alloc] at R); have R := Lib.hid R; obtain ⟨p0, p1, p2, p3, p4⟩ := row5r_facts R.out; obtain ⟨z0, z1, z2, z3, z4⟩ := row5r_frozen R.out) | (have R := row_ext (row5r_made _ (.int .i64 0) (.int .i64 0) (.int .i64 0) (.int .i64 0) (.slice none 0 0) 86) hx; (try simp only [World.size_alloc] at R); have R := Lib.hid R; obtain ⟨p0, p1, p2, p3, p4⟩ := row5r_facts R.out; obtain ⟨z0, z1, z2, z3, z4⟩ := row5r_frozen R.out) | (have R := row_ext (row_ext (row5r_made _ (.int .i64 0) (.int .i64 0) (.int .i64 0) (.int .i64 0) (.slice none 0 0) 86) ((Ext.rfl' _).drew')) hx; (try simp only [World.size_alloc] at R); have R := Lib.hid R; obtain ⟨p0, p1, p2, p3, p4⟩ := row5r_facts R.out; obtain ⟨z0, z1, z2, z3, z4⟩ := row5r_frozen R.out))))
            | fail)
        all_goals (try clear p0 p1 p2 p3 p4 z0 z1 z2 z3 z4)
        all_goals go_wp2_with fail
        all_goals go_meet
        all_goals (first
          | exact ⟨_, rfl, Lib.hid (node_alloc (S := sgV N r s k) X2.out O2.out)⟩
          | exact ⟨_, rfl, Lib.hid (node_store (S := sgV N r s k) R.out X2.out X1.out.size O2.out fun b hb => by have := F2.out.2 b hb; simp at this; omega)⟩
          | exact ⟨_, rfl, Lib.hid (node_store (S := sgV N r s k) R.out X2.out (Nat.le_refl _) O2.out fun b hb => by have := F2.out.2 b hb; have := RL.out; omega)⟩)
      case rest =>
        obtain ⟨p, rfl, HNB⟩ := hcut
        obtain ⟨WB, hWB⟩ : ∃ WB : World, WB = wc := ⟨_, rfl⟩
        subst hWB
        clear e0 e1 e2
        obtain ⟨xB, hpB, xa, xc, bsn, rB, oB, hbn⟩ := HNB.out
        have nB := oB.read
        have XB := Lib.hid xB
        obtain ⟨t0, t1, t2, t3, t4⟩ := row5r_facts rB
        obtain ⟨z0, z1, z2, z3, z4⟩ := row5r_frozen rB
        obtain ⟨e0, e1, e2, -, -, -⟩ := row3_facts (row_ext HR.out (Hr.out.1.trans' xB))
        by_cases hid : N.ids.length = 0
        · have b0 : decide (0 < (N.ids.length : Int)) = false := decide_eq_false (by omega)
          have b0' : decide (0 < N.ids.length) = false := decide_eq_false (by omega)
          have HSG := Lib.hid (show SightAt WB (.agg #[.int .i64 (sgV N r s k).own, .int .i64 0, .int .i64 (sgV N r s k).inp, .int .i64 (sgV N r s k).rnd, .slice xa (sgV N r s k).near.length xc]) (sgV N r s k) from ⟨xa, xc, by rw [show (sgV N r s k).id = 0 from if_pos hid], nB⟩)
          clear hid rB nB xB oB hbn
          go_wp2_with fail
          (with_reducible refine (vaEval_any (HPV.out.ext ((HX1.out.trans' Hr.out.1).trans' XB.out)) HP.out HSG.out (sgV_ok HV.out r hlt)).mono ?_)
          rintro e w3 ⟨rfl, hx⟩
          have X3 := Lib.hid (XB.out.trans' hx)
          have X4 := Lib.hid (X3.out.alloc' (.cells #[.int .i64 (evl (sgV N r s k) l)] 3))
          have HG4 : Hid (∀ u : World, Ext wr u → u.ownsRow W1.heap.size 3 1 (.slice a k c) k (intCells (stepTo l N r s k))) := fun u hu => by
            have h1 := Hr.out.2.ext hu
            unfold GrowN at h1
            rw [length_stepTo] at h1
            exact h1
          have HB4 := Lib.hid (fun b hb => (Hr.out.2.lt b hb).1)
          clear hx
          go_wp2_with (at_builtin; refine wpList_app rfl (.tmp 44) (.tmp 48) 24 rfl W1.heap.size 3 i0 (.int .i64 0) 1 8 Tryz.underlying24 I0.out.1 I0.out.2.1 I0.out.2.2.1 I0.out.2.2.2 rfl (by decide) (.slice a k c) k (intCells (stepTo l N r s k)) rfl (HG4.out _ X4.out) (some ⟨w3.heap.size, 0, none⟩) 1 1 (intCells [evl (sgV N r s k) l]) rfl (src_oneV w3 _ 3) (by unfold maxLen; omega) (by omega) (Nat.le_trans Hr.out.1.size X4.out.size) ?_; intro v' w4 hg; obtain ⟨a4, c4, rfl, hx4, hG4⟩ := grow_push (length_stepTo _ _ _ _ _) hg HB4.out (Hr.out.1.trans' X4.out); have H4 := Lib.hid (And.intro hx4 hG4); clear hg hx4 hG4)
          go_roundg (N.ends.length - (k + 1))
          case measure => omega
          case rel => exact ⟨k + 1, a4, c4, by omega, rfl, rfl, by go_num, H4.out.1, by rw [stepTo_succ]; exact H4.out.2⟩
        · have b0 : decide (0 < (N.ids.length : Int)) = true := decide_eq_true (by omega)
          have b0' : decide (0 < N.ids.length) = true := decide_eq_true (by omega)
          have hki : k < N.ids.length := by have := HDL.out; omega
          obtain ⟨_, qi, rfl, -⟩ := HIC.out k hki
          obtain rfl := HIA.out (by omega)
          have qi' := XB.out.cell' (Hr.out.1.cell' (HX1.out.cell' qi))
          have XC := Lib.hid (xB.store (p := ⟨p, 1, none⟩) hpB (.int .i64 (gi N.ids k)))
          have rC := row5r_set1 rB (.int .i64 (gi N.ids k))
          obtain ⟨y0, y1, y2, y3, y4⟩ := row5r_facts rC
          have HSG := Lib.hid (show SightAt (WB.setCell ⟨p, 1, none⟩ (.int .i64 (gi N.ids k))) (.agg #[.int .i64 (sgV N r s k).own, .int .i64 (gi N.ids k), .int .i64 (sgV N r s k).inp, .int .i64 (sgV N r s k).rnd, .slice xa (sgV N r s k).near.length xc]) (sgV N r s k) from ⟨xa, xc, by rw [show (sgV N r s k).id = gi N.ids k from if_neg hid], (oB.keep fun b hb => Go.Deep.blk_setCell_other _ _ _ _ (hbn b hb)).read⟩)
          clear hid rB nB xB oB hbn qi rC
          go_wp2_with fail
          (with_reducible refine (vaEval_any (HPV.out.ext ((HX1.out.trans' Hr.out.1).trans' XC.out)) HP.out HSG.out (sgV_ok HV.out r hlt)).mono ?_)
          rintro e w3 ⟨rfl, hx⟩
          have X3 := Lib.hid (XC.out.trans' hx)
          have X4 := Lib.hid (X3.out.alloc' (.cells #[.int .i64 (evl (sgV N r s k) l)] 3))
          have HG4 : Hid (∀ u : World, Ext wr u → u.ownsRow W1.heap.size 3 1 (.slice a k c) k (intCells (stepTo l N r s k))) := fun u hu => by
            have h1 := Hr.out.2.ext hu
            unfold GrowN at h1
            rw [length_stepTo] at h1
            exact h1
          have HB4 := Lib.hid (fun b hb => (Hr.out.2.lt b hb).1)
          clear hx
          go_wp2_with (at_builtin; refine wpList_app rfl (.tmp 44) (.tmp 48) 24 rfl W1.heap.size 3 i0 (.int .i64 0) 1 8 Tryz.underlying24 I0.out.1 I0.out.2.1 I0.out.2.2.1 I0.out.2.2.2 rfl (by decide) (.slice a k c) k (intCells (stepTo l N r s k)) rfl (HG4.out _ X4.out) (some ⟨w3.heap.size, 0, none⟩) 1 1 (intCells [evl (sgV N r s k) l]) rfl (src_oneV w3 _ 3) (by unfold maxLen; omega) (by omega) (Nat.le_trans Hr.out.1.size X4.out.size) ?_; intro v' w4 hg; obtain ⟨a4, c4, rfl, hx4, hG4⟩ := grow_push (length_stepTo _ _ _ _ _) hg HB4.out (Hr.out.1.trans' X4.out); have H4 := Lib.hid (And.intro hx4 hG4); clear hg hx4 hG4)
          go_roundg (N.ends.length - (k + 1))
          case measure => omega
          case rel => exact ⟨k + 1, a4, c4, by omega, rfl, rfl, by go_num, H4.out.1, by rw [stepTo_succ]; exact H4.out.2⟩
    · obtain rfl : k = N.ends.length := by omega
      have HRG := Lib.hid (show ∀ i, i < (stepV l N r s).length → inI64 (gi (stepV l N r s) i) from fun i hi => by
        rw [length_stepV] at hi
        show inI64 (gi (stepTo l N r s N.ends.length) i)
        rw [gi_stepTo _ _ _ _ _ _ hi]
        have := evl_range (sgV N r s i) HP.out
        unfold inI64; omega)
      obtain ⟨bs, ho, hnd, hge⟩ := GrowN.own (l := stepV l N r s) Hr.out.2 HRG.out
      have HO := Lib.hid (And.intro ho (And.intro hnd hge))
      have HXX := Lib.hid HX1.out.size
      clear ho hnd hge
      go_wp2_with fail
      go_ret
      exact ⟨_, bs, rfl, HX1.out.trans' Hr.out.1, HO.out.1, HO.out.2.1, fun b hb => by have := HO.out.2.2 b hb; have := HXX.out; omega⟩
end Go.Proofs.YtbddjejpacaglaaGreatDoor
