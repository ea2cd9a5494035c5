/- The contract of the program's IsomorphismOf. -/
import Derived.Test.YtcdfjckdkicggaaJq
import Derived.Test.YtcdfjckdkicggaaJh
namespace Go.Proofs.Ytcdfjckdkicggaa
open Go.RowKit

/-- The networks are isomorphic, and the first isomorphism. -/
def IsoB (A B : Net) : Prop := Good A ∧ Good B ∧ A.ends.length = B.ends.length ∧ ∃ f, isoTo A B A.ends.length = some f
noncomputable def isoAns (A B : Net) : List Int := if dec (IsoB A B) = true then isoL A B else []
theorem isoAns_t {A B : Net} {f : List Int} (h : IsoB A B) (hf : isoTo A B A.ends.length = some f) : isoAns A B = f := by simp [isoAns, dec_true h, isoL, hf]
theorem isoAns_f {A B : Net} (h : ¬ IsoB A B) : isoAns A B = [] := by simp [isoAns, dec_false h]
theorem isoAns_len (A B : Net) : (isoAns A B).length ≤ 1048576 := by
  by_cases h : IsoB A B
  · obtain ⟨f, hf⟩ := h.2.2.2
    rw [isoAns_t h hf, (isoTo_ok (good_w h.1).leads (good_w h.2.1).leads h.2.2.1 _ (Nat.le_refl _) f hf).1]
    have := (good_w h.1).most; omega
  · rw [isoAns_f h]; simp
theorem ret_lb {v : Value} {b c : Bool} (h : b = c) : Ending.returned (.tuple #[v, .bool b]) = .returned (.tuple #[v, .bool c]) := by rw [h]
/-- A list of integers as a row. -/
def fRow (F : List Int) (i : Nat) : Value := .int .i64 (gi F i)
theorem fRow_set {w : World} {b n x : Nat} {F : List Int} {y : Int} (h : w.rowIs b 3 n (fRow F)) (hF : F.length = n) (hx : x < n) : (w.setCell ⟨b, x, none⟩ (.int .i64 y)).rowIs b 3 n (fRow (F.set x y)) :=
  (h.set x _).congr fun i _ => by
    unfold fRow; rw [gi_set (by omega)]
    by_cases e : i = x
    · rw [if_pos e, if_pos e]
    · rw [if_neg e, if_neg e]
theorem fRow_own {w : World} {b : Nat} {F : List Int} {n : Nat} (h : w.rowIs b 3 n (fRow F)) (hF : ImgOK F n) (hn : n ≤ 40) : OwnI w (.slice (some ⟨b, 0, none⟩) n n) F [b] := by
  obtain ⟨h1, h2⟩ := hF
  subst h1
  exact ⟨⟨F.length, Nat.le_refl _, by unfold maxLen; omega, .inr ⟨b, F.length, fRow F, rfl, rfl, by omega, h, fun i _ => rfl⟩⟩, fun i hi => by have := h2 i hi; unfold inI64; omega⟩
theorem one_row (w : World) (x : Value) (t : Nat) : (w.alloc (.cells #[x] t)).rowIs w.heap.size t 1 (fun _ => x) :=
  World.rowIs_alloc w #[x] t (fun _ => x) fun i hi => by
    obtain rfl : i = 0 := by simpa using hi
    rfl
theorem iso_next {A B : Net} {k : Nat} {F : List Int} (h : isoTo A B k = some F) : isoTo A B (k + 1) = isoStep A B F k := by simp only [isoTo]; rw [h]

set_option maxHeartbeats 6400000 in
set_option maxRecDepth 100000 in
theorem isomorphismOf_any {w : World} {va vb : Value} {A B : Net} (h : NetAt w va A) (k : NetAt w vb B) :
    Calls Try.prog 26 #[va, vb] w fun e w' => ∃ v' bs, e = .returned (.tuple #[v', .bool (dec (IsoB A B))]) ∧ Ext w w' ∧ OwnI w' v' (isoAns A B) bs ∧ Fresh w bs := by
  have HA := Lib.hid h
  have HB := Lib.hid k
  obtain ⟨v0, v1, v2, rfl, hEa, -, -⟩ := h
  obtain ⟨u0, u1, u2, rfl, hEb, -, -⟩ := k
  obtain ⟨ea, -, -, ec, rfl, -, hel, hem, -⟩ := hEa
  obtain ⟨fa, -, -, fc, rfl, -, hfl, hfm, -⟩ := hEb
  unfold maxLen at hem hfm
  obtain ⟨W1, hW1⟩ : ∃ W1, W1 = (w.alloc (.cells #[.slice ea A.ends.length ec, v1, v2] 31)).alloc (.cells #[.slice fa B.ends.length fc, u1, u2] 31) := ⟨_, rfl⟩
  have EW := Lib.hid (show Ext w W1 by rw [hW1]; exact (boxed_ext _ _ _ _ _).trans' (boxed_ext _ _ _ _ _))
  have RA := Lib.hid (show W1.rowIs w.heap.size 31 3 (tri (.slice ea A.ends.length ec) v1 v2) by rw [hW1]; exact (boxed_row _ _ _ _ _).alloc _)
  have RB := Lib.hid (show W1.rowIs (w.heap.size + 1) 31 3 (tri (.slice fa B.ends.length fc) u1 u2) by rw [hW1]; simpa using boxed_row (boxed w (.slice ea A.ends.length ec) v1 v2 31) (.slice fa B.ends.length fc) u1 u2 31)
  obtain ⟨p0, p1, p2, -, -, -⟩ := row3_facts RA.out
  rw [hW1] at p0 p1 p2
  by_cases ha : Good A
  case neg =>
    have DA := Lib.hid (dec_false ha)
    have D := Lib.hid (dec_false (p := IsoB A B) fun h => ha h.1)
    have AN := Lib.hid (isoAns_f (A := A) (B := B) fun h => ha h.1)
    clear ha
    go_enter Try.func26, Try.ntmps26
    go_wp2_with fail
    rw [← hW1]
    clear hW1 p0 p1 p2
    (with_reducible refine (isNetwork_any (HA.out.ext EW.out)).mono ?_)
    rintro e w1 ⟨rfl, hx1⟩
    rw [DA.out]
    have K1 := Lib.hid hx1
    obtain ⟨q0, q1, q2, -, -, -⟩ := row3_facts (row_ext RB.out hx1)
    clear hx1
    go_wp2
    go_ret2
    exact ⟨_, [], ret_lb D.out.symm, EW.out.trans' K1.out, by rw [AN.out]; exact own_nilI _, Fresh.nil _⟩
  by_cases hb : Good B
  case neg =>
    have DA := Lib.hid (dec_true ha)
    have DB := Lib.hid (dec_false hb)
    have D := Lib.hid (dec_false (p := IsoB A B) fun h => hb h.2.1)
    have AN := Lib.hid (isoAns_f (A := A) (B := B) fun h => hb h.2.1)
    clear ha hb
    go_enter Try.func26, Try.ntmps26
    go_wp2_with fail
    rw [← hW1]
    clear hW1 p0 p1 p2
    (with_reducible refine (isNetwork_any (HA.out.ext EW.out)).mono ?_)
    rintro e w1 ⟨rfl, hx1⟩
    rw [DA.out]
    have K1 := Lib.hid hx1
    obtain ⟨q0, q1, q2, -, -, -⟩ := row3_facts (row_ext RB.out hx1)
    obtain ⟨p0, p1, p2, -, -, -⟩ := row3_facts (row_ext RA.out hx1)
    clear hx1
    go_wp2_with fail
    (with_reducible refine (isNetwork_any (HB.out.ext (EW.out.trans' K1.out))).mono ?_)
    rintro e w2 ⟨rfl, hx2⟩
    rw [DB.out]
    have K2 := Lib.hid (K1.out.trans' hx2)
    clear p0 p1 p2 q0 q1 q2
    obtain ⟨q0, q1, q2, -, -, -⟩ := row3_facts (row_ext RB.out K2.out)
    obtain ⟨p0, p1, p2, -, -, -⟩ := row3_facts (row_ext RA.out K2.out)
    clear hx2
    go_wp2
    go_ret2
    exact ⟨_, [], ret_lb D.out.symm, EW.out.trans' K2.out, by rw [AN.out]; exact own_nilI _, Fresh.nil _⟩
  by_cases hl : A.ends.length = B.ends.length
  case neg =>
    have DA := Lib.hid (dec_true ha)
    have DB := Lib.hid (dec_true hb)
    have D := Lib.hid (dec_false (p := IsoB A B) fun h => hl h.2.2.1)
    have AN := Lib.hid (isoAns_f (A := A) (B := B) fun h => hl h.2.2.1)
    have hlb : ((A.ends.length : Int) != (B.ends.length : Int)) = true := by simp; omega
    clear ha hb hl
    go_enter Try.func26, Try.ntmps26
    go_wp2_with fail
    rw [← hW1]
    clear hW1 p0 p1 p2
    (with_reducible refine (isNetwork_any (HA.out.ext EW.out)).mono ?_)
    rintro e w1 ⟨rfl, hx1⟩
    rw [DA.out]
    have K1 := Lib.hid hx1
    obtain ⟨q0, q1, q2, -, -, -⟩ := row3_facts (row_ext RB.out hx1)
    obtain ⟨p0, p1, p2, -, -, -⟩ := row3_facts (row_ext RA.out hx1)
    clear hx1
    go_wp2_with fail
    (with_reducible refine (isNetwork_any (HB.out.ext (EW.out.trans' K1.out))).mono ?_)
    rintro e w2 ⟨rfl, hx2⟩
    rw [DB.out]
    have K2 := Lib.hid (K1.out.trans' hx2)
    clear p0 p1 p2 q0 q1 q2
    obtain ⟨q0, q1, q2, -, -, -⟩ := row3_facts (row_ext RB.out K2.out)
    obtain ⟨p0, p1, p2, -, -, -⟩ := row3_facts (row_ext RA.out K2.out)
    clear hx2
    go_wp2
    go_ret2
    exact ⟨_, [], ret_lb D.out.symm, EW.out.trans' K2.out, by rw [AN.out]; exact own_nilI _, Fresh.nil _⟩
  have DA := Lib.hid (dec_true ha)
  have DB := Lib.hid (dec_true hb)
  have hlb : ((A.ends.length : Int) != (B.ends.length : Int)) = false := by simp; omega
  have HGG := Lib.hid (And.intro ha (And.intro hb hl))
  have GA := Lib.hid (good_w ha)
  have GB := Lib.hid (good_w hb)
  have h40 := GA.out.most
  have h41 := GB.out.most
  clear ha hb hl
  go_enter Try.func26, Try.ntmps26
  go_wp2_with fail
  rw [← hW1]
  clear hW1 p0 p1 p2
  (with_reducible refine (isNetwork_any (HA.out.ext EW.out)).mono ?_)
  rintro e w1 ⟨rfl, hx1⟩
  rw [DA.out]
  have K1 := Lib.hid hx1
  obtain ⟨q0, q1, q2, -, -, -⟩ := row3_facts (row_ext RB.out hx1)
  obtain ⟨p0, p1, p2, -, -, -⟩ := row3_facts (row_ext RA.out hx1)
  clear hx1
  go_wp2_with fail
  (with_reducible refine (isNetwork_any (HB.out.ext (EW.out.trans' K1.out))).mono ?_)
  rintro e w2 ⟨rfl, hx2⟩
  rw [DB.out]
  have K2 := Lib.hid (K1.out.trans' hx2)
  clear p0 p1 p2 q0 q1 q2
  obtain ⟨q0, q1, q2, -, -, -⟩ := row3_facts (row_ext RB.out K2.out)
  obtain ⟨p0, p1, p2, -, -, -⟩ := row3_facts (row_ext RA.out K2.out)
  clear hx2
  go_wp2_with fail
  have mkS : ∀ w' : World, Ext w2 w' → w'.cell? ⟨w.heap.size, 0, none⟩ = some (.slice ea A.ends.length ec) ∧ w'.cell? ⟨w.heap.size, 1, none⟩ = some v1 ∧ w'.cell? ⟨w.heap.size, 2, none⟩ = some v2 ∧ w'.cell? ⟨w.heap.size + 1, 0, none⟩ = some (.slice fa B.ends.length fc) ∧ w'.cell? ⟨w.heap.size + 1, 1, none⟩ = some u1 ∧ w'.cell? ⟨w.heap.size + 1, 2, none⟩ = some u2 ∧ Hid (Ext w2 w') := fun w' h => ⟨h.cell' p0, h.cell' p1, h.cell' p2, h.cell' q0, h.cell' q1, h.cell' q2, h⟩
  go_cut [6, 7] from 31 to 35 (fun t6 t7 wx => ∃ b1 b2 : Nat, t6 = .slice (some ⟨b1, 0, none⟩) A.ends.length A.ends.length ∧ t7 = .slice (some ⟨b2, 0, none⟩) B.ends.length B.ends.length ∧ Hid (Ext w2 wx ∧ WalkAt wx b1 A A.ends.length ∧ WalkAt wx b2 B B.ends.length))
  case first =>
    go_region_held3 (fun w' => w'.cell? ⟨w.heap.size, 0, none⟩ = some (.slice ea A.ends.length ec) ∧ w'.cell? ⟨w.heap.size, 1, none⟩ = some v1 ∧ w'.cell? ⟨w.heap.size, 2, none⟩ = some v2 ∧ w'.cell? ⟨w.heap.size + 1, 0, none⟩ = some (.slice fa B.ends.length fc) ∧ w'.cell? ⟨w.heap.size + 1, 1, none⟩ = some u1 ∧ w'.cell? ⟨w.heap.size + 1, 2, none⟩ = some u2 ∧ Hid (Ext w2 w'))
      (first | exact mkS _ (Ext.rfl' w2).drew' | exact mkS _ XB.out | exact mkS _ XA.out | fail)
      (first | (go_at_call_of 55 (Value.agg #[.slice ea A.ends.length ec, v1, v2]); (with_reducible refine (walksOf_any (HA.out.ext ((EW.out.trans' K2.out).trans' (‹_ ∧ _ ∧ _ ∧ _ ∧ _ ∧ _ ∧ Hid (Ext w2 _)›).2.2.2.2.2.2.out)) GA.out).mono ?_); rintro e wa ⟨ba, rfl, hxa, hwa, -⟩; have XA := Lib.hid (Ext.trans' (‹_ ∧ _ ∧ _ ∧ _ ∧ _ ∧ _ ∧ Hid (Ext w2 _)›).2.2.2.2.2.2.out hxa); have OA := Lib.hid hwa; (try (have OB' := Lib.hid (OB.out.ext hxa))); clear hwa) | (go_at_call_of 55 (Value.agg #[.slice fa B.ends.length fc, u1, u2]); (with_reducible refine (walksOf_any (HB.out.ext ((EW.out.trans' K2.out).trans' (‹_ ∧ _ ∧ _ ∧ _ ∧ _ ∧ _ ∧ Hid (Ext w2 _)›).2.2.2.2.2.2.out)) GB.out).mono ?_); rintro e wb ⟨bb, rfl, hxb, hwb, -⟩; have XB := Lib.hid (Ext.trans' (‹_ ∧ _ ∧ _ ∧ _ ∧ _ ∧ _ ∧ Hid (Ext w2 _)›).2.2.2.2.2.2.out hxb); have OB := Lib.hid hwb; (try (have OA' := Lib.hid (OA.out.ext hxb))); clear hwb))
    all_goals go_wp2_with fail
    all_goals go_meet
    all_goals first | exact ⟨_, _, rfl, rfl, XB.out, OA'.out, OB.out⟩ | exact ⟨_, _, rfl, rfl, XA.out, OA.out, OB'.out⟩
  case rest =>
    obtain ⟨b1, b2, rfl, rfl, XC⟩ := hcut
    clear mkS p0 p1 p2 q0 q1 q2
    obtain ⟨W3, hW3⟩ : ∃ W3 : World, W3 = wc := ⟨_, rfl⟩
    subst hW3
    obtain ⟨W4, hW4⟩ : ∃ W4, W4 = W3.alloc (.cells #[.int .i64 (-1)] 3) := ⟨_, rfl⟩
    have X4 := Lib.hid (show Ext W3 W4 by rw [hW4]; exact (Ext.rfl' _).alloc' _)
    have C4 := Lib.hid (show W4.cell? ⟨W3.heap.size, 0, none⟩ = some (.int .i64 (-1)) by rw [hW4]; simp)
    go_wp2_with fail
    rw [← hW4]
    clear hW4
    (with_reducible refine (repeat_any GA.out.one h40 C4.out).mono ?_)
    rintro e w5 ⟨rb, rfl, hx5, hr5, hb5⟩
    have X5 := Lib.hid (X4.out.trans' hx5)
    have R5 := Lib.hid hr5
    have HB5 := Lib.hid (Nat.le_trans X4.out.size hb5)
    clear hx5 hr5 hb5
    obtain ⟨W6, hW6⟩ : ∃ W6, W6 = w5.alloc (.cells #[.slice (some ⟨rb, 0, none⟩) A.ends.length A.ends.length] 23) := ⟨_, rfl⟩
    have X6 := Lib.hid (show Ext w5 W6 by rw [hW6]; exact (Ext.rfl' _).alloc' _)
    have F6 := Lib.hid (show W6.rowIs w5.heap.size 23 1 (fun _ => .slice (some ⟨rb, 0, none⟩) A.ends.length A.ends.length) by
      rw [hW6]; exact one_row _ _ _)
    have G6 := Lib.hid (show W6.rowIs rb 3 A.ends.length (fRow (List.replicate A.ends.length (-1))) from (row_ext R5.out X6.out).congr fun i hi => by simp [fRow, gi, hi])
    go_wp2_with fail
    rw [← hW6]
    clear hW6
    go_loopg [41] A.ends.length (fun g i wr => ∃ (k : Nat) (F : List Int), k ≤ A.ends.length ∧ g = A.ends.length - k ∧ i = .int .i64 k ∧ Hid (isoTo A B k = some F ∧ Ext W3 wr ∧ wr.rowIs w5.heap.size 23 1 (fun _ => .slice (some ⟨rb, 0, none⟩) A.ends.length A.ends.length) ∧ wr.rowIs rb 3 A.ends.length (fRow F)))
    case atStart => exact ⟨0, _, Nat.zero_le _, rfl, rfl, rfl, X5.out.trans' X6.out, F6.out, G6.out⟩
    case round =>
      obtain ⟨k, F, hk, rfl, rfl, Hr⟩ := hrel
      have HOK := Lib.hid (isoTo_ok GA.out.leads GB.out.leads HGG.out.2.2 k hk F Hr.out.1)
      by_cases hlt : k < A.ends.length
      · obtain ⟨na, nc, ca, cc, bn, bc, c1', c2', on', oc'⟩ := XC.out.2.1.at hlt hlt
        have c1 := Hr.out.2.1.cell' c1'
        have c2 := Hr.out.2.1.cell' c2'
        have on := on'.ext Hr.out.2.1
        have oc := oc'.ext Hr.out.2.1
        have ON3 := Lib.hid on'
        clear c1' c2' on' oc'
        have ON := Lib.hid on
        have OC := Lib.hid oc
        clear on oc
        obtain ⟨W7, hW7⟩ : ∃ W7, W7 = wr.alloc (.cells #[.slice na (wk A k).length nc, .slice ca (code A k).length cc] 59) := ⟨_, rfl⟩
        have X7 := Lib.hid (show Ext wr W7 by rw [hW7]; exact (Ext.rfl' _).alloc' _)
        have R7 := Lib.hid (show W7.rowIs wr.heap.size 59 2 (duo (.slice na (wk A k).length nc) (.slice ca (code A k).length cc)) by rw [hW7]; exact duo_made _ _ _ _)
        have hf0 := (row_ext Hr.out.2.2.1 X7.out).cell (i := 0) (by omega)
        have hfk := (row_ext Hr.out.2.2.2 X7.out).cell hlt
        rw [hW7] at hf0 hfk
        simp only [fRow] at hfk
        by_cases hm1 : gi F k = -1
        · have HM1 := Lib.hid hm1
          rw [hm1] at hfk
          clear hm1
          go_wp2_with fail
          rw [← hW7]
          clear hW7 hf0 hfk c1 c2
          have CALL := indexFunc_any 58 #[.pointer (some ⟨wr.heap.size, 0, none⟩), .pointer (some ⟨w5.heap.size, 0, none⟩)] enters_iso (mayBe A B F k) h41 (XC.out.2.2.ext (Hr.out.2.1.trans' X7.out)) fun W hW i hi xa xc xd xe bn' bc' on' oc' =>
            isoClosure_any (N := A) (M := B) (f := F) (v := k) (i := i) (hW.cell' (duo_facts R7.out).2.1) ((OC.out.read.ext X7.out).ext hW) (hW.cell' ((row_ext Hr.out.2.2.1 X7.out).cell (i := 0) (by omega))) (((fRow_own Hr.out.2.2.2 HOK.out h40).read.ext X7.out).ext hW) on' oc'
          have HC := Lib.hid CALL
          clear CALL
          (with_reducible refine HC.out.mono ?_)
          rintro e w8 ⟨rfl, hx8⟩
          have X8 := Lib.hid (X7.out.trans' hx8)
          have R8 := Lib.hid (row_ext R7.out hx8)
          clear hx8
          cases hfr : first (mayBe A B F k) B.ends.length with
          | none =>
            have HI := Lib.hid (show idxAns (mayBe A B F k) B.ends.length = -1 by unfold idxAns; rw [hfr])
            have HNO := Lib.hid (show ¬ IsoB A B from fun h => by
              obtain ⟨f, hf⟩ := h.2.2.2
              have : isoTo A B (k + 1) = none := by rw [iso_next Hr.out.1]; unfold isoStep; rw [if_pos HM1.out, hfr]
              rw [isoTo_none this _ hlt] at hf; simp at hf)
            clear hfr
            rw [HI.out]
            go_wp2
            go_ret2
            exact ⟨_, [], ret_lb (dec_false HNO.out).symm, (EW.out.trans' (K2.out.trans' XC.out.1)).trans' (Hr.out.2.1.trans' X8.out), by rw [isoAns_f HNO.out]; exact own_nilI _, Fresh.nil _⟩
          | some j =>
            have HI := Lib.hid (show idxAns (mayBe A B F k) B.ends.length = (j : Int) by unfold idxAns; rw [hfr])
            obtain ⟨hj, hp, -⟩ := first_spec hfr
            have HST := Lib.hid (show isoTo A B (k + 1) = some (fill F (wk A k) (wk B j) (wk A k).length) by rw [iso_next Hr.out.1]; unfold isoStep; rw [if_pos HM1.out, hfr])
            have HLEN := Lib.hid (cd_len (mayBe_iff.1 hp).1)
            have WA := Lib.hid (wk_good GA.out hlt)
            have WB' := Lib.hid (wk_good GB.out hj)
            clear hp hfr
            rw [HI.out]
            obtain ⟨r0, r1, -, -⟩ := duo_facts R8.out
            go_wp2
            clear r0 r1
            have F8 := Lib.hid (row_ext Hr.out.2.2.1 X8.out)
            have G8 := Lib.hid (row_ext Hr.out.2.2.2 X8.out)
            obtain ⟨pa, pb, po, pc, e, hpa, hpl, hpm, hpc⟩ := ON3.out.read
            simp only [Value.slice.injEq] at e
            obtain ⟨rfl, -, rfl⟩ := e
            obtain rfl := hpa (wkTo_pos _ _ _)
            have HPC := Lib.hid hpc
            unfold maxLen at hpm
            obtain ⟨ma, mc, -, -, mbn, -, d1, -, om, -⟩ := XC.out.2.2.at hj hj
            obtain ⟨ma', mb, mo, mc', e, hma, hml, hmm, hmc⟩ := om.read
            simp only [Value.slice.injEq] at e
            obtain ⟨rfl, -, rfl⟩ := e
            obtain rfl := hma (wkTo_pos _ _ _)
            have HMC := Lib.hid hmc
            have D1 := Lib.hid d1
            unfold maxLen at hmm
            clear hpc hmc hpa hma d1 om
            obtain ⟨wo, hwo⟩ : ∃ wo : World, wo = wr := ⟨_, rfl⟩
            subst hwo
            go_loopg [59] (wk A k).length (fun g i wx => ∃ t : Nat, t ≤ (wk A k).length ∧ g = (wk A k).length - t ∧ i = .int .i64 t ∧ Hid (Ext W3 wx ∧ wx.rowIs w5.heap.size 23 1 (fun _ => .slice (some ⟨rb, 0, none⟩) A.ends.length A.ends.length) ∧ wx.rowIs rb 3 A.ends.length (fRow (fill F (wk A k) (wk B j) t))))
            case atStart => exact ⟨0, Nat.zero_le _, rfl, rfl, Hr.out.2.1.trans' X8.out, F8.out, G8.out⟩
            case round =>
              obtain ⟨t, ht, rfl, rfl, Hs⟩ := hrel
              by_cases htl : t < (wk A k).length
              · obtain ⟨_, e1, rfl, _⟩ := HPC.out t htl
                have hx := WA.out.range _ (gi_in htl)
                obtain ⟨x, hxx⟩ := Int.eq_ofNat_of_zero_le hx.1
                have hxn : x < A.ends.length := by omega
                have htl2 : t < (wk B j).length := by have := HLEN.out; omega
                obtain ⟨_, e2, rfl, _⟩ := HMC.out t htl2
                have FL := Lib.hid (show (fill F (wk A k) (wk B j) t).length = A.ends.length by rw [fill_len]; exact HOK.out.1)
                have HFS := Lib.hid (show fill F (wk A k) (wk B j) (t + 1) = (fill F (wk A k) (wk B j) t).set x (gi (wk B j) t) by show List.set _ _ _ = _; rw [hxx, Int.toNat_natCast])
                have e1' := Hs.out.1.cell' e1
                have s0 := Hs.out.2.1.cell (i := 0) (by omega)
                have s1 := Hs.out.1.cell' D1.out
                have s2 := Hs.out.1.cell' e2
                rw [hxx] at e1'
                have HXX := Lib.hid hxx
                have hcv := Hs.out.2.2.cell hxn
                have hfr := Hs.out.2.2.frozen x
                have HNE := Lib.hid (show w5.heap.size ≠ rb by have := R5.out.lt; omega)
                have HRB := Lib.hid (show W3.heap.size ≤ rb from HB5.out)
                clear hx hxx e1 e2
                go_wp2_with fail
                refine wp_region_gate (n := 11) (S := fun w' => w'.cell? ⟨w5.heap.size, 0, none⟩ = some (.slice (some ⟨rb, 0, none⟩) A.ends.length A.ends.length) ∧ w'.cell? ⟨b2, j * 2, none⟩ = some (.slice (some ⟨mb, mo, none⟩) (wk B j).length mc) ∧ w'.cell? ⟨mb, mo + t, none⟩ = some (.int .i64 (gi (wk B j) t))) (by kernel_rfl) ⟨(Ext.rfl' wr).drew'.cell' s0, (Ext.rfl' wr).drew'.cell' s1, (Ext.rfl' wr).drew'.cell' s2⟩ (fun hHeld => ?_)
                iterate 11 (
                  (first
                    | refine wpAnyG_take (i := 0) (v := ?_) rfl (by decide +kernel) (by kernel_rfl) (by decide) (by kernel_rfl) (by kernel_rfl) (fun _ _ _ h => h) (Or.inl ⟨by rfl, ?_⟩) hHeld ?_
                    | refine wpAnyG_take (i := 1) (v := ?_) rfl (by decide +kernel) (by kernel_rfl) (by decide) (by kernel_rfl) (by kernel_rfl) (fun _ _ _ h => h) (Or.inl ⟨by rfl, ?_⟩) hHeld ?_
                    | refine wpAnyG_take (i := 2) (v := ?_) rfl (by decide +kernel) (by kernel_rfl) (by decide) (by kernel_rfl) (by kernel_rfl) (fun _ _ _ h => h) (Or.inl ⟨by rfl, ?_⟩) hHeld ?_
                    | refine wpAnyG_take (i := 3) (v := ?_) rfl (by decide +kernel) (by kernel_rfl) (by decide) (by kernel_rfl) (by kernel_rfl) (fun _ _ _ h => h) (Or.inl ⟨by rfl, ?_⟩) hHeld ?_
                    | refine wpAnyG_take (i := 4) (v := ?_) rfl (by decide +kernel) (by kernel_rfl) (by decide) (by kernel_rfl) (by kernel_rfl) (fun _ _ _ h => h) (Or.inl ⟨by rfl, ?_⟩) hHeld ?_
                    | refine wpAnyG_take (i := 5) (v := ?_) rfl (by decide +kernel) (by kernel_rfl) (by decide) (by kernel_rfl) (by kernel_rfl) (fun _ _ _ h => h) (Or.inl ⟨by rfl, ?_⟩) hHeld ?_
                    | refine wpAnyG_take (i := 6) (v := ?_) rfl (by decide +kernel) (by kernel_rfl) (by decide) (by kernel_rfl) (by kernel_rfl) (fun _ _ _ h => h) (Or.inl ⟨by rfl, ?_⟩) hHeld ?_
                    | refine wpAnyG_take (i := 7) (v := ?_) rfl (by decide +kernel) (by kernel_rfl) (by decide) (by kernel_rfl) (by kernel_rfl) (fun _ _ _ h => h) (Or.inl ⟨by rfl, ?_⟩) hHeld ?_
                    | refine wpAnyG_take (i := 8) (v := ?_) rfl (by decide +kernel) (by kernel_rfl) (by decide) (by kernel_rfl) (by kernel_rfl) (fun _ _ _ h => h) (Or.inl ⟨by rfl, ?_⟩) hHeld ?_
                    | refine wpAnyG_take (i := 9) (v := ?_) rfl (by decide +kernel) (by kernel_rfl) (by decide) (by kernel_rfl) (by kernel_rfl) (fun _ _ _ h => h) (Or.inl ⟨by rfl, ?_⟩) hHeld ?_
                    | refine wpAnyG_take (i := 10) (v := ?_) rfl (by decide +kernel) (by kernel_rfl) (by decide) (by kernel_rfl) (by kernel_rfl) (fun _ _ _ h => h) (Or.inl ⟨by rfl, ?_⟩) hHeld ?_
                  )
                  rotate_left 1
                  · (intro w' hSw; (try dsimp only at hSw); go_simp) <;> with_reducible rfl
                  simp only [Act.put, List.setIfInBounds_toArray])
                refine wpAnyG_one (i := 11) rfl (by kernel_rfl) rfl (fun K hK => ?_)
                go_simp
                refine hK.out _ _ (fun h => absurd rfl h) (fun _ => ?_)
                clear hK K
                refine wpAnyG_done (by kernel_rfl) ?_ _
                clear hHeld s0 s1 s2 hcv hfr e1'
                go_wp2
                go_roundg ((wk A k).length - (t + 1))
                case measure => omega
                case rel => exact ⟨t + 1, by omega, rfl, by go_num, Hs.out.1.drew'.store HRB.out _, (row_ext Hs.out.2.1 (Ext.rfl' wr).drew').of_block (Below.heap_setCell _ _ _ _ HNE.out), by rw [HFS.out]; exact row_ext (fRow_set Hs.out.2.2 FL.out hxn) (Ext.rfl' _).drew'⟩
              · obtain rfl : t = (wk A k).length := by omega
                go_wp2
                go_roundg (A.ends.length - (k + 1))
                case measure => omega
                case rel => exact ⟨k + 1, _, by omega, rfl, by go_num, HST.out, Hs.out⟩
        · have hmb : (gi F k != -1) = true := by simp [hm1]
          have HST := Lib.hid (show isoTo A B (k + 1) = some F by rw [iso_next Hr.out.1]; unfold isoStep; rw [if_neg hm1])
          clear hm1
          go_wp2_with fail
          rw [← hW7]
          clear hW7 hf0 hfk c1 c2
          go_roundg (A.ends.length - (k + 1))
          case measure => omega
          case rel => exact ⟨k + 1, F, by omega, rfl, by go_num, HST.out, Hr.out.2.1.trans' X7.out, row_ext Hr.out.2.2.1 X7.out, row_ext Hr.out.2.2.2 X7.out⟩
      · obtain rfl : k = A.ends.length := by omega
        have hf0 := Hr.out.2.2.1.cell (i := 0) (by omega)
        have HI := Lib.hid (show IsoB A B from ⟨HGG.out.1, HGG.out.2.1, HGG.out.2.2, F, Hr.out.1⟩)
        go_wp2
        go_ret2
        exact ⟨_, [rb], ret_lb (dec_true HI.out).symm, (EW.out.trans' (K2.out.trans' XC.out.1)).trans' Hr.out.2.1, by rw [isoAns_t HI.out Hr.out.1]; exact fRow_own Hr.out.2.2.2 HOK.out h40, by simp, fun b hb => by obtain rfl := List.mem_singleton.1 hb; have := HB5.out; have := (EW.out.trans' (K2.out.trans' XC.out.1)).size; omega⟩
end Go.Proofs.Ytcdfjckdkicggaa
