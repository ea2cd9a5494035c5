/- The contracts of PortMapsBetween. -/
import Derived.Test.YtgacbfblpkikkaaQu
namespace Go.Proofs.Ytgacbfblpkikkaa
open Go.RowKit Go.Maps

theorem gr_app (l : List (List Int)) (r : List Int) (i : Nat) : gr (l ++ [r]) i = if i = l.length then r else gr l i := by
  simp only [gr, List.getD]
  by_cases e : i = l.length
  · subst e; simp
  · by_cases h : i < l.length
    · rw [if_neg e, List.getElem?_append_left h]
    · rw [if_neg e, List.getElem?_eq_none (by simp; omega), List.getElem?_eq_none (by omega)]
/-- A row in memory of its own is appended to a list of rows. -/
theorem grow_snoc {B : Nat} {w w1 w3 : World} {s v' x : Value} {l : List (List Int)} {r : List Int} {R : Nat → Value} {T : Nat → List Nat} {bs : List Nat}
    (h1 : w.ownsRow B 23 1 s l.length ((List.range l.length).map R)) (h2 : ∀ i, i < l.length → OwnI w (R i) (gr l i) (T i)) (h3 : ((List.range l.length).flatMap T).Nodup) (h4 : ∀ b ∈ (List.range l.length).flatMap T, B ≤ b)
    (hx : Ext w w1) (ho : OwnI w1 x r bs) (hf : Fresh w bs) (hB : B ≤ w.heap.size) (hg : Grew (w1.alloc (.cells #[x] 23)) w3 B 23 1 s v' (l.length + 1) ((List.range l.length).map R ++ [x])) : GrowI B w3 v' (l ++ [r]) (l ++ [r]).length := by
  have hX : Ext w (w1.alloc (.cells #[x] 23)) := hx.alloc' _
  rw [List.length_append, List.length_singleton]
  refine GrowI.step (R := R) (T := T) (bs := bs) (owns_ext h1 hX) (fun i hi => ?_) h3 h4 ?_ (fun b hb => ⟨by have := hf.2 b hb; omega, fun hb2 => ?_⟩) hg
  · rw [gr_app, if_neg (by omega)]
    exact (h2 i hi).ext hX
  · rw [gr_app, if_pos rfl]
    exact ho.ext ((Ext.rfl' _).alloc' _)
  · obtain ⟨i, hi, hb2⟩ := List.mem_flatMap.1 hb2
    have := (h2 i (List.mem_range.1 hi)).1.lt b hb2
    have := hf.2 b hb
    omega
noncomputable def pmbTo (A B : Net) : Nat → List (List Int)
  | 0 => []
  | k + 1 => if dec (ExtE A B k) = true then pmbTo A B k ++ [extL A B k] else pmbTo A B k
theorem pmbTo_yes {A B : Net} {k : Nat} (h : ExtE A B k) : pmbTo A B (k + 1) = pmbTo A B k ++ [extL A B k] := by simp only [pmbTo]; rw [if_pos (dec_true h)]
theorem pmbTo_no {A B : Net} {k : Nat} (h : ¬ ExtE A B k) : pmbTo A B (k + 1) = pmbTo A B k := by simp only [pmbTo]; rw [if_neg (by rw [dec_false h]; simp)]
theorem extL_len {A B : Net} {k : Nat} (h : ExtE A B k) : (extL A B k).length = A.ends.length := by
  obtain ⟨F, hF, hp⟩ := h
  unfold extL; rw [hF]; exact hp.1
theorem pmbTo_len (A B : Net) : ∀ k, (pmbTo A B k).length ≤ k ∧ ∀ r ∈ pmbTo A B k, r.length = A.ends.length
  | 0 => by simp [pmbTo]
  | k + 1 => by
    obtain ⟨h1, h2⟩ := pmbTo_len A B k
    by_cases h : ExtE A B k
    · rw [pmbTo_yes h]
      refine ⟨by simp; omega, fun r hr => ?_⟩
      rcases List.mem_append.1 hr with hr | hr
      · exact h2 r hr
      · simp only [List.mem_singleton] at hr; subst hr; exact extL_len h
    · rw [pmbTo_no h]; exact ⟨by omega, h2⟩
def PmbB (A B : Net) : Prop := GC A ∧ Good B
noncomputable def pmbAns (A B : Net) : List (List Int) := if dec (PmbB A B) = true then pmbTo A B B.ends.length else []
theorem pmbAns_t {A B : Net} (h : PmbB A B) : pmbAns A B = pmbTo A B B.ends.length := by unfold pmbAns; rw [if_pos (dec_true h)]
theorem pmbAns_f {A B : Net} (h : ¬ PmbB A B) : pmbAns A B = [] := by unfold pmbAns; rw [if_neg (by rw [dec_false h]; simp)]
theorem pmbAns_small (A B : Net) : IISmall (pmbAns A B) := by
  by_cases h : PmbB A B
  · rw [pmbAns_t h]
    obtain ⟨h1, h2⟩ := pmbTo_len A B B.ends.length
    have h3 := h.2.1.2
    have h4 := h.1.1.1.2
    refine ⟨by omega, fun i => ?_⟩
    by_cases hi : i < (pmbTo A B B.ends.length).length
    · have : gr (pmbTo A B B.ends.length) i ∈ pmbTo A B B.ends.length := by simp [gr, List.getD, hi]
      rw [h2 _ this]; omega
    · rw [gr_out _ _ (by omega)]; simp
  · rw [pmbAns_f h]
    exact ⟨by simp, fun i => by simp [gr]⟩
theorem ext_some {A B : Net} {k : Nat} (h : PmbB A B) (hk : k < B.ends.length) (he : ExtE A B k) : ExtB A B (k : Int) := (extB_iff hk).2 ⟨h.1, h.2, he⟩
theorem ext_not {A B : Net} {k : Nat} (hk : k < B.ends.length) (he : ¬ ExtE A B k) : ¬ ExtB A B (k : Int) := fun h => he ((extB_iff hk).1 h).2.2
theorem extendMap_nat {w : World} {va vb : Value} {A B : Net} (z0 : Nat) (hz : z0 < B.ends.length) (h : NetAt w va A) (k : NetAt w vb B) (hp : PmbB A B) :
    Calls Try.prog 40 #[va, vb, .int .i64 z0] w fun e w' => ∃ v' bs, e = .returned (.tuple #[v', .bool (dec (ExtE A B z0))]) ∧ Ext w w' ∧ Fresh w bs ∧ (ExtE A B z0 → OwnI w' v' (extL A B z0) bs) :=
  (extendMap_any (z0 : Int) h k).mono fun e w' ⟨v', bs, he, hx, ho, hf⟩ => ⟨v', bs, by
    rw [he, dec_congr ((extB_iff hz).trans ⟨fun h => h.2.2, fun h => ⟨hp.1, hp.2, h⟩⟩)], hx, hf, fun h => by rw [← extAns_L (ext_some hp hz h)]; exact ho⟩

set_option maxHeartbeats 3200000 in
set_option maxRecDepth 100000 in
theorem portMaps_any {w : World} {va vb : Value} {A B : Net} (h : NetAt w va A) (k : NetAt w vb B) :
    Calls Try.prog 43 #[va, vb] w fun e w' => ∃ v' bs, e = .returned (.tuple #[v', .bool (dec (PmbB A B))]) ∧ Ext w w' ∧ OwnII w' v' (pmbAns A B) bs ∧ Fresh w bs := by
  have HA := Lib.hid h
  have HB := Lib.hid k
  obtain ⟨v0, v1, v2, rfl, -, -, -⟩ := h
  obtain ⟨u0, u1, u2, rfl, hEb, -, -⟩ := k
  obtain ⟨fa, fb, fo, fc, rfl, -, hfl, hfm, -⟩ := hEb
  unfold maxLen at hfm
  obtain ⟨W1, hW1⟩ : ∃ W1, W1 = (w.alloc (.cells #[v0, v1, v2] 29)).alloc (.cells #[.slice fa B.ends.length fc, u1, u2] 29) := ⟨_, rfl⟩
  have EW := Lib.hid (show Ext w W1 by rw [hW1]; exact (boxed_ext _ _ _ _ _).trans' (boxed_ext _ _ _ _ _))
  have RA := Lib.hid (show W1.rowIs w.heap.size 29 3 (tri v0 v1 v2) by rw [hW1]; exact (boxed_row _ _ _ _ _).alloc _)
  have RB := Lib.hid (show W1.rowIs (w.heap.size + 1) 29 3 (tri (.slice fa B.ends.length fc) u1 u2) by rw [hW1]; simpa using boxed_row (boxed w v0 v1 v2 29) (.slice fa B.ends.length fc) u1 u2 29)
  obtain ⟨p0, p1, p2, -, -, -⟩ := row3_facts RA.out
  obtain ⟨q0, q1, q2, -, -, -⟩ := row3_facts RB.out
  rw [hW1] at p0 p1 p2 q0 q1 q2
  by_cases ha : GC A
  case neg =>
    have DA := Lib.hid (dec_false ha)
    have E := Lib.hid (show ¬ PmbB A B from fun h => ha h.1)
    clear ha
    go_enter Try.func43, Try.ntmps43
    go_wp2_with fail
    rw [← hW1]
    clear hW1 p0 p1 p2 q0 q1 q2
    (with_reducible refine (isConnected_any (HA.out.ext EW.out)).mono ?_)
    rintro e w1 ⟨rfl, hx1⟩
    rw [DA.out]
    have X1 := Lib.hid hx1
    have K1 := Lib.hid (EW.out.trans' hx1)
    clear hx1
    go_wp2
    go_ret2
    exact ⟨_, [], ret_mb (dec_false E.out).symm, K1.out, by rw [pmbAns_f E.out]; exact own_nilII _, Fresh.nil _⟩
  have DA := Lib.hid (dec_true ha)
  have HGA := Lib.hid ha
  clear ha
  by_cases hb : Good B
  case neg =>
    have DB := Lib.hid (dec_false hb)
    have E := Lib.hid (show ¬ PmbB A B from fun h => hb h.2)
    clear hb
    go_enter Try.func43, Try.ntmps43
    go_wp2_with fail
    rw [← hW1]
    clear hW1 p0 p1 p2 q0 q1 q2
    (with_reducible refine (isConnected_any (HA.out.ext EW.out)).mono ?_)
    rintro e w1 ⟨rfl, hx1⟩
    rw [DA.out]
    have X1 := Lib.hid hx1
    have K1 := Lib.hid (EW.out.trans' hx1)
    clear hx1
    obtain ⟨q0, q1, q2, -, -, -⟩ := row3_facts (row_ext RB.out X1.out)
    go_wp2_with fail
    clear q0 q1 q2
    (with_reducible refine (isNetwork_any (HB.out.ext K1.out)).mono ?_)
    rintro e w2 ⟨rfl, hx2⟩
    rw [DB.out]
    have XK := Lib.hid (X1.out.trans' hx2)
    have KK := Lib.hid (K1.out.trans' hx2)
    clear hx2
    go_wp2
    go_ret2
    exact ⟨_, [], ret_mb (dec_false E.out).symm, KK.out, by rw [pmbAns_f E.out]; exact own_nilII _, Fresh.nil _⟩
  have DB := Lib.hid (dec_true hb)
  have E := Lib.hid (show PmbB A B from ⟨HGA.out, hb⟩)
  have hB40 := hb.1.2
  clear hb
  obtain ⟨i1, hi, hz0, hz1, hz2⟩ := info_parts infoQ
  have I1 := Lib.hid (show Try.prog.info? 23 = some i1 ∧ i1.zero = some (.slice none 0 0) ∧ i1.size = 1 ∧ i1.bytes = 24 from ⟨hi, hz0, hz1, hz2⟩)
  clear hi hz0 hz1 hz2
  go_enter Try.func43, Try.ntmps43
  go_wp2_with fail
  rw [← hW1]
  clear hW1 p0 p1 p2 q0 q1 q2
  (with_reducible refine (isConnected_any (HA.out.ext EW.out)).mono ?_)
  rintro e w1 ⟨rfl, hx1⟩
  rw [DA.out]
  have X1 := Lib.hid hx1
  have K1 := Lib.hid (EW.out.trans' hx1)
  clear hx1
  obtain ⟨q0, q1, q2, -, -, -⟩ := row3_facts (row_ext RB.out X1.out)
  go_wp2_with fail
  clear q0 q1 q2
  (with_reducible refine (isNetwork_any (HB.out.ext K1.out)).mono ?_)
  rintro e w2 ⟨rfl, hx2⟩
  rw [DB.out]
  have XK := Lib.hid (X1.out.trans' hx2)
  have KK := Lib.hid (K1.out.trans' hx2)
  clear hx2
  obtain ⟨q0, q1, q2, -, -, -⟩ := row3_facts (row_ext RB.out (XK.out.alloc' (.cells #[] 23)))
  go_wp2_with fail
  clear q0 q1 q2
  have hst : World.ownsRow (w2.alloc (.cells #[] 23)) w2.heap.size 23 1 (.slice (some ⟨w2.heap.size, 0, none⟩) 0 0) 0 [] := World.ownsRow_lit (base := w2.heap.size) (e := 23) (size := 1) w2 #[] 0 (Nat.le_refl _) (by decide) (by simp)
  go_loopg [6, 22] B.ends.length (fun g s i wr => ∃ k : Nat, k ≤ B.ends.length ∧ g = B.ends.length - k ∧ i = .int .i64 k ∧ Hid (Ext w2 wr ∧ GrowI w2.heap.size wr s (pmbTo A B k) (pmbTo A B k).length))
  case atStart => exact ⟨0, Nat.zero_le _, rfl, rfl, (Ext.rfl' _).alloc' _, nils, fun _ => [], hst, fun i hi => absurd hi (by simp [pmbTo]), by simp [pmbTo], fun b hb => absurd hb (by simp [pmbTo])⟩
  case round =>
    obtain ⟨k, hk, rfl, rfl, Hr⟩ := hrel
    obtain ⟨hE, hG⟩ := Hr.out
    have HE := Lib.hid hE
    have HG := Lib.hid hG
    have KR := Lib.hid (KK.out.trans' hE)
    have XR := Lib.hid (XK.out.trans' hE)
    clear hE hG Hr
    by_cases hlt : k < B.ends.length
    · have hlen := (pmbTo_len A B k).1
      have HLEN := Lib.hid hlen
      clear hlen
      obtain ⟨p0, p1, p2, -, -, -⟩ := row3_facts (row_ext RA.out XR.out)
      obtain ⟨q0, q1, q2, -, -, -⟩ := row3_facts (row_ext RB.out XR.out)
      go_wp2_with fail
      clear p0 p1 p2 q0 q1 q2
      (with_reducible refine (extendMap_nat k hlt (HA.out.ext KR.out) (HB.out.ext KR.out) E.out).mono ?_)
      rintro e w5 ⟨v', bs, rfl, hx5, hfr, ho⟩
      have X5 := Lib.hid hx5
      have FR := Lib.hid hfr
      clear hx5 hfr
      by_cases he : ExtE A B k
      · have D := Lib.hid (dec_true he)
        have OI := Lib.hid (ho he)
        have HS := Lib.hid (pmbTo_yes he)
        clear he ho
        rw [D.out]
        obtain ⟨R, T, g1, g2, g3, g4⟩ := HG.out
        obtain ⟨ya, yc, rfl⟩ := OI.out.1.slice
        have G1 := Lib.hid g1
        have HB := Lib.hid HE.out.size
        have SZ := Lib.hid X5.out.size
        go_wp2_with (at_builtin; refine wpList_app2 rfl _ _ 41 rfl w2.heap.size 23 i1 (.slice none 0 0) 1 24 Try.underlying41 I1.out.1 I1.out.2.1 I1.out.2.2.1 I1.out.2.2.2 rfl (by decide) _ (pmbTo A B k).length ((List.range (pmbTo A B k).length).map R) rfl (owns_ext G1.out (X5.out.alloc' _)) (some ⟨w5.heap.size, 0, none⟩) 1 1 [.slice ya (extL A B k).length yc] rfl (src_one w5 _ _ rfl) (by have := HLEN.out; unfold maxLen; omega) (by have := HLEN.out; omega) (by have := HB.out; have := SZ.out; simp; omega) ?_; intro v'' w6 hg)
        have FI := Lib.hid (show Ext w2 w6 ∧ GrowI w2.heap.size w6 v'' (pmbTo A B k ++ [extL A B k]) (pmbTo A B k ++ [extL A B k]).length from
          ⟨grown_ext ((HE.out.trans' X5.out).alloc' (.cells #[.slice ya (extL A B k).length yc] 23)) (Nat.le_refl _) (owns_ext G1.out (X5.out.alloc' _)) hg.1.2.1, grow_snoc G1.out g2 g3 g4 X5.out OI.out FR.out HB.out hg.1⟩)
        clear hg g1 g2 g3 g4
        go_wp2
        go_roundg (B.ends.length - (k + 1))
        case measure => omega
        case rel => exact ⟨k + 1, by omega, rfl, by go_num, FI.out.1, by rw [HS.out]; exact FI.out.2⟩
      · have D := Lib.hid (dec_false he)
        have HS := Lib.hid (pmbTo_no he)
        clear he ho
        rw [D.out]
        go_wp2
        go_roundg (B.ends.length - (k + 1))
        case measure => omega
        case rel => exact ⟨k + 1, by omega, rfl, by go_num, HE.out.trans' X5.out, by rw [HS.out]; exact HG.out.ext X5.out⟩
    · obtain rfl : k = B.ends.length := by omega
      go_wp2
      go_ret2
      obtain ⟨bs, ho, hnd, hge⟩ := HG.out.done
      exact ⟨_, bs, ret_mb (dec_true E.out).symm, KR.out, by rw [pmbAns_t E.out]; exact ho, hnd, fun x hx => by have := hge x hx; have := KK.out.size; omega⟩

set_option maxHeartbeats 3200000 in
set_option maxRecDepth 100000 in
theorem specPortMaps_any {w : World} {va vb : Value} {A B : Net} (h : NetAt w va A) (k : NetAt w vb B) :
    Calls Try.prog 42 #[va, vb] w fun e w' => ∃ v' bs, e = .returned (.tuple #[v', .bool (dec (PmbB A B))]) ∧ Ext w w' ∧ OwnII w' v' (pmbAns A B) bs ∧ Fresh w bs := by
  have HA := Lib.hid h
  have HB := Lib.hid k
  obtain ⟨v0, v1, v2, rfl, -, -, -⟩ := h
  obtain ⟨u0, u1, u2, rfl, hEb, -, -⟩ := k
  obtain ⟨fa, fb, fo, fc, rfl, -, hfl, hfm, -⟩ := hEb
  unfold maxLen at hfm
  obtain ⟨W1, hW1⟩ : ∃ W1, W1 = (w.alloc (.cells #[v0, v1, v2] 29)).alloc (.cells #[.slice fa B.ends.length fc, u1, u2] 29) := ⟨_, rfl⟩
  have EW := Lib.hid (show Ext w W1 by rw [hW1]; exact (boxed_ext _ _ _ _ _).trans' (boxed_ext _ _ _ _ _))
  have RA := Lib.hid (show W1.rowIs w.heap.size 29 3 (tri v0 v1 v2) by rw [hW1]; exact (boxed_row _ _ _ _ _).alloc _)
  have RB := Lib.hid (show W1.rowIs (w.heap.size + 1) 29 3 (tri (.slice fa B.ends.length fc) u1 u2) by rw [hW1]; simpa using boxed_row (boxed w v0 v1 v2 29) (.slice fa B.ends.length fc) u1 u2 29)
  obtain ⟨p0, p1, p2, -, -, -⟩ := row3_facts RA.out
  obtain ⟨q0, q1, q2, -, -, -⟩ := row3_facts RB.out
  rw [hW1] at p0 p1 p2 q0 q1 q2
  by_cases ha : Good A
  case neg =>
    have DA := Lib.hid (dec_false ha)
    have E := Lib.hid (show ¬ PmbB A B from fun h => ha h.1.1)
    clear ha
    go_enter Try.func42, Try.ntmps42
    go_wp2_with fail
    rw [← hW1]
    clear hW1 p0 p1 p2 q0 q1 q2
    (with_reducible refine (neGood_any (HA.out.ext EW.out)).mono ?_)
    rintro e w1 ⟨rfl, hx1⟩
    rw [DA.out]
    have X1 := Lib.hid hx1
    have K1 := Lib.hid (EW.out.trans' hx1)
    clear hx1
    go_wp2
    go_ret2
    exact ⟨_, [], ret_mb (dec_false E.out).symm, K1.out, by rw [pmbAns_f E.out]; exact own_nilII _, Fresh.nil _⟩
  have DA := Lib.hid (dec_true ha)
  have HGA := Lib.hid ha
  have GA := Lib.hid (good_w ha)
  clear ha
  by_cases hb : Good B
  case neg =>
    have DB := Lib.hid (dec_false hb)
    have E := Lib.hid (show ¬ PmbB A B from fun h => hb h.2)
    clear hb
    go_enter Try.func42, Try.ntmps42
    go_wp2_with fail
    rw [← hW1]
    clear hW1 p0 p1 p2 q0 q1 q2
    (with_reducible refine (neGood_any (HA.out.ext EW.out)).mono ?_)
    rintro e w1 ⟨rfl, hx1⟩
    rw [DA.out]
    have X1 := Lib.hid hx1
    have K1 := Lib.hid (EW.out.trans' hx1)
    clear hx1
    obtain ⟨q0, q1, q2, -, -, -⟩ := row3_facts (row_ext RB.out X1.out)
    go_wp2_with fail
    clear q0 q1 q2
    (with_reducible refine (neGood_any (HB.out.ext K1.out)).mono ?_)
    rintro e w2 ⟨rfl, hx2⟩
    rw [DB.out]
    have X2 := Lib.hid (X1.out.trans' hx2)
    have K2 := Lib.hid (K1.out.trans' hx2)
    clear hx2
    go_wp2
    go_ret2
    exact ⟨_, [], ret_mb (dec_false E.out).symm, K2.out, by rw [pmbAns_f E.out]; exact own_nilII _, Fresh.nil _⟩
  have DB := Lib.hid (dec_true hb)
  have HGB := Lib.hid hb
  have GB := Lib.hid (good_w hb)
  have hB40 := hb.1.2
  clear hb
  by_cases hc : Conn A
  case neg =>
    have DC := Lib.hid (dec_false hc)
    have E := Lib.hid (show ¬ PmbB A B from fun h => hc h.1.2)
    clear hc
    go_enter Try.func42, Try.ntmps42
    go_wp2_with fail
    rw [← hW1]
    clear hW1 p0 p1 p2 q0 q1 q2
    (with_reducible refine (neGood_any (HA.out.ext EW.out)).mono ?_)
    rintro e w1 ⟨rfl, hx1⟩
    rw [DA.out]
    have X1 := Lib.hid hx1
    have K1 := Lib.hid (EW.out.trans' hx1)
    clear hx1
    obtain ⟨q0, q1, q2, -, -, -⟩ := row3_facts (row_ext RB.out X1.out)
    go_wp2_with fail
    clear q0 q1 q2
    (with_reducible refine (neGood_any (HB.out.ext K1.out)).mono ?_)
    rintro e w2 ⟨rfl, hx2⟩
    rw [DB.out]
    have X2 := Lib.hid (X1.out.trans' hx2)
    have K2 := Lib.hid (K1.out.trans' hx2)
    clear hx2
    obtain ⟨p0, p1, p2, -, -, -⟩ := row3_facts (row_ext RA.out X2.out)
    go_wp2_with fail
    clear p0 p1 p2
    (with_reducible refine (coConnected_any (HA.out.ext K2.out) GA.out).mono ?_)
    rintro e w3 ⟨rfl, hx3⟩
    rw [DC.out]
    have XK := Lib.hid (X2.out.trans' hx3)
    have KK := Lib.hid (K2.out.trans' hx3)
    clear hx3
    go_wp2
    go_ret2
    exact ⟨_, [], ret_mb (dec_false E.out).symm, KK.out, by rw [pmbAns_f E.out]; exact own_nilII _, Fresh.nil _⟩
  have DC := Lib.hid (dec_true hc)
  have E := Lib.hid (show PmbB A B from ⟨⟨HGA.out, hc⟩, HGB.out⟩)
  clear hc
  obtain ⟨i1, hi, hz0, hz1, hz2⟩ := info_parts infoQ
  have I1 := Lib.hid (show Try.prog.info? 23 = some i1 ∧ i1.zero = some (.slice none 0 0) ∧ i1.size = 1 ∧ i1.bytes = 24 from ⟨hi, hz0, hz1, hz2⟩)
  clear hi hz0 hz1 hz2
  go_enter Try.func42, Try.ntmps42
  go_wp2_with fail
  rw [← hW1]
  clear hW1 p0 p1 p2 q0 q1 q2
  (with_reducible refine (neGood_any (HA.out.ext EW.out)).mono ?_)
  rintro e w1 ⟨rfl, hx1⟩
  rw [DA.out]
  have X1 := Lib.hid hx1
  have K1 := Lib.hid (EW.out.trans' hx1)
  clear hx1
  obtain ⟨q0, q1, q2, -, -, -⟩ := row3_facts (row_ext RB.out X1.out)
  go_wp2_with fail
  clear q0 q1 q2
  (with_reducible refine (neGood_any (HB.out.ext K1.out)).mono ?_)
  rintro e w2 ⟨rfl, hx2⟩
  rw [DB.out]
  have X2 := Lib.hid (X1.out.trans' hx2)
  have K2 := Lib.hid (K1.out.trans' hx2)
  clear hx2
  obtain ⟨p0, p1, p2, -, -, -⟩ := row3_facts (row_ext RA.out X2.out)
  go_wp2_with fail
  clear p0 p1 p2
  (with_reducible refine (coConnected_any (HA.out.ext K2.out) GA.out).mono ?_)
  rintro e w3 ⟨rfl, hx3⟩
  rw [DC.out]
  have XK := Lib.hid (X2.out.trans' hx3)
  have KK := Lib.hid (K2.out.trans' hx3)
  clear hx3
  obtain ⟨q0, q1, q2, -, -, -⟩ := row3_facts (row_ext RB.out XK.out)
  go_wp2_with fail
  clear q0 q1 q2
  go_loopg [6, 26] B.ends.length (fun g s i wr => ∃ k : Nat, k ≤ B.ends.length ∧ g = B.ends.length - k ∧ i = .int .i64 k ∧ Hid (Ext w3 wr ∧ GrowI w3.heap.size wr s (pmbTo A B k) (pmbTo A B k).length))
  case atStart => exact ⟨0, Nat.zero_le _, rfl, rfl, Ext.rfl' _, by simpa [pmbTo] using GrowI.nil w3.heap.size w3 []⟩
  case round =>
    obtain ⟨k, hk, rfl, rfl, Hr⟩ := hrel
    obtain ⟨hE, hG⟩ := Hr.out
    have HE := Lib.hid hE
    have HG := Lib.hid hG
    have KR := Lib.hid (KK.out.trans' hE)
    have XR := Lib.hid (XK.out.trans' hE)
    clear hE hG Hr
    by_cases hlt : k < B.ends.length
    · have hlen := (pmbTo_len A B k).1
      have HLEN := Lib.hid hlen
      clear hlen
      obtain ⟨p0, p1, p2, -, -, -⟩ := row3_facts (row_ext RA.out XR.out)
      obtain ⟨q0, q1, q2, -, -, -⟩ := row3_facts (row_ext RB.out XR.out)
      go_wp2_with fail
      clear p0 p1 p2 q0 q1 q2
      (with_reducible refine (coExtend_any k hlt (HA.out.ext KR.out) (HB.out.ext KR.out) GA.out GB.out).mono ?_)
      rintro e w5 ⟨v', bs, rfl, hx5, hfr, ho⟩
      have X5 := Lib.hid hx5
      have FR := Lib.hid hfr
      clear hx5 hfr
      by_cases he : ExtE A B k
      · have D := Lib.hid (dec_true he)
        have OI := Lib.hid (ho he)
        have HS := Lib.hid (pmbTo_yes he)
        clear he ho
        rw [D.out]
        obtain ⟨R, T, g1, g2, g3, g4⟩ := HG.out
        obtain ⟨ya, yc, rfl⟩ := OI.out.1.slice
        have G1 := Lib.hid g1
        have HB := Lib.hid HE.out.size
        have SZ := Lib.hid X5.out.size
        go_wp2_with (at_builtin; refine wpList_app2 rfl _ _ 41 rfl w3.heap.size 23 i1 (.slice none 0 0) 1 24 Try.underlying41 I1.out.1 I1.out.2.1 I1.out.2.2.1 I1.out.2.2.2 rfl (by decide) _ (pmbTo A B k).length ((List.range (pmbTo A B k).length).map R) rfl (owns_ext G1.out (X5.out.alloc' _)) (some ⟨w5.heap.size, 0, none⟩) 1 1 [.slice ya (extL A B k).length yc] rfl (src_one w5 _ _ rfl) (by have := HLEN.out; unfold maxLen; omega) (by have := HLEN.out; omega) (by have := HB.out; have := SZ.out; simp; omega) ?_; intro v'' w6 hg)
        have FI := Lib.hid (show Ext w3 w6 ∧ GrowI w3.heap.size w6 v'' (pmbTo A B k ++ [extL A B k]) (pmbTo A B k ++ [extL A B k]).length from
          ⟨grown_ext ((HE.out.trans' X5.out).alloc' (.cells #[.slice ya (extL A B k).length yc] 23)) (Nat.le_refl _) (owns_ext G1.out (X5.out.alloc' _)) hg.1.2.1, grow_snoc G1.out g2 g3 g4 X5.out OI.out FR.out HB.out hg.1⟩)
        clear hg g1 g2 g3 g4
        go_wp2
        go_roundg (B.ends.length - (k + 1))
        case measure => omega
        case rel => exact ⟨k + 1, by omega, rfl, by go_num, FI.out.1, by rw [HS.out]; exact FI.out.2⟩
      · have D := Lib.hid (dec_false he)
        have HS := Lib.hid (pmbTo_no he)
        clear he ho
        rw [D.out]
        go_wp2
        go_roundg (B.ends.length - (k + 1))
        case measure => omega
        case rel => exact ⟨k + 1, by omega, rfl, by go_num, HE.out.trans' X5.out, by rw [HS.out]; exact HG.out.ext X5.out⟩
    · obtain rfl : k = B.ends.length := by omega
      go_wp2
      go_ret2
      obtain ⟨bs, ho, hnd, hge⟩ := HG.out.done
      exact ⟨_, bs, ret_mb (dec_true E.out).symm, KR.out, by rw [pmbAns_t E.out]; exact ho, hnd, fun x hx => by have := hge x hx; have := KK.out.size; omega⟩
end Go.Proofs.Ytgacbfblpkikkaa
