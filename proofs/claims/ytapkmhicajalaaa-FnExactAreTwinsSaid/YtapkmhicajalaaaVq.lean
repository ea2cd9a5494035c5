/- The contracts of both sides' SameView, AreTwins and SeparatingDepth. -/
import Derived.Test.YtapkmhicajalaaaVp
namespace Go.Proofs.Ytapkmhicajalaaa
open Go.RowKit

theorem sep_lt {N : Net} (h : NodesIn N) (hn : 0 < N.ends.length) {u v t : Nat} (hu : u < N.ends.length) (hv : v < N.ends.length) (ht : t ≤ 80) : (t : Int) < sepN N u v ↔ gi (seqC N t) u = gi (seqC N t) v := by
  rcases sep_or (N := N) (u := u) (v := v) with ⟨s, hs⟩ | hs
  · rw [sepN_t hs, sep_iff h hu hv hs t]; omega
  · rw [sepN_f hs]
    exact ⟨fun _ => noSep_all h hn hs, fun _ => by omega⟩
theorem sep_81 {N : Net} (h : NodesIn N) (hst : stOf N < 80) {u v : Nat} (hu : u < N.ends.length) (hv : v < N.ends.length) : sepN N u v = 81 ↔ gi (seqC N (stOf N)) u = gi (seqC N (stOf N)) v := by
  rcases sep_or (N := N) (u := u) (v := v) with ⟨s, hs⟩ | hs
  · rw [sepN_t hs, sep_iff h hu hv hs]
    have := hs.1; omega
  · rw [sepN_f hs]
    exact ⟨fun _ => hs _ (Nat.le_refl _), fun _ => rfl⟩
theorem sep_has {N : Net} (hst : stOf N < 80) {u v : Nat} : sepN N u v = 81 ↔ ¬ ∃ t, SepAt N u v t := by
  rcases sep_or (N := N) (u := u) (v := v) with ⟨s, hs⟩ | hs
  · rw [sepN_t hs]
    have := hs.1
    exact ⟨fun h => absurd h (by omega), fun h => absurd ⟨s, hs⟩ h⟩
  · rw [sepN_f hs]
    exact ⟨fun _ ⟨s, h⟩ => sep_no h hs, fun _ => rfl⟩

/-- The cells of a list in one block of its own. -/
theorem OwnI.row_of {w : World} {b n c : Nat} {l : List Int} (h : OwnI w (.slice (some ⟨b, 0, none⟩) n c) l [b]) (hl : l.length = n) : n ≤ c ∧ c ≤ maxLen ∧ ∀ i, i < n → w.cell? ⟨b, i, none⟩ = some (.int .i64 (gi l i)) := by
  obtain ⟨⟨c', h1, h2, h3⟩, h4⟩ := h
  rcases h3 with ⟨_, hb, _⟩ | ⟨b', m, g, hb, hv, hm, hr, hf⟩
  · exact absurd hb (by simp)
  · obtain rfl : b = b' := by simpa using hb
    obtain ⟨_, rfl⟩ : n = l.length ∧ c = c' := by simpa using hv
    exact ⟨by omega, h2, fun i hi => by rw [hr.cell (by omega), hf i (by omega)]⟩

/-- Two nodes of two networks, side by side. -/
def qOf (A : Net) (y : Int) : Nat := A.ends.length + y.toNat
def SVOK (A : Net) (x : Int) (B : Net) (y t : Int) : Prop := BothOK A x B y ∧ InB t 0 80
def SV (A : Net) (x : Int) (B : Net) (y t : Int) : Prop := SVOK A x B y t ∧ gi (seqC (unionNet A B) t.toNat) x.toNat = gi (seqC (unionNet A B) t.toNat) (qOf A y)
def AT (A : Net) (x : Int) (B : Net) (y : Int) : Prop := BothOK A x B y ∧ gi (seqC (unionNet A B) (stOf (unionNet A B))) x.toNat = gi (seqC (unionNet A B) (stOf (unionNet A B))) (qOf A y)
def SDB (A : Net) (x : Int) (B : Net) (y : Int) : Prop := BothOK A x B y ∧ ∃ t, SepAt (unionNet A B) x.toNat (qOf A y) t
noncomputable def sdI (A : Net) (x : Int) (B : Net) (y : Int) : Int := if dec (SDB A x B y) = true then sepN (unionNet A B) x.toNat (qOf A y) else 0
theorem sdI_t {A B : Net} {x y : Int} (h : SDB A x B y) : sdI A x B y = sepN (unionNet A B) x.toNat (qOf A y) := by simp [sdI, dec_true h]
theorem sdI_f {A B : Net} {x y : Int} (h : ¬ SDB A x B y) : sdI A x B y = 0 := by simp [sdI, dec_false h]

/-- What is known where both nodes are there. -/
structure Two (A B : Net) (x y : Nat) : Prop where
  nodes : NodesIn (unionNet A B)
  pos : 0 < (unionNet A B).ends.length
  le : (unionNet A B).ends.length ≤ 80
  hx : x < (unionNet A B).ends.length
  hy : A.ends.length + y < (unionNet A B).ends.length
  st : stOf (unionNet A B) < 80
  a40 : A.ends.length ≤ 40
  y40 : y < 40
theorem two_of {A B : Net} {x y : Nat} (h : BothOK A x B y) : Two A B x y := by
  have n := union_nodes h.1.1 h.2.1
  have l := union_len A B
  have a := h.1.1.1
  have b := h.2.1.1
  have hx := h.1.2.2
  have hy := h.2.2.2
  have st := stOf_lt n (by omega)
  exact ⟨n, by omega, by omega, by omega, by omega, by omega, by omega, by omega⟩

set_option maxHeartbeats 3200000 in
set_option maxRecDepth 100000 in
theorem sameView_any {w : World} {va vb : Value} {A B : Net} (x y t : Int) (h : NetAt w va A) (k : NetAt w vb B) :
    Calls Try.prog 34 #[va, .int .i64 x, vb, .int .i64 y, .int .i64 t] w fun e w' => e = .returned (.tuple #[.bool (dec (SV A x B y t)), .bool (dec (SVOK A x B y t))]) ∧ Ext w w' := by
  have HA := Lib.hid h
  have HB := Lib.hid k
  obtain ⟨v0, v1, v2, rfl, -, -, -⟩ := h
  obtain ⟨u0, u1, u2, rfl, -, -, -⟩ := k
  obtain ⟨W1, hW1⟩ : ∃ W1, W1 = (w.alloc (.cells #[v0, v1, v2] 31)).alloc (.cells #[u0, u1, u2] 31) := ⟨_, rfl⟩
  have EW := Lib.hid (show Ext w W1 by rw [hW1]; exact (boxed_ext _ _ _ _ _).trans' (boxed_ext _ _ _ _ _))
  have RA := Lib.hid (show W1.rowIs w.heap.size 31 3 (tri v0 v1 v2) by rw [hW1]; exact (boxed_row _ _ _ _ _).alloc _)
  have RB := Lib.hid (show W1.rowIs (w.heap.size + 1) 31 3 (tri u0 u1 u2) by rw [hW1]; simpa using boxed_row (boxed w v0 v1 v2 31) u0 u1 u2 31)
  obtain ⟨p0, p1, p2, -, -, -⟩ := row3_facts RA.out
  obtain ⟨q0, q1, q2, -, -, -⟩ := row3_facts RB.out
  by_cases hb : BothOK A x B y
  · have HBB := Lib.hid hb
    obtain ⟨m, rfl⟩ := Int.eq_ofNat_of_zero_le hb.1.2.1
    obtain ⟨n, rfl⟩ := Int.eq_ofNat_of_zero_le hb.2.2.1
    have T2 := Lib.hid (two_of hb)
    by_cases ht : InB t 0 80
    · obtain ⟨s, rfl⟩ := Int.eq_ofNat_of_zero_le ht.1
      have TT := Lib.hid (dec_true ht)
      have hs80 : s ≤ 80 := by have := ht.2; omega
      have D := Lib.hid (dec_true (p := SVOK A m B n s) ⟨hb, ht⟩)
      have S := Lib.hid (show dec (SV A m B n s) = decide ((s : Int) < sepN (unionNet A B) m (A.ends.length + n)) by
        rw [Bool.eq_iff_iff, dec_iff, decide_eq_true_iff, sep_lt T2.out.nodes T2.out.pos T2.out.hx T2.out.hy hs80]
        unfold SV qOf
        simp only [Int.toNat_natCast]
        exact ⟨fun h => h.2, fun h => ⟨⟨hb, ht⟩, h⟩⟩)
      clear ht
      go_enter Try.func34, Try.ntmps34
      go_wp2_with fail
      rw [← hW1]
      clear hW1
      (with_reducible refine (separation_t m n (HA.out.ext EW.out) (HB.out.ext EW.out) hb).mono ?_)
      rintro e w1 ⟨rfl, hw⟩
      have K := Lib.hid (EW.out.trans' hw)
      clear hw p0 p1 p2 q0 q1 q2
      go_wp2_with (go_at_call 64; (with_reducible refine (viewDepth_any _ _).mono ?_); rintro e w2 ⟨rfl, rfl⟩; rw [TT.out])
      go_ret2
      exact ⟨ret_bb S.out.symm D.out.symm, K.out⟩
    · have TT := Lib.hid (dec_false ht)
      have D := Lib.hid (dec_false (p := SVOK A m B n t) fun h => ht h.2)
      have S := Lib.hid (dec_false (p := SV A m B n t) fun h => ht h.1.2)
      clear ht
      go_enter Try.func34, Try.ntmps34
      go_wp2_with fail
      rw [← hW1]
      clear hW1
      (with_reducible refine (separation_t m n (HA.out.ext EW.out) (HB.out.ext EW.out) hb).mono ?_)
      rintro e w1 ⟨rfl, hw⟩
      have K := Lib.hid (EW.out.trans' hw)
      clear hw p0 p1 p2 q0 q1 q2
      go_wp2_with (go_at_call 64; (with_reducible refine (viewDepth_any _ _).mono ?_); rintro e w2 ⟨rfl, rfl⟩; rw [TT.out])
      go_ret2
      exact ⟨ret_bb S.out.symm D.out.symm, K.out⟩
  · have D := Lib.hid (dec_false (p := SVOK A x B y t) fun h => hb h.1)
    have S := Lib.hid (dec_false (p := SV A x B y t) fun h => hb h.1.1)
    go_enter Try.func34, Try.ntmps34
    go_wp2_with fail
    rw [← hW1]
    clear hW1
    (with_reducible refine (separation_f x y (HA.out.ext EW.out) (HB.out.ext EW.out) hb).mono ?_)
    rintro e w1 ⟨rfl, hw⟩
    have K := Lib.hid (EW.out.trans' hw)
    clear hw p0 p1 p2 q0 q1 q2
    go_wp2
    go_ret2
    exact ⟨ret_bb S.out.symm D.out.symm, K.out⟩

set_option maxHeartbeats 3200000 in
set_option maxRecDepth 100000 in
theorem areTwins_any {w : World} {va vb : Value} {A B : Net} (x y : Int) (h : NetAt w va A) (k : NetAt w vb B) :
    Calls Try.prog 36 #[va, .int .i64 x, vb, .int .i64 y] w fun e w' => e = .returned (.tuple #[.bool (dec (AT A x B y)), .bool (dec (BothOK A x B y))]) ∧ Ext w w' := by
  have HA := Lib.hid h
  have HB := Lib.hid k
  obtain ⟨v0, v1, v2, rfl, -, -, -⟩ := h
  obtain ⟨u0, u1, u2, rfl, -, -, -⟩ := k
  obtain ⟨W1, hW1⟩ : ∃ W1, W1 = (w.alloc (.cells #[v0, v1, v2] 31)).alloc (.cells #[u0, u1, u2] 31) := ⟨_, rfl⟩
  have EW := Lib.hid (show Ext w W1 by rw [hW1]; exact (boxed_ext _ _ _ _ _).trans' (boxed_ext _ _ _ _ _))
  have RA := Lib.hid (show W1.rowIs w.heap.size 31 3 (tri v0 v1 v2) by rw [hW1]; exact (boxed_row _ _ _ _ _).alloc _)
  have RB := Lib.hid (show W1.rowIs (w.heap.size + 1) 31 3 (tri u0 u1 u2) by rw [hW1]; simpa using boxed_row (boxed w v0 v1 v2 31) u0 u1 u2 31)
  obtain ⟨p0, p1, p2, -, -, -⟩ := row3_facts RA.out
  obtain ⟨q0, q1, q2, -, -, -⟩ := row3_facts RB.out
  by_cases hb : BothOK A x B y
  · have HBB := Lib.hid hb
    obtain ⟨m, rfl⟩ := Int.eq_ofNat_of_zero_le hb.1.2.1
    obtain ⟨n, rfl⟩ := Int.eq_ofNat_of_zero_le hb.2.2.1
    have T2 := Lib.hid (two_of hb)
    have D := Lib.hid (dec_true hb)
    have S := Lib.hid (show dec (AT A m B n) = (sepN (unionNet A B) m (A.ends.length + n) == 81) by
      rw [Bool.eq_iff_iff, dec_iff, beq_iff_eq, sep_81 T2.out.nodes T2.out.st T2.out.hx T2.out.hy]
      unfold AT qOf
      simp only [Int.toNat_natCast]
      exact ⟨fun h => h.2, fun h => ⟨hb, h⟩⟩)
    go_enter Try.func36, Try.ntmps36
    go_wp2_with fail
    rw [← hW1]
    clear hW1
    (with_reducible refine (separation_t m n (HA.out.ext EW.out) (HB.out.ext EW.out) hb).mono ?_)
    rintro e w1 ⟨rfl, hw⟩
    have K := Lib.hid (EW.out.trans' hw)
    clear hw p0 p1 p2 q0 q1 q2
    go_wp2
    go_ret2
    exact ⟨ret_bb S.out.symm D.out.symm, K.out⟩
  · have D := Lib.hid (dec_false hb)
    have S := Lib.hid (dec_false (p := AT A x B y) fun h => hb h.1)
    go_enter Try.func36, Try.ntmps36
    go_wp2_with fail
    rw [← hW1]
    clear hW1
    (with_reducible refine (separation_f x y (HA.out.ext EW.out) (HB.out.ext EW.out) hb).mono ?_)
    rintro e w1 ⟨rfl, hw⟩
    have K := Lib.hid (EW.out.trans' hw)
    clear hw p0 p1 p2 q0 q1 q2
    go_wp2
    go_ret2
    exact ⟨ret_bb S.out.symm D.out.symm, K.out⟩

set_option maxHeartbeats 3200000 in
set_option maxRecDepth 100000 in
theorem separatingDepth_any {w : World} {va vb : Value} {A B : Net} (x y : Int) (h : NetAt w va A) (k : NetAt w vb B) :
    Calls Try.prog 38 #[va, .int .i64 x, vb, .int .i64 y] w fun e w' => e = .returned (.tuple #[.int .i64 (sdI A x B y), .bool (dec (SDB A x B y))]) ∧ Ext w w' := by
  have HA := Lib.hid h
  have HB := Lib.hid k
  obtain ⟨v0, v1, v2, rfl, -, -, -⟩ := h
  obtain ⟨u0, u1, u2, rfl, -, -, -⟩ := k
  obtain ⟨W1, hW1⟩ : ∃ W1, W1 = (w.alloc (.cells #[v0, v1, v2] 31)).alloc (.cells #[u0, u1, u2] 31) := ⟨_, rfl⟩
  have EW := Lib.hid (show Ext w W1 by rw [hW1]; exact (boxed_ext _ _ _ _ _).trans' (boxed_ext _ _ _ _ _))
  have RA := Lib.hid (show W1.rowIs w.heap.size 31 3 (tri v0 v1 v2) by rw [hW1]; exact (boxed_row _ _ _ _ _).alloc _)
  have RB := Lib.hid (show W1.rowIs (w.heap.size + 1) 31 3 (tri u0 u1 u2) by rw [hW1]; simpa using boxed_row (boxed w v0 v1 v2 31) u0 u1 u2 31)
  obtain ⟨p0, p1, p2, -, -, -⟩ := row3_facts RA.out
  obtain ⟨q0, q1, q2, -, -, -⟩ := row3_facts RB.out
  by_cases hb : BothOK A x B y
  · have HBB := Lib.hid hb
    obtain ⟨m, rfl⟩ := Int.eq_ofNat_of_zero_le hb.1.2.1
    obtain ⟨n, rfl⟩ := Int.eq_ofNat_of_zero_le hb.2.2.1
    have T2 := Lib.hid (two_of hb)
    by_cases hs : SDB A m B n
    · have D := Lib.hid (dec_true hs)
      have S := Lib.hid (show sdI A m B n = sepN (unionNet A B) m (A.ends.length + n) by rw [sdI_t hs]; simp only [qOf, Int.toNat_natCast])
      have hne : (sepN (unionNet A B) m (A.ends.length + n) == 81) = false := by
        rw [beq_eq_false_iff_ne]
        intro h
        refine (sep_has T2.out.st).1 h ?_
        have := hs.2
        simpa only [qOf, Int.toNat_natCast] using this
      clear hs
      go_enter Try.func38, Try.ntmps38
      go_wp2_with fail
      rw [← hW1]
      clear hW1
      (with_reducible refine (separation_t m n (HA.out.ext EW.out) (HB.out.ext EW.out) hb).mono ?_)
      rintro e w1 ⟨rfl, hw⟩
      have K := Lib.hid (EW.out.trans' hw)
      clear hw p0 p1 p2 q0 q1 q2
      go_wp2
      go_ret2
      exact ⟨ret_i S.out.symm D.out.symm, K.out⟩
    · have D := Lib.hid (dec_false hs)
      have S := Lib.hid (sdI_f hs)
      have hne : (sepN (unionNet A B) m (A.ends.length + n) == 81) = true := by
        rw [beq_iff_eq, sep_has T2.out.st]
        exact fun h => hs ⟨hb, by simpa only [qOf, Int.toNat_natCast] using h⟩
      clear hs
      go_enter Try.func38, Try.ntmps38
      go_wp2_with fail
      rw [← hW1]
      clear hW1
      (with_reducible refine (separation_t m n (HA.out.ext EW.out) (HB.out.ext EW.out) hb).mono ?_)
      rintro e w1 ⟨rfl, hw⟩
      have K := Lib.hid (EW.out.trans' hw)
      clear hw p0 p1 p2 q0 q1 q2
      go_wp2
      go_ret2
      exact ⟨ret_i S.out.symm D.out.symm, K.out⟩
  · have D := Lib.hid (dec_false (p := SDB A x B y) fun h => hb h.1)
    have S := Lib.hid (sdI_f (A := A) (B := B) (x := x) (y := y) fun h => hb h.1)
    go_enter Try.func38, Try.ntmps38
    go_wp2_with fail
    rw [← hW1]
    clear hW1
    (with_reducible refine (separation_f x y (HA.out.ext EW.out) (HB.out.ext EW.out) hb).mono ?_)
    rintro e w1 ⟨rfl, hw⟩
    have K := Lib.hid (EW.out.trans' hw)
    clear hw p0 p1 p2 q0 q1 q2
    go_wp2
    go_ret2
    exact ⟨ret_i S.out.symm D.out.symm, K.out⟩

set_option maxHeartbeats 3200000 in
set_option maxRecDepth 100000 in
theorem specSameView_any {w : World} {va vb : Value} {A B : Net} (x y t : Int) (h : NetAt w va A) (k : NetAt w vb B) :
    Calls Try.prog 33 #[va, .int .i64 x, vb, .int .i64 y, .int .i64 t] w fun e w' => e = .returned (.tuple #[.bool (dec (SV A x B y t)), .bool (dec (SVOK A x B y t))]) ∧ Ext w w' := by
  have HA := Lib.hid h
  have HB := Lib.hid k
  obtain ⟨v0, v1, v2, rfl, -, -, -⟩ := h
  obtain ⟨u0, u1, u2, rfl, -, -, -⟩ := k
  obtain ⟨W1, hW1⟩ : ∃ W1, W1 = (w.alloc (.cells #[v0, v1, v2] 31)).alloc (.cells #[u0, u1, u2] 31) := ⟨_, rfl⟩
  have EW := Lib.hid (show Ext w W1 by rw [hW1]; exact (boxed_ext _ _ _ _ _).trans' (boxed_ext _ _ _ _ _))
  have RA := Lib.hid (show W1.rowIs w.heap.size 31 3 (tri v0 v1 v2) by rw [hW1]; exact (boxed_row _ _ _ _ _).alloc _)
  have RB := Lib.hid (show W1.rowIs (w.heap.size + 1) 31 3 (tri u0 u1 u2) by rw [hW1]; simpa using boxed_row (boxed w v0 v1 v2 31) u0 u1 u2 31)
  obtain ⟨p0, p1, p2, -, -, -⟩ := row3_facts RA.out
  obtain ⟨q0, q1, q2, -, -, -⟩ := row3_facts RB.out
  by_cases hb : BothOK A x B y
  · have HBB := Lib.hid hb
    obtain ⟨m, rfl⟩ := Int.eq_ofNat_of_zero_le hb.1.2.1
    obtain ⟨n, rfl⟩ := Int.eq_ofNat_of_zero_le hb.2.2.1
    have T2 := Lib.hid (two_of hb)
    obtain ⟨q, hq⟩ : ∃ q : Nat, q = A.ends.length + n := ⟨_, rfl⟩
    have hsum : (n : Int) + (A.ends.length : Int) = (q : Int) := by omega
    have HQ := Lib.hid hq
    have hq80 : q < 80 := by have := T2.out.a40; have := T2.out.y40; omega
    have hmU := T2.out.hx
    have hqU : q < (unionNet A B).ends.length := by rw [hq]; exact T2.out.hy
    have hU80 := T2.out.le
    have hU0 := T2.out.pos
    have NIU := Lib.hid T2.out.nodes
    have HUS := Lib.hid (show (unionNet A B).ends.length ≤ 1048576 by omega)
    clear hq
    by_cases ht : InB t 0 80
    · obtain ⟨s, rfl⟩ := Int.eq_ofNat_of_zero_le ht.1
      have TT := Lib.hid (dec_true ht)
      have hs80 : s ≤ 1048576 := by have := ht.2; omega
      have D := Lib.hid (dec_true (p := SVOK A m B n s) ⟨hb, ht⟩)
      have S := Lib.hid (show dec (SV A m B n s) = (gi (seqC (unionNet A B) s) m == gi (seqC (unionNet A B) s) q) by
        rw [Bool.eq_iff_iff, dec_iff, beq_iff_eq, HQ.out]
        unfold SV qOf
        simp only [Int.toNat_natCast]
        exact ⟨fun h => h.2, fun h => ⟨⟨hb, ht⟩, h⟩⟩)
      clear ht
      go_enter Try.func33, Try.ntmps33
      go_wp2_with fail
      rw [← hW1]
      clear hW1
      (with_reducible refine (viBoth_t m n (HA.out.ext EW.out) (HB.out.ext EW.out) hb).mono ?_)
      rintro e w1 ⟨vu, bs, rfl, hw, ho, -⟩
      obtain ⟨a0, c0, a1, c1, a2, c2, rfl⟩ := ho.agg
      have HU := Lib.hid ho.read
      have K1 := Lib.hid (EW.out.trans' hw)
      have HXU := Lib.hid ((Ext.rfl' w1).alloc' (.cells #[.slice a0 (unionNet A B).ends.length c0, .slice a1 (unionNet A B).ids.length c1, .slice a2 (unionNet A B).inputs.length c2] 31))
      have HRU := Lib.hid (row3_made w1 (.slice a0 (unionNet A B).ends.length c0) (.slice a1 (unionNet A B).ids.length c1) (.slice a2 (unionNet A B).inputs.length c2) 31)
      obtain ⟨r0, r1, r2, -, -, -⟩ := row3_facts HRU.out
      clear hw ho p0 p1 p2 q0 q1 q2
      rw [hsum]
      go_wp2_with (first | (go_at_call 60; (with_reducible refine (viDepth_any _ _).mono ?_); rintro e w2 ⟨rfl, rfl⟩; rw [TT.out]) | fail)
      (with_reducible refine (viClasses_any s hs80 (HU.out.ext HXU.out) NIU.out hU0 HUS.out).mono ?_)
      rintro e w3 ⟨b, rfl, hw, ho, -⟩
      have K3 := Lib.hid (K1.out.trans' (HXU.out.trans' hw))
      obtain ⟨r, hrb, hrc⟩ := ho.row_of (seqC_len _ _)
      have c1' := hrc m hmU
      have c2' := hrc q hqU
      clear hw ho r0 r1 r2 hrb hrc
      go_wp2
      go_quiet (fail)
      go_wp2
      go_ret2
      exact ⟨ret_bb S.out.symm D.out.symm, K3.out.drewN' _⟩
    · have TT := Lib.hid (dec_false ht)
      have D := Lib.hid (dec_false (p := SVOK A m B n t) fun h => ht h.2)
      have S := Lib.hid (dec_false (p := SV A m B n t) fun h => ht h.1.2)
      clear ht
      go_enter Try.func33, Try.ntmps33
      go_wp2_with fail
      rw [← hW1]
      clear hW1
      (with_reducible refine (viBoth_t m n (HA.out.ext EW.out) (HB.out.ext EW.out) hb).mono ?_)
      rintro e w1 ⟨vu, bs, rfl, hw, ho, -⟩
      obtain ⟨a0, c0, a1, c1, a2, c2, rfl⟩ := ho.agg
      have HU := Lib.hid ho.read
      have K1 := Lib.hid (EW.out.trans' hw)
      have HXU := Lib.hid ((Ext.rfl' w1).alloc' (.cells #[.slice a0 (unionNet A B).ends.length c0, .slice a1 (unionNet A B).ids.length c1, .slice a2 (unionNet A B).inputs.length c2] 31))
      have HRU := Lib.hid (row3_made w1 (.slice a0 (unionNet A B).ends.length c0) (.slice a1 (unionNet A B).ids.length c1) (.slice a2 (unionNet A B).inputs.length c2) 31)
      obtain ⟨r0, r1, r2, -, -, -⟩ := row3_facts HRU.out
      clear hw ho p0 p1 p2 q0 q1 q2
      rw [hsum]
      go_wp2_with (first | (go_at_call 60; (with_reducible refine (viDepth_any _ _).mono ?_); rintro e w2 ⟨rfl, rfl⟩; rw [TT.out]) | fail)
      go_ret2
      exact ⟨ret_bb S.out.symm D.out.symm, K1.out.trans' HXU.out⟩
  · have D := Lib.hid (dec_false (p := SVOK A x B y t) fun h => hb h.1)
    have S := Lib.hid (dec_false (p := SV A x B y t) fun h => hb h.1.1)
    go_enter Try.func33, Try.ntmps33
    go_wp2_with fail
    rw [← hW1]
    clear hW1
    (with_reducible refine (viBoth_f x y (HA.out.ext EW.out) (HB.out.ext EW.out) hb).mono ?_)
    rintro e w1 ⟨rfl, hw⟩
    have K := Lib.hid (EW.out.trans' hw)
    clear hw p0 p1 p2 q0 q1 q2
    unfold znet
    go_wp2
    go_ret2
    exact ⟨ret_bb S.out.symm D.out.symm, K.out.alloc' _⟩

set_option maxHeartbeats 3200000 in
set_option maxRecDepth 100000 in
theorem specAreTwins_any {w : World} {va vb : Value} {A B : Net} (x y : Int) (h : NetAt w va A) (k : NetAt w vb B) :
    Calls Try.prog 35 #[va, .int .i64 x, vb, .int .i64 y] w fun e w' => e = .returned (.tuple #[.bool (dec (AT A x B y)), .bool (dec (BothOK A x B y))]) ∧ Ext w w' := by
  have HA := Lib.hid h
  have HB := Lib.hid k
  obtain ⟨v0, v1, v2, rfl, -, -, -⟩ := h
  obtain ⟨u0, u1, u2, rfl, -, -, -⟩ := k
  obtain ⟨W1, hW1⟩ : ∃ W1, W1 = (w.alloc (.cells #[v0, v1, v2] 31)).alloc (.cells #[u0, u1, u2] 31) := ⟨_, rfl⟩
  have EW := Lib.hid (show Ext w W1 by rw [hW1]; exact (boxed_ext _ _ _ _ _).trans' (boxed_ext _ _ _ _ _))
  have RA := Lib.hid (show W1.rowIs w.heap.size 31 3 (tri v0 v1 v2) by rw [hW1]; exact (boxed_row _ _ _ _ _).alloc _)
  have RB := Lib.hid (show W1.rowIs (w.heap.size + 1) 31 3 (tri u0 u1 u2) by rw [hW1]; simpa using boxed_row (boxed w v0 v1 v2 31) u0 u1 u2 31)
  obtain ⟨p0, p1, p2, -, -, -⟩ := row3_facts RA.out
  obtain ⟨q0, q1, q2, -, -, -⟩ := row3_facts RB.out
  by_cases hb : BothOK A x B y
  · have HBB := Lib.hid hb
    obtain ⟨m, rfl⟩ := Int.eq_ofNat_of_zero_le hb.1.2.1
    obtain ⟨n, rfl⟩ := Int.eq_ofNat_of_zero_le hb.2.2.1
    have T2 := Lib.hid (two_of hb)
    obtain ⟨q, hq⟩ : ∃ q : Nat, q = A.ends.length + n := ⟨_, rfl⟩
    have hsum : (n : Int) + (A.ends.length : Int) = (q : Int) := by omega
    have HQ := Lib.hid hq
    have hq80 : q < 80 := by have := T2.out.a40; have := T2.out.y40; omega
    have hmU := T2.out.hx
    have hqU : q < (unionNet A B).ends.length := by rw [hq]; exact T2.out.hy
    have hU80 := T2.out.le
    have hU0 := T2.out.pos
    have NIU := Lib.hid T2.out.nodes
    have HUS := Lib.hid (show (unionNet A B).ends.length ≤ 1048576 by omega)
    clear hq
    have D := Lib.hid (dec_true hb)
    have S := Lib.hid (show dec (AT A m B n) = (gi (seqC (unionNet A B) (stOf (unionNet A B))) m == gi (seqC (unionNet A B) (stOf (unionNet A B))) q) by
      rw [Bool.eq_iff_iff, dec_iff, beq_iff_eq, HQ.out]
      unfold AT qOf
      simp only [Int.toNat_natCast]
      exact ⟨fun h => h.2, fun h => ⟨hb, h⟩⟩)
    go_enter Try.func35, Try.ntmps35
    go_wp2_with fail
    rw [← hW1]
    clear hW1
    (with_reducible refine (viBoth_t m n (HA.out.ext EW.out) (HB.out.ext EW.out) hb).mono ?_)
    rintro e w1 ⟨vu, bs, rfl, hw, ho, -⟩
    obtain ⟨a0, c0, a1, c1, a2, c2, rfl⟩ := ho.agg
    have HU := Lib.hid ho.read
    have K1 := Lib.hid (EW.out.trans' hw)
    have HXU := Lib.hid ((Ext.rfl' w1).alloc' (.cells #[.slice a0 (unionNet A B).ends.length c0, .slice a1 (unionNet A B).ids.length c1, .slice a2 (unionNet A B).inputs.length c2] 31))
    have HRU := Lib.hid (row3_made w1 (.slice a0 (unionNet A B).ends.length c0) (.slice a1 (unionNet A B).ids.length c1) (.slice a2 (unionNet A B).inputs.length c2) 31)
    obtain ⟨r0, r1, r2, -, -, -⟩ := row3_facts HRU.out
    clear hw ho p0 p1 p2 q0 q1 q2
    rw [hsum]
    go_wp2_with fail
    (with_reducible refine (viTwins_any (HU.out.ext HXU.out) NIU.out hU0 HUS.out).mono ?_)
    rintro e w3 ⟨b, rfl, hw, ho, -⟩
    have K3 := Lib.hid (K1.out.trans' (HXU.out.trans' hw))
    obtain ⟨r, hrb, hrc⟩ := ho.row_of (seqC_len _ _)
    have c1' := hrc m hmU
    have c2' := hrc q hqU
    clear hw ho r0 r1 r2 hrb hrc
    go_wp2
    go_quiet (fail)
    go_wp2
    go_ret2
    exact ⟨ret_bb S.out.symm D.out.symm, K3.out.drewN' _⟩
  · have D := Lib.hid (dec_false hb)
    have S := Lib.hid (dec_false (p := AT A x B y) fun h => hb h.1)
    go_enter Try.func35, Try.ntmps35
    go_wp2_with fail
    rw [← hW1]
    clear hW1
    (with_reducible refine (viBoth_f x y (HA.out.ext EW.out) (HB.out.ext EW.out) hb).mono ?_)
    rintro e w1 ⟨rfl, hw⟩
    have K := Lib.hid (EW.out.trans' hw)
    clear hw p0 p1 p2 q0 q1 q2
    unfold znet
    go_wp2
    go_ret2
    exact ⟨ret_bb S.out.symm D.out.symm, K.out.alloc' _⟩

set_option maxHeartbeats 3200000 in
set_option maxRecDepth 100000 in
theorem specSeparatingDepth_any {w : World} {va vb : Value} {A B : Net} (x y : Int) (h : NetAt w va A) (k : NetAt w vb B) :
    Calls Try.prog 37 #[va, .int .i64 x, vb, .int .i64 y] w fun e w' => e = .returned (.tuple #[.int .i64 (sdI A x B y), .bool (dec (SDB A x B y))]) ∧ Ext w w' := by
  have HA := Lib.hid h
  have HB := Lib.hid k
  obtain ⟨v0, v1, v2, rfl, -, -, -⟩ := h
  obtain ⟨u0, u1, u2, rfl, -, -, -⟩ := k
  obtain ⟨W1, hW1⟩ : ∃ W1, W1 = (w.alloc (.cells #[v0, v1, v2] 31)).alloc (.cells #[u0, u1, u2] 31) := ⟨_, rfl⟩
  have EW := Lib.hid (show Ext w W1 by rw [hW1]; exact (boxed_ext _ _ _ _ _).trans' (boxed_ext _ _ _ _ _))
  have RA := Lib.hid (show W1.rowIs w.heap.size 31 3 (tri v0 v1 v2) by rw [hW1]; exact (boxed_row _ _ _ _ _).alloc _)
  have RB := Lib.hid (show W1.rowIs (w.heap.size + 1) 31 3 (tri u0 u1 u2) by rw [hW1]; simpa using boxed_row (boxed w v0 v1 v2 31) u0 u1 u2 31)
  obtain ⟨p0, p1, p2, -, -, -⟩ := row3_facts RA.out
  obtain ⟨q0, q1, q2, -, -, -⟩ := row3_facts RB.out
  by_cases hb : BothOK A x B y
  · have HBB := Lib.hid hb
    obtain ⟨m, rfl⟩ := Int.eq_ofNat_of_zero_le hb.1.2.1
    obtain ⟨n, rfl⟩ := Int.eq_ofNat_of_zero_le hb.2.2.1
    have T2 := Lib.hid (two_of hb)
    obtain ⟨q, hq⟩ : ∃ q : Nat, q = A.ends.length + n := ⟨_, rfl⟩
    have hsum : (n : Int) + (A.ends.length : Int) = (q : Int) := by omega
    have HQ := Lib.hid hq
    have hq80 : q < 80 := by have := T2.out.a40; have := T2.out.y40; omega
    have hmU := T2.out.hx
    have hqU : q < (unionNet A B).ends.length := by rw [hq]; exact T2.out.hy
    have hU80 := T2.out.le
    have hU0 := T2.out.pos
    have NIU := Lib.hid T2.out.nodes
    have HUS := Lib.hid (show (unionNet A B).ends.length ≤ 1048576 by omega)
    clear hq
    have hst := T2.out.st
    go_enter Try.func37, Try.ntmps37
    go_wp2_with fail
    rw [← hW1]
    clear hW1
    (with_reducible refine (viBoth_t m n (HA.out.ext EW.out) (HB.out.ext EW.out) hb).mono ?_)
    rintro e w1 ⟨vu, bs, rfl, hw, ho, -⟩
    obtain ⟨a0, c0, a1, c1, a2, c2, rfl⟩ := ho.agg
    have HU := Lib.hid ho.read
    have K1 := Lib.hid (EW.out.trans' hw)
    have HXU := Lib.hid ((Ext.rfl' w1).alloc' (.cells #[.slice a0 (unionNet A B).ends.length c0, .slice a1 (unionNet A B).ids.length c1, .slice a2 (unionNet A B).inputs.length c2] 31))
    have HRU := Lib.hid (row3_made w1 (.slice a0 (unionNet A B).ends.length c0) (.slice a1 (unionNet A B).ids.length c1) (.slice a2 (unionNet A B).inputs.length c2) 31)
    obtain ⟨r0, r1, r2, -, -, -⟩ := row3_facts HRU.out
    clear hw ho p0 p1 p2 q0 q1 q2
    rw [hsum]
    clear r0 r1 r2
    go_wp2_with fail
    generalize w1.alloc (.cells #[.slice a0 (unionNet A B).ends.length c0, .slice a1 (unionNet A B).ids.length c1, .slice a2 (unionNet A B).inputs.length c2] 31) = WU at *
    obtain ⟨st, hstS⟩ : ∃ st, st = stOf (unionNet A B) := ⟨_, rfl⟩
    rw [← hstS] at hst
    have HST := Lib.hid hstS
    clear hstS
    go_loopg [13] (st + 2) (fun g i wr => ∃ j : Nat, j ≤ st + 1 ∧ g = st + 2 - j ∧ i = .int .i64 j ∧ Hid ((∀ s, s < j → gi (seqC (unionNet A B) s) m = gi (seqC (unionNet A B) s) q) ∧ Ext WU wr))
    case atStart => exact ⟨0, Nat.zero_le _, rfl, rfl, fun s hs => absurd hs (by omega), Ext.rfl' _⟩
    case round =>
      obtain ⟨j, hj, rfl, rfl, Hr⟩ := hrel
      obtain ⟨r0, r1, r2, -, -, -⟩ := row3_facts (row_ext HRU.out Hr.out.2)
      go_wp2_with fail
      (with_reducible refine (viStable_any (HU.out.ext (HXU.out.trans' Hr.out.2)) NIU.out hU0 HUS.out).mono ?_)
      rintro e w3 ⟨rfl, hw⟩
      rw [← HST.out]
      have X3 := Lib.hid (Hr.out.2.trans' hw)
      clear hw r0 r1 r2
      obtain ⟨r0, r1, r2, -, -, -⟩ := row3_facts (row_ext HRU.out X3.out)
      by_cases hlt : j ≤ st
      · go_wp2_with fail
        (with_reducible refine (viClasses_any j (by omega) (HU.out.ext (HXU.out.trans' X3.out)) NIU.out hU0 HUS.out).mono ?_)
        rintro e w4 ⟨b, rfl, hw, ho, -⟩
        have X4 := Lib.hid (X3.out.trans' hw)
        obtain ⟨r, hrb, hrc⟩ := ho.row_of (seqC_len _ _)
        have c1' := hrc m hmU
        have c2' := hrc q hqU
        clear hw ho r0 r1 r2 hrb hrc
        by_cases he : gi (seqC (unionNet A B) j) m = gi (seqC (unionNet A B) j) q
        · have d1 : (gi (seqC (unionNet A B) j) m != gi (seqC (unionNet A B) j) q) = false := by simp [he]
          have HE := Lib.hid he
          clear he
          go_wp2
          go_quiet (fail)
          go_wp2
          go_roundg (st + 2 - (j + 1))
          case measure => omega
          case rel =>
            refine ⟨j + 1, by omega, rfl, by go_num, fun s hs => ?_, X4.out.drewN' _⟩
            by_cases e : s = j
            · subst e; exact HE.out
            · exact Hr.out.1 s (by omega)
        · have d1 : (gi (seqC (unionNet A B) j) m != gi (seqC (unionNet A B) j) q) = true := by simp [he]
          have SA := Lib.hid (show SepAt (unionNet A B) m q j from ⟨by have := HST.out; omega, he, Hr.out.1⟩)
          have HS := Lib.hid (show SDB A m B n from ⟨HBB.out, j, by unfold qOf; simp only [Int.toNat_natCast]; rw [← HQ.out]; exact SA.out⟩)
          have D := Lib.hid (dec_true HS.out)
          have S := Lib.hid (show sdI A m B n = (j : Int) by rw [sdI_t HS.out, ← sepN_t SA.out, HQ.out]; simp only [qOf, Int.toNat_natCast])
          clear he
          go_wp2
          go_quiet (fail)
          go_wp2
          go_ret2
          exact ⟨ret_i S.out.symm D.out.symm, (K1.out.trans' (HXU.out.trans' X4.out)).drewN' _⟩
      · have HS := Lib.hid (show ¬ SDB A m B n from fun h => by
          obtain ⟨t, ht⟩ := h.2
          have hle := ht.1
          have hd := ht.2.1
          simp only [qOf, Int.toNat_natCast] at hd
          rw [← HQ.out] at hd
          exact hd (Hr.out.1 t (by have := HST.out; omega)))
        have D := Lib.hid (dec_false HS.out)
        have S := Lib.hid (sdI_f HS.out)
        go_wp2
        go_ret2
        exact ⟨ret_i S.out.symm D.out.symm, K1.out.trans' (HXU.out.trans' X3.out)⟩
  · have D := Lib.hid (dec_false (p := SDB A x B y) fun h => hb h.1)
    have S := Lib.hid (sdI_f (A := A) (B := B) (x := x) (y := y) fun h => hb h.1)
    go_enter Try.func37, Try.ntmps37
    go_wp2_with fail
    rw [← hW1]
    clear hW1
    (with_reducible refine (viBoth_f x y (HA.out.ext EW.out) (HB.out.ext EW.out) hb).mono ?_)
    rintro e w1 ⟨rfl, hw⟩
    have K := Lib.hid (EW.out.trans' hw)
    clear hw p0 p1 p2 q0 q1 q2
    unfold znet
    go_wp2
    go_ret2
    exact ⟨ret_i S.out.symm D.out.symm, K.out.alloc' _⟩

end Go.Proofs.Ytapkmhicajalaaa
