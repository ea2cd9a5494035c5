/- The contracts of the model's FibresOf and coOnto, and of SheetsOf. -/
import Derived.Test.YtgacbfblpkikkaaQi
namespace Go.Proofs.Ytgacbfblpkikkaa
open Go.RowKit Go.Maps

theorem PmAns.ok {A B : Net} {m : List Int} (h : PmAns A B m) : PmOK A B m := h.2
theorem PmAns.two {A B : Net} {m : List Int} (h : PmAns A B m) : TwoG A B := h.1
set_option maxHeartbeats 3200000 in
set_option maxRecDepth 100000 in
theorem specFibresOf_any {w : World} {va vb vm : Value} {A B : Net} {m : List Int} (h : NetAt w va A) (k : NetAt w vb B) (hf : IntSl w vm m) :
    Calls Try.prog 31 #[va, vb, vm] w fun e w' => ∃ v' bs, e = .returned (.tuple #[v', .bool (dec (PmAns A B m))]) ∧ Ext w w' ∧ OwnII w' v' (fibAns A B m) bs ∧ Fresh w bs := by
  have HA := Lib.hid h
  have HB := Lib.hid k
  have HF := Lib.hid hf
  obtain ⟨v0, v1, v2, rfl, -, -, -⟩ := h
  obtain ⟨u0, u1, u2, rfl, -, -, -⟩ := k
  clear hf
  obtain ⟨W1, hW1⟩ : ∃ W1, W1 = (w.alloc (.cells #[v0, v1, v2] 29)).alloc (.cells #[u0, u1, u2] 29) := ⟨_, rfl⟩
  have EW := Lib.hid (show Ext w W1 by rw [hW1]; exact (boxed_ext _ _ _ _ _).trans' (boxed_ext _ _ _ _ _))
  have RA := Lib.hid (show W1.rowIs w.heap.size 29 3 (tri v0 v1 v2) by rw [hW1]; exact (boxed_row _ _ _ _ _).alloc _)
  have RB := Lib.hid (show W1.rowIs (w.heap.size + 1) 29 3 (tri u0 u1 u2) by rw [hW1]; simpa using boxed_row (boxed w v0 v1 v2 29) u0 u1 u2 29)
  obtain ⟨p0, p1, p2, -, -, -⟩ := row3_facts RA.out
  obtain ⟨q0, q1, q2, -, -, -⟩ := row3_facts RB.out
  rw [hW1] at p0 p1 p2 q0 q1 q2
  by_cases hp : PmAns A B m
  case neg =>
    have D := Lib.hid (dec_false hp)
    have HE := Lib.hid (fibAns_f hp)
    clear hp
    go_enter Try.func31, Try.ntmps31
    go_wp2_with fail
    rw [← hW1]
    clear hW1 p0 p1 p2 q0 q1 q2
    (with_reducible refine (coAsked_any (HA.out.ext EW.out) (HB.out.ext EW.out) (HF.out.ext EW.out)).mono ?_)
    rintro e w1 ⟨rfl, hx1⟩
    have K1 := Lib.hid (EW.out.trans' hx1)
    rw [D.out]
    clear hx1
    go_wp2
    go_ret2
    exact ⟨_, [], ret_mb D.out.symm, K1.out, by rw [HE.out]; exact own_nilII _, Fresh.nil _⟩
  have D := Lib.hid (dec_true hp)
  have HE := Lib.hid (fibAns_t hp)
  have HP := Lib.hid hp
  obtain ⟨h1, h2, h3⟩ := fib_small hp
  clear hp
  go_enter Try.func31, Try.ntmps31
  go_wp2_with fail
  rw [← hW1]
  clear hW1 p0 p1 p2 q0 q1 q2
  (with_reducible refine (coAsked_any (HA.out.ext EW.out) (HB.out.ext EW.out) (HF.out.ext EW.out)).mono ?_)
  rintro e w1 ⟨rfl, hx1⟩
  have K1 := Lib.hid (EW.out.trans' hx1)
  rw [D.out]
  obtain ⟨q0, q1, q2, -, -, -⟩ := row3_facts (row_ext RB.out hx1)
  clear hx1
  go_wp2_with fail
  (with_reducible refine (coFibres_any (HB.out.ext K1.out) (HF.out.ext K1.out) (pm_in HP.out.ok) (by omega) (by omega)).mono ?_)
  rintro e w2 ⟨ra, rc, bs, rfl, hx2, ho, hfr⟩
  have HX := Lib.hid (K1.out.trans' hx2)
  have HO := Lib.hid ho
  have HFR := Lib.hid (hfr.of K1.out.size)
  clear hx2 ho hfr q0 q1 q2
  go_wp2
  go_ret2
  exact ⟨_, bs, ret_mb D.out.symm, HX.out, by rw [HE.out]; exact HO.out, HFR.out⟩

/-- Each node is an image. -/
def Onto (B : Net) (m : List Int) : Prop := ∀ z, z < B.ends.length → 0 < (fib m (z : Int)).length
/-- A row of a list of lists. -/
theorem ii_row {w : World} {a : Option Addr} {n c : Nat} {l : List (List Int)} (h : IntSS w (.slice a n c) l) {k : Nat} (hk : k < l.length) : ∃ b o ra rc, a = some ⟨b, o, none⟩ ∧ w.cell? ⟨b, o + k, none⟩ = some (.slice ra (gr l k).length rc) ∧ IntSl w (.slice ra (gr l k).length rc) (gr l k) := by
  obtain ⟨a', b, o, c', e, ha, -, -, hc⟩ := h
  simp only [Value.slice.injEq] at e
  obtain ⟨rfl, -, rfl⟩ := e
  obtain ⟨x, h1, h2⟩ := hc k hk
  have h3 := h2
  obtain ⟨ra, rb, ro, rc, rfl, -⟩ := h2
  exact ⟨b, o, ra, rc, ha (by omega), h1, h3⟩
theorem ii_len {w : World} {a : Option Addr} {n c : Nat} {l : List (List Int)} (h : IntSS w (.slice a n c) l) : n = l.length ∧ c ≤ maxLen ∧ n ≤ c := by
  obtain ⟨a', b, o, c', e, ha, h1, h2, hc⟩ := h
  simp only [Value.slice.injEq] at e
  obtain ⟨-, rfl, rfl⟩ := e
  exact ⟨rfl, h2, h1⟩

set_option maxHeartbeats 3200000 in
set_option maxRecDepth 100000 in
theorem coOnto_any {w : World} {vb vm : Value} {B : Net} {m : List Int} (h : NetAt w vb B) (hf : IntSl w vm m) (hin : ImIn m B.ends.length) (hm20 : m.length ≤ 1048576) (hb20 : B.ends.length ≤ 1048576) :
    Calls Try.prog 80 #[vb, vm] w fun e w' => e = .returned (.bool (dec (Onto B m))) ∧ Ext w w' := by
  have HB := Lib.hid h
  have HF := Lib.hid hf
  have HIN := Lib.hid hin
  have HM20 := Lib.hid hm20
  clear hf hin hm20
  obtain ⟨u0, u1, u2, rfl, -, -, -⟩ := h
  have EX := Lib.hid (boxed_ext w u0 u1 u2 29)
  obtain ⟨p0, p1, p2, -, -, -⟩ := row3_facts (boxed_row w u0 u1 u2 29)
  go_enter Try.func80, Try.ntmps80
  go_wp2_with fail
  clear p0 p1 p2
  (with_reducible refine (coFibres_any (HB.out.ext EX.out) (HF.out.ext EX.out) HIN.out HM20.out hb20).mono ?_)
  rintro e w1 ⟨ra, rc, bs, rfl, hx1, ho, -⟩
  have K1 := Lib.hid (EX.out.trans' hx1)
  have HO := Lib.hid ho.read
  clear hx1 ho
  obtain ⟨-, hrc, hrn⟩ := ii_len HO.out
  unfold maxLen at hrc
  go_wp2_with fail
  go_loopg [11] B.ends.length (fun g i wr => ∃ k : Nat, k ≤ B.ends.length ∧ g = B.ends.length - k ∧ i = .int .i64 k ∧ Hid (Ext w1 wr ∧ ∀ z, z < k → 0 < (fib m (z : Int)).length))
  case atStart => exact ⟨0, Nat.zero_le _, rfl, rfl, Ext.rfl' _, fun z hz => absurd hz (by omega)⟩
  case round =>
    obtain ⟨k, hk, rfl, rfl, Hr⟩ := hrel
    by_cases hlt : k < B.ends.length
    · obtain ⟨b, o, qa, qc, rfl, hq, -⟩ := ii_row HO.out (k := k) (by rw [length_fibs]; exact hlt)
      rw [gr_fibs _ _ _ hlt] at hq
      have c1 := Hr.out.1.cell' hq
      clear hq
      by_cases h0 : (fib m (k : Int)).length = 0
      · have hb0 : (((fib m (k : Int)).length : Int) == 0) = true := by simp [h0]
        have E := Lib.hid (dec_false (p := Onto B m) fun h => by have := h k hlt; omega)
        clear h0
        go_wp2
        go_ret
        exact ⟨ret_bool E.out.symm, K1.out.trans' Hr.out.1⟩
      · have hb0 : (((fib m (k : Int)).length : Int) == 0) = false := beq_eq_false_iff_ne.2 (by omega)
        have H0 := Lib.hid (show 0 < (fib m (k : Int)).length by omega)
        clear h0
        go_wp2
        go_roundg (B.ends.length - (k + 1))
        case measure => omega
        case rel =>
          refine ⟨k + 1, by omega, rfl, by go_num, Hr.out.1, fun z hz => ?_⟩
          by_cases e : z = k
          · subst e; exact H0.out
          · exact Hr.out.2 z (by omega)
    · obtain rfl : k = B.ends.length := by omega
      have E := Lib.hid (dec_true (p := Onto B m) Hr.out.2)
      go_wp2
      go_ret
      exact ⟨ret_bool E.out.symm, K1.out.trans' Hr.out.1⟩

def AllSame (B : Net) (m : List Int) : Prop := ∀ z, z < B.ends.length → (fib m (z : Int)).length = (fib m 0).length
def ShB (A B : Net) (m : List Int) : Prop := PmAns A B m ∧ AllSame B m
noncomputable def shAns (A B : Net) (m : List Int) : Int := if dec (ShB A B m) = true then ((fib m 0).length : Int) else 0
theorem shAns_t {A B : Net} {m : List Int} (h : ShB A B m) : shAns A B m = ((fib m 0).length : Int) := by unfold shAns; rw [if_pos (dec_true h)]
theorem shAns_f {A B : Net} {m : List Int} (h : ¬ ShB A B m) : shAns A B m = 0 := by unfold shAns; rw [if_neg (by rw [dec_false h]; simp)]
theorem ret_ib {x y : Int} {b c : Bool} (h0 : x = y) (h : b = c) : Ending.returned (.tuple #[.int .i64 x, .bool b]) = .returned (.tuple #[.int .i64 y, .bool c]) := by rw [h0, h]
set_option maxHeartbeats 3200000 in
set_option maxRecDepth 100000 in
theorem sheetsOf_any {w : World} {va vb vm : Value} {A B : Net} {m : List Int} (h : NetAt w va A) (k : NetAt w vb B) (hf : IntSl w vm m) :
    Calls Try.prog 38 #[va, vb, vm] w fun e w' => e = .returned (.tuple #[.int .i64 (shAns A B m), .bool (dec (ShB A B m))]) ∧ Ext w w' := by
  have HA := Lib.hid h
  have HB := Lib.hid k
  have HF := Lib.hid hf
  obtain ⟨v0, v1, v2, rfl, -, -, -⟩ := h
  obtain ⟨u0, u1, u2, rfl, -, -, -⟩ := k
  clear hf
  obtain ⟨W1, hW1⟩ : ∃ W1, W1 = (w.alloc (.cells #[v0, v1, v2] 29)).alloc (.cells #[u0, u1, u2] 29) := ⟨_, rfl⟩
  have EW := Lib.hid (show Ext w W1 by rw [hW1]; exact (boxed_ext _ _ _ _ _).trans' (boxed_ext _ _ _ _ _))
  have RA := Lib.hid (show W1.rowIs w.heap.size 29 3 (tri v0 v1 v2) by rw [hW1]; exact (boxed_row _ _ _ _ _).alloc _)
  have RB := Lib.hid (show W1.rowIs (w.heap.size + 1) 29 3 (tri u0 u1 u2) by rw [hW1]; simpa using boxed_row (boxed w v0 v1 v2 29) u0 u1 u2 29)
  obtain ⟨p0, p1, p2, -, -, -⟩ := row3_facts RA.out
  obtain ⟨q0, q1, q2, -, -, -⟩ := row3_facts RB.out
  rw [hW1] at p0 p1 p2 q0 q1 q2
  by_cases hp : PmAns A B m
  case neg =>
    have D := Lib.hid (dec_false hp)
    have E := Lib.hid (show ¬ ShB A B m from fun h => hp h.1)
    clear hp
    go_enter Try.func38, Try.ntmps38
    go_wp2_with fail
    rw [← hW1]
    clear hW1 p0 p1 p2 q0 q1 q2
    (with_reducible refine (fibresOf_any (HA.out.ext EW.out) (HB.out.ext EW.out) (HF.out.ext EW.out)).mono ?_)
    rintro e w1 ⟨v', bs, rfl, hx1, -, -⟩
    have K1 := Lib.hid (EW.out.trans' hx1)
    rw [D.out]
    clear hx1
    go_wp2
    go_ret2
    exact ⟨ret_ib (shAns_f E.out).symm (dec_false E.out).symm, K1.out⟩
  have D := Lib.hid (dec_true hp)
  have HE := Lib.hid (fibAns_t hp)
  have HP := Lib.hid hp
  obtain ⟨h1, h2, h3⟩ := fib_small hp
  clear hp
  go_enter Try.func38, Try.ntmps38
  go_wp2_with fail
  rw [← hW1]
  clear hW1 p0 p1 p2 q0 q1 q2
  (with_reducible refine (fibresOf_any (HA.out.ext EW.out) (HB.out.ext EW.out) (HF.out.ext EW.out)).mono ?_)
  rintro e w1 ⟨v', bs, rfl, hx1, ho, -⟩
  have K1 := Lib.hid (EW.out.trans' hx1)
  rw [D.out]
  rw [HE.out] at ho
  have ho' := ho.read
  obtain ⟨ra, rb, ro, rc, rfl, hrest⟩ := ho'
  clear hrest
  have HO := Lib.hid ho.read
  rw [length_fibs] at HO
  clear hx1 ho
  rw [length_fibs]
  obtain ⟨-, hrc, hrn⟩ := ii_len HO.out
  unfold maxLen at hrc
  obtain ⟨b0, o0, a0, c0, rfl, hq0, -⟩ := ii_row HO.out (k := 0) (by rw [length_fibs]; omega)
  rw [gr_fibs _ _ _ h3, show ((0 : Nat) : Int) = 0 from rfl] at hq0
  rw [Nat.add_zero] at hq0
  have C0 := Lib.hid hq0
  have hf0 : (fib m 0).length ≤ 40 := by have := fibTo_len m 0 m.length; unfold fib; omega
  clear hq0
  have c0' := C0.out
  go_wp2_with fail
  clear c0'
  go_loopg [28] B.ends.length (fun g i wr => ∃ k : Nat, k ≤ B.ends.length ∧ g = B.ends.length - k ∧ i = .int .i64 k ∧ Hid (Ext w1 wr ∧ ∀ z, z < k → (fib m (z : Int)).length = (fib m 0).length))
  case atStart => exact ⟨0, Nat.zero_le _, rfl, rfl, Ext.rfl' _, fun z hz => absurd hz (by omega)⟩
  case round =>
    obtain ⟨k, hk, rfl, rfl, Hr⟩ := hrel
    have c2 := Hr.out.1.cell' C0.out
    by_cases hlt : k < B.ends.length
    · obtain ⟨b, o, qa, qc, hae, hq, -⟩ := ii_row HO.out (k := k) (by rw [length_fibs]; exact hlt)
      simp only [Option.some.injEq, Addr.mk.injEq] at hae
      obtain ⟨rfl, rfl, -⟩ := hae
      rw [gr_fibs _ _ _ hlt] at hq
      have c1 := Hr.out.1.cell' hq
      have hfk : (fib m (k : Int)).length ≤ 40 := by have := fibTo_len m (k : Int) m.length; unfold fib; omega
      clear hq
      by_cases h0 : (fib m (k : Int)).length = (fib m 0).length
      · have hb0 : (((fib m (k : Int)).length : Int) != ((fib m 0).length : Int)) = false := by simp; omega
        have H0 := Lib.hid h0
        clear h0
        go_wp2
        go_roundg (B.ends.length - (k + 1))
        case measure => omega
        case rel =>
          refine ⟨k + 1, by omega, rfl, by go_num, Hr.out.1, fun z hz => ?_⟩
          by_cases e : z = k
          · subst e; exact H0.out
          · exact Hr.out.2 z (by omega)
      · have hb0 : (((fib m (k : Int)).length : Int) != ((fib m 0).length : Int)) = true := by simp; omega
        have E := Lib.hid (show ¬ ShB A B m from fun h => h0 (h.2 k hlt))
        clear h0
        go_wp2
        go_ret2
        exact ⟨ret_ib (shAns_f E.out).symm (dec_false E.out).symm, K1.out.trans' Hr.out.1⟩
    · obtain rfl : k = B.ends.length := by omega
      have E := Lib.hid (show ShB A B m from ⟨HP.out, Hr.out.2⟩)
      go_wp2
      go_ret2
      exact ⟨ret_ib (shAns_t E.out).symm (dec_true E.out).symm, K1.out.trans' Hr.out.1⟩
set_option maxHeartbeats 3200000 in
set_option maxRecDepth 100000 in
theorem specSheetsOf_any {w : World} {va vb vm : Value} {A B : Net} {m : List Int} (h : NetAt w va A) (k : NetAt w vb B) (hf : IntSl w vm m) :
    Calls Try.prog 37 #[va, vb, vm] w fun e w' => e = .returned (.tuple #[.int .i64 (shAns A B m), .bool (dec (ShB A B m))]) ∧ Ext w w' := by
  have HA := Lib.hid h
  have HB := Lib.hid k
  have HF := Lib.hid hf
  obtain ⟨v0, v1, v2, rfl, -, -, -⟩ := h
  obtain ⟨u0, u1, u2, rfl, -, -, -⟩ := k
  clear hf
  obtain ⟨W1, hW1⟩ : ∃ W1, W1 = (w.alloc (.cells #[v0, v1, v2] 29)).alloc (.cells #[u0, u1, u2] 29) := ⟨_, rfl⟩
  have EW := Lib.hid (show Ext w W1 by rw [hW1]; exact (boxed_ext _ _ _ _ _).trans' (boxed_ext _ _ _ _ _))
  have RA := Lib.hid (show W1.rowIs w.heap.size 29 3 (tri v0 v1 v2) by rw [hW1]; exact (boxed_row _ _ _ _ _).alloc _)
  have RB := Lib.hid (show W1.rowIs (w.heap.size + 1) 29 3 (tri u0 u1 u2) by rw [hW1]; simpa using boxed_row (boxed w v0 v1 v2 29) u0 u1 u2 29)
  obtain ⟨p0, p1, p2, -, -, -⟩ := row3_facts RA.out
  obtain ⟨q0, q1, q2, -, -, -⟩ := row3_facts RB.out
  rw [hW1] at p0 p1 p2 q0 q1 q2
  by_cases hp : PmAns A B m
  case neg =>
    have D := Lib.hid (dec_false hp)
    have E := Lib.hid (show ¬ ShB A B m from fun h => hp h.1)
    clear hp
    go_enter Try.func37, Try.ntmps37
    go_wp2_with fail
    rw [← hW1]
    clear hW1 p0 p1 p2 q0 q1 q2
    (with_reducible refine (coAsked_any (HA.out.ext EW.out) (HB.out.ext EW.out) (HF.out.ext EW.out)).mono ?_)
    rintro e w1 ⟨rfl, hx1⟩
    have K1 := Lib.hid (EW.out.trans' hx1)
    rw [D.out]
    clear hx1
    go_wp2
    go_ret2
    exact ⟨ret_ib (shAns_f E.out).symm (dec_false E.out).symm, K1.out⟩
  have D := Lib.hid (dec_true hp)
  have HP := Lib.hid hp
  obtain ⟨h1, h2, h3⟩ := fib_small hp
  clear hp
  go_enter Try.func37, Try.ntmps37
  go_wp2_with fail
  rw [← hW1]
  clear hW1 p0 p1 p2 q0 q1 q2
  (with_reducible refine (coAsked_any (HA.out.ext EW.out) (HB.out.ext EW.out) (HF.out.ext EW.out)).mono ?_)
  rintro e w0 ⟨rfl, hx1⟩
  have K0 := Lib.hid (EW.out.trans' hx1)
  rw [D.out]
  obtain ⟨q0, q1, q2, -, -, -⟩ := row3_facts (row_ext RB.out hx1)
  clear hx1
  go_wp2_with fail
  (with_reducible refine (coFibres_any (HB.out.ext K0.out) (HF.out.ext K0.out) (pm_in HP.out.ok) (by omega) (by omega)).mono ?_)
  rintro e w1 ⟨ra, rc, bs, rfl, hx2, ho, -⟩
  have K1 := Lib.hid (K0.out.trans' hx2)
  have HO := Lib.hid ho.read
  clear hx2 ho q0 q1 q2
  obtain ⟨-, hrc, hrn⟩ := ii_len HO.out
  unfold maxLen at hrc
  obtain ⟨b0, o0, a0, c0, rfl, hq0, -⟩ := ii_row HO.out (k := 0) (by rw [length_fibs]; omega)
  rw [gr_fibs _ _ _ h3, show ((0 : Nat) : Int) = 0 from rfl] at hq0
  rw [Nat.add_zero] at hq0
  have C0 := Lib.hid hq0
  have hf0 : (fib m 0).length ≤ 40 := by have := fibTo_len m 0 m.length; unfold fib; omega
  clear hq0
  have c0' := C0.out
  go_wp2_with fail
  clear c0'
  go_loopg [21] B.ends.length (fun g i wr => ∃ k : Nat, k ≤ B.ends.length ∧ g = B.ends.length - k ∧ i = .int .i64 k ∧ Hid (Ext w1 wr ∧ ∀ z, z < k → (fib m (z : Int)).length = (fib m 0).length))
  case atStart => exact ⟨0, Nat.zero_le _, rfl, rfl, Ext.rfl' _, fun z hz => absurd hz (by omega)⟩
  case round =>
    obtain ⟨k, hk, rfl, rfl, Hr⟩ := hrel
    have c2 := Hr.out.1.cell' C0.out
    by_cases hlt : k < B.ends.length
    · obtain ⟨b, o, qa, qc, hae, hq, -⟩ := ii_row HO.out (k := k) (by rw [length_fibs]; exact hlt)
      simp only [Option.some.injEq, Addr.mk.injEq] at hae
      obtain ⟨rfl, rfl, -⟩ := hae
      rw [gr_fibs _ _ _ hlt] at hq
      have c1 := Hr.out.1.cell' hq
      have hfk : (fib m (k : Int)).length ≤ 40 := by have := fibTo_len m (k : Int) m.length; unfold fib; omega
      clear hq
      by_cases h0 : (fib m (k : Int)).length = (fib m 0).length
      · have hb0 : (((fib m (k : Int)).length : Int) != ((fib m 0).length : Int)) = false := by simp; omega
        have H0 := Lib.hid h0
        clear h0
        go_wp2
        go_roundg (B.ends.length - (k + 1))
        case measure => omega
        case rel =>
          refine ⟨k + 1, by omega, rfl, by go_num, Hr.out.1, fun z hz => ?_⟩
          by_cases e : z = k
          · subst e; exact H0.out
          · exact Hr.out.2 z (by omega)
      · have hb0 : (((fib m (k : Int)).length : Int) != ((fib m 0).length : Int)) = true := by simp; omega
        have E := Lib.hid (show ¬ ShB A B m from fun h => h0 (h.2 k hlt))
        clear h0
        go_wp2
        go_ret2
        exact ⟨ret_ib (shAns_f E.out).symm (dec_false E.out).symm, K1.out.trans' Hr.out.1⟩
    · obtain rfl : k = B.ends.length := by omega
      have E := Lib.hid (show ShB A B m from ⟨HP.out, Hr.out.2⟩)
      go_wp2
      go_ret2
      exact ⟨ret_ib (shAns_t E.out).symm (dec_true E.out).symm, K1.out.trans' Hr.out.1⟩
theorem sheetsOfL_any {w : World} {va vb vm : Value} {A B : Net} {m : List Int} (h : NetAt w va A) (k : NetAt w vb B) (hf : IntSl w vm m) (_ : m.length ≤ 1048576) :
    Calls Try.prog 38 #[va, vb, vm] w fun e w' => e = .returned (.tuple #[.int .i64 (shAns A B m), .bool (dec (ShB A B m))]) ∧ Ext w w' := sheetsOf_any h k hf
theorem specSheetsOfL_any {w : World} {va vb vm : Value} {A B : Net} {m : List Int} (h : NetAt w va A) (k : NetAt w vb B) (hf : IntSl w vm m) (_ : m.length ≤ 1048576) :
    Calls Try.prog 37 #[va, vb, vm] w fun e w' => e = .returned (.tuple #[.int .i64 (shAns A B m), .bool (dec (ShB A B m))]) ∧ Ext w w' := specSheetsOf_any h k hf
theorem fibresOfL_any {w : World} {va vb vm : Value} {A B : Net} {m : List Int} (h : NetAt w va A) (k : NetAt w vb B) (hf : IntSl w vm m) (_ : m.length ≤ 1048576) :
    Calls Try.prog 32 #[va, vb, vm] w fun e w' => ∃ v' bs, e = .returned (.tuple #[v', .bool (dec (PmAns A B m))]) ∧ Ext w w' ∧ OwnII w' v' (fibAns A B m) bs ∧ Fresh w bs := fibresOf_any h k hf
theorem specFibresOfL_any {w : World} {va vb vm : Value} {A B : Net} {m : List Int} (h : NetAt w va A) (k : NetAt w vb B) (hf : IntSl w vm m) (_ : m.length ≤ 1048576) :
    Calls Try.prog 31 #[va, vb, vm] w fun e w' => ∃ v' bs, e = .returned (.tuple #[v', .bool (dec (PmAns A B m))]) ∧ Ext w w' ∧ OwnII w' v' (fibAns A B m) bs ∧ Fresh w bs := specFibresOf_any h k hf
end Go.Proofs.Ytgacbfblpkikkaa
