/- The contracts of the model's FibresOf and coOnto, and of SheetsOf. -/
import Derived.Test.YtkpdbceglejbnaaQi
namespace Go.Proofs.Ytkpdbceglejbnaa
open Go.RowKit Go.Maps

theorem PmAns.ok {A B : Net} {m : List Int} (h : PmAns A B m) : PmOK A B m := h.2
theorem PmAns.two {A B : Net} {m : List Int} (h : PmAns A B m) : TwoG A B := h.1
/-- Each node is an image. -/
def Onto (B : Net) (m : List Int) : Prop := ∀ z, z < B.ends.length → 0 < (fib m (z : Int)).length
/-- A row of a list of lists. -/
theorem ii_row {w : World} {a : Option Addr} {n c : Nat} {l : List (List Int)} (h : IntSS w (.slice a n c) l) {k : Nat} (hk : k < l.length) : ∃ b o ra rc, a = some ⟨b, o, none⟩ ∧ w.cell? ⟨b, o + k, none⟩ = some (.slice ra (gr l k).length rc) ∧ IntSl w (.slice ra (gr l k).length rc) (gr l k) := by
  obtain ⟨a', b, o, c', e, ha, -, -, hc⟩ := h
  simp only [Value.slice.injEq] at e
  obtain ⟨rfl, -, rfl⟩ := e
  obtain ⟨x, h1, h2⟩ := hc k hk
  have h3 := h2
  obtain ⟨ra, rb, ro, rc, rfl, -⟩ := h2
  exact ⟨b, o, ra, rc, ha (by omega), h1, h3⟩
theorem ii_len {w : World} {a : Option Addr} {n c : Nat} {l : List (List Int)} (h : IntSS w (.slice a n c) l) : n = l.length ∧ c ≤ maxLen ∧ n ≤ c := by
  obtain ⟨a', b, o, c', e, ha, h1, h2, hc⟩ := h
  simp only [Value.slice.injEq] at e
  obtain ⟨-, rfl, rfl⟩ := e
  exact ⟨rfl, h2, h1⟩

set_option maxHeartbeats 3200000 in
set_option maxRecDepth 100000 in
theorem coOnto_any {w : World} {vb vm : Value} {B : Net} {m : List Int} (h : NetAt w vb B) (hf : IntSl w vm m) (hin : ImIn m B.ends.length) (hm20 : m.length ≤ 1048576) (hb20 : B.ends.length ≤ 1048576) :
    Calls Try.prog 146 #[vb, vm] w fun e w' => e = .returned (.bool (dec (Onto B m))) ∧ Ext w w' := by
  have HB := Lib.hid h
  have HF := Lib.hid hf
  have HIN := Lib.hid hin
  have HM20 := Lib.hid hm20
  clear hf hin hm20
  obtain ⟨u0, u1, u2, rfl, -, -, -⟩ := h
  have EX := Lib.hid (boxed_ext w u0 u1 u2 34)
  obtain ⟨p0, p1, p2, -, -, -⟩ := row3_facts (boxed_row w u0 u1 u2 34)
  go_enter Try.func146, Try.ntmps146
  go_wp2_with fail
  clear p0 p1 p2
  (with_reducible refine (coFibres_any (HB.out.ext EX.out) (HF.out.ext EX.out) HIN.out HM20.out hb20).mono ?_)
  rintro e w1 ⟨ra, rc, bs, rfl, hx1, ho, -⟩
  have K1 := Lib.hid (EX.out.trans' hx1)
  have HO := Lib.hid ho.read
  clear hx1 ho
  obtain ⟨-, hrc, hrn⟩ := ii_len HO.out
  unfold maxLen at hrc
  go_wp2_with fail
  go_loopg [11] B.ends.length (fun g i wr => ∃ k : Nat, k ≤ B.ends.length ∧ g = B.ends.length - k ∧ i = .int .i64 k ∧ Hid (Ext w1 wr ∧ ∀ z, z < k → 0 < (fib m (z : Int)).length))
  case atStart => exact ⟨0, Nat.zero_le _, rfl, rfl, Ext.rfl' _, fun z hz => absurd hz (by omega)⟩
  case round =>
    obtain ⟨k, hk, rfl, rfl, Hr⟩ := hrel
    by_cases hlt : k < B.ends.length
    · obtain ⟨b, o, qa, qc, rfl, hq, -⟩ := ii_row HO.out (k := k) (by rw [length_fibs]; exact hlt)
      rw [gr_fibs _ _ _ hlt] at hq
      have c1 := Hr.out.1.cell' hq
      clear hq
      by_cases h0 : (fib m (k : Int)).length = 0
      · have hb0 : (((fib m (k : Int)).length : Int) == 0) = true := by simp [h0]
        have E := Lib.hid (dec_false (p := Onto B m) fun h => by have := h k hlt; omega)
        clear h0
        go_wp2
        go_ret
        exact ⟨ret_bool E.out.symm, K1.out.trans' Hr.out.1⟩
      · have hb0 : (((fib m (k : Int)).length : Int) == 0) = false := beq_eq_false_iff_ne.2 (by omega)
        have H0 := Lib.hid (show 0 < (fib m (k : Int)).length by omega)
        clear h0
        go_wp2
        go_roundg (B.ends.length - (k + 1))
        case measure => omega
        case rel =>
          refine ⟨k + 1, by omega, rfl, by go_num, Hr.out.1, fun z hz => ?_⟩
          by_cases e : z = k
          · subst e; exact H0.out
          · exact Hr.out.2 z (by omega)
    · obtain rfl : k = B.ends.length := by omega
      have E := Lib.hid (dec_true (p := Onto B m) Hr.out.2)
      go_wp2
      go_ret
      exact ⟨ret_bool E.out.symm, K1.out.trans' Hr.out.1⟩

def AllSame (B : Net) (m : List Int) : Prop := ∀ z, z < B.ends.length → (fib m (z : Int)).length = (fib m 0).length
def ShB (A B : Net) (m : List Int) : Prop := PmAns A B m ∧ AllSame B m
noncomputable def shAns (A B : Net) (m : List Int) : Int := if dec (ShB A B m) = true then ((fib m 0).length : Int) else 0
theorem shAns_t {A B : Net} {m : List Int} (h : ShB A B m) : shAns A B m = ((fib m 0).length : Int) := by unfold shAns; rw [if_pos (dec_true h)]
theorem shAns_f {A B : Net} {m : List Int} (h : ¬ ShB A B m) : shAns A B m = 0 := by unfold shAns; rw [if_neg (by rw [dec_false h]; simp)]
theorem ret_ib {x y : Int} {b c : Bool} (h0 : x = y) (h : b = c) : Ending.returned (.tuple #[.int .i64 x, .bool b]) = .returned (.tuple #[.int .i64 y, .bool c]) := by rw [h0, h]
end Go.Proofs.Ytkpdbceglejbnaa
