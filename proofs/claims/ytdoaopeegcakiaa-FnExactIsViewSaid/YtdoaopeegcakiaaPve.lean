/- The contracts of the model's digit and sign. -/
import Derived.Test.YtdoaopeegcakiaaPvc
namespace Go.Proofs.Ytdoaopeegcakiaa
open Go.RowKit

/-- The model's reader: the text, the place, whether all was well. -/
def RdAt (w : World) (xb : Nat) (B : Bs) (p : Nat) (k : Bool) : Prop := w.rowIs xb 121 3 (tri (.string (bs B)) (.int .i64 p) (.bool k))
theorem Chg.drewN' {a b : World} {bs : List Nat} (h : Chg a b bs) (n : Nat) : Chg a (b.drewN n) bs := ⟨h.os, h.tape, h.output, h.size, h.block⟩
theorem RdAt.drewN' {w : World} {xb p : Nat} {B : Bs} {k : Bool} (h : RdAt w xb B p k) (n : Nat) : RdAt (w.drewN n) xb B p k := h
theorem drop_cons {B : Bs} {p : Nat} (h : p < B.length) : B.drop p = bat B p :: B.drop (p + 1) := by
  rw [List.drop_eq_getElem_cons h]; simp [bat, List.getD, h]
theorem drop_end {B : Bs} {p : Nat} (h : ¬ p < B.length) : B.drop p = [] := List.drop_eq_nil_of_le (by omega)
theorem ret_int {x y : Int} (h : x = y) : Ending.returned (.int .i64 x) = .returned (.int .i64 y) := by rw [h]

/-- What is known behind a digit, a mark: the place goes on by at most one. -/
def Went (w w' : World) (xb : Nat) (B : Bs) (p p' : Nat) (k' : Bool) : Prop := Chg w w' [xb] ∧ RdAt w' xb B p' k' ∧ p ≤ p' ∧ p' ≤ B.length ∧ p' ≤ p + 1 ∧ w'.heap.size = w.heap.size

theorem setCell_size (w : World) (a : Addr) (v : Value) : (w.setCell a v).heap.size = w.heap.size := by simp [World.setCell]

set_option maxHeartbeats 1600000 in
set_option maxRecDepth 100000 in
theorem digit_any {w : World} {xb p : Nat} {B : Bs} {k : Bool} (most : Nat) (hm : most ≤ 9) (h : RdAt w xb B p k) (hp : p ≤ B.length) (hl : B.length ≤ 4000) :
    Calls Try.prog 123 #[.pointer (some ⟨xb, 0, none⟩), .int .i64 most] w fun e w' => ∃ (x : Int) (p' : Nat) (k' : Bool), e = .returned (.int .i64 x) ∧ Went w w' xb B p p' k' ∧ 0 ≤ x ∧ x ≤ 9 ∧ (k' = true → k = true ∧ tkD 0 most (B.drop p) = some (x, B.drop p')) ∧ (k' = false → k = true → tkD 0 most (B.drop p) = none) := by
  have hsz := bs_size B
  have hg := bs_get B
  have HR := Lib.hid h
  obtain ⟨p0, p1, p2, f0, f1, f2⟩ := row3_facts h
  clear h
  by_cases hlt : p < B.length
  case neg =>
    have e1 : ((p : Int) == (B.length : Int)) = true := by simp; omega
    have T := Lib.hid (show tkD 0 most (B.drop p) = none by rw [drop_end hlt]; rfl)
    clear hlt
    go_enter Try.func123, Try.ntmps123
    go_wp2
    go_quiet (fail)
    go_wp2
    go_ret
    exact ⟨0, p, false, rfl, ⟨((Chg.rfl' _ _).drewN' _).store (by simp) _, row3_set2 (HR.out.drewN' _) _, Nat.le_refl _, hp, by omega, setCell_size _ _ _⟩, by omega, by omega, fun h => (by cases h), fun _ _ => T.out⟩
  have e1 : ((p : Int) == (B.length : Int)) = false := by simp; omega
  have hc := (bat B p).toNat_lt
  obtain ⟨c, hcc⟩ : ∃ c, c = (bat B p).toNat := ⟨_, rfl⟩
  have hb : ((bat B p).toNat : Int) = (c : Int) := by omega
  rw [← hcc] at hc
  have T := Lib.hid (show tkD 0 most (B.drop p) = if 48 ≤ c ∧ c ≤ 48 + most then some ((c : Int) - 48, B.drop (p + 1)) else none by
    rw [drop_cons hlt]
    simp only [tkD, dgv, ← hcc]
    by_cases h : 48 ≤ c ∧ c ≤ 48 + most
    · rw [if_pos h, if_pos ⟨by omega, by omega⟩]
    · rw [if_neg h, if_neg fun k => h ⟨by omega, by omega⟩])
  clear hcc
  by_cases h48 : 48 ≤ c
  case neg =>
    have e2 : decide ((c : Int) < 48) = true := decide_eq_true (by omega)
    have HN := Lib.hid (show ¬ (48 ≤ c ∧ c ≤ 48 + most) from fun k => h48 k.1)
    clear h48
    go_enter Try.func123, Try.ntmps123
    go_wp2
    go_quiet (fail)
    go_wp2
    go_ret
    exact ⟨0, p, false, rfl, ⟨((Chg.rfl' _ _).drewN' _).store (by simp) _, row3_set2 (HR.out.drewN' _) _, Nat.le_refl _, hp, by omega, setCell_size _ _ _⟩, by omega, by omega, fun h => (by cases h), fun _ _ => by rw [T.out, if_neg HN.out]⟩
  have e2 : decide ((c : Int) < 48) = false := decide_eq_false (by omega)
  obtain ⟨q, hq⟩ : ∃ q, q = c - 48 := ⟨_, rfl⟩
  have e3 : (c : Int) - 48 = (q : Int) := by omega
  have hq2 : q < 208 := by omega
  by_cases hmo : q ≤ most
  case neg =>
    have h5 : most < q := by omega
    have HN := Lib.hid (show ¬ (48 ≤ c ∧ c ≤ 48 + most) from fun k => hmo (by omega))
    clear hmo hq
    go_enter Try.func123, Try.ntmps123
    go_wp2
    go_quiet (fail)
    go_wp2
    go_ret
    exact ⟨0, p, false, rfl, ⟨((Chg.rfl' _ _).drewN' _).store (by simp) _, row3_set2 (HR.out.drewN' _) _, Nat.le_refl _, hp, by omega, setCell_size _ _ _⟩, by omega, by omega, fun h => (by cases h), fun _ _ => by rw [T.out, if_neg HN.out]⟩
  have h5 : ¬ most < q := by omega
  have HY := Lib.hid (show 48 ≤ c ∧ c ≤ 48 + most from ⟨h48, by omega⟩)
  have hq9 : q ≤ 9 := by omega
  have HE3 := Lib.hid e3
  have S1 := Lib.hid (row3_set1 HR.out (.int .i64 ((p : Int) + 1)))
  obtain ⟨s0, s1, s2, -, -, -⟩ := row3_facts S1.out
  have e5 : (p : Int) + 1 - 1 = (p : Int) := by omega
  clear hmo hq
  go_enter Try.func123, Try.ntmps123
  go_wp2
  go_quiet (fail)
  go_wp2
  go_quiet (fail)
  go_wp2
  go_ret
  exact ⟨q, p + 1, k, rfl, ⟨(((Chg.rfl' _ _).drewN' _).store (by simp) _).drewN' _, RdAt.drewN' (show RdAt _ xb B (p + 1) k from row3_set1 (HR.out.drewN' _) _) _, by omega, by omega, by omega, setCell_size _ _ _⟩, by omega, by omega, fun h => ⟨h, by rw [T.out, if_pos HY.out, HE3.out]⟩, fun h1 h2 => (by rw [h1] at h2; cases h2)⟩

set_option maxHeartbeats 1600000 in
set_option maxRecDepth 100000 in
theorem sign_any {w : World} {xb p : Nat} {B : Bs} {k : Bool} (b : UInt8) (h : RdAt w xb B p k) (hp : p ≤ B.length) (hl : B.length ≤ 4000) :
    Calls Try.prog 124 #[.pointer (some ⟨xb, 0, none⟩), .int .u8 b.toNat] w fun e w' => ∃ (p' : Nat) (k' : Bool), e = .returned (.tuple #[]) ∧ Went w w' xb B p p' k' ∧ (k' = true → k = true ∧ tkM b (B.drop p) = some (B.drop p')) ∧ (k' = false → k = true → tkM b (B.drop p) = none) := by
  have hsz := bs_size B
  have hg := bs_get B
  have HR := Lib.hid h
  obtain ⟨p0, p1, p2, f0, f1, f2⟩ := row3_facts h
  clear h
  by_cases hlt : p < B.length
  case neg =>
    have e1 : ((p : Int) == (B.length : Int)) = true := by simp; omega
    have T := Lib.hid (show tkM b (B.drop p) = none by rw [drop_end hlt]; rfl)
    clear hlt
    go_enter Try.func124, Try.ntmps124
    go_wp2
    go_quiet (fail)
    go_wp2
    go_returns
    exact ⟨p, false, rfl, ⟨((Chg.rfl' _ _).drewN' _).store (by simp) _, row3_set2 (HR.out.drewN' _) _, Nat.le_refl _, hp, by omega, setCell_size _ _ _⟩, fun h => (by cases h), fun _ _ => T.out⟩
  have e1 : ((p : Int) == (B.length : Int)) = false := by simp; omega
  by_cases hbb : bat B p = b
  case neg =>
    have e2 : (((bat B p).toNat : Int) != (b.toNat : Int)) = true := by
      simp only [bne_iff_ne, ne_eq]; intro e; exact hbb (UInt8.toNat_inj.1 (by omega))
    have T := Lib.hid (show tkM b (B.drop p) = none by rw [drop_cons hlt]; simp only [tkM, if_neg hbb])
    clear hbb
    go_enter Try.func124, Try.ntmps124
    go_wp2
    go_quiet (fail)
    go_wp2
    go_returns
    exact ⟨p, false, rfl, ⟨((Chg.rfl' _ _).drewN' _).store (by simp) _, row3_set2 (HR.out.drewN' _) _, Nat.le_refl _, hp, by omega, setCell_size _ _ _⟩, fun h => (by cases h), fun _ _ => T.out⟩
  have e2 : (((bat B p).toNat : Int) != (b.toNat : Int)) = false := by rw [hbb]; simp
  have T := Lib.hid (show tkM b (B.drop p) = some (B.drop (p + 1)) by rw [drop_cons hlt]; simp only [tkM, if_pos hbb])
  clear hbb
  go_enter Try.func124, Try.ntmps124
  go_wp2
  go_quiet (fail)
  go_wp2
  go_returns
  exact ⟨p + 1, k, rfl, ⟨((Chg.rfl' _ _).drewN' _).store (by simp) _, (row3_set1 (HR.out.drewN' _) _ : RdAt _ xb B (p + 1) k), by omega, by omega, by omega, setCell_size _ _ _⟩, fun h => ⟨h, T.out⟩, fun h1 h2 => (by rw [h1] at h2; cases h2)⟩
end Go.Proofs.Ytdoaopeegcakiaa
