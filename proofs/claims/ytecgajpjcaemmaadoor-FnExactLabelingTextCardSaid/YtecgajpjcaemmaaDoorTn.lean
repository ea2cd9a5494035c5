/- Plain mathematics of texts: decimal numerals, what stands before and behind a byte, pieces between bytes. No condition. -/
import Derived.Lib.ItoaNum
import Derived.Lib.AtoiAll
import Derived.Lib.Split
import Derived.Lib.SplitLaws
import Derived.Lib.Join
namespace Go.Proofs.YtecgajpjcaemmaaDoor

abbrev Bs := List UInt8
def isDig (b : UInt8) : Prop := 48 ≤ b.toNat ∧ b.toNat ≤ 57
def valN : Nat → Bs → Nat
  | a, [] => a
  | a, b :: r => valN (10 * a + (b.toNat - 48)) r
theorem valN_snoc (l : Bs) (d : UInt8) : ∀ a, valN a (l ++ [d]) = 10 * valN a l + (d.toNat - 48) := by
  induction l with
  | nil => intro a; rfl
  | cons b r ih => intro a; exact ih _

/-- A decimal number of at most six digits without leading zeros. -/
def NumOK (l : Bs) : Prop := (1 ≤ l.length ∧ l.length ≤ 6) ∧ ¬ (l.getD 0 0 = 48 ∧ 1 < l.length) ∧ ∀ b ∈ l, isDig b

theorem dig_of (d : Nat) (h : d < 10) : (UInt8.ofNat (48 + d)).toNat = 48 + d := by simp; omega
theorem dig_back (b : UInt8) (h : isDig b) : UInt8.ofNat (48 + (b.toNat - 48)) = b := by
  unfold isDig at h
  rw [show 48 + (b.toNat - 48) = b.toNat by omega]; simp
theorem dec_all (n : Nat) : ∀ b ∈ Go.Lib.decDigits n, isDig b := by
  induction n using Nat.strongRecOn with
  | _ n ih =>
    by_cases h : n < 10
    · rw [Go.Lib.decDigits, dif_pos h]; intro b hb
      simp only [List.mem_singleton] at hb; subst hb
      unfold isDig; rw [dig_of n h]; omega
    · rw [Go.Lib.decDigits, dif_neg h]; intro b hb
      rcases List.mem_append.1 hb with h1 | h1
      · exact ih (n / 10) (by omega) b h1
      · simp only [List.mem_singleton] at h1; subst h1
        unfold isDig; rw [dig_of _ (by omega)]; omega
theorem dec_val (n : Nat) : valN 0 (Go.Lib.decDigits n) = n := by
  induction n using Nat.strongRecOn with
  | _ n ih =>
    by_cases h : n < 10
    · rw [Go.Lib.decDigits, dif_pos h]
      show 10 * 0 + ((UInt8.ofNat (48 + n)).toNat - 48) = n
      rw [dig_of n h]; omega
    · rw [Go.Lib.decDigits, dif_neg h, valN_snoc, ih (n / 10) (by omega), dig_of _ (by omega)]; omega
theorem dec_pos (n : Nat) : 1 ≤ (Go.Lib.decDigits n).length := by rw [Go.Lib.decDigits_length]; exact Go.Lib.nDigits_pos n
theorem dec_ne (n : Nat) : Go.Lib.decDigits n ≠ [] := by have := dec_pos n; intro h; rw [h] at this; simp at this
theorem getD_app (l m : Bs) (i : Nat) (h : i < l.length) : (l ++ m).getD i 0 = l.getD i 0 := by simp [List.getD, List.getElem?_append, h]
theorem dec_head (n : Nat) (h1 : 1 ≤ n) : (Go.Lib.decDigits n).getD 0 0 ≠ 48 := by
  induction n using Nat.strongRecOn with
  | _ n ih =>
    by_cases h : n < 10
    · rw [Go.Lib.decDigits, dif_pos h]
      simp only [List.getD_cons_zero]
      intro e
      have := congrArg UInt8.toNat e
      rw [dig_of n h] at this
      have h48 : (48 : UInt8).toNat = 48 := rfl
      omega
    · rw [Go.Lib.decDigits, dif_neg h]
      have hp := dec_pos (n / 10)
      have := ih (n / 10) (by omega) (by omega)
      rwa [getD_app _ _ _ (by omega)]
theorem nDigits_six (n : Nat) (h : n ≤ 999999) : Go.Lib.nDigits n ≤ 6 := by
  by_cases h0 : n < 10
  · rw [Go.Lib.nDigits_small h0]; omega
  by_cases h1 : n < 100
  · rw [Go.Lib.nDigits_unique 1 n (by omega) (by omega)]; omega
  by_cases h2 : n < 1000
  · rw [Go.Lib.nDigits_unique 2 n (by omega) (by omega)]; omega
  by_cases h3 : n < 10000
  · rw [Go.Lib.nDigits_unique 3 n (by omega) (by omega)]; omega
  by_cases h4 : n < 100000
  · rw [Go.Lib.nDigits_unique 4 n (by omega) (by omega)]; omega
  · rw [Go.Lib.nDigits_unique 5 n (by omega) (by omega)]; omega
theorem dec_len6 (n : Nat) (h : n ≤ 999999) : (Go.Lib.decDigits n).length ≤ 6 := by rw [Go.Lib.decDigits_length]; exact nDigits_six n h
theorem dec_ok (n : Nat) (h : n ≤ 999999) : NumOK (Go.Lib.decDigits n) := by
  refine ⟨⟨dec_pos n, dec_len6 n h⟩, fun ⟨h1, h2⟩ => ?_, dec_all n⟩
  by_cases h0 : n = 0
  · subst h0; rw [Go.Lib.decDigits_length, Go.Lib.nDigits_small (by omega)] at h2; omega
  · exact dec_head n (by omega) h1

theorem val_lt (l : Bs) : ∀ a : Nat, (∀ b ∈ l, isDig b) → valN a l < (a + 1) * 10 ^ l.length := by
  induction l with
  | nil =>
    intro a _
    rw [List.length_nil, Nat.pow_zero, Nat.mul_one]
    exact Nat.lt_succ_self a
  | cons b r ih =>
    intro a h
    have hb : 48 ≤ b.toNat ∧ b.toNat ≤ 57 := h b (by simp)
    have h1 := ih (10 * a + (b.toNat - 48)) (fun c hc => h c (by simp [hc]))
    have e : valN a (b :: r) = valN (10 * a + (b.toNat - 48)) r := rfl
    rw [e, List.length_cons, Nat.pow_succ]
    generalize 10 ^ r.length = p at h1 ⊢
    generalize valN (10 * a + (b.toNat - 48)) r = x at h1 ⊢
    have h2 : (10 * a + (b.toNat - 48) + 1) * p ≤ ((a + 1) * 10) * p := Nat.mul_le_mul_right p (by omega)
    have h3 : (a + 1) * (p * 10) = ((a + 1) * 10) * p := by rw [Nat.mul_comm p 10, Nat.mul_assoc]
    omega
theorem pow_six {k : Nat} (h : k ≤ 6) : 10 ^ k ≤ 1000000 := by
  have h1 : 10 ^ k ≤ 10 ^ 6 := Nat.pow_le_pow_right (by omega) h
  have h2 : 10 ^ 6 = 1000000 := by decide
  rw [h2] at h1
  exact h1
theorem num_le {l : Bs} (h : NumOK l) : valN 0 l ≤ 999999 := by
  have h1 := val_lt l 0 h.2.2
  have h2 := pow_six h.1.2
  generalize 10 ^ l.length = p at h1 h2
  generalize valN 0 l = x at h1 ⊢
  omega

/-- A number without leading zeros is the numeral of its value. -/
theorem dec_of (n : Nat) : ∀ l : Bs, l.length = n → 1 ≤ n → ¬ (l.getD 0 0 = 48 ∧ 1 < l.length) → (∀ b ∈ l, isDig b) → Go.Lib.decDigits (valN 0 l) = l ∧ (l.getD 0 0 ≠ 48 → 1 ≤ valN 0 l) := by
  induction n with
  | zero => intro l _ h; omega
  | succ k ih =>
    intro l hl _ hz hd
    rcases List.eq_nil_or_concat l with rfl | ⟨i, d, rfl⟩
    · simp at hl
    · simp only [List.concat_eq_append] at *
      have hdd : isDig d := hd d (by simp)
      have hd9 := hdd
      unfold isDig at hd9
      by_cases hi : i = []
      · subst hi
        have hv : valN 0 ([] ++ [d]) = d.toNat - 48 := by
          show 10 * 0 + (d.toNat - 48) = _
          omega
        rw [hv]
        refine ⟨?_, fun hne => ?_⟩
        · rw [Go.Lib.decDigits, dif_pos (by omega)]
          simp only [List.nil_append, List.cons.injEq, and_true]
          exact dig_back d hdd
        · simp only [List.nil_append, List.getD_cons_zero] at hne
          have : d.toNat ≠ 48 := fun e => hne (UInt8.toNat_inj.1 e)
          omega
      · have hil : 1 ≤ i.length := by cases i with
          | nil => exact absurd rfl hi
          | cons a t => simp
        have hlk : i.length = k := by simpa using hl
        have hg : (i ++ [d]).getD 0 0 = i.getD 0 0 := getD_app _ _ _ (by omega)
        have hne : i.getD 0 0 ≠ 48 := fun e => hz ⟨by rw [hg]; exact e, by simp; omega⟩
        obtain ⟨a1, a2⟩ := ih i hlk (by omega) (fun h => hne h.1) (fun b hb => hd b (by simp [hb]))
        have hv := a2 hne
        rw [valN_snoc]
        refine ⟨?_, fun _ => by omega⟩
        rw [Go.Lib.decDigits, dif_neg (by omega), show (10 * valN 0 i + (d.toNat - 48)) / 10 = valN 0 i by omega, show (10 * valN 0 i + (d.toNat - 48)) % 10 = d.toNat - 48 by omega, a1, dig_back d hdd]
theorem num_dec {l : Bs} (h : NumOK l) : Go.Lib.decDigits (valN 0 l) = l := (dec_of l.length l rfl h.1.1 h.2.1 h.2.2).1

/-- What parsing a text gives: its number, if it is one. -/
noncomputable def rd (l : Bs) : Option Nat := by classical exact if NumOK l then some (valN 0 l) else none
theorem rd_some {l : Bs} (h : NumOK l) : rd l = some (valN 0 l) := by unfold rd; rw [if_pos h]
theorem rd_none {l : Bs} (h : ¬ NumOK l) : rd l = none := by unfold rd; rw [if_neg h]
theorem rd_le {l : Bs} {n : Nat} (h : rd l = some n) : n ≤ 999999 := by
  by_cases g : NumOK l
  · rw [rd_some g] at h; injection h with h; rw [← h]; exact num_le g
  · rw [rd_none g] at h; cases h
theorem rd_dec (n : Nat) (h : n ≤ 999999) : rd (Go.Lib.decDigits n) = some n := by rw [rd_some (dec_ok n h), dec_val]

theorem uint_val : ∀ (l : Bs) (a : Nat), (∀ b ∈ l, isDig b) → (a + 1) * 10 ^ l.length ≤ 1000000 → Go.Lib.parseUint10 a l = .ok (valN a l)
  | [], a, _, _ => rfl
  | b :: r, a, h, hb => by
    have hd := h b (by simp)
    have hd' : 48 ≤ b.toNat ∧ b.toNat ≤ 57 := hd
    rw [List.length_cons, Nat.pow_succ, Nat.mul_comm (10 ^ r.length) 10, ← Nat.mul_assoc] at hb
    have hp : 1 ≤ 10 ^ r.length := Nat.one_le_pow _ _ (by decide)
    have ha : (a + 1) * 10 ≤ 1000000 := Nat.le_trans (Nat.le_mul_of_pos_right _ hp) hb
    simp only [Go.Lib.parseUint10]
    rw [if_pos hd', if_neg (by omega), if_neg (by omega), show a * 10 + (b.toNat - 48) = 10 * a + (b.toNat - 48) by omega]
    exact uint_val r _ (fun c hc => h c (by simp [hc])) (Nat.le_trans (Nat.mul_le_mul_right _ (by omega)) hb)
/-- Atoi reads a number. -/
theorem num_atoi {l : Bs} (h : NumOK l) : Go.Lib.atoiAll l = .ok (valN 0 l : Int) := by
  have hle := num_le h
  obtain ⟨⟨h1, h6⟩, _, hd⟩ := h
  cases l with
  | nil => simp at h1
  | cons c r =>
    have hc : 48 ≤ c.toNat ∧ c.toNat ≤ 57 := hd c (by simp)
    have hp : (0 + 1) * 10 ^ (c :: r).length ≤ 1000000 := by
      have := pow_six h6
      generalize 10 ^ (c :: r).length = p at this ⊢
      omega
    have hm : Go.Lib.parseMag (c :: r) = .ok (valN 0 (c :: r)) := by
      unfold Go.Lib.parseMag
      rw [if_neg (by simp), uint_val _ 0 hd hp]
    have e1 : ¬ (c.toNat = 43 ∨ c.toNat = 45) := by omega
    have e2 : ¬ (c.toNat = 45) := by omega
    simp only [Go.Lib.atoiAll]
    rw [if_neg e1, hm]
    simp only [e2, not_false_eq_true, true_and, false_and, if_false]
    rw [if_neg (by omega)]
theorem itoa_nat (n : Nat) : Go.Lib.itoa (n : Int) = Go.Lib.decDigits n := by unfold Go.Lib.itoa; rw [if_neg (by omega)]; simp
/-- What Atoi reads and Itoa writes back is a number. -/
theorem num_back {l : Bs} {v : Int} (h0 : 0 ≤ v) (h1 : v ≤ 999999) (h : Go.Lib.itoa v = l) : NumOK l ∧ (valN 0 l : Int) = v := by
  obtain ⟨n, rfl⟩ := Int.eq_ofNat_of_zero_le h0
  rw [itoa_nat] at h
  subst h
  exact ⟨dec_ok n (by omega), by rw [dec_val]⟩
end Go.Proofs.YtecgajpjcaemmaaDoor
