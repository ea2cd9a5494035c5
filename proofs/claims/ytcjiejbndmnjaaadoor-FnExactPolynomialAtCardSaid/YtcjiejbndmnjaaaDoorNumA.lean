/- Plain mathematics of numbers: binary digits, primes, binomial coefficients. No condition. -/
import Derived.Lib.BitFns
import Derived.Lib.TrailingZeros
namespace Go.Proofs.YtcjiejbndmnjaaaDoor

/-- The number of binary digits. -/
def nbits (n : Nat) : Nat := if n = 0 then 0 else nbits (n / 2) + 1
termination_by n
decreasing_by omega
theorem nbits_zero : nbits 0 = 0 := by unfold nbits; simp
theorem nbits_pos {n : Nat} (h : 0 < n) : nbits n = nbits (n / 2) + 1 := by
  conv => lhs; unfold nbits
  rw [if_neg (by omega)]
theorem nbits_le : ∀ n : Nat, nbits n ≤ n := by
  intro n
  induction n using Nat.strongRecOn with
  | ind n ih =>
    by_cases h : n = 0
    · subst h; rw [nbits_zero]; omega
    · rw [nbits_pos (by omega)]
      have := ih (n / 2) (by omega)
      omega
theorem nbits_ge2 {n : Nat} (h : 2 ≤ n) : 2 ≤ nbits n := by
  rw [nbits_pos (by omega), nbits_pos (by omega)]; omega
theorem nbits_lt : ∀ (k n : Nat), n < 2 ^ k → nbits n ≤ k
  | 0, n, h => by
    have : n = 0 := by simpa using h
    subst this; rw [nbits_zero]; omega
  | k + 1, n, h => by
    by_cases h0 : n = 0
    · subst h0; rw [nbits_zero]; omega
    · rw [nbits_pos (by omega)]
      have := nbits_lt k (n / 2) (by rw [Nat.pow_succ] at h; omega)
      omega
theorem bitLenAux_nbits : ∀ (f n : Nat), n < 2 ^ f → Lib.bitLenAux f n = nbits n
  | 0, n, h => by
    have : n = 0 := by simpa using h
    subst this; rw [nbits_zero]; rfl
  | f + 1, n, h => by
    by_cases h0 : n = 0
    · subst h0; rw [nbits_zero]; rfl
    · rw [nbits_pos (by omega)]
      simp only [Lib.bitLenAux]
      rw [if_neg h0, bitLenAux_nbits f (n / 2) (by rw [Nat.pow_succ] at h; omega)]
      omega
theorem bitLen_nbits (n : Nat) (h : n < 2 ^ 64) : Lib.bitLen n = nbits n := bitLenAux_nbits 64 n h

/-- How often the length less one is taken until at most 1 is left. -/
def lstar (n : Nat) : Nat := if h : n ≤ 1 then 0 else lstar (nbits n - 1) + 1
termination_by n
decreasing_by have := nbits_le n; omega
theorem lstar_one {n : Nat} (h : n ≤ 1) : lstar n = 0 := by unfold lstar; rw [dif_pos h]
theorem lstar_step {n : Nat} (h : 1 < n) : lstar n = lstar (nbits n - 1) + 1 := by
  conv => lhs; unfold lstar
  rw [dif_neg (by omega)]
theorem lstar_le : ∀ n : Nat, lstar n ≤ n := by
  intro n
  induction n using Nat.strongRecOn with
  | ind n ih =>
    by_cases h : n ≤ 1
    · rw [lstar_one h]; omega
    · rw [lstar_step (by omega)]
      have h1 := nbits_le n
      have := ih (nbits n - 1) (by omega)
      omega

/-- Binary digit i. -/
def bitAt (n i : Nat) : Nat := n / 2 ^ i % 2
theorem bitAt_testBit (n i : Nat) : (bitAt n i = 1) ↔ n.testBit i = true := by
  unfold bitAt
  rw [Nat.testBit_eq_decide_div_mod_eq, decide_eq_true_iff]
theorem bitAt_lt (n i : Nat) : bitAt n i < 2 := Nat.mod_lt _ (by omega)
theorem bitAt_eq (a b i : Nat) : bitAt a i = bitAt b i ↔ (a ^^^ b).testBit i = false := by
  rw [Nat.testBit_xor]
  have ha := bitAt_testBit a i
  have hb := bitAt_testBit b i
  have la := bitAt_lt a i
  have lb := bitAt_lt b i
  cases h1 : a.testBit i <;> cases h2 : b.testBit i <;> simp [h1, h2] at ha hb ⊢ <;> omega

theorem ctzFrom_low : ∀ (f x : Nat), 0 < x → x < 2 ^ f → x.testBit (Lib.ctzFrom f x) = true ∧ ∀ i, i < Lib.ctzFrom f x → x.testBit i = false
  | 0, x, h0, h => by simp at h; omega
  | f + 1, x, h0, h => by
    unfold Lib.ctzFrom
    split
    · rename_i h1
      exact ⟨by simp [Nat.testBit_zero, h1], fun i hi => absurd hi (by omega)⟩
    · rename_i h1
      obtain ⟨h2, h3⟩ := ctzFrom_low f (x / 2) (by omega) (by rw [Nat.pow_succ] at h; omega)
      rw [Nat.add_comm 1]
      refine ⟨by rw [Nat.testBit_succ]; exact h2, fun i hi => ?_⟩
      cases i with
      | zero => simp [Nat.testBit_zero]; omega
      | succ i => rw [Nat.testBit_succ]; exact h3 i (by omega)

/-- The first place where two numbers have different binary digits. -/
def diffAt (a b : Nat) : Nat := Lib.ctz 64 (a ^^^ b)
theorem diff_spec {a b : Nat} (ha : a < 2 ^ 64) (hb : b < 2 ^ 64) (h : a ≠ b) : bitAt a (diffAt a b) ≠ bitAt b (diffAt a b) ∧ (∀ i, i < diffAt a b → bitAt a i = bitAt b i) ∧ diffAt a b < 64 := by
  have hx : a ^^^ b ≠ 0 := fun e => h (by
    have : a ^^^ b ^^^ b = b := by rw [e]; simp
    simpa [Nat.xor_assoc] using this)
  have hl : a ^^^ b < 2 ^ 64 := Nat.xor_lt_two_pow ha hb
  obtain ⟨h1, h2⟩ := ctzFrom_low 64 (a ^^^ b) (by omega) hl
  obtain ⟨_, _, h3⟩ := Lib.ctzFrom_spec 64 (a ^^^ b) (by omega) hl
  have e : diffAt a b = Lib.ctzFrom 64 (a ^^^ b) := by unfold diffAt Lib.ctz; rw [if_neg hx]
  rw [e]
  refine ⟨fun k => ?_, fun i hi => (bitAt_eq a b i).2 (h2 i hi), h3⟩
  rw [bitAt_eq] at k
  rw [h1] at k; cases k

/-- A prime number: greater than 1, and no number from 2 to the root divides it. -/
def Pr (n : Nat) : Prop := 1 < n ∧ ∀ d, 2 ≤ d → d * d ≤ n → n % d ≠ 0
theorem not_pr {n p : Nat} (hp : 2 ≤ p) (hn : p < n) (hd : n % p = 0) : ¬Pr n := by
  intro ⟨_, h⟩
  by_cases hs : p * p ≤ n
  · exact h p hp hs hd
  · have e : p * (n / p) = n := by have := Nat.div_add_mod n p; omega
    have hm : 2 ≤ n / p := by
      match hq : n / p with
      | 0 => rw [hq] at e; omega
      | 1 => rw [hq] at e; omega
      | q + 2 => omega
    have hlt : n / p < p := by
      rcases Nat.lt_or_ge (n / p) p with hlt | hge
      · exact hlt
      · have := Nat.mul_le_mul_left p hge; rw [e] at this; exact absurd this hs
    refine h (n / p) hm ?_ ?_
    · calc n / p * (n / p) ≤ p * (n / p) := Nat.mul_le_mul_right _ (by omega)
        _ = n := e
        _ ≤ n := Nat.le_refl _
    · conv => lhs; lhs; rw [← e]
      exact Nat.mul_mod_left _ _
def tbl : List Nat := [2, 3, 5, 7, 11, 13, 17, 19, 23, 29, 31]
theorem tbl_div : ∀ d, d < 33 → 2 ≤ d → ∃ p ∈ tbl, d % p = 0 := by decide +kernel
theorem tbl_ge : ∀ p ∈ tbl, 2 ≤ p := by decide +kernel
theorem mod_of_mod {n d p : Nat} (h1 : n % d = 0) (h2 : d % p = 0) : n % p = 0 :=
  Nat.mod_eq_zero_of_dvd (Nat.dvd_trans (Nat.dvd_of_mod_eq_zero h2) (Nat.dvd_of_mod_eq_zero h1))
theorem pr_of {n : Nat} (h1 : 1 < n) (hs : ∀ p ∈ tbl, n % p ≠ 0) (ho : ∀ d, 33 ≤ d → d % 2 = 1 → d * d ≤ n → n % d ≠ 0) : Pr n := by
  refine ⟨h1, fun d hd hdd h => ?_⟩
  by_cases hl : d < 33
  · obtain ⟨p, hp, hm⟩ := tbl_div d hl hd
    exact hs p hp (mod_of_mod h hm)
  · by_cases h2 : d % 2 = 1
    · exact ho d (by omega) h2 hdd h
    · exact hs 2 (by decide) (mod_of_mod h (by omega))
theorem small_pr : ∀ p ∈ tbl, Pr p := by
  have h : ∀ p ∈ tbl, 1 < p ∧ ∀ d, d < 6 → 2 ≤ d → d * d ≤ p → p % d ≠ 0 := by decide +kernel
  have hb : ∀ p ∈ tbl, p ≤ 31 := by decide +kernel
  intro p hp
  refine ⟨(h p hp).1, fun d hd hdd => ?_⟩
  refine (h p hp).2 d ?_ hd hdd
  have := hb p hp
  rcases Nat.lt_or_ge d 6 with hlt | hge
  · exact hlt
  · have := Nat.mul_le_mul hge hge; omega
theorem million_pr : Pr 1000003 := by
  have h : ∀ d, d < 1001 → 2 ≤ d → 1000003 % d ≠ 0 := by decide +kernel
  refine ⟨by omega, fun d hd hdd => h d ?_ hd⟩
  rcases Nat.lt_or_ge d 1001 with hlt | hge
  · exact hlt
  · have := Nat.mul_le_mul hge hge; omega

/-- The binomial coefficient. -/
def ch : Nat → Nat → Nat
  | _, 0 => 1
  | 0, _ + 1 => 0
  | n + 1, k + 1 => ch n k + ch n (k + 1)
theorem ch_zero (n : Nat) : ch n 0 = 1 := by cases n <;> rfl
theorem ch_none (k : Nat) : ch 0 (k + 1) = 0 := rfl
theorem ch_succ (n k : Nat) : ch (n + 1) (k + 1) = ch n k + ch n (k + 1) := rfl
theorem ch_big : ∀ {n k : Nat}, n < k → ch n k = 0
  | 0, k + 1, _ => rfl
  | n + 1, k + 1, h => by rw [ch_succ, ch_big (by omega), ch_big (by omega)]
theorem ch_mul : ∀ n k : Nat, ch n (k + 1) * (k + 1) = ch n k * (n - k)
  | 0, k => by simp [ch_none]
  | n + 1, 0 => by
    have := ch_mul n 0
    rw [ch_succ, ch_zero, ch_zero]; rw [ch_zero] at this; omega
  | n + 1, k + 1 => by
    have h1 := ch_mul n (k + 1)
    have h2 := ch_mul n k
    rw [ch_succ, ch_succ n k]
    have e1 : (ch n (k + 1) + ch n (k + 1 + 1)) * (k + 1 + 1) = ch n (k + 1) * (k + 1) + ch n (k + 1) + ch n (k + 1 + 1) * (k + 1 + 1) := by
      rw [Nat.add_mul, Nat.mul_succ (ch n (k + 1))]
    have e2 : n + 1 - (k + 1) = n - k := by omega
    rw [e1, h1, h2, e2, Nat.add_mul]
    by_cases hk : k < n
    · have e3 : ch n (k + 1) * (n - k) = ch n (k + 1) * (n - (k + 1)) + ch n (k + 1) := by
        rw [show n - k = n - (k + 1) + 1 by omega, Nat.mul_succ]
      omega
    · rw [ch_big (show n < k + 1 by omega)]; omega
theorem ch_mono (n k : Nat) : ch n k ≤ ch (n + 1) k := by
  cases k with
  | zero => rw [ch_zero, ch_zero]; omega
  | succ k => rw [ch_succ]; omega
theorem ch_mono' {n m : Nat} (k : Nat) (h : n ≤ m) : ch n k ≤ ch m k := by
  induction m with
  | zero => obtain rfl : n = 0 := by omega
            exact Nat.le_refl _
  | succ m ih =>
    by_cases e : n = m + 1
    · subst e; exact Nat.le_refl _
    · exact Nat.le_trans (ih (by omega)) (ch_mono m k)
theorem ch_pos : ∀ {n k : Nat}, k ≤ n → 0 < ch n k
  | n, 0, _ => by rw [ch_zero]; omega
  | n + 1, k + 1, h => by rw [ch_succ]; have := ch_pos (n := n) (k := k) (by omega); omega
/-- The next row of Pascal's triangle. -/
def nextRow : Nat → List Nat → List Nat
  | a, [] => [a]
  | a, b :: l => (a + b) :: nextRow b l
def rowOf : Nat → List Nat
  | 0 => [1]
  | n + 1 => nextRow 0 (rowOf n)
theorem nextRow_get : ∀ (l : List Nat) (a k : Nat), (nextRow a l).getD k 0 = (if k = 0 then a else l.getD (k - 1) 0) + l.getD k 0
  | [], a, 0 => by simp [nextRow]
  | [], a, k + 1 => by simp [nextRow]
  | b :: l, a, 0 => by simp [nextRow]
  | b :: l, a, k + 1 => by
    have := nextRow_get l b k
    simp only [nextRow, List.getD_cons_succ]
    rw [this]
    cases k <;> simp
theorem rowOf_get : ∀ n k : Nat, (rowOf n).getD k 0 = ch n k
  | 0, 0 => rfl
  | 0, k + 1 => by simp [rowOf, ch_none]
  | n + 1, 0 => by rw [rowOf, nextRow_get, rowOf_get n, if_pos rfl, ch_zero, ch_zero]
  | n + 1, k + 1 => by rw [rowOf, nextRow_get, rowOf_get n, if_neg (by omega), Nat.add_sub_cancel, rowOf_get n, ch_succ]
theorem ch_sixty : ∀ k, k < 61 → (rowOf 60).getD k 0 * 60 < 9223372036854775808 := by decide +kernel
theorem ch_bound {n k : Nat} (h : n ≤ 60) : ch n k * 60 < 9223372036854775808 := by
  have h1 := ch_mono' k h
  by_cases hk : k < 61
  · have := ch_sixty k hk
    rw [rowOf_get] at this
    have := Nat.mul_le_mul_right 60 h1
    omega
  · rw [ch_big (n := n) (by omega)]; omega

/-- The subset of k of the m numbers from x on with the index r. -/
def sub : Nat → Nat → Nat → Nat → List Int
  | _, _, 0, _ => []
  | _, 0, _ + 1, _ => []
  | x, m + 1, j + 1, r => if r < ch m j then (x : Int) :: sub (x + 1) m j r else sub (x + 1) m (j + 1) (r - ch m j)
theorem sub_nil (x m r : Nat) : sub x m 0 r = [] := by cases m <;> rfl
theorem sub_take {x m j r : Nat} (h : r < ch m j) : sub x (m + 1) (j + 1) r = (x : Int) :: sub (x + 1) m j r := by rw [sub, if_pos h]
theorem sub_skip {x m j r : Nat} (h : ¬r < ch m j) : sub x (m + 1) (j + 1) r = sub (x + 1) m (j + 1) (r - ch m j) := by rw [sub, if_neg h]
theorem sub_length : ∀ (m x j r : Nat), r < ch m j → (sub x m j r).length = j
  | m, x, 0, r, _ => by rw [sub_nil]; rfl
  | 0, x, j + 1, r, h => by rw [ch_none] at h; omega
  | m + 1, x, j + 1, r, h => by
    by_cases hr : r < ch m j
    · rw [sub_take hr, List.length_cons, sub_length m _ _ _ hr]
    · rw [sub_skip hr]
      exact sub_length m _ _ _ (by rw [ch_succ] at h; omega)
theorem sub_range : ∀ (m x j r : Nat), ∀ y ∈ sub x m j r, (x : Int) ≤ y ∧ y < x + m
  | m, x, 0, r, y, hy => by rw [sub_nil] at hy; cases hy
  | 0, x, j + 1, r, y, hy => by simp [sub] at hy
  | m + 1, x, j + 1, r, y, hy => by
    by_cases hr : r < ch m j
    · rw [sub_take hr] at hy
      rcases List.mem_cons.1 hy with rfl | hy
      · omega
      · have := sub_range m (x + 1) j r y hy; omega
    · rw [sub_skip hr] at hy
      have := sub_range m (x + 1) (j + 1) _ y hy; omega

/-- What the numbers from n - m on add to the rank, where elements i and later of l are still to come. -/
def rest (l : List Int) (n : Nat) : Nat → Nat → Nat
  | 0, _ => 0
  | m + 1, i => if l.length ≤ i then 0 else if l.getD i 0 = ((n - (m + 1) : Nat) : Int) then rest l n m (i + 1) else ch m (l.length - 1 - i) + rest l n m i
theorem rest_done {l : List Int} {n m i : Nat} (h : l.length ≤ i) : rest l n m i = 0 := by
  cases m with
  | zero => rfl
  | succ m => rw [rest, if_pos h]
theorem rest_le (l : List Int) (n : Nat) : ∀ m i, rest l n m i ≤ ch m (l.length - i)
  | 0, i => Nat.zero_le _
  | m + 1, i => by
    by_cases hi : l.length ≤ i
    · rw [rest_done hi]; exact Nat.zero_le _
    · rw [rest, if_neg hi]
      have e : l.length - i = (l.length - 1 - i) + 1 := by omega
      split
      · have := rest_le l n m (i + 1)
        rw [show l.length - (i + 1) = l.length - 1 - i by omega] at this
        rw [e, ch_succ]; omega
      · have := rest_le l n m i
        rw [e] at this ⊢
        rw [ch_succ]; omega
end Go.Proofs.YtcjiejbndmnjaaaDoor
