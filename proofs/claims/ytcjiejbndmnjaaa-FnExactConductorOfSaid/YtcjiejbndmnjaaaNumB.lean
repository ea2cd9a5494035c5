/- Plain mathematics of sums of lengths: which numbers are sums, the greatest list of counts, the conductor. No condition. -/
import Derived.Lib.BitFns
namespace Go.Proofs.Ytcjiejbndmnjaaa

/-- n adds up elements of l, each as often as wanted. -/
inductive Sum (l : List Nat) : Nat → Prop
  | zero : Sum l 0
  | step {k n : Nat} : k ∈ l → Sum l n → Sum l (n + k)

theorem sum_nil {n : Nat} : Sum [] n ↔ n = 0 := by
  constructor
  · intro h
    cases h with
    | zero => rfl
    | step hk _ => simp at hk
  · rintro rfl; exact .zero
theorem sum_sub {l m : List Nat} (h : ∀ x ∈ l, x ∈ m) {n : Nat} (hs : Sum l n) : Sum m n := by
  induction hs with
  | zero => exact .zero
  | step hk _ ih => exact .step (h _ hk) ih
theorem sum_back {l : List Nat} {n k : Nat} (hk : k ∈ l) (hn : k ≤ n) (hs : Sum l (n - k)) : Sum l n := by
  have := Sum.step hk hs
  rwa [Nat.sub_add_cancel hn] at this
theorem sum_cons {k n : Nat} {t : List Nat} : Sum (k :: t) n ↔ Sum t n ∨ (k ≤ n ∧ Sum (k :: t) (n - k)) := by
  constructor
  · intro h
    induction h with
    | zero => exact .inl .zero
    | @step j m hj hm ih =>
      rcases List.mem_cons.1 hj with rfl | hj'
      · exact .inr ⟨by omega, by rw [Nat.add_sub_cancel]; exact hm⟩
      · rcases ih with h | ⟨h1, h2⟩
        · exact .inl (.step hj' h)
        · refine .inr ⟨by omega, ?_⟩
          have := Sum.step hj h2
          rwa [show m - k + j = m + j - k by omega] at this
  · rintro (h | ⟨h1, h2⟩)
    · exact sum_sub (fun x hx => List.mem_cons_of_mem _ hx) h
    · exact sum_back (List.mem_cons_self ..) h1 h2
theorem sum_any {l : List Nat} {n : Nat} (hn : 0 < n) : Sum l n ↔ ∃ k ∈ l, k ≤ n ∧ Sum l (n - k) := by
  constructor
  · intro h
    cases h with
    | zero => omega
    | @step k m hk hm => exact ⟨k, hk, by omega, by rw [Nat.add_sub_cancel]; exact hm⟩
  · rintro ⟨k, hk, h1, h2⟩
    exact sum_back hk h1 h2

open Classical in
/-- The greatest number up to c with P, and 0 if there is none. -/
noncomputable def gtP (P : Nat → Prop) : Nat → Nat
  | 0 => 0
  | c + 1 => if P (c + 1) then c + 1 else gtP P c
theorem gtP_yes {P : Nat → Prop} {c : Nat} (h : P c) : gtP P c = c := by
  cases c with
  | zero => rfl
  | succ c => rw [gtP, if_pos h]
theorem gtP_no {P : Nat → Prop} {c : Nat} (h : ¬P (c + 1)) : gtP P (c + 1) = gtP P c := by rw [gtP, if_neg h]
theorem gtP_le (P : Nat → Prop) : ∀ c, gtP P c ≤ c
  | 0 => Nat.le_refl _
  | c + 1 => by
    rw [gtP]
    split
    · exact Nat.le_refl _
    · have := gtP_le P c; omega
theorem gtP_spec {P : Nat → Prop} : ∀ {c j : Nat}, j ≤ c → P j → P (gtP P c)
  | 0, j, hj, h => by obtain rfl : j = 0 := by omega
                      exact h
  | c + 1, j, hj, h => by
    by_cases hc : P (c + 1)
    · rw [gtP_yes hc]; exact hc
    · rw [gtP_no hc]
      refine gtP_spec (j := j) ?_ h
      by_cases e : j = c + 1
      · subst e; exact absurd h hc
      · omega

/-- With so many of k the later ones can make up the rest. -/
def Fits (t : List Nat) (n k c : Nat) : Prop := Sum t (n - c * k)
/-- How often each length is taken: the earlier ones as often as possible. -/
noncomputable def parts : List Nat → Nat → List Int
  | [], _ => []
  | k :: t, n => (gtP (Fits t n k) (n / k) : Int) :: parts t (n - gtP (Fits t n k) (n / k) * k)
theorem parts_length : ∀ (l : List Nat) (n : Nat), (parts l n).length = l.length
  | [], _ => rfl
  | k :: t, n => by rw [parts, List.length_cons, parts_length t, List.length_cons]
theorem sum_times {k n : Nat} {t : List Nat} (hk : 0 < k) (h : Sum (k :: t) n) : ∃ c, c ≤ n / k ∧ Fits t n k c := by
  induction n using Nat.strongRecOn with
  | ind n ih =>
    rcases sum_cons.1 h with h | ⟨h1, h2⟩
    · exact ⟨0, Nat.zero_le _, by unfold Fits; simpa using h⟩
    · obtain ⟨c, hc, hf⟩ := ih (n - k) (by omega) h2
      refine ⟨c + 1, ?_, ?_⟩
      · rw [Nat.le_div_iff_mul_le hk] at hc ⊢
        rw [Nat.add_mul]; omega
      · unfold Fits at hf ⊢
        rw [Nat.add_mul, Nat.one_mul]
        rwa [show n - (c * k + k) = n - k - c * k by omega]
theorem fits_next {k n : Nat} {t : List Nat} (hk : 0 < k) (h : Sum (k :: t) n) : Fits t n k (gtP (Fits t n k) (n / k)) := by
  obtain ⟨c, hc, hf⟩ := sum_times hk h
  exact gtP_spec hc hf
theorem times_le {n k c : Nat} (h : c ≤ n / k) : c * k ≤ n := Nat.le_trans (Nat.mul_le_mul_right k h) (Nat.div_mul_le_self n k)

theorem onto_inj : ∀ (n : Nat) (f : Nat → Nat), (∀ i, i < n → f i < n) → (∀ i j, i < n → j < n → f i = f j → i = j) → ∀ j, j < n → ∃ i, i < n ∧ f i = j
  | 0, _, _, _, j, hj => absurd hj (by omega)
  | n + 1, f, hf, hinj, j, hj => by
    have hfn := hf n (by omega)
    have ih := onto_inj n (fun i => if f i = n then f n else f i) (fun i hi => by
      have h1 := hf i (by omega)
      by_cases e : f i = n
      · simp only [if_pos e]
        by_cases e2 : f n = n
        · have := hinj i n (by omega) (by omega) (by omega); omega
        · omega
      · simp only [if_neg e]; omega) (fun i k hi hk e => by
      by_cases e1 : f i = n
      · by_cases e2 : f k = n
        · exact hinj i k (by omega) (by omega) (by omega)
        · simp only [if_pos e1, if_neg e2] at e
          have := hinj n k (by omega) (by omega) e; omega
      · by_cases e2 : f k = n
        · simp only [if_neg e1, if_pos e2] at e
          have := hinj i n (by omega) (by omega) e; omega
        · simp only [if_neg e1, if_neg e2] at e
          exact hinj i k (by omega) (by omega) e)
    by_cases hja : j = f n
    · exact ⟨n, by omega, hja.symm⟩
    · by_cases hjn : j = n
      · obtain ⟨i, hi, e⟩ := ih (f n) (by omega)
        by_cases e1 : f i = n
        · exact ⟨i, by omega, by omega⟩
        · simp only [if_neg e1] at e
          have := hinj i n (by omega) (by omega) e; omega
      · obtain ⟨i, hi, e⟩ := ih j (by omega)
        by_cases e1 : f i = n
        · simp only [if_pos e1] at e; omega
        · simp only [if_neg e1] at e; exact ⟨i, by omega, e⟩

theorem mul_mod_inj {q c i j : Nat} (hc : Nat.Coprime q c) (hj : j < q) (hij : i ≤ j) (e : i * c % q = j * c % q) : i = j := by
  have h1 : q ∣ j * c - i * c := Nat.dvd_of_mod_eq_zero (Nat.sub_mod_eq_zero_of_mod_eq e.symm)
  rw [← Nat.sub_mul] at h1
  have h2 := hc.dvd_of_dvd_mul_right h1
  have h3 : (j - i) = 0 := Nat.eq_zero_of_dvd_of_lt h2 (by omega)
  omega
theorem solve_mod {q c : Nat} (hq : 0 < q) (hc : Nat.Coprime q c) (r : Nat) : ∃ t, t < q ∧ t * c % q = r % q :=
  onto_inj q (fun t => t * c % q) (fun i _ => Nat.mod_lt _ hq) (fun i j hi hj e => by
    by_cases hij : i ≤ j
    · exact mul_mod_inj hc hj hij e
    · exact (mul_mod_inj hc hi (by omega) e.symm).symm) (r % q) (Nat.mod_lt _ hq)

/-- From (a / d - 1) * 40 on every multiple of d is a sum. -/
def Reach (a : Nat) (p : List Nat) (d : Nat) : Prop := 0 < d ∧ d ∣ a ∧ ∀ m, d ∣ m → 40 * (a / d) ≤ m + 40 → Sum p m
theorem reach_step {a c d : Nat} {p : List Nat} (ha : 0 < a) (hc0 : 0 < c) (hc : c ≤ 40) (h : Reach a p d) : Reach a (p ++ [c]) (Nat.gcd d c) := by
  obtain ⟨hd, hda, hm⟩ := h
  have hg : 0 < Nat.gcd d c := Nat.gcd_pos_of_pos_left _ hd
  have hgd := Nat.gcd_dvd_left d c
  have hgc := Nat.gcd_dvd_right d c
  refine ⟨hg, Nat.dvd_trans hgd hda, fun m hgm hle => ?_⟩
  have hcop : Nat.Coprime (d / Nat.gcd d c) (c / Nat.gcd d c) := Nat.coprime_div_gcd_div_gcd hg
  generalize Nat.gcd d c = g at hg hgd hgc hgm hle hcop
  obtain ⟨q, rfl⟩ := hgd
  obtain ⟨c', rfl⟩ := hgc
  obtain ⟨r, rfl⟩ := hgm
  obtain ⟨k, rfl⟩ := hda
  rw [Nat.mul_div_cancel_left _ hg, Nat.mul_div_cancel_left _ hg] at hcop
  have hq : 0 < q := Nat.pos_of_mul_pos_left hd
  rw [Nat.mul_assoc, Nat.mul_div_cancel_left _ hg] at hle
  have hk : 0 < k := Nat.pos_of_mul_pos_left ha
  obtain ⟨t, ht, e⟩ := solve_mod hq hcop r
  have h1 : t * (g * c') ≤ t * 40 := Nat.mul_le_mul_left t hc
  have h2 : q ≤ q * k := Nat.le_mul_of_pos_right q hk
  have h3 : t * (g * c') ≤ g * r := by omega
  have hdiv : g * q ∣ g * r - t * (g * c') := by
    have e2 : g * r - t * (g * c') = g * (r - t * c') := by
      rw [Nat.mul_sub, Nat.mul_left_comm]
    rw [e2]
    exact Nat.mul_dvd_mul_left g (Nat.dvd_of_mod_eq_zero (Nat.sub_mod_eq_zero_of_mod_eq e.symm))
  have h4 : 40 * (g * q * k / (g * q)) ≤ g * r - t * (g * c') + 40 := by
    rw [Nat.mul_div_cancel_left _ hd]
    have h5 : q + k ≤ q * k + 1 := by
      obtain ⟨q', rfl⟩ : ∃ q', q = q' + 1 := ⟨q - 1, by omega⟩
      obtain ⟨k', rfl⟩ : ∃ k', k = k' + 1 := ⟨k - 1, by omega⟩
      rw [Nat.add_mul, Nat.mul_succ]; omega
    omega
  have hs := hm _ hdiv h4
  have hs' : Sum (p ++ [g * c']) (g * r - t * (g * c')) := sum_sub (fun x hx => List.mem_append.2 (.inl hx)) hs
  have hadd : ∀ j, Sum (p ++ [g * c']) (g * r - t * (g * c') + j * (g * c')) := by
    intro j
    induction j with
    | zero => simpa using hs'
    | succ j ih =>
      have := Sum.step (k := g * c') (by simp) ih
      rwa [Nat.add_assoc, ← Nat.succ_mul] at this
  have := hadd t
  rwa [Nat.sub_add_cancel h3] at this
theorem reach_all {a : Nat} (ha : 0 < a) : ∀ (t p : List Nat) (d : Nat), (∀ c ∈ t, 0 < c ∧ c ≤ 40) → Reach a p d → Reach a (p ++ t) (t.foldl Nat.gcd d)
  | [], p, d, _, h => by simpa using h
  | c :: t, p, d, hc, h => by
    have h1 := hc c (List.mem_cons_self ..)
    have := reach_all ha t (p ++ [c]) (Nat.gcd d c) (fun x hx => hc x (List.mem_cons_of_mem _ hx)) (reach_step ha h1.1 h1.2 h)
    simpa using this
theorem reach_one {a : Nat} (ha : 0 < a) : Reach a [a] a := by
  refine ⟨ha, Nat.dvd_refl a, fun m hm _ => ?_⟩
  obtain ⟨k, rfl⟩ := hm
  induction k with
  | zero => exact .zero
  | succ k ih =>
    have := Sum.step (l := [a]) (k := a) (by simp) (ih (by
      rw [Nat.div_self ha]; omega))
    exact this
/-- The greatest common divisor of a list. -/
def gcds (l : List Nat) : Nat := l.foldl Nat.gcd 0
/-- From 1560 on every multiple of the divisor is a sum of the lengths. -/
theorem sum_from {l : List Nat} (hl : l ≠ []) (h : ∀ c ∈ l, 0 < c ∧ c ≤ 40) {m : Nat} (hm : gcds l ∣ m) (hb : 1560 ≤ m) : Sum l m := by
  match l, hl with
  | a :: t, _ =>
    have ha := h a (List.mem_cons_self ..)
    have hr := reach_all ha.1 t [a] a (fun c hc => h c (List.mem_cons_of_mem _ hc)) (reach_one ha.1)
    have e : gcds (a :: t) = t.foldl Nat.gcd a := by unfold gcds; rw [List.foldl_cons, Nat.gcd_zero_left]
    rw [e] at hm
    refine hr.2.2 m hm ?_
    have : a / List.foldl Nat.gcd a t ≤ a := Nat.div_le_self _ _
    omega
theorem gcds_pos {l : List Nat} (hl : l ≠ []) (h : ∀ c ∈ l, 0 < c ∧ c ≤ 40) : 0 < gcds l ∧ gcds l ≤ 40 := by
  match l, hl with
  | a :: t, _ =>
    have ha := h a (List.mem_cons_self ..)
    have hr := reach_all ha.1 t [a] a (fun c hc => h c (List.mem_cons_of_mem _ hc)) (reach_one ha.1)
    have e : gcds (a :: t) = t.foldl Nat.gcd a := by unfold gcds; rw [List.foldl_cons, Nat.gcd_zero_left]
    rw [e]
    have := Nat.le_of_dvd ha.1 hr.2.1
    exact ⟨hr.1, by omega⟩

open Classical in
/-- One more than the greatest of the first k multiples of g that is no sum, or 0. -/
noncomputable def lastNo (l : List Nat) (g : Nat) : Nat → Nat
  | 0 => 0
  | k + 1 => if Sum l (k * g) then lastNo l g k else k * g + 1
theorem lastNo_yes {l : List Nat} {g k : Nat} (h : Sum l (k * g)) : lastNo l g (k + 1) = lastNo l g k := by rw [lastNo, if_pos h]
theorem lastNo_no {l : List Nat} {g k : Nat} (h : ¬Sum l (k * g)) : lastNo l g (k + 1) = k * g + 1 := by rw [lastNo, if_neg h]
theorem lastNo_far {l : List Nat} {g k : Nat} : ∀ n, (∀ j, k ≤ j → j < k + n → Sum l (j * g)) → lastNo l g (k + n) = lastNo l g k
  | 0, _ => rfl
  | n + 1, h => by
    have := lastNo_yes (h (k + n) (by omega) (by omega))
    rw [← Nat.add_assoc, this]
    exact lastNo_far n fun j h1 h2 => h j h1 (by omega)
theorem lastNo_same {l : List Nat} (hl : l ≠ []) (h : ∀ c ∈ l, 0 < c ∧ c ≤ 40) : lastNo l (gcds l) (3200 / gcds l) = lastNo l (gcds l) (1600 / gcds l + 1) := by
  obtain ⟨h0, h1⟩ := gcds_pos hl h
  have hq : 1600 / gcds l + 1 ≤ 3200 / gcds l := by
    rw [Nat.le_div_iff_mul_le h0, Nat.add_mul]
    have := Nat.div_mul_le_self 1600 (gcds l)
    omega
  obtain ⟨n, hn⟩ : ∃ n, 3200 / gcds l = 1600 / gcds l + 1 + n := ⟨3200 / gcds l - (1600 / gcds l + 1), by omega⟩
  rw [hn]
  refine lastNo_far n fun j h2 h3 => sum_from hl h (Nat.dvd_mul_left _ _) ?_
  have : 1600 < (1600 / gcds l + 1) * gcds l := by
    have := Nat.lt_div_mul_add (a := 1600) h0
    rw [Nat.add_mul]; omega
  have := Nat.mul_le_mul_right (gcds l) h2
  omega
end Go.Proofs.Ytcjiejbndmnjaaa
