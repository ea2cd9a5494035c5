/- Automorphisms of a network, as plain mathematics: the program's product over components by their least nodes is the model's product over components in the order of their codes. -/
import Derived.Test.YtdoaopeegcakiaaAuc
import Derived.Test.YtdoaopeegcakiaaIc
namespace Go.Proofs.Ytdoaopeegcakiaa

/-- In its place in an increasing list, once. -/
def insI (x : Int) : List Int → List Int
  | [] => [x]
  | a :: l => if a < x then a :: insI x l else if a = x then a :: l else x :: a :: l
theorem mem_insI {x z : Int} : ∀ {l : List Int}, z ∈ insI x l ↔ z ∈ l ∨ z = x
  | [] => by simp [insI]
  | a :: l => by
    simp only [insI]
    by_cases h : a < x
    · rw [if_pos h, List.mem_cons, mem_insI, List.mem_cons]
      exact ⟨fun h => by rcases h with h | h | h <;> simp [h], fun h => by rcases h with (h | h) | h <;> simp [h]⟩
    · rw [if_neg h]
      by_cases e : a = x
      · rw [if_pos e]; subst e
        exact ⟨fun h => .inl h, fun h => by rcases h with h | rfl <;> simp [*]⟩
      · rw [if_neg e, List.mem_cons]
        exact ⟨fun h => by rcases h with h | h <;> simp [h], fun h => by rcases h with h | h <;> simp [h]⟩
theorem insI_nodup {x : Int} : ∀ {l : List Int}, l.Pairwise (· < ·) → (insI x l).Pairwise (· < ·)
  | [], _ => by simp [insI]
  | a :: l, h => by
    obtain ⟨h1, h2⟩ := List.pairwise_cons.1 h
    simp only [insI]
    by_cases hl : a < x
    · rw [if_pos hl]
      refine List.pairwise_cons.2 ⟨fun y hy => ?_, insI_nodup h2⟩
      rcases mem_insI.1 hy with h | rfl
      · exact h1 y h
      · exact hl
    · rw [if_neg hl]
      by_cases e : a = x
      · rw [if_pos e]; exact h
      · rw [if_neg e]
        refine List.pairwise_cons.2 ⟨fun y hy => ?_, h⟩
        rcases List.mem_cons.1 hy with rfl | hy
        · omega
        · have := h1 y hy; omega
/-- The first k elements in order. -/
def ordTo (l : List Int) : Nat → List Int
  | 0 => []
  | k + 1 => insI (gi l k) (ordTo l k)
theorem mem_ordTo {l : List Int} {x : Int} : ∀ k, k ≤ l.length → (x ∈ ordTo l k ↔ x ∈ l.take k)
  | 0, _ => by simp [ordTo]
  | k + 1, h => by
    have e : l.take (k + 1) = l.take k ++ [gi l k] := by
      rw [List.take_add_one, List.getElem?_eq_getElem (by omega : k < l.length)]
      simp [gi, List.getD, show k < l.length by omega]
    rw [ordTo, mem_insI, mem_ordTo k (by omega), e]
    simp
theorem ordTo_incr (l : List Int) : ∀ k, (ordTo l k).Pairwise (· < ·)
  | 0 => by simp [ordTo]
  | k + 1 => insI_nodup (ordTo_incr l k)
/-- The nodes of a component in order. -/
def nd (N : Net) (v : Int) : List Int := ordTo (wk N v) (wk N v).length
theorem mem_nd {N : Net} {v x : Int} : x ∈ nd N v ↔ x ∈ wk N v := by unfold nd; rw [mem_ordTo _ (Nat.le_refl _), List.take_length]
theorem nd_incr (N : Net) (v : Int) : (nd N v).Pairwise (· < ·) := ordTo_incr _ _
theorem nd_nodup (N : Net) (v : Int) : (nd N v).Nodup := (nd_incr N v).imp fun h => by omega

/-- The node with the least code so far, and how many have it. -/
def bstStep (N : Net) (o : Option (Int × Nat)) (w : Int) : Option (Int × Nat) :=
  match o with
  | none => some (w, 1)
  | some (b, c) => if code N w = code N b then some (b, c + 1) else if before (code N w) (code N b) = true then some (w, 1) else some (b, c)
def bstTo (N : Net) (l : List Int) : Nat → Option (Int × Nat)
  | 0 => none
  | k + 1 => bstStep N (bstTo N l k) (gi l k)
theorem bstTo_spec (N : Net) (l : List Int) : ∀ k, 0 < k → k ≤ l.length → ∃ b c, bstTo N l k = some (b, c) ∧ b ∈ l.take k ∧ (∀ x ∈ l.take k, before (code N x) (code N b) = false) ∧ c = (l.take k).countP (fun x => decide (code N x = code N b)) ∧ 1 ≤ c
  | 0, h, _ => absurd h (by omega)
  | 1, _, hk => by
    have e : l.take 1 = [gi l 0] := by
      cases l with
      | nil => simp at hk
      | cons a l => simp [gi]
    refine ⟨gi l 0, 1, rfl, by simp [e], fun x hx => ?_, by simp [e], Nat.le_refl _⟩
    rw [e] at hx
    obtain rfl := List.mem_singleton.1 hx
    exact before_irr _
  | k + 2, _, hk => by
    obtain ⟨b, c, h1, h2, h3, h4, h5⟩ := bstTo_spec N l (k + 1) (by omega) (by omega)
    have e : l.take (k + 2) = l.take (k + 1) ++ [gi l (k + 1)] := by
      rw [List.take_add_one, List.getElem?_eq_getElem (by omega : k + 1 < l.length)]
      simp [gi, List.getD, show k + 1 < l.length by omega]
    rw [bstTo, h1, e]
    simp only [bstStep]
    by_cases q1 : code N (gi l (k + 1)) = code N b
    · rw [if_pos q1]
      refine ⟨b, c + 1, rfl, by simp [h2], fun x hx => ?_, ?_, by omega⟩
      · rcases List.mem_append.1 hx with hx | hx
        · exact h3 x hx
        · obtain rfl := List.mem_singleton.1 hx
          rw [q1]; exact before_irr _
      · rw [List.countP_append, ← h4]; simp [q1]
    · rw [if_neg q1]
      by_cases q2 : before (code N (gi l (k + 1))) (code N b) = true
      · rw [if_pos q2]
        refine ⟨gi l (k + 1), 1, rfl, by simp, fun x hx => ?_, ?_, Nat.le_refl _⟩
        · rcases List.mem_append.1 hx with hx | hx
          · cases hb : before (code N x) (code N (gi l (k + 1))) with
            | false => rfl
            | true => have := before_trans _ _ _ hb q2; rw [h3 x hx] at this; cases this
          · obtain rfl := List.mem_singleton.1 hx
            exact before_irr _
        · have z : (l.take (k + 1)).countP (fun x => decide (code N x = code N (gi l (k + 1)))) = 0 := by
            rw [List.countP_eq_zero]
            intro x hx he
            have he := of_decide_eq_true he
            have := h3 x hx
            rw [he, q2] at this; cases this
          rw [List.countP_append, z]; simp
      · rw [if_neg q2]
        refine ⟨b, c, rfl, by simp [h2], fun x hx => ?_, ?_, h5⟩
        · rcases List.mem_append.1 hx with hx | hx
          · exact h3 x hx
          · obtain rfl := List.mem_singleton.1 hx
            simpa using q2
        · rw [List.countP_append, ← h4]; simp [q1]
/-- The best node of a component, its code, and how many have it. -/
def bn (N : Net) (v : Nat) : Int := ((bstTo N (nd N v) (nd N v).length).getD (0, 0)).1
def bcnt (N : Net) (v : Nat) : Nat := ((bstTo N (nd N v) (nd N v).length).getD (0, 0)).2
def keyN (N : Net) (v : Nat) : List Int := code N (bn N v)
theorem cnt_eq {N : Net} (hN : Leads' N) {v : Nat} (hv : v < N.ends.length) (c : List Int) : (nd N v).countP (fun x => decide (code N x = c)) = KN N (v : Int) c := by
  have ok := wk_ok hN (v := (v : Int)) (by omega)
  unfold KN cntB
  rw [List.countP_eq_length_filter]
  have rg : ∀ x ∈ nd N v, InN N x := fun x hx => ok.range x (mem_nd.1 hx)
  have e1 : (((nd N v).filter fun x => decide (code N x = c)).map Int.toNat).length = ((nd N v).filter fun x => decide (code N x = c)).length := List.length_map _
  have n1 : (((nd N v).filter fun x => decide (code N x = c)).map Int.toNat).Nodup := by
    have hs : ((nd N v).filter fun x => decide (code N x = c)).Pairwise (· < ·) := (nd_incr N v).filter _
    refine List.pairwise_map.2 ((List.pairwise_iff_forall_sublist.2 fun {a b} hab => ?_))
    have hab' := List.pairwise_iff_forall_sublist.1 hs hab
    have ha := (rg a (List.mem_filter.1 (hab.subset (by simp))).1).1
    omega
  refine Nat.le_antisymm ?_ ?_
  · rw [← e1]
    refine sub_len _ _ n1 fun x hx => ?_
    obtain ⟨y, hy, rfl⟩ := List.mem_map.1 hx
    obtain ⟨y1, y2⟩ := List.mem_filter.1 hy
    have r := nat_of (rg y y1)
    refine List.mem_filter.2 ⟨List.mem_range.2 r.2, decide_eq_true ?_⟩
    rw [r.1]; exact ⟨mem_nd.1 y1, of_decide_eq_true y2⟩
  · rw [← e1]
    refine sub_len _ _ (List.nodup_range.filter _) fun x hx => ?_
    obtain ⟨x1, x2⟩ := List.mem_filter.1 hx
    obtain ⟨a, b⟩ := of_decide_eq_true x2
    exact List.mem_map.2 ⟨(x : Int), List.mem_filter.2 ⟨mem_nd.2 a, decide_eq_true b⟩, by simp⟩
theorem best_spec {N : Net} (hN : Leads' N) {v : Nat} (hv : v < N.ends.length) :
    bn N v ∈ wk N v ∧ (∀ x ∈ wk N (v : Int), before (code N x) (keyN N v) = false) ∧ bcnt N v = KN N (v : Int) (keyN N v) ∧ 1 ≤ bcnt N v ∧ bstTo N (nd N v) (nd N v).length = some (bn N v, bcnt N v) := by
  have hp : 0 < (nd N v).length := List.length_pos_of_mem (mem_nd.2 wk_self)
  obtain ⟨b, c, h1, h2, h3, h4, h5⟩ := bstTo_spec N (nd N v) _ hp (Nat.le_refl _)
  rw [List.take_length] at h2 h3 h4
  have e1 : bn N v = b := by unfold bn; rw [h1]; rfl
  have e2 : bcnt N v = c := by unfold bcnt; rw [h1]; rfl
  unfold keyN
  rw [e1, e2]
  exact ⟨mem_nd.1 h2, fun x hx => h3 x (mem_nd.2 hx), by rw [h4, cnt_eq hN hv], h5, h1⟩
/-- Equal least codes: isomorphic components. -/
theorem key_iff {N : Net} (hN : Leads' N) (hM : Mutual N) {r v : Nat} (hr : r < N.ends.length) (hv : v < N.ends.length) : keyN N r = keyN N v ↔ ∃ x, x ∈ wk N (r : Int) ∧ code N x = code N (v : Int) := by
  obtain ⟨r1, r2, -, -, -⟩ := best_spec hN hr
  obtain ⟨v1, v2, -, -, -⟩ := best_spec hN hv
  have okr := wk_ok hN (v := (r : Int)) (by omega)
  have okv := wk_ok hN (v := (v : Int)) (by omega)
  have inr' : InN N (r : Int) := by unfold InN; omega
  have inv : InN N (v : Int) := by unfold InN; omega
  have img : ∀ a b : Int, InN N a → InN N b → code N a = code N b → ∀ y ∈ wk N a, ∃ z ∈ wk N b, code N z = code N y := fun a b ha hb hc y hy =>
    ⟨toW N a b y, gi_in (by rw [← cd_len hc]; exact List.idxOf_lt_length_of_mem hy), isoOn_code (toW_iso hN ha hb hc) hy⟩
  constructor
  · intro h
    obtain ⟨z, hz, hc⟩ := img _ _ (okv.range _ v1) (okr.range _ r1) h.symm _ (wk_symm hN hM inv v1)
    exact ⟨z, wk_sub hN inr' r1 z hz, hc⟩
  · rintro ⟨x, hx, hc⟩
    have ix : InN N x := okr.range x hx
    obtain ⟨z, hz, e⟩ := img _ _ inv ix hc.symm _ v1
    have a1 := r2 z (wk_sub hN inr' hx z hz)
    obtain ⟨z', hz', e'⟩ := img _ _ ix inv hc _ ((wk_same hN hM inr' hx _).2 r1)
    have a2 := v2 z' hz'
    rw [e] at a1
    rw [e'] at a2
    exact before_tri _ _ a2 a1

/-- The least node of a component. -/
def leastI : List Int → Int
  | [] => 0
  | [a] => a
  | a :: b :: l => min a (leastI (b :: l))
theorem leastI_spec : ∀ {l : List Int}, l ≠ [] → leastI l ∈ l ∧ ∀ x ∈ l, leastI l ≤ x
  | [], h => absurd rfl h
  | [a], _ => ⟨by simp [leastI], fun x hx => by obtain rfl := List.mem_singleton.1 hx; exact Int.le_refl _⟩
  | a :: b :: l, _ => by
    obtain ⟨h1, h2⟩ := leastI_spec (l := b :: l) (by simp)
    simp only [leastI]
    refine ⟨?_, fun x hx => ?_⟩
    · rcases Int.le_total a (leastI (b :: l)) with h | h
      · rw [Int.min_eq_left h]; simp
      · rw [Int.min_eq_right h]; exact List.mem_cons_of_mem _ h1
    · rcases List.mem_cons.1 hx with rfl | hx
      · exact Int.min_le_left _ _
      · exact Int.le_trans (Int.min_le_right _ _) (h2 x hx)
def lea (N : Net) (v : Int) : Int := leastI (wk N v)
def rep (N : Net) (v : Nat) : Bool := decide (lea N (v : Int) = (v : Int))
theorem wk_ne {N : Net} {v : Int} : wk N v ≠ [] := fun h => by have := wk_self (N := N) (v := v); rw [h] at this; cases this
theorem lea_in {N : Net} {v : Int} : lea N v ∈ wk N v := (leastI_spec wk_ne).1
theorem lea_le {N : Net} {v x : Int} (h : x ∈ wk N v) : lea N v ≤ x := (leastI_spec wk_ne).2 x h
theorem lea_same {N : Net} (hN : Leads' N) (hM : Mutual N) {v u : Int} (hv : InN N v) (h : u ∈ wk N v) : lea N u = lea N v := by
  have a := lea_le ((wk_same hN hM hv h _).2 (lea_in (N := N) (v := v)))
  have b := lea_le ((wk_same hN hM hv h _).1 (lea_in (N := N) (v := u)))
  omega

/-- Sums over the first m numbers. -/
def sumTo (g : Nat → Nat) : Nat → Nat
  | 0 => 0
  | m + 1 => sumTo g m + g m
theorem sumTo_congr {g h : Nat → Nat} : ∀ m, (∀ r, r < m → g r = h r) → sumTo g m = sumTo h m
  | 0, _ => rfl
  | m + 1, k => by simp only [sumTo]; rw [sumTo_congr m fun r hr => k r (by omega), k m (by omega)]
theorem cntB_succ (n : Nat) (p : Nat → Bool) : cntB (n + 1) p = cntB n p + if p n = true then 1 else 0 := by
  unfold cntB
  rw [List.range_succ, List.filter_append, List.length_append]
  cases h : p n <;> simp [h]
theorem sumTo_ite (K : Nat) (q : Nat → Bool) : ∀ m, sumTo (fun r => if q r = true then K else 0) m = cntB m q * K
  | 0 => by simp [sumTo, cntB]
  | m + 1 => by
    simp only [sumTo]
    rw [sumTo_ite K q m, cntB_succ]
    cases q m
    · simp
    · simp [Nat.add_mul]
theorem cntB_split (n : Nat) (p q : Nat → Bool) : cntB n p = cntB n (fun x => p x && q x) + cntB n (fun x => p x && !q x) := by
  induction n with
  | zero => rfl
  | succ n ih =>
    rw [cntB_succ, cntB_succ, cntB_succ, ih]
    cases p n <;> cases q n <;> simp <;> omega
theorem cnt_fiber {n : Nat} {p : Nat → Bool} {f : Nat → Nat} : ∀ m, sumTo (fun r => cntB n fun w => p w && decide (f w = r)) m = cntB n fun w => p w && decide (f w < m)
  | 0 => by
    simp only [sumTo]
    unfold cntB
    rw [List.filter_eq_nil_iff.2 (by simp)]; rfl
  | m + 1 => by
    simp only [sumTo]
    rw [cnt_fiber m, cntB_split n (fun w => p w && decide (f w < m + 1)) (fun w => decide (f w < m))]
    congr 1
    · exact cntB_congr fun x _ => by
        cases p x
        · rfl
        · by_cases h : f x < m
          · simp [h, show f x < m + 1 by omega]
          · simp [h]
    · exact cntB_congr fun x _ => by
        cases p x
        · rfl
        · by_cases h : f x = m
          · simp [h]
          · by_cases h2 : f x < m
            · simp [h2, h]
            · simp [h2, h, show ¬ f x < m + 1 by omega]

/-- The program's choices. -/
def chN (N : Net) (v : Nat) : Nat := cntB N.ends.length fun w => decide (code N (w : Int) = code N (v : Int) ∧ (v : Int) ≤ lea N (w : Int))
def multN (N : Net) (v : Nat) : Nat := cntB N.ends.length fun r => decide (v ≤ r ∧ rep N r = true ∧ keyN N r = keyN N v)
theorem ch_eq {N : Net} (hN : Leads' N) (hM : Mutual N) {v : Nat} (hv : v < N.ends.length) : chN N v = multN N v * bcnt N v := by
  obtain ⟨v1, v2, v3, -, -⟩ := best_spec hN hv
  have inv : InN N (v : Int) := by unfold InN; omega
  have hK : bcnt N v = KN N (v : Int) (code N (v : Int)) := by
    rw [v3]; exact KN_orbit hN hM inv v1
  have lr : ∀ w, w < N.ends.length → (lea N (w : Int)).toNat < N.ends.length ∧ (((lea N (w : Int)).toNat : Nat) : Int) = lea N (w : Int) := fun w hw => by
    have := nat_of (N := N) (x := lea N (w : Int)) ((wk_ok hN (v := (w : Int)) (by omega)).range _ lea_in)
    exact ⟨this.2, this.1⟩
  have e1 : chN N v = cntB N.ends.length fun w => decide (code N (w : Int) = code N (v : Int) ∧ (v : Int) ≤ lea N (w : Int)) && decide ((lea N (w : Int)).toNat < N.ends.length) :=
    cntB_congr fun w hw => by simp [(lr w hw).1]
  rw [e1, ← cnt_fiber (f := fun w => (lea N (w : Int)).toNat), hK]
  unfold multN
  rw [← sumTo_ite]
  refine sumTo_congr _ fun r hr => ?_
  have inr' : InN N (r : Int) := by unfold InN; omega
  by_cases hq : v ≤ r ∧ rep N r = true ∧ keyN N r = keyN N v
  · rw [if_pos (decide_eq_true hq)]
    obtain ⟨h1, h2, h3⟩ := hq
    obtain ⟨x, hx, hc⟩ := (key_iff hN hM hr hv).1 h3
    have hrep : lea N (r : Int) = (r : Int) := of_decide_eq_true h2
    rw [← KN_iso hN ((wk_ok hN inr').range x hx) inv hc, KN_same hN hM inr' hx]
    refine cntB_congr fun w hw => ?_
    have inw : InN N (w : Int) := by unfold InN; omega
    have key : (lea N (w : Int)).toNat = r ↔ (w : Int) ∈ wk N (r : Int) := by
      constructor
      · intro e
        have e2 : lea N (w : Int) = (r : Int) := by rw [← (lr w hw).2, e]
        have := lea_in (N := N) (v := (w : Int))
        rw [e2] at this
        exact wk_symm hN hM inw this
      · intro h
        have := lea_same hN hM inr' h
        rw [this, hrep]; simp
    rw [Bool.eq_iff_iff]
    simp only [Bool.and_eq_true, decide_eq_true_eq]
    rw [key]
    constructor
    · rintro ⟨⟨a, _⟩, b⟩; exact ⟨b, a⟩
    · rintro ⟨a, b⟩
      refine ⟨⟨b, ?_⟩, a⟩
      rw [lea_same hN hM inr' a, hrep]; omega
  · rw [if_neg fun h => hq (of_decide_eq_true h)]
    unfold cntB
    rw [List.length_eq_zero_iff, List.filter_eq_nil_iff]
    intro w hw hp
    have hw := List.mem_range.1 hw
    have inw : InN N (w : Int) := by unfold InN; omega
    simp only [Bool.and_eq_true, decide_eq_true_eq] at hp
    obtain ⟨⟨a, b⟩, e⟩ := hp
    have e2 : lea N (w : Int) = (r : Int) := by rw [← (lr w hw).2, e]
    have hin := lea_in (N := N) (v := (w : Int))
    rw [e2] at hin
    refine hq ⟨by omega, decide_eq_true ?_, (key_iff hN hM hr hv).2 ⟨(w : Int), wk_symm hN hM inw hin, a⟩⟩
    rw [lea_same hN hM inw hin, e2]
/-- The program's product. -/
def pcN (N : Net) : Nat → Nat
  | 0 => 1
  | v + 1 => if rep N v = true then pcN N v * chN N v else pcN N v
def repsF (N : Net) (v : Nat) : List Nat := (List.range' v (N.ends.length - v)).filter (rep N)
theorem repsF_step {N : Net} {v : Nat} (hv : v < N.ends.length) : repsF N v = if rep N v = true then v :: repsF N (v + 1) else repsF N (v + 1) := by
  unfold repsF
  rw [show N.ends.length - v = (N.ends.length - (v + 1)) + 1 by omega, List.range'_succ, List.filter_cons]
theorem mult_eq {N : Net} {v : Nat} (hv : v < N.ends.length) (hr : rep N v = true) : multN N v = (repsF N (v + 1)).countP (fun r => decide (keyN N r = keyN N v)) + 1 := by
  unfold multN cntB
  have e : List.range N.ends.length = List.range v ++ (v :: List.range' (v + 1) (N.ends.length - (v + 1))) := by
    rw [List.range_eq_range', List.range_eq_range', ← List.range'_succ, show N.ends.length - (v + 1) + 1 = N.ends.length - v by omega]
    have := List.range'_append (s := 0) (m := v) (n := N.ends.length - v) (step := 1)
    simp only [Nat.one_mul, Nat.zero_add] at this
    rw [this, show v + (N.ends.length - v) = N.ends.length by omega]
  rw [e, List.filter_append, List.filter_eq_nil_iff.2 (fun x hx => by have := List.mem_range.1 hx; simp; omega), List.nil_append, List.filter_cons, if_pos (decide_eq_true ⟨Nat.le_refl _, hr, rfl⟩), List.length_cons]
  congr 1
  unfold repsF
  rw [List.countP_filter, List.countP_eq_length_filter]
  congr 1
  refine List.filter_congr fun x hx => ?_
  have hx := (List.mem_range'_1.1 hx).1
  rw [Bool.eq_iff_iff]
  simp only [decide_eq_true_eq, Bool.and_eq_true]
  exact ⟨fun h => ⟨h.2.2, h.2.1⟩, fun h => ⟨by omega, h.2, h.1⟩⟩
theorem pc_tail {N : Net} (hN : Leads' N) (hM : Mutual N) : ∀ m v, v + m = N.ends.length → pcN N N.ends.length = pcN N v * GG (keyN N) (bcnt N) (repsF N v)
  | 0, v, h => by
    obtain rfl : v = N.ends.length := by omega
    unfold repsF; simp [GG]
  | m + 1, v, h => by
    rw [pc_tail hN hM m (v + 1) (by omega), repsF_step (by omega : v < N.ends.length), pcN]
    by_cases hr : rep N v = true
    · rw [if_pos hr, if_pos hr, GG, ch_eq hN hM (by omega), mult_eq (by omega) hr]
      ac_rfl
    · rw [if_neg hr, if_neg hr]
/-- The model's parts, by their least nodes. -/
def partsR (N : Net) : Nat → List Nat
  | 0 => []
  | v + 1 => if rep N v = true then insR (keyN N) v (partsR N v) else partsR N v
theorem partsR_perm (N : Net) : ∀ v, (partsR N v).Perm ((List.range v).filter (rep N))
  | 0 => by simp [partsR]
  | v + 1 => by
    rw [partsR, List.range_succ, List.filter_append]
    by_cases hr : rep N v = true
    · rw [if_pos hr]
      have e : [v].filter (rep N) = [v] := by simp [hr]
      rw [e]
      exact (insR_perm (keyN N) v _).trans (((partsR_perm N v).cons v).trans (List.perm_append_singleton v _).symm)
    · rw [if_neg hr]
      have e : [v].filter (rep N) = [] := by simp [hr]
      rw [e, List.append_nil]
      exact partsR_perm N v
theorem partsR_sorted (N : Net) : ∀ v, SortedK (keyN N) (partsR N v)
  | 0 => by simp [partsR, SortedK]
  | v + 1 => by
    rw [partsR]
    split
    · exact insR_sorted _ _ _ (partsR_sorted N v)
    · exact partsR_sorted N v
/-- All automorphisms. -/
def autN (N : Net) : Nat := pcN N N.ends.length
theorem aut_model {N : Net} (hN : Leads' N) (hM : Mutual N) : prodK (keyN N) (bcnt N) (partsR N N.ends.length) (partsR N N.ends.length).length = autN N := by
  unfold autN
  rw [prodK_all (keyN N) (bcnt N) (partsR_sorted N _) (partsR_perm N _), pc_tail hN hM N.ends.length 0 (by omega)]
  unfold repsF
  rw [List.range_eq_range']
  simp [pcN]
theorem pcN_mono {N : Net} (h : ∀ v, v < N.ends.length → rep N v = true → 1 ≤ chN N v) : ∀ i j, i ≤ j → j ≤ N.ends.length → pcN N i ≤ pcN N j := by
  intro i j hij
  induction j with
  | zero => intro _; obtain rfl : i = 0 := by omega
            exact Nat.le_refl _
  | succ j ih =>
    intro hj
    by_cases e : i = j + 1
    · subst e; exact Nat.le_refl _
    · refine Nat.le_trans (ih (by omega) (by omega)) ?_
      rw [pcN]
      by_cases hr : rep N j = true
      · rw [if_pos hr]; exact Nat.le_mul_of_pos_right _ (h j (by omega) hr)
      · rw [if_neg hr]; exact Nat.le_refl _
theorem ch_pos {N : Net} (hN : Leads' N) (hM : Mutual N) {v : Nat} (hv : v < N.ends.length) (hr : rep N v = true) : 1 ≤ chN N v := by
  rw [ch_eq hN hM hv, mult_eq hv hr]
  have := (best_spec hN hv).2.2.2.1
  exact Nat.mul_pos (by omega) this
theorem withC_count {N : Net} {c : List Int} {v : Nat} : ∀ k, (withCd N c k).countP (fun x => decide ((v : Int) ≤ lea N x)) = cntB k (fun w => decide (code N (w : Int) = c ∧ (v : Int) ≤ lea N (w : Int)))
  | 0 => rfl
  | k + 1 => by
    rw [cntB_succ, ← withC_count k]
    simp only [withCd]
    by_cases h : code N (k : Int) = c
    · rw [if_pos h, List.countP_append]
      by_cases h2 : (v : Int) ≤ lea N (k : Int)
      · simp [h, h2]
      · simp [h, h2]
    · rw [if_neg h]; simp [h]
theorem ch_withC (N : Net) (v : Nat) : (withC N (code N (v : Int))).countP (fun x => decide ((v : Int) ≤ lea N x)) = chN N v := withC_count _
theorem cntB_most (n : Nat) (p : Nat → Bool) : cntB n p ≤ n := by
  unfold cntB; have := List.length_filter_le p (List.range n); simpa using this
end Go.Proofs.Ytdoaopeegcakiaa
