/- The walk from a node and its code, as plain mathematics. -/
import Derived.Test.YtkpdbceglejbnaaKa
namespace Go.Proofs.Ytkpdbceglejbnaa

/-- a begins b. -/
def Begins (a b : List Int) : Prop := ∃ c, b = a ++ c
theorem Begins.rfl' (a : List Int) : Begins a a := ⟨[], by simp⟩
theorem Begins.trans' {a b c : List Int} (h : Begins a b) (k : Begins b c) : Begins a c := by
  obtain ⟨x, rfl⟩ := h; obtain ⟨y, rfl⟩ := k; exact ⟨x ++ y, by simp⟩
theorem Begins.len {a b : List Int} (h : Begins a b) : a.length ≤ b.length := by obtain ⟨c, rfl⟩ := h; simp
theorem Begins.at {a b : List Int} (h : Begins a b) {i : Nat} (hi : i < a.length) : gi b i = gi a i := by
  obtain ⟨c, rfl⟩ := h; simp [gi, List.getD, List.getElem?_append_left hi]
theorem Begins.has {a b : List Int} (h : Begins a b) {x : Int} (hx : x ∈ a) : x ∈ b := by obtain ⟨c, rfl⟩ := h; simp [hx]
theorem Begins.ix {a b : List Int} (h : Begins a b) {x : Int} (hx : x ∈ a) : b.idxOf x = a.idxOf x := by
  obtain ⟨c, rfl⟩ := h; rw [List.idxOf_append, if_pos hx]
theorem gi_in {l : List Int} {i : Nat} (h : i < l.length) : gi l i ∈ l := by
  simp [gi, h]
theorem in_gi {l : List Int} {x : Int} (h : x ∈ l) : ∃ i, i < l.length ∧ gi l i = x := by
  obtain ⟨i, hi, rfl⟩ := List.mem_iff_getElem.1 h
  exact ⟨i, hi, by simp [gi, hi]⟩
theorem gi_idx {l : List Int} {x : Int} (h : x ∈ l) : gi l (l.idxOf x) = x := by
  have := List.idxOf_lt_length_of_mem h
  simp [gi, this, List.getElem_idxOf]
theorem idx_gi {l : List Int} (hn : l.Nodup) {i : Nat} (h : i < l.length) : l.idxOf (gi l i) = i := by
  have : gi l i = l[i] := by simp [gi, h]
  rw [this]; exact List.Nodup.idxOf_getElem hn i h
theorem nodup_len : ∀ (n : Nat) (l : List Int), l.Nodup → (∀ x ∈ l, 0 ≤ x ∧ x < (n : Int)) → l.length ≤ n
  | 0, l, _, h => by
    cases l with
    | nil => simp
    | cons a t => have := h a (by simp); omega
  | n + 1, l, hn, h => by
    have h1 := nodup_len n (l.erase (n : Int)) (hn.erase _) fun x hx => by
      have := (hn.mem_erase_iff).1 hx
      have h2 := h x this.2
      have h3 : x ≠ (n : Int) := this.1
      omega
    have := List.length_erase_le (a := (n : Int)) (l := l)
    have h4 : l.length ≤ (l.erase (n : Int)).length + 1 := by rw [List.length_erase]; split <;> omega
    omega

/-- A node behind the others, unless it is there. -/
def addOne (l : List Int) (x : Int) : List Int := if x ∈ l then l else l ++ [x]
theorem addOne_in {l : List Int} {x : Int} (h : x ∈ l) : addOne l x = l := by simp [addOne, h]
theorem addOne_new {l : List Int} {x : Int} (h : x ∉ l) : addOne l x = l ++ [x] := by simp [addOne, h]
theorem addOne_begins (l : List Int) (x : Int) : Begins l (addOne l x) := by
  unfold addOne; split
  · exact Begins.rfl' _
  · exact ⟨[x], rfl⟩
theorem addOne_mem {l : List Int} {x y : Int} : y ∈ addOne l x ↔ y ∈ l ∨ y = x := by
  by_cases h : x ∈ l
  · rw [addOne_in h]; exact ⟨.inl, fun k => k.elim id fun e => e ▸ h⟩
  · rw [addOne_new h]; simp
theorem addOne_nodup {l : List Int} {x : Int} (h : l.Nodup) : (addOne l x).Nodup := by
  by_cases hx : x ∈ l
  · rw [addOne_in hx]; exact h
  · rw [addOne_new hx, List.nodup_append]
    exact ⟨h, by simp, fun a ha b hb => by obtain rfl := List.mem_singleton.1 hb; exact fun e => hx (e ▸ ha)⟩
/-- The nodes and those that the first j of the ends lead to. -/
def addTo (l : List Int) (r : List (Int × Int)) : Nat → List Int
  | 0 => l
  | j + 1 => addOne (addTo l r j) (gn r j)
theorem addTo_begins (l : List Int) (r : List (Int × Int)) : ∀ (j m : Nat), j ≤ m → Begins (addTo l r j) (addTo l r m)
  | j, 0, h => by obtain rfl : j = 0 := by omega
                  exact Begins.rfl' _
  | j, m + 1, h => by
    by_cases e : j = m + 1
    · subst e; exact Begins.rfl' _
    · exact (addTo_begins l r j m (by omega)).trans' (addOne_begins _ _)
theorem addTo_mem (l : List Int) (r : List (Int × Int)) : ∀ (j : Nat) (y : Int), y ∈ addTo l r j ↔ y ∈ l ∨ ∃ i, i < j ∧ gn r i = y
  | 0, y => by simp [addTo]
  | j + 1, y => by
    show y ∈ addOne _ _ ↔ _
    rw [addOne_mem, addTo_mem l r j y]
    constructor
    · rintro ((h | ⟨i, hi, he⟩) | h)
      · exact .inl h
      · exact .inr ⟨i, by omega, he⟩
      · exact .inr ⟨j, by omega, h.symm⟩
    · rintro (h | ⟨i, hi, he⟩)
      · exact .inl (.inl h)
      · by_cases e : i = j
        · subst e; exact .inr he.symm
        · exact .inl (.inr ⟨i, by omega, he⟩)
theorem addTo_nodup {l : List Int} {r : List (Int × Int)} (h : l.Nodup) : ∀ j, (addTo l r j).Nodup
  | 0 => h
  | j + 1 => addOne_nodup (addTo_nodup h j)

/-- The row of ends of a node. -/
def rw' (N : Net) (x : Int) : List (Int × Int) := gr N.ends x.toNat
/-- The walk after k nodes have been looked at. -/
def wkTo (N : Net) (v : Int) : Nat → List Int
  | 0 => [v]
  | k + 1 => if k < (wkTo N v k).length then addTo (wkTo N v k) (rw' N (gi (wkTo N v k) k)) (rw' N (gi (wkTo N v k) k)).length else wkTo N v k
theorem wkTo_go {N : Net} {v : Int} {k : Nat} (h : k < (wkTo N v k).length) : wkTo N v (k + 1) = addTo (wkTo N v k) (rw' N (gi (wkTo N v k) k)) (rw' N (gi (wkTo N v k) k)).length := if_pos h
theorem wkTo_begins (N : Net) (v : Int) : ∀ (j m : Nat), j ≤ m → Begins (wkTo N v j) (wkTo N v m)
  | j, 0, h => by obtain rfl : j = 0 := by omega
                  exact Begins.rfl' _
  | j, m + 1, h => by
    by_cases e : j = m + 1
    · subst e; exact Begins.rfl' _
    · refine (wkTo_begins N v j m (by omega)).trans' ?_
      simp only [wkTo]; split
      · exact addTo_begins _ _ 0 _ (by omega)
      · exact Begins.rfl' _
theorem wkTo_stay {N : Net} {v : Int} {k : Nat} (h : (wkTo N v k).length ≤ k) : ∀ m, k ≤ m → wkTo N v m = wkTo N v k
  | 0, hm => by obtain rfl : k = 0 := by omega
                rfl
  | m + 1, hm => by
    by_cases e : k = m + 1
    · rw [e]
    · have := wkTo_stay h m (by omega)
      simp only [wkTo]
      rw [if_neg (by rw [this]; omega), this]
/-- What a walk needs of a network. -/
structure Leads' (N : Net) : Prop where
  node : ∀ v, v < N.ends.length → ∀ i, i < (gr N.ends v).length → 0 ≤ gn (gr N.ends v) i ∧ gn (gr N.ends v) i < (N.ends.length : Int)
theorem Leads'.row {N : Net} (h : Leads' N) {x : Int} (h0 : 0 ≤ x) (h1 : x < N.ends.length) {i : Nat} (hi : i < (rw' N x).length) : 0 ≤ gn (rw' N x) i ∧ gn (rw' N x) i < (N.ends.length : Int) := h.node _ (by omega) i hi
theorem addTo_range {l : List Int} {r : List (Int × Int)} {n : Int} (h : ∀ x ∈ l, 0 ≤ x ∧ x < n) {j : Nat} (hr : ∀ i, i < j → 0 ≤ gn r i ∧ gn r i < n) : ∀ x ∈ addTo l r j, 0 ≤ x ∧ x < n := fun x hx => by
  rcases (addTo_mem l r j x).1 hx with h1 | ⟨i, hi, rfl⟩
  · exact h x h1
  · exact hr i hi
theorem wkTo_range {N : Net} (hN : Leads' N) {v : Int} (hv : 0 ≤ v ∧ v < N.ends.length) : ∀ k, ∀ x ∈ wkTo N v k, 0 ≤ x ∧ x < (N.ends.length : Int)
  | 0, x, hx => by obtain rfl := List.mem_singleton.1 hx; exact hv
  | k + 1, x, hx => by
    have ih := wkTo_range hN hv k
    by_cases h : k < (wkTo N v k).length
    · rw [wkTo_go h] at hx
      have hg := ih _ (gi_in h)
      exact addTo_range ih (fun i hi => hN.row hg.1 hg.2 hi) x hx
    · rw [wkTo_stay (show (wkTo N v k).length ≤ k by omega) (k + 1) (by omega)] at hx
      exact ih x hx
theorem wkTo_nodup (N : Net) (v : Int) : ∀ k, (wkTo N v k).Nodup
  | 0 => by simp [wkTo]
  | k + 1 => by
    simp only [wkTo]; split
    · exact addTo_nodup (wkTo_nodup N v k) _
    · exact wkTo_nodup N v k
theorem wkTo_len {N : Net} (hN : Leads' N) {v : Int} (hv : 0 ≤ v ∧ v < N.ends.length) (k : Nat) : (wkTo N v k).length ≤ N.ends.length := nodup_len _ _ (wkTo_nodup N v k) (wkTo_range hN hv k)
theorem wkTo_pos (N : Net) (v : Int) (k : Nat) : 0 < (wkTo N v k).length := by
  have := (wkTo_begins N v 0 k (by omega)).len
  simp [wkTo] at this; omega
theorem wkTo_first (N : Net) (v : Int) (k : Nat) : gi (wkTo N v k) 0 = v := by
  rw [(wkTo_begins N v 0 k (by omega)).at (by simp [wkTo])]; rfl
theorem wkTo_closed {N : Net} {v : Int} : ∀ (k i : Nat), i < k → i < (wkTo N v k).length → ∀ j, j < (rw' N (gi (wkTo N v k) i)).length → gn (rw' N (gi (wkTo N v k) i)) j ∈ wkTo N v k
  | 0, i, h, _, _, _ => by omega
  | k + 1, i, h, hl, j, hj => by
    by_cases hk : k < (wkTo N v k).length
    · have hb := wkTo_begins N v k (k + 1) (by omega)
      by_cases e : i = k
      · subst e
        rw [hb.at hk] at hj ⊢
        rw [wkTo_go hk]
        exact (addTo_mem _ _ _ _).2 (.inr ⟨j, hj, rfl⟩)
      · have hi : i < (wkTo N v k).length := by omega
        rw [hb.at hi] at hj ⊢
        exact hb.has (wkTo_closed k i (by omega) hi j hj)
    · rw [wkTo_stay (show (wkTo N v k).length ≤ k by omega) (k + 1) (by omega)] at hl hj ⊢
      exact wkTo_closed k i (by omega) hl j hj

/-- The walk from a node. -/
def wk (N : Net) (v : Int) : List Int := wkTo N v N.ends.length
theorem wk_done {N : Net} {v : Int} {k : Nat} (h : (wkTo N v k).length ≤ k) (hk : k ≤ N.ends.length) : wk N v = wkTo N v k := wkTo_stay h _ hk
theorem wk_begins {N : Net} {v : Int} {k : Nat} (h : k ≤ N.ends.length) : Begins (wkTo N v k) (wk N v) := wkTo_begins N v k _ h
/-- A list of different nodes with all that their ends lead to. -/
structure WkOK (N : Net) (L : List Int) : Prop where
  nodup : L.Nodup
  range : ∀ x ∈ L, 0 ≤ x ∧ x < (N.ends.length : Int)
  closed : ∀ x ∈ L, ∀ j, j < (rw' N x).length → gn (rw' N x) j ∈ L
theorem WkOK.len {N : Net} {L : List Int} (h : WkOK N L) : L.length ≤ N.ends.length := nodup_len _ _ h.nodup h.range
theorem wk_ok {N : Net} (hN : Leads' N) {v : Int} (hv : 0 ≤ v ∧ v < N.ends.length) : WkOK N (wk N v) := by
  refine ⟨wkTo_nodup N v _, wkTo_range hN hv _, fun x hx j hj => ?_⟩
  obtain ⟨i, hi, rfl⟩ := in_gi hx
  exact wkTo_closed _ i (by have := wkTo_len hN hv N.ends.length; unfold wk at hi; omega) hi j hj

/-- The identifier of a node, 0 if there are none. -/
def idOf (N : Net) (x : Int) : Int := if N.ids.length = 0 then 0 else gi N.ids x.toNat
/-- The place of a node in a list. -/
def ixI (L : List Int) (x : Int) : Int := (L.idxOf x : Int)
/-- The code of the first j of the ends. -/
def endCd (L : List Int) (r : List (Int × Int)) : Nat → List Int
  | 0 => []
  | j + 1 => endCd L r j ++ [ixI L (gn r j), gp r j]
theorem endCd_len (L : List Int) (r : List (Int × Int)) : ∀ j, (endCd L r j).length = 2 * j
  | 0 => rfl
  | j + 1 => by simp [endCd, endCd_len L r j]; omega
def headCd (N : Net) (x : Int) : List Int := [((rw' N x).length : Int), gi N.inputs x.toNat, idOf N x]
def nodeCd (N : Net) (L : List Int) (x : Int) : List Int := headCd N x ++ endCd L (rw' N x) (rw' N x).length
theorem nodeCd_len (N : Net) (L : List Int) (x : Int) : (nodeCd N L x).length = 3 + 2 * (rw' N x).length := by simp [nodeCd, headCd, endCd_len]; omega
/-- The code of the first k nodes of a list. -/
def cdTo (N : Net) (L : List Int) : Nat → List Int
  | 0 => []
  | k + 1 => cdTo N L k ++ nodeCd N L (gi L k)
def cd (N : Net) (L : List Int) : List Int := cdTo N L L.length
def code (N : Net) (v : Int) : List Int := cd N (wk N v)

/-- Lists of blocks of which each one begins with its degree. -/
def cut (n : Nat) (b : Nat → List Int) : Nat → List Int
  | 0 => []
  | k + 1 => cut n b k ++ b k
theorem cdTo_cons (N : Net) (L : List Int) : ∀ k, cdTo N L k = ((List.range k).map fun i => nodeCd N L (gi L i)).flatten
  | 0 => rfl
  | k + 1 => by rw [cdTo, cdTo_cons N L k, List.range_succ]; simp
theorem blocks_eq : ∀ (A B : List (List Int)), (∀ a ∈ A, ∃ d : Nat, a.head? = some (d : Int) ∧ a.length = 3 + 2 * d) → (∀ a ∈ B, ∃ d : Nat, a.head? = some (d : Int) ∧ a.length = 3 + 2 * d) → A.flatten = B.flatten → A = B
  | [], [], _, _, _ => rfl
  | [], b :: B, _, hB, h => by
    obtain ⟨d, _, hl⟩ := hB b (by simp)
    have := congrArg List.length h
    simp [hl] at this <;> omega
  | a :: A, [], hA, _, h => by
    obtain ⟨d, _, hl⟩ := hA a (by simp)
    have := congrArg List.length h
    simp [hl] at this <;> omega
  | a :: A, b :: B, hA, hB, h => by
    obtain ⟨d, h1, hl⟩ := hA a (by simp)
    obtain ⟨e, k1, kl⟩ := hB b (by simp)
    have hh : a.head? = b.head? := by
      have : (a ++ A.flatten).head? = (b ++ B.flatten).head? := by simpa using congrArg List.head? h
      rw [List.head?_append, List.head?_append, h1, k1] at this
      rw [h1, k1]; exact this
    have hde : d = e := by rw [h1, k1] at hh; have := Option.some.inj hh; omega
    have h' : a ++ A.flatten = b ++ B.flatten := by simpa using h
    obtain ⟨rfl, h3⟩ := List.append_inj h' (by omega)
    rw [blocks_eq A B (fun x hx => hA x (by simp [hx])) (fun x hx => hB x (by simp [hx])) h3]
theorem cd_blocks {N M : Net} {L K : List Int} (h : cd N L = cd M K) : (List.range L.length).map (fun i => nodeCd N L (gi L i)) = (List.range K.length).map fun i => nodeCd M K (gi K i) := by
  unfold cd at h
  rw [cdTo_cons, cdTo_cons] at h
  refine blocks_eq _ _ (fun a ha => ?_) (fun a ha => ?_) h
  · obtain ⟨i, _, rfl⟩ := List.mem_map.1 ha
    exact ⟨(rw' N (gi L i)).length, by simp [nodeCd, headCd], nodeCd_len _ _ _⟩
  · obtain ⟨i, _, rfl⟩ := List.mem_map.1 ha
    exact ⟨(rw' M (gi K i)).length, by simp [nodeCd, headCd], nodeCd_len _ _ _⟩
theorem cd_len {N M : Net} {L K : List Int} (h : cd N L = cd M K) : L.length = K.length := by
  have := congrArg List.length (cd_blocks h); simpa using this
end Go.Proofs.Ytkpdbceglejbnaa
