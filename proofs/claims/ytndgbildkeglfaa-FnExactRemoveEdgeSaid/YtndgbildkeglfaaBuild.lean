/- A list of rows that grows by append, each row in memory of its own; blocks of unlike types are apart. -/
import Derived.Test.YtndgbildkeglfaaCp
namespace Go.Proofs.Ytndgbildkeglfaa
open Go.RowKit

/-- The blocks hold cells of type t. -/
def Typed (w : World) (t : Nat) (bs : List Nat) : Prop := ∀ b ∈ bs, ∃ cur, w.heap[b]? = some (.cells cur t (0, 0))

theorem Typed.apart {w : World} {t t' : Nat} {bs cs : List Nat} (h : Typed w t bs) (k : Typed w t' cs) (hne : t ≠ t') : ∀ b ∈ bs, b ∉ cs := by
  intro b hb hc
  obtain ⟨c1, e1⟩ := h b hb
  obtain ⟨c2, e2⟩ := k b hc
  rw [e1] at e2
  simp only [Option.some.injEq, Obj.cells.injEq] at e2
  exact hne e2.2.1
theorem Typed.one {w : World} {b t n : Nat} {f : Nat → Value} (h : w.rowIs b t n f) : Typed w t [b] := by
  intro x hx
  obtain rfl := List.mem_singleton.1 hx
  obtain ⟨cur, e, _⟩ := h
  exact ⟨cur, e⟩
theorem OwnSl.typed {w : World} {v : Value} {n k t : Nat} {f : Nat → Value} {bs : List Nat} (h : OwnSl w v n k t f bs) : Typed w t bs := by
  obtain ⟨c, h1, h2, h3⟩ := h
  rcases h3 with ⟨_, rfl, _⟩ | ⟨b', m, g, rfl, hv, hm, hr, hf⟩
  · intro b hb; simp at hb
  · exact Typed.one hr
theorem owns_typed {w : World} {B t k n : Nat} {v : Value} {xs : List Value} (h : w.ownsRow B t k v n xs) : ∀ b, v.ownBlock = some b → ∃ cur, w.heap[b]? = some (.cells cur t (0, 0)) := by
  intro b hb
  rcases h.2 with ⟨rfl, _⟩ | ⟨g, cap, cur, rfl, _, hg, _⟩
  · simp [Value.ownBlock] at hb
  · simp [Value.ownBlock] at hb
    subst hb
    exact ⟨cur, hg⟩
theorem type_ne {w : World} {b b' t t' : Nat} {c c' : Array Value} (h : w.heap[b]? = some (.cells c t (0, 0))) (h' : w.heap[b']? = some (.cells c' t' (0, 0))) (hne : t ≠ t') : b ≠ b' := by
  rintro rfl
  rw [h] at h'
  simp only [Option.some.injEq, Obj.cells.injEq] at h'
  exact hne h'.2.1

/-- What lies in blocks of another type stays where a row grows. -/
theorem kept_grown {w w' : World} {B t k n t' : Nat} {v : Value} {xs : List Value} {bs : List Nat} (ho : w.ownsRow B t k v n xs) (hg : w.grownBy w' v.ownBlock) (ht : Typed w t' bs) (hne : t' ≠ t) : ∀ b ∈ bs, w'.heap[b]? = w.heap[b]? := by
  intro b hb
  obtain ⟨cur, hc⟩ := ht b hb
  have hlt : b < w.heap.size := (Array.getElem?_eq_some_iff.1 hc).1
  refine hg.block b hlt fun e => ?_
  obtain ⟨cur', hc'⟩ := owns_typed ho b e.symm
  exact type_ne hc hc' hne rfl
/-- .. and where a cell of a block of another type is stored. -/
theorem kept_store {w : World} {p : Addr} {u : Value} {t t' : Nat} {c : Array Value} {bs : List Nat} (hp : w.heap[p.block]? = some (.cells c t (0, 0))) (ht : Typed w t' bs) (hne : t' ≠ t) : ∀ b ∈ bs, (w.setCell p u).heap[b]? = w.heap[b]? := by
  intro b hb
  obtain ⟨cur, hc⟩ := ht b hb
  exact Below.heap_setCell _ _ _ _ (type_ne hc hp hne)
theorem rowIs.blk {w : World} {b t n : Nat} {f : Nat → Value} (h : w.rowIs b t n f) : ∃ cur, w.heap[b]? = some (.cells cur t (0, 0)) := by
  obtain ⟨cur, e, _⟩ := h
  exact ⟨cur, e⟩

/-- The first k rows of l are built in the slice v; all blocks are behind B. -/
def GrowL (B : Nat) (w : World) (v : Value) (l : List (List (Int × Int))) (k : Nat) : Prop :=
  ∃ (R : Nat → Value) (T : Nat → List Nat), w.ownsRow B 70 1 v k ((List.range k).map R) ∧ (∀ i, i < k → OwnE w (R i) (gr l i) (T i)) ∧ ((List.range k).flatMap T).Nodup ∧ ∀ b ∈ (List.range k).flatMap T, B ≤ b

theorem GrowL.nil (B : Nat) (w : World) (l : List (List (Int × Int))) : GrowL B w (.slice none 0 0) l 0 :=
  ⟨fun _ => undef, fun _ => [], World.ownsRow_nil _ _ _ _, fun i hi => absurd hi (by omega), by simp, by simp⟩
theorem GrowL.lt {B : Nat} {w : World} {v : Value} {l : List (List (Int × Int))} {k : Nat} (h : GrowL B w v l k) : ∀ b, v.ownBlock = some b → B ≤ b ∧ b < w.heap.size := by
  obtain ⟨R, T, h1, _⟩ := h
  exact h1.lt
theorem GrowL.keep {B : Nat} {w w' : World} {v : Value} {l : List (List (Int × Int))} {k : Nat} (h : GrowL B w v l k) (he : ∀ b, B ≤ b → b < w.heap.size → w'.heap[b]? = w.heap[b]?) : GrowL B w' v l k := by
  obtain ⟨R, T, h1, h2, h3, h4⟩ := h
  refine ⟨R, T, ⟨h1.1, ?_⟩, fun i hi => (h2 i hi).keep fun b hb => he b (h4 b (List.mem_flatMap.2 ⟨i, List.mem_range.2 hi, hb⟩)) ((h2 i hi).1.lt b hb), h3, h4⟩
  rcases h1.2 with ⟨rfl, hn⟩ | ⟨g, cap, cur, rfl, hb, hh, rest⟩
  · exact .inl ⟨rfl, hn⟩
  · exact .inr ⟨g, cap, cur, rfl, hb, by rw [he g hb (Array.getElem?_eq_some_iff.1 hh).1]; exact hh, rest⟩
theorem GrowL.ext {B : Nat} {w w' : World} {v : Value} {l : List (List (Int × Int))} {k : Nat} (h : GrowL B w v l k) (he : Ext w w') : GrowL B w' v l k := h.keep fun b _ hb => he.block b hb

theorem map_range_succ (R : Nat → Value) (k : Nat) : (List.range k).map R ++ [R k] = (List.range (k + 1)).map R := by simp [List.range_succ]

/-- A further row. (w: the world at the append; x: the row.) -/
theorem GrowL.step {B : Nat} {w w' : World} {v v' x : Value} {l : List (List (Int × Int))} {k : Nat} {R : Nat → Value} {T : Nat → List Nat} {bs : List Nat}
    (h1 : w.ownsRow B 70 1 v k ((List.range k).map R)) (h2 : ∀ i, i < k → OwnE w (R i) (gr l i) (T i)) (h3 : ((List.range k).flatMap T).Nodup) (h4 : ∀ b ∈ (List.range k).flatMap T, B ≤ b)
    (ho : OwnE w x (gr l k) bs) (hnew : ∀ b ∈ bs, B ≤ b ∧ b ∉ (List.range k).flatMap T) (hg : Grew w w' B 70 1 v v' (k + 1) ((List.range k).map R ++ [x])) : GrowL B w' v' l (k + 1) := by
  have hcong : (List.range k).flatMap (fun i => if i = k then bs else T i) = (List.range k).flatMap T := by
    rw [List.flatMap_def, List.flatMap_def]
    congr 1
    exact List.map_congr_left fun i hi => if_neg (by have := List.mem_range.1 hi; omega)
  have hcongR : (List.range k).map (fun i => if i = k then x else R i) = (List.range k).map R :=
    List.map_congr_left fun i hi => if_neg (by have := List.mem_range.1 hi; omega)
  have hfl : (List.range (k + 1)).flatMap (fun i => if i = k then bs else T i) = (List.range k).flatMap T ++ bs := by
    rw [List.range_succ, List.flatMap_append, hcong]
    simp
  refine ⟨fun i => if i = k then x else R i, fun i => if i = k then bs else T i, ?_, fun i hi => ?_, ?_, ?_⟩
  · rw [← map_range_succ, hcongR]
    simpa using hg.1
  · by_cases e : i = k
    · subst e
      simp only [if_true]
      exact ho.keep (kept_grown h1 hg.2.1 ho.1.typed (by decide))
    · simp only [if_neg e]
      exact (h2 i (by omega)).keep (kept_grown h1 hg.2.1 (h2 i (by omega)).1.typed (by decide))
  · rw [hfl]
    exact List.nodup_append.2 ⟨h3, ho.1.nodup, fun a ha b hb e => (hnew b hb).2 (e ▸ ha)⟩
  · rw [hfl]
    intro b hb
    rcases List.mem_append.1 hb with hb | hb
    · exact h4 b hb
    · exact (hnew b hb).1

/-- .. where a cell of a block of type 30 is stored. -/
theorem GrowL.keepT {B : Nat} {w : World} {v u : Value} {l : List (List (Int × Int))} {k p q : Nat} {c : Array Value} (h : GrowL B w v l k) (hp : w.heap[p]? = some (.cells c 30 (0, 0))) : GrowL B (w.setCell ⟨p, q, none⟩ u) v l k := by
  obtain ⟨R, T, h1, h2, h3, h4⟩ := h
  refine ⟨R, T, ⟨h1.1, ?_⟩, fun i hi => (h2 i hi).keep (kept_store hp (h2 i hi).1.typed (by decide)), h3, h4⟩
  rcases h1.2 with ⟨rfl, hn⟩ | ⟨g, cap, cur, rfl, hb, hh, rest⟩
  · exact .inl ⟨rfl, hn⟩
  · exact .inr ⟨g, cap, cur, rfl, hb, by rw [Below.heap_setCell _ _ _ _ (type_ne hh hp (by decide))]; exact hh, rest⟩

/-- All rows are built. -/
theorem GrowL.done {B : Nat} {w : World} {v : Value} {l : List (List (Int × Int))} (h : GrowL B w v l l.length) : ∃ bs, OwnSS w v l bs ∧ bs.Nodup ∧ ∀ b ∈ bs, B ≤ b := by
  obtain ⟨R, T, ⟨hl, h1⟩, h2, h3, h4⟩ := h
  rcases h1 with ⟨rfl, hn⟩ | ⟨g, cap, cur, rfl, hb, hh, hc1, hc2, hs, ht⟩
  · refine ⟨[], ⟨R, [], T, ⟨0, by omega, by unfold maxLen; omega, .inl ⟨hn, rfl, none, ⟨rfl, rfl⟩, rfl⟩⟩, h2, ?_⟩, List.nodup_nil, by simp⟩
    rw [hn]; rfl
  · refine ⟨[g] ++ (List.range l.length).flatMap T, ⟨R, [g], T, ⟨cap, hc1, hc2, .inr ⟨g, cap * 1, fun i => cur.getD i undef, rfl, rfl, by omega, ⟨cur, hh, by omega, fun i hi => ?_⟩, fun i hi => ?_⟩⟩, h2, rfl⟩, ?_, ?_⟩
    · have hlt : i < cur.size := by omega
      simp [hlt]
    · have hlt : i < cur.size := by omega
      have e : ((List.range l.length).map R)[i]? = some (R i) := by simp [show i < l.length by omega]
      rw [← ht, List.getElem?_take, if_pos (by omega)] at e
      simp only [Array.getElem?_toList] at e
      simp [Array.getD, hlt]
      simpa [hlt] using e
    · refine List.nodup_append.2 ⟨by simp, h3, fun a ha b hb e => ?_⟩
      obtain rfl := List.mem_singleton.1 ha
      subst e
      obtain ⟨i, hi, hbi⟩ := List.mem_flatMap.1 hb
      obtain ⟨cur', hc'⟩ := (h2 i (List.mem_range.1 hi)).1.typed _ hbi
      exact type_ne hh hc' (by decide) rfl
    · intro b hb'
      rcases List.mem_append.1 hb' with hb' | hb'
      · obtain rfl := List.mem_singleton.1 hb'; exact hb
      · exact h4 b hb'

theorem OwnSS.apart {w : World} {v : Value} {l : List (List (Int × Int))} {bs cs : List Nat} {t : Nat} (h : OwnSS w v l bs) (k : Typed w t cs) (h1 : t ≠ 70) (h2 : t ≠ 44) : ∀ b ∈ bs, b ∉ cs := by
  obtain ⟨R, b0, T, ho, hr, rfl⟩ := h
  intro b hb hc
  rcases List.mem_append.1 hb with hb | hb
  · exact ho.typed.apart k (Ne.symm h1) b hb hc
  · obtain ⟨i, hi, hb⟩ := List.mem_flatMap.1 hb
    exact (hr i (List.mem_range.1 hi)).1.typed.apart k (Ne.symm h2) b hb hc

/-- The three parts make a network in memory of its own. -/
theorem net_of_parts {W w : World} {v0 v1 v2 : Value} {N : Net} {b0 b1 b2 : List Nat} (h0 : OwnSS w v0 N.ends b0) (h1 : OwnI w v1 N.ids b1) (h2 : OwnI w v2 N.inputs b2) (n0 : b0.Nodup) (n12 : (b1 ++ b2).Nodup)
    (g0 : ∀ b ∈ b0, W.heap.size ≤ b) (g12 : ∀ b ∈ b1 ++ b2, W.heap.size ≤ b) : OwnNet w (.agg #[v0, v1, v2]) N (b0 ++ (b1 ++ b2)) ∧ Fresh W (b0 ++ (b1 ++ b2)) := by
  refine ⟨⟨v0, v1, v2, b0, b1, b2, rfl, h0, h1, h2, rfl⟩, List.nodup_append.2 ⟨n0, n12, fun a ha b hb e => ?_⟩, fun b hb => ?_⟩
  · subst e
    have ht : Typed w 3 (b1 ++ b2) := fun x hx => by
      rcases List.mem_append.1 hx with hx | hx
      · exact h1.1.typed x hx
      · exact h2.1.typed x hx
    exact h0.apart ht (by decide) (by decide) a ha hb
  · rcases List.mem_append.1 hb with hb | hb
    · exact g0 b hb
    · exact g12 b hb
end Go.Proofs.Ytndgbildkeglfaa
