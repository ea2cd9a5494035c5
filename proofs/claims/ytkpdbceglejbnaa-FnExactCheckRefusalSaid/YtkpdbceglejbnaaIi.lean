/- Lists of lists of integers: in memory of their own, compared, marked, held, and grown by append. -/
import Derived.Test.YtkpdbceglejbnaaKc
import Derived.Test.YtkpdbceglejbnaaKd
namespace Go.Proofs.Ytkpdbceglejbnaa
open Go.RowKit

def OwnII (w : World) (v : Value) (l : List (List Int)) (bs : List Nat) : Prop :=
  ∃ (R : Nat → Value) (b0 : List Nat) (T : Nat → List Nat), OwnSl w v l.length 1 26 R b0 ∧ (∀ i, i < l.length → OwnI w (R i) (gr l i) (T i)) ∧ bs = b0 ++ (List.range l.length).flatMap T
/-- Short enough for the marks. -/
def IISmall (l : List (List Int)) : Prop := l.length ≤ 1048576 ∧ ∀ i, (gr l i).length ≤ 1048576

theorem OwnII.keep {w w' : World} {v : Value} {l : List (List Int)} {bs : List Nat} (h : OwnII w v l bs) (he : ∀ b ∈ bs, w'.heap[b]? = w.heap[b]?) : OwnII w' v l bs := by
  obtain ⟨R, b0, T, h1, h2, rfl⟩ := h
  refine ⟨R, b0, T, h1.keep fun b hb => he b (by simp [hb]), fun i hi => (h2 i hi).keep fun b hb => he b ?_, rfl⟩
  exact List.mem_append.2 (.inr (List.mem_flatMap.2 ⟨i, List.mem_range.2 hi, hb⟩))

theorem OwnII.lt {w : World} {v : Value} {l : List (List Int)} {bs : List Nat} (h : OwnII w v l bs) : ∀ b ∈ bs, b < w.heap.size := by
  obtain ⟨R, b0, T, h1, h2, rfl⟩ := h
  intro b hb
  rcases List.mem_append.1 hb with hb | hb
  · exact h1.lt b hb
  · obtain ⟨i, hi, hb⟩ := List.mem_flatMap.1 hb
    exact (h2 i (List.mem_range.1 hi)).1.lt b hb

theorem OwnII.ext {w w' : World} {v : Value} {l : List (List Int)} {bs : List Nat} (h : OwnII w v l bs) (he : Ext w w') : OwnII w' v l bs := h.keep fun b hb => he.block b (h.lt b hb)

theorem OwnII.read {w : World} {v : Value} {l : List (List Int)} {bs : List Nat} (h : OwnII w v l bs) : IntSS w v l := by
  obtain ⟨R, b0, T, ⟨c, h1, h2, h3⟩, h4, rfl⟩ := h
  rcases h3 with ⟨hn, rfl, a, -, rfl⟩ | ⟨b, m, g, rfl, rfl, hm, hr, hf⟩
  · exact ⟨a, 0, 0, c, by rw [hn], fun h => absurd h (by omega), by omega, h2, fun i hi => absurd hi (by omega)⟩
  · refine ⟨_, b, 0, c, rfl, fun _ => rfl, h1, h2, fun i hi => ⟨R i, ?_, (h4 i hi).read⟩⟩
    rw [Nat.zero_add, hr.cell (by omega), hf i (by omega)]

/-- The mark with which row i begins. -/
def iAt (k : Int) (l : List (List Int)) : Nat → Int
  | 0 => k
  | i + 1 => iAt k l i + (gr l i).length
theorem iAt_le (k : Int) (l : List (List Int)) (hs : ∀ i, (gr l i).length ≤ 1048576) : ∀ i, k ≤ iAt k l i ∧ iAt k l i ≤ k + 1048576 * i
  | 0 => by simp [iAt]
  | i + 1 => by
    have h1 := iAt_le k l hs i
    have h2 := hs i
    simp only [iAt]
    omega
def imarks (k : Int) (l : List (List Int)) : List (List Int) := (List.range l.length).map fun i => marks (iAt k l i) (gr l i).length
theorem length_imarks (k : Int) (l : List (List Int)) : (imarks k l).length = l.length := by simp [imarks]
theorem gr_imarks (k : Int) (l : List (List Int)) (i : Nat) (h : i < l.length) : gr (imarks k l) i = marks (iAt k l i) (gr l i).length := by simp [gr, imarks, h]
def iLast (l : List (List Int)) : Int := iAt 1 l l.length
theorem iLast_bound {l : List (List Int)} (h : IISmall l) : 0 ≤ iLast l ∧ iLast l ≤ 1099511627777 := by
  obtain ⟨a, b⟩ := iAt_le 1 l h.2 l.length
  have := h.1
  unfold iLast
  omega

/-- The first k rows of l are built in the slice v; all blocks are behind B. -/
def GrowI (B : Nat) (w : World) (v : Value) (l : List (List Int)) (k : Nat) : Prop :=
  ∃ (R : Nat → Value) (T : Nat → List Nat), w.ownsRow B 26 1 v k ((List.range k).map R) ∧ (∀ i, i < k → OwnI w (R i) (gr l i) (T i)) ∧ ((List.range k).flatMap T).Nodup ∧ ∀ b ∈ (List.range k).flatMap T, B ≤ b


theorem GrowI.nil (B : Nat) (w : World) (l : List (List Int)) : GrowI B w (.slice none 0 0) l 0 :=
  ⟨fun _ => undef, fun _ => [], World.ownsRow_nil _ _ _ _, fun i hi => absurd hi (by omega), by simp, by simp⟩

theorem GrowI.lt {B : Nat} {w : World} {v : Value} {l : List (List Int)} {k : Nat} (h : GrowI B w v l k) : ∀ b, v.ownBlock = some b → B ≤ b ∧ b < w.heap.size := by
  obtain ⟨R, T, h1, _⟩ := h
  exact h1.lt

theorem GrowI.keep {B : Nat} {w w' : World} {v : Value} {l : List (List Int)} {k : Nat} (h : GrowI B w v l k) (he : ∀ b, B ≤ b → b < w.heap.size → w'.heap[b]? = w.heap[b]?) : GrowI B w' v l k := by
  obtain ⟨R, T, h1, h2, h3, h4⟩ := h
  refine ⟨R, T, ⟨h1.1, ?_⟩, fun i hi => (h2 i hi).keep fun b hb => he b (h4 b (List.mem_flatMap.2 ⟨i, List.mem_range.2 hi, hb⟩)) ((h2 i hi).1.lt b hb), h3, h4⟩
  rcases h1.2 with ⟨rfl, hn⟩ | ⟨g, cap, cur, rfl, hb, hh, rest⟩
  · exact .inl ⟨rfl, hn⟩
  · exact .inr ⟨g, cap, cur, rfl, hb, by rw [he g hb (Array.getElem?_eq_some_iff.1 hh).1]; exact hh, rest⟩

theorem GrowI.ext {B : Nat} {w w' : World} {v : Value} {l : List (List Int)} {k : Nat} (h : GrowI B w v l k) (he : Ext w w') : GrowI B w' v l k := h.keep fun b _ hb => he.block b hb


/-- A further row. (w: the world at the append; x: the row.) -/
theorem GrowI.step {B : Nat} {w w' : World} {v v' x : Value} {l : List (List Int)} {k : Nat} {R : Nat → Value} {T : Nat → List Nat} {bs : List Nat}
    (h1 : w.ownsRow B 26 1 v k ((List.range k).map R)) (h2 : ∀ i, i < k → OwnI w (R i) (gr l i) (T i)) (h3 : ((List.range k).flatMap T).Nodup) (h4 : ∀ b ∈ (List.range k).flatMap T, B ≤ b)
    (ho : OwnI w x (gr l k) bs) (hnew : ∀ b ∈ bs, B ≤ b ∧ b ∉ (List.range k).flatMap T) (hg : Grew w w' B 26 1 v v' (k + 1) ((List.range k).map R ++ [x])) : GrowI B w' v' l (k + 1) := by
  have hcong : (List.range k).flatMap (fun i => if i = k then bs else T i) = (List.range k).flatMap T := by
    rw [List.flatMap_def, List.flatMap_def]
    congr 1
    exact List.map_congr_left fun i hi => if_neg (by have := List.mem_range.1 hi; omega)
  have hcongR : (List.range k).map (fun i => if i = k then x else R i) = (List.range k).map R :=
    List.map_congr_left fun i hi => if_neg (by have := List.mem_range.1 hi; omega)
  have hfl : (List.range (k + 1)).flatMap (fun i => if i = k then bs else T i) = (List.range k).flatMap T ++ bs := by
    rw [List.range_succ, List.flatMap_append, hcong]
    simp
  refine ⟨fun i => if i = k then x else R i, fun i => if i = k then bs else T i, ?_, fun i hi => ?_, ?_, ?_⟩
  · rw [← map_range_succ, hcongR]
    simpa using hg.1
  · by_cases e : i = k
    · subst e
      simp only [if_true]
      exact ho.keep (kept_grown h1 hg.2.1 ho.1.typed (by decide))
    · simp only [if_neg e]
      exact (h2 i (by omega)).keep (kept_grown h1 hg.2.1 (h2 i (by omega)).1.typed (by decide))
  · rw [hfl]
    exact List.nodup_append.2 ⟨h3, ho.1.nodup, fun a ha b hb e => (hnew b hb).2 (e ▸ ha)⟩
  · rw [hfl]
    intro b hb
    rcases List.mem_append.1 hb with hb | hb
    · exact h4 b hb
    · exact (hnew b hb).1


/-- All rows are built. -/
theorem GrowI.done {B : Nat} {w : World} {v : Value} {l : List (List Int)} (h : GrowI B w v l l.length) : ∃ bs, OwnII w v l bs ∧ bs.Nodup ∧ ∀ b ∈ bs, B ≤ b := by
  obtain ⟨R, T, ⟨hl, h1⟩, h2, h3, h4⟩ := h
  rcases h1 with ⟨rfl, hn⟩ | ⟨g, cap, cur, rfl, hb, hh, hc1, hc2, hs, ht⟩
  · refine ⟨[], ⟨R, [], T, ⟨0, by omega, by unfold maxLen; omega, .inl ⟨hn, rfl, none, ⟨rfl, rfl⟩, rfl⟩⟩, h2, ?_⟩, List.nodup_nil, by simp⟩
    rw [hn]; rfl
  · refine ⟨[g] ++ (List.range l.length).flatMap T, ⟨R, [g], T, ⟨cap, hc1, hc2, .inr ⟨g, cap * 1, fun i => cur.getD i undef, rfl, rfl, by omega, ⟨cur, hh, by omega, fun i hi => ?_⟩, fun i hi => ?_⟩⟩, h2, rfl⟩, ?_, ?_⟩
    · have hlt : i < cur.size := by omega
      simp [hlt]
    · have hlt : i < cur.size := by omega
      have e : ((List.range l.length).map R)[i]? = some (R i) := by simp [show i < l.length by omega]
      rw [← ht, List.getElem?_take, if_pos (by omega)] at e
      simp only [Array.getElem?_toList] at e
      simp [Array.getD, hlt]
      simpa [hlt] using e
    · refine List.nodup_append.2 ⟨by simp, h3, fun a ha b hb e => ?_⟩
      obtain rfl := List.mem_singleton.1 ha
      subst e
      obtain ⟨i, hi, hbi⟩ := List.mem_flatMap.1 hb
      obtain ⟨cur', hc'⟩ := (h2 i (List.mem_range.1 hi)).1.typed _ hbi
      exact type_ne hh hc' (by decide) rfl
    · intro b hb'
      rcases List.mem_append.1 hb' with hb' | hb'
      · obtain rfl := List.mem_singleton.1 hb'; exact hb
      · exact h4 b hb'


end Go.Proofs.Ytkpdbceglejbnaa

