/- What it means that a value lies in memory of its own: blocks that are listed, each once. -/
import Derived.Test.YtndgbildkeglfaaTo2
namespace Go.Proofs.Ytndgbildkeglfaa
open Go.RowKit

/-- A slice of n elements of k cells of type t in at most one block, which is listed in bs. -/
def OwnSl (w : World) (v : Value) (n k t : Nat) (f : Nat → Value) (bs : List Nat) : Prop :=
  ∃ c, n ≤ c ∧ c ≤ maxLen ∧ ((n = 0 ∧ bs = [] ∧ ∃ a, (a = none ∧ c = 0) ∧ v = .slice a 0 c) ∨
    ∃ b m g, bs = [b] ∧ v = .slice (some ⟨b, 0, none⟩) n c ∧ (n * k ≤ m ∧ m = c * k) ∧ w.rowIs b t m g ∧ ∀ i, i < n * k → g i = f i)

theorem OwnSl.keep {w w' : World} {v : Value} {n k t : Nat} {f : Nat → Value} {bs : List Nat} (h : OwnSl w v n k t f bs) (he : ∀ b ∈ bs, w'.heap[b]? = w.heap[b]?) : OwnSl w' v n k t f bs := by
  obtain ⟨c, h1, h2, h3⟩ := h
  refine ⟨c, h1, h2, ?_⟩
  rcases h3 with h3 | ⟨b, m, g, rfl, hv, hm, hr, hf⟩
  · exact .inl h3
  · exact .inr ⟨b, m, g, rfl, hv, hm, hr.of_block (he b (by simp)), hf⟩

theorem OwnSl.lt {w : World} {v : Value} {n k t : Nat} {f : Nat → Value} {bs : List Nat} (h : OwnSl w v n k t f bs) : ∀ b ∈ bs, b < w.heap.size := by
  obtain ⟨c, h1, h2, h3⟩ := h
  intro b hb
  rcases h3 with ⟨_, rfl, _⟩ | ⟨b', m, g, rfl, hv, hm, hr, hf⟩
  · simp at hb
  · simp at hb; subst hb; exact hr.lt

theorem OwnSl.nodup {w : World} {v : Value} {n k t : Nat} {f : Nat → Value} {bs : List Nat} (h : OwnSl w v n k t f bs) : bs.Nodup := by
  obtain ⟨c, h1, h2, h3⟩ := h
  rcases h3 with ⟨_, rfl, _⟩ | ⟨b', m, g, rfl, hv, hm, hr, hf⟩ <;> simp

def OwnI (w : World) (v : Value) (l : List Int) (bs : List Nat) : Prop := OwnSl w v l.length 1 3 (fun i => .int .i64 (gi l i)) bs ∧ ∀ i, i < l.length → inI64 (gi l i)
def OwnE (w : World) (v : Value) (l : List (Int × Int)) (bs : List Nat) : Prop := OwnSl w v l.length 2 44 (ecell l) bs ∧ ∀ i, i < l.length → inI64 (gn l i) ∧ inI64 (gp l i)
def OwnSS (w : World) (v : Value) (l : List (List (Int × Int))) (bs : List Nat) : Prop :=
  ∃ (R : Nat → Value) (b0 : List Nat) (T : Nat → List Nat), OwnSl w v l.length 1 70 R b0 ∧ (∀ i, i < l.length → OwnE w (R i) (gr l i) (T i)) ∧ bs = b0 ++ (List.range l.length).flatMap T
def OwnNet (w : World) (v : Value) (N : Net) (bs : List Nat) : Prop :=
  ∃ v0 v1 v2 b0 b1 b2, v = .agg #[v0, v1, v2] ∧ OwnSS w v0 N.ends b0 ∧ OwnI w v1 N.ids b1 ∧ OwnI w v2 N.inputs b2 ∧ bs = b0 ++ (b1 ++ b2)

theorem OwnI.keep {w w' : World} {v : Value} {l : List Int} {bs : List Nat} (h : OwnI w v l bs) (he : ∀ b ∈ bs, w'.heap[b]? = w.heap[b]?) : OwnI w' v l bs := ⟨h.1.keep he, h.2⟩
theorem OwnE.keep {w w' : World} {v : Value} {l : List (Int × Int)} {bs : List Nat} (h : OwnE w v l bs) (he : ∀ b ∈ bs, w'.heap[b]? = w.heap[b]?) : OwnE w' v l bs := ⟨h.1.keep he, h.2⟩
theorem OwnSS.keep {w w' : World} {v : Value} {l : List (List (Int × Int))} {bs : List Nat} (h : OwnSS w v l bs) (he : ∀ b ∈ bs, w'.heap[b]? = w.heap[b]?) : OwnSS w' v l bs := by
  obtain ⟨R, b0, T, h1, h2, rfl⟩ := h
  refine ⟨R, b0, T, h1.keep fun b hb => he b (by simp [hb]), fun i hi => (h2 i hi).keep fun b hb => he b ?_, rfl⟩
  exact List.mem_append.2 (.inr (List.mem_flatMap.2 ⟨i, List.mem_range.2 hi, hb⟩))
theorem OwnNet.keep {w w' : World} {v : Value} {N : Net} {bs : List Nat} (h : OwnNet w v N bs) (he : ∀ b ∈ bs, w'.heap[b]? = w.heap[b]?) : OwnNet w' v N bs := by
  obtain ⟨v0, v1, v2, b0, b1, b2, rfl, h0, h1, h2, rfl⟩ := h
  exact ⟨v0, v1, v2, b0, b1, b2, rfl, h0.keep fun b hb => he b (by simp [hb]), h1.keep fun b hb => he b (by simp [hb]), h2.keep fun b hb => he b (by simp [hb]), rfl⟩

theorem OwnSS.lt {w : World} {v : Value} {l : List (List (Int × Int))} {bs : List Nat} (h : OwnSS w v l bs) : ∀ b ∈ bs, b < w.heap.size := by
  obtain ⟨R, b0, T, h1, h2, rfl⟩ := h
  intro b hb
  rcases List.mem_append.1 hb with hb | hb
  · exact h1.lt b hb
  · obtain ⟨i, hi, hb⟩ := List.mem_flatMap.1 hb
    exact (h2 i (List.mem_range.1 hi)).1.lt b hb
theorem OwnNet.lt {w : World} {v : Value} {N : Net} {bs : List Nat} (h : OwnNet w v N bs) : ∀ b ∈ bs, b < w.heap.size := by
  obtain ⟨v0, v1, v2, b0, b1, b2, rfl, h0, h1, h2, rfl⟩ := h
  intro b hb
  rcases List.mem_append.1 hb with hb | hb
  · exact h0.lt b hb
  · rcases List.mem_append.1 hb with hb | hb
    · exact h1.1.lt b hb
    · exact h2.1.lt b hb

theorem OwnI.ext {w w' : World} {v : Value} {l : List Int} {bs : List Nat} (h : OwnI w v l bs) (he : Ext w w') : OwnI w' v l bs := h.keep fun b hb => he.block b (h.1.lt b hb)
theorem OwnE.ext {w w' : World} {v : Value} {l : List (Int × Int)} {bs : List Nat} (h : OwnE w v l bs) (he : Ext w w') : OwnE w' v l bs := h.keep fun b hb => he.block b (h.1.lt b hb)
theorem OwnSS.ext {w w' : World} {v : Value} {l : List (List (Int × Int))} {bs : List Nat} (h : OwnSS w v l bs) (he : Ext w w') : OwnSS w' v l bs := h.keep fun b hb => he.block b (h.lt b hb)
theorem OwnNet.ext {w w' : World} {v : Value} {N : Net} {bs : List Nat} (h : OwnNet w v N bs) (he : Ext w w') : OwnNet w' v N bs := h.keep fun b hb => he.block b (h.lt b hb)

theorem OwnI.read {w : World} {v : Value} {l : List Int} {bs : List Nat} (h : OwnI w v l bs) : IntSl w v l := by
  obtain ⟨⟨c, h1, h2, h3⟩, h4⟩ := h
  rcases h3 with ⟨hn, rfl, a, -, rfl⟩ | ⟨b, m, g, rfl, rfl, hm, hr, hf⟩
  · exact ⟨a, 0, 0, c, by rw [hn], fun h => absurd h (by omega), by omega, h2, fun i hi => absurd hi (by omega)⟩
  · refine ⟨_, b, 0, c, rfl, fun _ => rfl, h1, h2, fun i hi => ⟨_, ?_, rfl, h4 i hi⟩⟩
    rw [Nat.zero_add, hr.cell (by omega), hf i (by omega)]
theorem OwnE.read {w : World} {v : Value} {l : List (Int × Int)} {bs : List Nat} (h : OwnE w v l bs) : EndSl w v l := by
  obtain ⟨⟨c, h1, h2, h3⟩, h4⟩ := h
  rcases h3 with ⟨hn, rfl, a, -, rfl⟩ | ⟨b, m, g, rfl, rfl, hm, hr, hf⟩
  · exact ⟨a, 0, 0, c, by rw [hn], fun h => absurd h (by omega), by omega, h2, fun i hi => absurd hi (by omega)⟩
  · refine ⟨_, b, 0, c, rfl, fun _ => rfl, h1, h2, fun i hi => ⟨?_, ?_, h4 i hi⟩⟩
    · rw [Nat.zero_add, hr.cell (by omega), hf _ (by omega)]
      simp only [ecell]
      rw [if_pos (by omega)]
      congr 3; omega
    · rw [Nat.zero_add, hr.cell (by omega), hf _ (by omega)]
      simp only [ecell]
      rw [if_neg (by omega)]
      congr 3; omega
theorem OwnSS.read {w : World} {v : Value} {l : List (List (Int × Int))} {bs : List Nat} (h : OwnSS w v l bs) : EndSS w v l := by
  obtain ⟨R, b0, T, ⟨c, h1, h2, h3⟩, h4, rfl⟩ := h
  rcases h3 with ⟨hn, rfl, a, -, rfl⟩ | ⟨b, m, g, rfl, rfl, hm, hr, hf⟩
  · exact ⟨a, 0, 0, c, by rw [hn], fun h => absurd h (by omega), by omega, h2, fun i hi => absurd hi (by omega)⟩
  · refine ⟨_, b, 0, c, rfl, fun _ => rfl, h1, h2, fun i hi => ⟨R i, ?_, (h4 i hi).read⟩⟩
    rw [Nat.zero_add, hr.cell (by omega), hf i (by omega)]
theorem OwnNet.read {w : World} {v : Value} {N : Net} {bs : List Nat} (h : OwnNet w v N bs) : NetAt w v N := by
  obtain ⟨v0, v1, v2, b0, b1, b2, rfl, h0, h1, h2, rfl⟩ := h
  exact ⟨v0, v1, v2, rfl, h0.read, h1.read, h2.read⟩

/-- New blocks, each once. -/
def Fresh (w : World) (bs : List Nat) : Prop := bs.Nodup ∧ ∀ b ∈ bs, w.heap.size ≤ b
theorem Fresh.nil (w : World) : Fresh w [] := ⟨List.nodup_nil, by simp⟩
theorem Fresh.of {w w' : World} {bs : List Nat} (h : Fresh w' bs) (he : w.heap.size ≤ w'.heap.size) : Fresh w bs := ⟨h.1, fun b hb => Nat.le_trans he (h.2 b hb)⟩
theorem Fresh.append {w w1 : World} {bs cs : List Nat} (h : Fresh w bs) (hlt : ∀ b ∈ bs, b < w1.heap.size) (he : w.heap.size ≤ w1.heap.size) (k : Fresh w1 cs) : Fresh w (bs ++ cs) := by
  refine ⟨List.nodup_append.2 ⟨h.1, k.1, fun a ha b hb e => ?_⟩, fun b hb => ?_⟩
  · subst e; have := hlt a ha; have := k.2 a hb; omega
  · rcases List.mem_append.1 hb with hb | hb
    · exact h.2 b hb
    · have := k.2 b hb; omega
end Go.Proofs.Ytndgbildkeglfaa
