/- A network that is filled up is a network of its own. -/
import Derived.Test.YtkeiaahlifdbiaaRen
namespace Go.Proofs.Ytkeiaahlifdbiaa
open Go.RowKit

theorem ne_by_type {w : World} {b b' t t' n n' : Nat} {f f' : Nat → Value} (h : w.rowIs b t n f) (k : w.rowIs b' t' n' f') (hne : t ≠ t') : b ≠ b' := by
  obtain ⟨c, hc⟩ := rowIs.blk h
  obtain ⟨d, hd⟩ := rowIs.blk k
  exact type_ne hc hd hne
theorem own_ints {w : World} {b n : Nat} {l m : List Int} (hp : PermOK l n) (hn : n ≤ 1048576) (hm : m.length = n) (hr : ∀ i, i < m.length → inI64 (gi m i)) (h : w.rowIs b 3 n (fill l n (fun v => .int .i64 (gi m v)) (.int .i64 0))) :
    OwnI w (.slice (some ⟨b, 0, none⟩) n n) (renInts n l m) [b] := by
  refine ⟨?_, fun i hi => ?_⟩
  · rw [length_renInts]
    exact own_made (by rw [Nat.mul_one]; exact h) (by unfold maxLen; omega) (fun i hi => by rw [Nat.mul_one] at hi; rw [fill_all hp _ _ hi, gi_renInts _ _ _ hi])
  · rw [length_renInts] at hi
    rw [gi_renInts _ _ _ hi]
    exact hr _ (by have := (inv_spec hp hi).1; omega)
theorem Filled.own {W0 wr : World} {N : Net} {l : List Int} {p eb ib : Nat} {x1 : Value} {R : Nat → Value} {T : Nat → List Nat} (h : Filled W0 wr N l N.ends.length N.ends.length N.ends.length p eb ib x1 R T) (hp : PermOK l N.ends.length) (hn : N.ends.length ≤ 1048576)
    (hi : N.inputs.length = N.ends.length) (hd : N.ids.length = 0 ∨ N.ids.length = N.ends.length) (hri : ∀ i, i < N.inputs.length → inI64 (gi N.inputs i)) (hrd : ∀ i, i < N.ids.length → inI64 (gi N.ids i)) :
    ∃ bs, OwnNet wr (.agg #[.slice (some ⟨eb, 0, none⟩) N.ends.length N.ends.length, x1, .slice (some ⟨ib, 0, none⟩) N.ends.length N.ends.length]) (renNet N l) bs ∧ Fresh W0 bs := by
  have hI := own_ints hp hn hi hri h.ins
  have hE : OwnSS wr (.slice (some ⟨eb, 0, none⟩) N.ends.length N.ends.length) (renEnds N l) ([eb] ++ (List.range (renEnds N l).length).flatMap (fun i => T (inv l i))) := by
    refine ⟨fun i => R (inv l i), [eb], fun i => T (inv l i), ?_, fun i hi => ?_, rfl⟩
    · rw [length_renEnds]
      exact own_made (by rw [Nat.mul_one]; exact h.ends) (by unfold maxLen; omega) (fun i hi => by rw [Nat.mul_one] at hi; rw [fill_all hp _ _ hi])
    · rw [length_renEnds] at hi
      rw [gr_renEnds _ _ hi]
      exact h.rows _ (inv_spec hp hi).1
  have hT : ((List.range N.ends.length).flatMap (fun i => T (inv l i))).Nodup := nodup_of_rows _ (fun i hi => (h.rows _ (inv_spec hp hi).1).1.nodup) (fun i j hi hj hij => h.apart _ _ (inv_spec hp hi).1 (inv_spec hp hj).1 (fun e => hij (by
    have h1 := (inv_spec hp hi).2
    have h2 := (inv_spec hp hj).2
    rw [e] at h1
    omega)))
  have hmem : ∀ b ∈ (List.range N.ends.length).flatMap (fun i => T (inv l i)), W0.heap.size ≤ b ∧ ∀ (b' t n : Nat) (f : Nat → Value), wr.rowIs b' t n f → 66 ≠ t → b ≠ b' := fun b hb => by
    obtain ⟨i, hi, hb⟩ := List.mem_flatMap.1 hb
    have hi := (inv_spec hp (List.mem_range.1 hi)).1
    refine ⟨h.ge _ hi b hb, fun b' t n f hr hne => ?_⟩
    obtain ⟨c, hc⟩ := (h.rows _ hi).1.typed b hb
    obtain ⟨d, hd⟩ := rowIs.blk hr
    exact type_ne hc hd hne
  have hei := ne_by_type h.ends h.ins (by decide)
  rw [length_renEnds] at hE
  rcases h.ids with ⟨h0, rfl⟩ | ⟨h0, db, rfl, h2, h3, h4⟩
  · have hN : renNet N l = ⟨renEnds N l, [], renInts N.ends.length l N.inputs⟩ := by simp [renNet, h0]
    rw [hN]
    refine ⟨_, ⟨_, _, _, _, _, _, rfl, hE, ⟨⟨0, Nat.le_refl _, by unfold maxLen; omega, .inl ⟨rfl, rfl, none, ⟨rfl, rfl⟩, rfl⟩⟩, fun i hi => absurd hi (by simp)⟩, hI, rfl⟩, ?_, fun b hb => ?_⟩
    · simp only [List.nil_append, List.cons_append]
      refine List.nodup_cons.2 ⟨fun hb => ?_, List.nodup_append.2 ⟨hT, by simp, fun a ha b hb e => ?_⟩⟩
      · rcases List.mem_append.1 hb with hb | hb
        · exact (hmem _ hb).2 _ _ _ _ h.ends (by decide) rfl
        · exact hei (by simpa using hb)
      · obtain rfl := List.mem_singleton.1 hb
        exact (hmem _ ha).2 _ _ _ _ h.ins (by decide) e
    · simp only [List.nil_append, List.cons_append, List.mem_cons, List.mem_append, List.not_mem_nil, or_false] at hb
      rcases hb with rfl | hb | rfl
      · exact h.he
      · exact (hmem _ hb).1
      · exact h.hi
  · have hN : renNet N l = ⟨renEnds N l, renInts N.ends.length l N.ids, renInts N.ends.length l N.inputs⟩ := by simp [renNet, show ¬ N.ids.length = 0 by omega]
    rw [hN]
    have hed := ne_by_type h.ends h4 (by decide)
    have hD := own_ints hp hn (by omega) hrd h4
    refine ⟨_, ⟨_, _, _, _, _, _, rfl, hE, hD, hI, rfl⟩, ?_, fun b hb => ?_⟩
    · simp only [List.nil_append, List.cons_append]
      refine List.nodup_cons.2 ⟨fun hb => ?_, List.nodup_append.2 ⟨hT, by simpa using h3, fun a ha b hb e => ?_⟩⟩
      · rcases List.mem_append.1 hb with hb | hb
        · exact (hmem _ hb).2 _ _ _ _ h.ends (by decide) rfl
        · simp only [List.mem_cons, List.not_mem_nil, or_false] at hb
          rcases hb with hb | hb
          · exact hed hb
          · exact hei hb
      · simp only [List.mem_cons, List.not_mem_nil, or_false] at hb
        rcases hb with rfl | rfl
        · exact (hmem _ ha).2 _ _ _ _ h4 (by decide) e
        · exact (hmem _ ha).2 _ _ _ _ h.ins (by decide) e
    · simp only [List.nil_append, List.cons_append, List.mem_cons, List.mem_append, List.not_mem_nil, or_false] at hb
      rcases hb with rfl | hb | rfl | rfl
      · exact h.he
      · exact (hmem _ hb).1
      · exact h2
      · exact h.hi
end Go.Proofs.Ytkeiaahlifdbiaa
