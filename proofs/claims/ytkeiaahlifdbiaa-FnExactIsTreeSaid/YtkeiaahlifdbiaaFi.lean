/- A network that fills up with rows that are given: as Ren and Ren2, for any rows. -/
import Derived.Test.YtkeiaahlifdbiaaRen2
namespace Go.Proofs.Ytkeiaahlifdbiaa
open Go.RowKit

abbrev Rows' := Nat → List (Int × Int)
def rowEnds (N : Net) (l : List Int) (ro : Rows') : List (List (Int × Int)) := (List.range N.ends.length).map fun i => ro (inv l i)
def rowNet (N : Net) (l : List Int) (ro : Rows') : Net := ⟨rowEnds N l ro, if N.ids.length = 0 then [] else renInts N.ends.length l N.ids, renInts N.ends.length l N.inputs⟩
theorem length_rowEnds (N : Net) (l : List Int) (ro : Rows') : (rowEnds N l ro).length = N.ends.length := by simp [rowEnds]
theorem gr_rowEnds (N : Net) (l : List Int) (ro : Rows') {i : Nat} (hi : i < N.ends.length) : gr (rowEnds N l ro) i = ro (inv l i) := by simp [gr, rowEnds, List.getD, hi]

/-- The network under construction: the rows of the first ke nodes, the inputs of the first ki, the identifiers of the first kd are written. -/
structure FillR (W0 wr : World) (N : Net) (l : List Int) (ro : Rows') (ke ki kd p eb ib : Nat) (x1 : Value) (R : Nat → Value) (T : Nat → List Nat) : Prop where
  ext : Ext W0 wr
  hp : W0.heap.size ≤ p
  he : W0.heap.size ≤ eb
  hi : W0.heap.size ≤ ib
  box : wr.rowIs p 29 3 (tri (.slice (some ⟨eb, 0, none⟩) N.ends.length N.ends.length) x1 (.slice (some ⟨ib, 0, none⟩) N.ends.length N.ends.length))
  ends : wr.rowIs eb 67 N.ends.length (fill l ke R (.slice none 0 0))
  ins : wr.rowIs ib 3 N.ends.length (fill l ki (fun v => .int .i64 (gi N.inputs v)) (.int .i64 0))
  ids : IdsAt W0 wr N l kd ib x1
  rows : ∀ v, v < ke → OwnE wr (R v) (ro v) (T v)
  apart : ∀ u v, u < ke → v < ke → u ≠ v → ∀ b ∈ T u, b ∉ T v
  ge : ∀ v, v < ke → ∀ b ∈ T v, W0.heap.size ≤ b

theorem FillR.mono {W0 wr w' : World} {N : Net} {l : List Int} {ro : Rows'} {ke ki kd p eb ib : Nat} {x1 : Value} {R : Nat → Value} {T : Nat → List Nat} (h : FillR W0 wr N l ro ke ki kd p eb ib x1 R T) (hx : Ext wr w') : FillR W0 w' N l ro ke ki kd p eb ib x1 R T :=
  ⟨h.ext.trans' hx, h.hp, h.he, h.hi, row_ext h.box hx, row_ext h.ends hx, row_ext h.ins hx, h.ids.ext hx, fun v hv => (h.rows v hv).ext hx, h.apart, h.ge⟩

theorem FillR.stepE {W0 wr wb : World} {N : Net} {l : List Int} {ro : Rows'} {k ki kd p eb ib c : Nat} {x1 v' : Value} {R : Nat → Value} {T : Nat → List Nat} {bs : List Nat} (h : FillR W0 wr N l ro k ki kd p eb ib x1 R T) (hp : PermOK l N.ends.length) (hk : k < N.ends.length) (hc : gi l k = c)
    (hx : Ext wr wb) (ho : OwnE wb v' (ro k) bs) (hf : ∀ b ∈ bs, wr.heap.size ≤ b) :
    FillR W0 (wb.setCell ⟨eb, c, none⟩ v') N l ro (k + 1) ki kd p eb ib x1 (fun v => if v = k then v' else R v) (fun v => if v = k then bs else T v) := by
  have g := h.mono hx
  have hends : wb.rowIs eb 67 N.ends.length (fill l k (fun v => if v = k then v' else R v) (.slice none 0 0)) := g.ends.congr fun i _ => by
    unfold fill
    by_cases e : inv l i < k
    · have e2 : ¬ inv l i = k := by omega
      simp only [if_pos e, if_neg e2]
    · rw [if_neg e, if_neg e]
  have hst := fill_step hp hk hc hends
  rw [if_pos rfl] at hst
  refine ⟨g.ext.store h.he _, h.hp, h.he, h.hi, row_far g.box g.ends (by decide), hst, row_far g.ins g.ends (by decide), g.ids.far g.ends (by decide), fun v hv => ?_, fun u v hu hv huv => ?_, fun v hv => ?_⟩
  · by_cases e : v = k
    · subst e; simp only [if_pos]; exact ownE_far ho g.ends (by decide)
    · simp only [if_neg e]; exact ownE_far (g.rows v (by omega)) g.ends (by decide)
  · by_cases e : u = k
    · by_cases e2 : v = k
      · exact absurd (e.trans e2.symm) huv
      · simp only [if_pos e, if_neg e2]
        intro b hb hb'
        have := (h.rows v (by omega)).1.lt b hb'
        have := hf b hb
        omega
    · by_cases e2 : v = k
      · simp only [if_neg e, if_pos e2]
        intro b hb hb'
        have := (h.rows u (by omega)).1.lt b hb
        have := hf b hb'
        omega
      · simp only [if_neg e, if_neg e2]
        exact h.apart u v (by omega) (by omega) huv
  · by_cases e : v = k
    · simp only [if_pos e]
      intro b hb
      have := hf b hb
      have := h.ext.size
      omega
    · simp only [if_neg e]
      exact h.ge v (by omega)
theorem FillR.stepI {W0 wr : World} {N : Net} {l : List Int} {ro : Rows'} {k ke kd p eb ib c : Nat} {x1 : Value} {R : Nat → Value} {T : Nat → List Nat} (h : FillR W0 wr N l ro ke k kd p eb ib x1 R T) (hp : PermOK l N.ends.length) (hk : k < N.ends.length) (hc : gi l k = c) :
    FillR W0 (wr.setCell ⟨ib, c, none⟩ (.int .i64 (gi N.inputs k))) N l ro ke (k + 1) kd p eb ib x1 R T := by
  refine ⟨h.ext.store h.hi _, h.hp, h.he, h.hi, row_far h.box h.ins (by decide), row_far h.ends h.ins (by decide), fill_step (f := fun v => .int .i64 (gi N.inputs v)) hp hk hc h.ins, ?_, fun v hv => ownE_far (h.rows v hv) h.ins (by decide), h.apart, h.ge⟩
  rcases h.ids with h | ⟨h0, db, h1, h2, h3, h4⟩
  · exact .inl h
  · exact .inr ⟨h0, db, h1, h2, h3, row_far' h4 h3⟩
theorem FillR.stepD {W0 wr : World} {N : Net} {l : List Int} {ro : Rows'} {k ke ki p eb ib c db : Nat} {R : Nat → Value} {T : Nat → List Nat} (h : FillR W0 wr N l ro ke ki k p eb ib (.slice (some ⟨db, 0, none⟩) N.ends.length N.ends.length) R T) (hp : PermOK l N.ends.length) (hk : k < N.ends.length) (hc : gi l k = c) (hn : 0 < N.ids.length) :
    FillR W0 (wr.setCell ⟨db, c, none⟩ (.int .i64 (gi N.ids k))) N l ro ke ki (k + 1) p eb ib (.slice (some ⟨db, 0, none⟩) N.ends.length N.ends.length) R T := by
  rcases h.ids with ⟨h0, _⟩ | ⟨h0, db', h1, h2, h3, h4⟩
  · omega
  · simp only [Value.slice.injEq, Option.some.injEq, Addr.mk.injEq, and_true] at h1
    subst h1
    exact ⟨h.ext.store h2 _, h.hp, h.he, h.hi, row_far h.box h4 (by decide), row_far h.ends h4 (by decide), row_far' h.ins (Ne.symm h3), .inr ⟨h0, db, rfl, h2, h3, fill_step (f := fun v => .int .i64 (gi N.ids v)) hp hk hc h4⟩, fun v hv => ownE_far (h.rows v hv) h4 (by decide), h.apart, h.ge⟩
theorem FillR.own {W0 wr : World} {N : Net} {l : List Int} {ro : Rows'} {p eb ib : Nat} {x1 : Value} {R : Nat → Value} {T : Nat → List Nat} (h : FillR W0 wr N l ro N.ends.length N.ends.length N.ends.length p eb ib x1 R T) (hp : PermOK l N.ends.length) (hn : N.ends.length ≤ 1048576)
    (hi : N.inputs.length = N.ends.length) (hd : N.ids.length = 0 ∨ N.ids.length = N.ends.length) (hri : ∀ i, i < N.inputs.length → inI64 (gi N.inputs i)) (hrd : ∀ i, i < N.ids.length → inI64 (gi N.ids i)) :
    ∃ bs, OwnNet wr (.agg #[.slice (some ⟨eb, 0, none⟩) N.ends.length N.ends.length, x1, .slice (some ⟨ib, 0, none⟩) N.ends.length N.ends.length]) (rowNet N l ro) bs ∧ Fresh W0 bs := by
  have hI := own_ints hp hn hi hri h.ins
  have hE : OwnSS wr (.slice (some ⟨eb, 0, none⟩) N.ends.length N.ends.length) (rowEnds N l ro) ([eb] ++ (List.range (rowEnds N l ro).length).flatMap (fun i => T (inv l i))) := by
    refine ⟨fun i => R (inv l i), [eb], fun i => T (inv l i), ?_, fun i hi => ?_, rfl⟩
    · rw [length_rowEnds]
      exact own_made (by rw [Nat.mul_one]; exact h.ends) (by unfold maxLen; omega) (fun i hi => by rw [Nat.mul_one] at hi; rw [fill_all hp _ _ hi])
    · rw [length_rowEnds] at hi
      rw [gr_rowEnds _ _ _ hi]
      exact h.rows _ (inv_spec hp hi).1
  have hT : ((List.range N.ends.length).flatMap (fun i => T (inv l i))).Nodup := nodup_of_rows _ (fun i hi => (h.rows _ (inv_spec hp hi).1).1.nodup) (fun i j hi hj hij => h.apart _ _ (inv_spec hp hi).1 (inv_spec hp hj).1 (fun e => hij (by
    have h1 := (inv_spec hp hi).2
    have h2 := (inv_spec hp hj).2
    rw [e] at h1
    omega)))
  have hmem : ∀ b ∈ (List.range N.ends.length).flatMap (fun i => T (inv l i)), W0.heap.size ≤ b ∧ ∀ (b' t n : Nat) (f : Nat → Value), wr.rowIs b' t n f → 66 ≠ t → b ≠ b' := fun b hb => by
    obtain ⟨i, hi, hb⟩ := List.mem_flatMap.1 hb
    have hi := (inv_spec hp (List.mem_range.1 hi)).1
    refine ⟨h.ge _ hi b hb, fun b' t n f hr hne => ?_⟩
    obtain ⟨c, hc⟩ := (h.rows _ hi).1.typed b hb
    obtain ⟨d, hd⟩ := rowIs.blk hr
    exact type_ne hc hd hne
  have hei := ne_by_type h.ends h.ins (by decide)
  rw [length_rowEnds] at hE
  rcases h.ids with ⟨h0, rfl⟩ | ⟨h0, db, rfl, h2, h3, h4⟩
  · have hN : rowNet N l ro = ⟨rowEnds N l ro, [], renInts N.ends.length l N.inputs⟩ := by simp [rowNet, h0]
    rw [hN]
    refine ⟨_, ⟨_, _, _, _, _, _, rfl, hE, ⟨⟨0, Nat.le_refl _, by unfold maxLen; omega, .inl ⟨rfl, rfl, none, ⟨rfl, rfl⟩, rfl⟩⟩, fun i hi => absurd hi (by simp)⟩, hI, rfl⟩, ?_, fun b hb => ?_⟩
    · simp only [List.nil_append, List.cons_append]
      refine List.nodup_cons.2 ⟨fun hb => ?_, List.nodup_append.2 ⟨hT, by simp, fun a ha b hb e => ?_⟩⟩
      · rcases List.mem_append.1 hb with hb | hb
        · exact (hmem _ hb).2 _ _ _ _ h.ends (by decide) rfl
        · exact hei (by simpa using hb)
      · obtain rfl := List.mem_singleton.1 hb
        exact (hmem _ ha).2 _ _ _ _ h.ins (by decide) e
    · simp only [List.nil_append, List.cons_append, List.mem_cons, List.mem_append, List.not_mem_nil, or_false] at hb
      rcases hb with rfl | hb | rfl
      · exact h.he
      · exact (hmem _ hb).1
      · exact h.hi
  · have hN : rowNet N l ro = ⟨rowEnds N l ro, renInts N.ends.length l N.ids, renInts N.ends.length l N.inputs⟩ := by simp [rowNet, show ¬ N.ids.length = 0 by omega]
    rw [hN]
    have hed := ne_by_type h.ends h4 (by decide)
    have hD := own_ints hp hn (by omega) hrd h4
    refine ⟨_, ⟨_, _, _, _, _, _, rfl, hE, hD, hI, rfl⟩, ?_, fun b hb => ?_⟩
    · simp only [List.nil_append, List.cons_append]
      refine List.nodup_cons.2 ⟨fun hb => ?_, List.nodup_append.2 ⟨hT, by simpa using h3, fun a ha b hb e => ?_⟩⟩
      · rcases List.mem_append.1 hb with hb | hb
        · exact (hmem _ hb).2 _ _ _ _ h.ends (by decide) rfl
        · simp only [List.mem_cons, List.not_mem_nil, or_false] at hb
          rcases hb with hb | hb
          · exact hed hb
          · exact hei hb
      · simp only [List.mem_cons, List.not_mem_nil, or_false] at hb
        rcases hb with rfl | rfl
        · exact (hmem _ ha).2 _ _ _ _ h4 (by decide) e
        · exact (hmem _ ha).2 _ _ _ _ h.ins (by decide) e
    · simp only [List.nil_append, List.cons_append, List.mem_cons, List.mem_append, List.not_mem_nil, or_false] at hb
      rcases hb with rfl | hb | rfl | rfl
      · exact h.he
      · exact (hmem _ hb).1
      · exact h2
      · exact h.hi
end Go.Proofs.Ytkeiaahlifdbiaa
