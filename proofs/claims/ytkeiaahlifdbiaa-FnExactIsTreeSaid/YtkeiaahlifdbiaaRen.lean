/- A network with other numbers for its nodes, as plain data; how its rows, its inputs and its identifiers fill up. -/
import Derived.Test.YtkeiaahlifdbiaaCh3
namespace Go.Proofs.Ytkeiaahlifdbiaa
open Go.RowKit

/-- The place of the number i in the list. -/
def inv (l : List Int) (i : Nat) : Nat := l.idxOf (i : Int)
theorem inv_of {l : List Int} {n : Nat} (h : PermOK l n) {v i : Nat} (hv : v < n) (e : gi l v = i) : inv l i = v := by
  have hl := h.1
  have hmem : (i : Int) ∈ l := by
    rw [← e]
    have : l[v]'(by omega) = gi l v := by simp [gi, List.getD, show v < l.length by omega]
    rw [← this]; exact List.getElem_mem _
  have h1 : inv l i < l.length := List.idxOf_lt_length_of_mem hmem
  have h2 : gi l (inv l i) = i := by
    have : l[inv l i]'h1 = (i : Int) := List.getElem_idxOf h1
    simpa [gi, List.getD, h1] using this
  exact perm_inj h (by omega) hv (by rw [h2, e])
theorem inv_spec {l : List Int} {n : Nat} (h : PermOK l n) {i : Nat} (hi : i < n) : inv l i < n ∧ gi l (inv l i) = i := by
  obtain ⟨v, hv, e⟩ := perm_onto h hi
  rw [inv_of h hv e]
  exact ⟨hv, e⟩

def renEnds (N : Net) (l : List Int) : List (List (Int × Int)) := (List.range N.ends.length).map fun i => renRow l (gr N.ends (inv l i))
def renInts (n : Nat) (l m : List Int) : List Int := (List.range n).map fun i => gi m (inv l i)
def renNet (N : Net) (l : List Int) : Net := ⟨renEnds N l, if N.ids.length = 0 then [] else renInts N.ends.length l N.ids, renInts N.ends.length l N.inputs⟩
theorem length_renEnds (N : Net) (l : List Int) : (renEnds N l).length = N.ends.length := by simp [renEnds]
theorem length_renInts (n : Nat) (l m : List Int) : (renInts n l m).length = n := by simp [renInts]
theorem gr_renEnds (N : Net) (l : List Int) {i : Nat} (hi : i < N.ends.length) : gr (renEnds N l) i = renRow l (gr N.ends (inv l i)) := by simp [gr, renEnds, List.getD, hi]
theorem gi_renInts (n : Nat) (l m : List Int) {i : Nat} (hi : i < n) : gi (renInts n l m) i = gi m (inv l i) := by simp [gi, renInts, List.getD, hi]

/-- The first k nodes are written: what their numbers name. -/
def fill (l : List Int) (k : Nat) (f : Nat → Value) (z : Value) (i : Nat) : Value := if inv l i < k then f (inv l i) else z
theorem fill_zero (l : List Int) (f : Nat → Value) (z : Value) : fill l 0 f z = fun _ => z := by funext i; simp [fill]
theorem fill_all {l : List Int} {n : Nat} (h : PermOK l n) (f : Nat → Value) (z : Value) {i : Nat} (hi : i < n) : fill l n f z i = f (inv l i) := by
  simp [fill, (inv_spec h hi).1]
theorem fill_step {w : World} {b t n k c : Nat} {l : List Int} {f : Nat → Value} {z : Value} (hp : PermOK l n) (hk : k < n) (hc : gi l k = c) (h : w.rowIs b t n (fill l k f z)) : (w.setCell ⟨b, c, none⟩ (f k)).rowIs b t n (fill l (k + 1) f z) :=
  (h.set c _).congr fun i hi => by
    unfold fill
    have hik : inv l c = k := inv_of hp hk hc
    by_cases e : i = c
    · subst e; rw [if_pos rfl, hik, if_pos (by omega)]
    · rw [if_neg e]
      have hne : inv l i ≠ k := fun e2 => e (by have := (inv_spec hp hi).2; rw [e2, hc] at this; omega)
      by_cases h1 : inv l i < k
      · rw [if_pos h1, if_pos (by omega)]
      · rw [if_neg h1, if_neg (by omega)]

/-- Rows with blocks of their own. -/
theorem nodup_of_rows {T : Nat → List Nat} : ∀ n, (∀ i, i < n → (T i).Nodup) → (∀ i j, i < n → j < n → i ≠ j → ∀ b ∈ T i, b ∉ T j) → ((List.range n).flatMap T).Nodup
  | 0, _, _ => by simp
  | n + 1, h1, h2 => by
    rw [List.range_succ, List.flatMap_append]
    refine List.nodup_append.2 ⟨nodup_of_rows n (fun i hi => h1 i (by omega)) (fun i j hi hj => h2 i j (by omega) (by omega)), by simpa using h1 n (by omega), fun a ha b hb e => ?_⟩
    subst e
    obtain ⟨i, hi, hb'⟩ := List.mem_flatMap.1 ha
    have hi' := List.mem_range.1 hi
    exact h2 i n (by omega) (by omega) (by omega) a hb' (by simpa using hb)

/-- The identifiers of the network under construction. -/
def IdsAt (W0 wr : World) (N : Net) (l : List Int) (k ib : Nat) (x1 : Value) : Prop :=
  (N.ids.length = 0 ∧ x1 = .slice none 0 0) ∨ (0 < N.ids.length ∧ ∃ db, x1 = .slice (some ⟨db, 0, none⟩) N.ends.length N.ends.length ∧ W0.heap.size ≤ db ∧ db ≠ ib ∧ wr.rowIs db 3 N.ends.length (fill l k (fun v => .int .i64 (gi N.ids v)) (.int .i64 0)))

/-- The network under construction: the rows of the first ke nodes, the inputs of the first ki, the identifiers of the first kd are written. -/
structure Filled (W0 wr : World) (N : Net) (l : List Int) (ke ki kd p eb ib : Nat) (x1 : Value) (R : Nat → Value) (T : Nat → List Nat) : Prop where
  ext : Ext W0 wr
  hp : W0.heap.size ≤ p
  he : W0.heap.size ≤ eb
  hi : W0.heap.size ≤ ib
  box : wr.rowIs p 29 3 (tri (.slice (some ⟨eb, 0, none⟩) N.ends.length N.ends.length) x1 (.slice (some ⟨ib, 0, none⟩) N.ends.length N.ends.length))
  ends : wr.rowIs eb 67 N.ends.length (fill l ke R (.slice none 0 0))
  ins : wr.rowIs ib 3 N.ends.length (fill l ki (fun v => .int .i64 (gi N.inputs v)) (.int .i64 0))
  ids : IdsAt W0 wr N l kd ib x1
  rows : ∀ v, v < ke → OwnE wr (R v) (renRow l (gr N.ends v)) (T v)
  apart : ∀ u v, u < ke → v < ke → u ≠ v → ∀ b ∈ T u, b ∉ T v
  ge : ∀ v, v < ke → ∀ b ∈ T v, W0.heap.size ≤ b

theorem row_far {w : World} {p : Addr} {u : Value} {b t t' n n' : Nat} {f f' : Nat → Value} (h : w.rowIs b t n f) (k : w.rowIs p.block t' n' f') (hne : t ≠ t') : (w.setCell p u).rowIs b t n f := by
  obtain ⟨c, hc⟩ := rowIs.blk h
  obtain ⟨d, hd⟩ := rowIs.blk k
  exact h.of_block (Below.heap_setCell _ _ _ _ (type_ne hc hd hne))
theorem row_far' {w : World} {p : Addr} {u : Value} {b t n : Nat} {f : Nat → Value} (h : w.rowIs b t n f) (hne : b ≠ p.block) : (w.setCell p u).rowIs b t n f := h.of_block (Below.heap_setCell _ _ _ _ hne)
theorem ownE_far {w : World} {p : Addr} {u v : Value} {t' n' : Nat} {f' : Nat → Value} {l : List (Int × Int)} {bs : List Nat} (h : OwnE w v l bs) (k : w.rowIs p.block t' n' f') (hne : 66 ≠ t') : OwnE (w.setCell p u) v l bs := by
  obtain ⟨d, hd⟩ := rowIs.blk k
  exact h.keep (kept_store hd h.1.typed hne)
theorem IdsAt.far {W0 wr : World} {N : Net} {l : List Int} {k ib : Nat} {x1 u : Value} {p : Addr} {t' n' : Nat} {f' : Nat → Value} (h : IdsAt W0 wr N l k ib x1) (hr : wr.rowIs p.block t' n' f') (hne : 3 ≠ t') : IdsAt W0 (wr.setCell p u) N l k ib x1 := by
  rcases h with h | ⟨h0, db, h1, h2, h3, h4⟩
  · exact .inl h
  · exact .inr ⟨h0, db, h1, h2, h3, row_far h4 hr hne⟩
theorem IdsAt.ext {W0 wr w' : World} {N : Net} {l : List Int} {k ib : Nat} {x1 : Value} (h : IdsAt W0 wr N l k ib x1) (hx : Ext wr w') : IdsAt W0 w' N l k ib x1 := by
  rcases h with h | ⟨h0, db, h1, h2, h3, h4⟩
  · exact .inl h
  · exact .inr ⟨h0, db, h1, h2, h3, row_ext h4 hx⟩
theorem Filled.mono {W0 wr w' : World} {N : Net} {l : List Int} {ke ki kd p eb ib : Nat} {x1 : Value} {R : Nat → Value} {T : Nat → List Nat} (h : Filled W0 wr N l ke ki kd p eb ib x1 R T) (hx : Ext wr w') : Filled W0 w' N l ke ki kd p eb ib x1 R T :=
  ⟨h.ext.trans' hx, h.hp, h.he, h.hi, row_ext h.box hx, row_ext h.ends hx, row_ext h.ins hx, h.ids.ext hx, fun v hv => (h.rows v hv).ext hx, h.apart, h.ge⟩

theorem Filled.stepE {W0 wr wb : World} {N : Net} {l : List Int} {k ki kd p eb ib c : Nat} {x1 v' : Value} {R : Nat → Value} {T : Nat → List Nat} {bs : List Nat} (h : Filled W0 wr N l k ki kd p eb ib x1 R T) (hp : PermOK l N.ends.length) (hk : k < N.ends.length) (hc : gi l k = c)
    (hx : Ext wr wb) (ho : OwnE wb v' (renRow l (gr N.ends k)) bs) (hf : ∀ b ∈ bs, wr.heap.size ≤ b) :
    Filled W0 (wb.setCell ⟨eb, c, none⟩ v') N l (k + 1) ki kd p eb ib x1 (fun v => if v = k then v' else R v) (fun v => if v = k then bs else T v) := by
  have g := h.mono hx
  have hends : wb.rowIs eb 67 N.ends.length (fill l k (fun v => if v = k then v' else R v) (.slice none 0 0)) := g.ends.congr fun i _ => by
    unfold fill
    by_cases e : inv l i < k
    · have e2 : ¬ inv l i = k := by omega
      simp only [if_pos e, if_neg e2]
    · rw [if_neg e, if_neg e]
  have hst := fill_step hp hk hc hends
  rw [if_pos rfl] at hst
  refine ⟨g.ext.store h.he _, h.hp, h.he, h.hi, row_far g.box g.ends (by decide), hst, row_far g.ins g.ends (by decide), g.ids.far g.ends (by decide), fun v hv => ?_, fun u v hu hv huv => ?_, fun v hv => ?_⟩
  · by_cases e : v = k
    · subst e; simp only [if_pos]; exact ownE_far ho g.ends (by decide)
    · simp only [if_neg e]; exact ownE_far (g.rows v (by omega)) g.ends (by decide)
  · by_cases e : u = k
    · by_cases e2 : v = k
      · exact absurd (e.trans e2.symm) huv
      · simp only [if_pos e, if_neg e2]
        intro b hb hb'
        have := (h.rows v (by omega)).1.lt b hb'
        have := hf b hb
        omega
    · by_cases e2 : v = k
      · simp only [if_neg e, if_pos e2]
        intro b hb hb'
        have := (h.rows u (by omega)).1.lt b hb
        have := hf b hb'
        omega
      · simp only [if_neg e, if_neg e2]
        exact h.apart u v (by omega) (by omega) huv
  · by_cases e : v = k
    · simp only [if_pos e]
      intro b hb
      have := hf b hb
      have := h.ext.size
      omega
    · simp only [if_neg e]
      exact h.ge v (by omega)
theorem Filled.stepI {W0 wr : World} {N : Net} {l : List Int} {k ke kd p eb ib c : Nat} {x1 : Value} {R : Nat → Value} {T : Nat → List Nat} (h : Filled W0 wr N l ke k kd p eb ib x1 R T) (hp : PermOK l N.ends.length) (hk : k < N.ends.length) (hc : gi l k = c) :
    Filled W0 (wr.setCell ⟨ib, c, none⟩ (.int .i64 (gi N.inputs k))) N l ke (k + 1) kd p eb ib x1 R T := by
  refine ⟨h.ext.store h.hi _, h.hp, h.he, h.hi, row_far h.box h.ins (by decide), row_far h.ends h.ins (by decide), fill_step (f := fun v => .int .i64 (gi N.inputs v)) hp hk hc h.ins, ?_, fun v hv => ownE_far (h.rows v hv) h.ins (by decide), h.apart, h.ge⟩
  rcases h.ids with h | ⟨h0, db, h1, h2, h3, h4⟩
  · exact .inl h
  · exact .inr ⟨h0, db, h1, h2, h3, row_far' h4 h3⟩
theorem Filled.stepD {W0 wr : World} {N : Net} {l : List Int} {k ke ki p eb ib c db : Nat} {R : Nat → Value} {T : Nat → List Nat} (h : Filled W0 wr N l ke ki k p eb ib (.slice (some ⟨db, 0, none⟩) N.ends.length N.ends.length) R T) (hp : PermOK l N.ends.length) (hk : k < N.ends.length) (hc : gi l k = c) (hn : 0 < N.ids.length) :
    Filled W0 (wr.setCell ⟨db, c, none⟩ (.int .i64 (gi N.ids k))) N l ke ki (k + 1) p eb ib (.slice (some ⟨db, 0, none⟩) N.ends.length N.ends.length) R T := by
  rcases h.ids with ⟨h0, _⟩ | ⟨h0, db', h1, h2, h3, h4⟩
  · omega
  · simp only [Value.slice.injEq, Option.some.injEq, Addr.mk.injEq, and_true] at h1
    subst h1
    exact ⟨h.ext.store h2 _, h.hp, h.he, h.hi, row_far h.box h4 (by decide), row_far h.ends h4 (by decide), row_far' h.ins (Ne.symm h3), .inr ⟨h0, db, rfl, h2, h3, fill_step (f := fun v => .int .i64 (gi N.ids v)) hp hk hc h4⟩, fun v hv => ownE_far (h.rows v hv) h4 (by decide), h.apart, h.ge⟩
end Go.Proofs.Ytkeiaahlifdbiaa
