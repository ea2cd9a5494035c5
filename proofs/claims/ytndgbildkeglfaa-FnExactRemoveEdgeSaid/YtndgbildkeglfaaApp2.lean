/- append onto a slice of the call's own, of a slice whatever its address: as a law for the walk and for regions that draw their order. -/
import Derived.Test.YtndgbildkeglfaaHold2
import Derived.Deep.RegionLaw
import Derived.Deep.RegionHeldLaw
namespace Go.Proofs.Ytndgbildkeglfaa
open Go.RowKit

theorem run_append_owned_nil {P : Program} {w : World} (base : Nat) (t ty e : TypeId) (i : TypeInfo) (size : Nat) (ht : P.underlying t = some (.slice e)) (hi : P.info? e = some i)
    (v : Value) (n c : Nat) (xs : List Value) (hown : w.ownsRow base e size v n xs) :
    (Builtin.append_ #[t, t] ty #[v, .slice none 0 c]).run P w = .ok v w := by
  rcases hown.2 with ⟨rfl, rfl⟩ | ⟨g, cap, cur, rfl, _, _, hnc, _⟩
  · simp [Builtin.append_, run_underlying ht, sizeOf, typeInfo, hi, Builtin.lenOf, Builtin.firstCells]
  · simp [Builtin.append_, run_underlying ht, sizeOf, typeInfo, hi, Builtin.lenOf, Builtin.firstCells, hnc, storeCells]

/-- What is appended: m elements of k cells each behind the address, if there is one. -/
def SrcAt (w : World) (ao : Option Addr) (m k : Nat) (news : List Value) : Prop :=
  news.length = m * k ∧ (ao = none → m = 0) ∧ (∀ ad, ao = some ad → ∀ j u, news[j]? = some u → w.cell? (ad.add j) = some u) ∧ ∀ u ∈ news, u.oneCell' = true

/-- What the call leaves. -/
def Grew (w w' : World) (base : Nat) (e : TypeId) (size : Nat) (v v' : Value) (n : Nat) (xs : List Value) : Prop :=
  w'.ownsRow base e size v' n xs ∧ w.grownBy w' v.ownBlock ∧ w.heap.size ≤ w'.heap.size

theorem run_app {P : Program} (w : World) (base : Nat) (t ty e : TypeId) (i : TypeInfo) (z : Value) (size bytes : Nat) (ht : P.underlying t = some (.slice e)) (hi : P.info? e = some i) (hz : i.zero = some z)
    (hsize : i.size = size) (hby : i.bytes = bytes) (hzs : z.cells.size = size) (hsz : 0 < size)
    (v : Value) (n : Nat) (xs : List Value) (hown : w.ownsRow base e size v n xs)
    (ao : Option Addr) (m c : Nat) (news : List Value) (hsrc : SrcAt w ao m size news)
    (h63 : n + m ≤ maxLen) (hbytes : (n + m) * bytes ≤ 140737488355328) (hbase : base ≤ w.heap.size) :
    ∃ v' w', (Builtin.append_ #[t, t] ty #[v, .slice ao m c]).run P w = .ok v' w' ∧ Grew w w' base e size v v' (n + m) (xs ++ news) := by
  obtain ⟨hl, hnone, hnews, h1⟩ := hsrc
  cases ao with
  | some ad =>
    obtain ⟨v', w', hr, h2, h3, _⟩ := run_append_own (P := P) w base t ty e i z size bytes ht hi hz hsize hby hzs hsz v n xs hown ad m c news hl (hnews ad rfl) h1 h63 hbytes hbase
    exact ⟨v', w', hr, h2, h3, h3.size⟩
  | none =>
    obtain rfl := hnone rfl
    have hn : news = [] := List.eq_nil_of_length_eq_zero (by simpa using hl)
    subst hn
    exact ⟨v, w, run_append_owned_nil base t ty e i size ht hi v n c xs hown, by simpa using hown, World.grownBy.refl _ _, Nat.le_refl _⟩

theorem wp_app {P : Program} {w : World} {o : Oper} {a : Act} {K : Act → World → Prop} {Q : Exit → Act → World → Prop} (s x : Operand) (t : TypeId)
    (ho : o.op = .call { callee := .builtin .append, args := #[s, x], argTypes := #[t, t] })
    (base : Nat) (e : TypeId) (i : TypeInfo) (z : Value) (size bytes : Nat) (ht : P.underlying t = some (.slice e)) (hi : P.info? e = some i) (hz : i.zero = some z)
    (hsize : i.size = size) (hby : i.bytes = bytes) (hzs : z.cells.size = size) (hsz : 0 < size)
    (v : Value) (n : Nat) (xs : List Value) (hs : a.eval s = v) (hown : w.ownsRow base e size v n xs)
    (ao : Option Addr) (m c : Nat) (news : List Value) (hx : a.eval x = .slice ao m c) (hsrc : SrcAt w ao m size news)
    (h63 : n + m ≤ maxLen) (hbytes : (n + m) * bytes ≤ 140737488355328) (hbase : base ≤ w.heap.size)
    (h : ∀ v' w', Grew w w' base e size v v' (n + m) (xs ++ news) → K (a.put o.dst v') w') : o.wp P a w K Q := by
  obtain ⟨v', w', hr, h2⟩ := run_app (P := P) w base t o.type e i z size bytes ht hi hz hsize hby hzs hsz v n xs hown ao m c news hsrc h63 hbytes hbase
  unfold Oper.wp execOp
  simp only [ho, resolve, invoke, builtin, Sem.run_bind, Sem.run_pure, Result.andThen_ok, List.map_toArray, List.map_cons, List.map_nil, hs, hx, hr]
  exact h v' w' h2

/-- For the walk. -/
theorem wpList_app {P : Program} {w : World} {ops : Array Oper} {rest : List Oper} {o : Oper} {a : Act} {Q : Exit → Act → World → Prop} (hgd : o.guard = none) (s x : Operand) (t : TypeId)
    (ho : o.op = .call { callee := .builtin .append, args := #[s, x], argTypes := #[t, t] })
    (base : Nat) (e : TypeId) (i : TypeInfo) (z : Value) (size bytes : Nat) (ht : P.underlying t = some (.slice e)) (hi : P.info? e = some i) (hz : i.zero = some z)
    (hsize : i.size = size) (hby : i.bytes = bytes) (hzs : z.cells.size = size) (hsz : 0 < size)
    (v : Value) (n : Nat) (xs : List Value) (hs : a.eval s = v) (hown : w.ownsRow base e size v n xs)
    (ao : Option Addr) (m c : Nat) (news : List Value) (hx : a.eval x = .slice ao m c) (hsrc : SrcAt w ao m size news)
    (h63 : n + m ≤ maxLen) (hbytes : (n + m) * bytes ≤ 140737488355328) (hbase : base ≤ w.heap.size)
    (h : ∀ v' w', Grew w w' base e size v v' (n + m) (xs ++ news) → wpList P ops Q rest (a.put o.dst v') w') : wpList P ops Q (o :: rest) a w :=
  wpList_plain hgd fun _ hK => wp_app s x t ho base e i z size bytes ht hi hz hsize hby hzs hsz v n xs hs hown ao m c news hx hsrc h63 hbytes hbase fun v' w' h2 => hK _ _ (h v' w' h2)

/-- For a region that draws its order. -/
theorem step_app {P : Program} {w : World} {ops : Array Oper} {o : Oper} {a : Act} {K : Act → World → Prop} {Q : Exit → Act → World → Prop} {E : Prop} (hgd : o.guard = none) (s x : Operand) (t : TypeId)
    (ho : o.op = .call { callee := .builtin .append, args := #[s, x], argTypes := #[t, t] })
    (base : Nat) (e : TypeId) (i : TypeInfo) (z : Value) (size bytes : Nat) (ht : P.underlying t = some (.slice e)) (hi : P.info? e = some i) (hz : i.zero = some z)
    (hsize : i.size = size) (hby : i.bytes = bytes) (hzs : z.cells.size = size) (hsz : 0 < size)
    (v : Value) (n : Nat) (xs : List Value) (hs : a.eval s = v) (hown : w.ownsRow base e size v n xs)
    (ao : Option Addr) (m c : Nat) (news : List Value) (hx : a.eval x = .slice ao m c) (hsrc : SrcAt w ao m size news)
    (h63 : n + m ≤ maxLen) (hbytes : (n + m) * bytes ≤ 140737488355328) (hbase : base ≤ w.heap.size)
    (h : ∀ v' w', Grew w w' base e size v v' (n + m) (xs ++ news) → K (a.put o.dst v') w') : if Region.wanted o (yielded ops a.tmps) = true then Oper.wp P o a w K Q else E := by
  have hw : Region.wanted o (yielded ops a.tmps) = true := by simp [Region.wanted, hgd]
  rw [if_pos hw]
  exact wp_app s x t ho base e i z size bytes ht hi hz hsize hby hzs hsz v n xs hs hown ao m c news hx hsrc h63 hbytes hbase h

theorem Grew.ext {W w w' : World} {B n k t : Nat} {v v' : Value} {xs : List Value} (h : Grew w w' B t k v v' n xs) (he : Ext W w) (hB : ∀ b, v.ownBlock = some b → W.heap.size ≤ b) : Ext W w' :=
  he.grown h.2.1 he.size hB

theorem add_plain (b o j : Nat) : (⟨b, o, none⟩ : Addr).add j = ⟨b, o + j, none⟩ := Addr.add_lit _ _ _

def intCells (l : List Int) : List Value := l.map (.int .i64)
theorem intCells_get (l : List Int) (i : Nat) (h : i < l.length) : (intCells l)[i]? = some (.int .i64 (gi l i)) := by simp [intCells, gi, h]
def endCells (l : List (Int × Int)) : List Value := (List.range (l.length * 2)).map (ecell l)
theorem endCells_get (l : List (Int × Int)) (i : Nat) (h : i < l.length * 2) : (endCells l)[i]? = some (ecell l i) := by simp [endCells, h]

theorem IntSl.src {w w' : World} {a : Option Addr} {n c : Nat} {l : List Int} (h : IntSl w (.slice a n c) l) (he : ∀ p v, w.cell? p = some v → w'.cell? p = some v) : n = l.length ∧ SrcAt w' a l.length 1 (intCells l) := by
  obtain ⟨a', b, o, c', h1, h2, h3, h4, h5⟩ := h
  obtain ⟨rfl, rfl, rfl⟩ : a = a' ∧ n = l.length ∧ c = c' := by simpa using h1
  refine ⟨rfl, by simp [intCells], fun e => ?_, fun ad e j u hu => ?_, fun u hu => ?_⟩
  · by_cases h0 : 0 < l.length
    · rw [h2 h0] at e; cases e
    · omega
  · have hj : j < l.length := by have := (List.getElem?_eq_some_iff.1 hu).1; simpa [intCells] using this
    rw [intCells_get l j hj] at hu
    obtain rfl := Option.some.inj hu
    rw [h2 (by omega)] at e
    obtain rfl := Option.some.inj e
    obtain ⟨x, hx, rfl, _⟩ := h5 j hj
    rw [add_plain]
    exact he _ _ hx
  · obtain ⟨y, _, rfl⟩ := List.mem_map.1 hu
    rfl

theorem EndSl.src {w w' : World} {a : Option Addr} {n c : Nat} {l : List (Int × Int)} (h : EndSl w (.slice a n c) l) (he : ∀ p v, w.cell? p = some v → w'.cell? p = some v) : n = l.length ∧ SrcAt w' a l.length 2 (endCells l) := by
  obtain ⟨a', b, o, c', h1, h2, h3, h4, h5⟩ := h
  obtain ⟨rfl, rfl, rfl⟩ : a = a' ∧ n = l.length ∧ c = c' := by simpa using h1
  refine ⟨rfl, by simp [endCells], fun e => ?_, fun ad e j u hu => ?_, fun u hu => ?_⟩
  · by_cases h0 : 0 < l.length
    · rw [h2 h0] at e; cases e
    · omega
  · have hj : j < l.length * 2 := by have := (List.getElem?_eq_some_iff.1 hu).1; simpa [endCells] using this
    rw [endCells_get l j hj] at hu
    obtain rfl := Option.some.inj hu
    rw [h2 (by omega)] at e
    obtain rfl := Option.some.inj e
    obtain ⟨q1, q2, _⟩ := h5 (j / 2) (by omega)
    rw [add_plain]
    simp only [ecell]
    split
    · rw [show o + j = o + j / 2 * 2 by omega]; exact he _ _ q1
    · rw [show o + j = o + j / 2 * 2 + 1 by omega]; exact he _ _ q2
  · obtain ⟨y, _, rfl⟩ := List.mem_map.1 hu
    simp only [ecell]
    split <;> rfl

theorem end_own_of_row {w : World} {B : Nat} {v : Value} {l : List (Int × Int)} {xs : List Value} (h : w.ownsRow B 44 2 v l.length xs) (hx : ∀ i, i < l.length * 2 → xs[i]? = some (ecell l i)) (hr : ∀ i, i < l.length → inI64 (gn l i) ∧ inI64 (gp l i)) :
    ∃ bs, OwnE w v l bs ∧ bs.Nodup ∧ ∀ b ∈ bs, B ≤ b := by
  obtain ⟨hl, h⟩ := h
  rcases h with ⟨rfl, hn⟩ | ⟨g, cap, cur, rfl, hb, hh, hc1, hc2, hs, ht⟩
  · exact ⟨[], ⟨⟨0, by omega, by unfold maxLen; omega, .inl ⟨hn, rfl, none, ⟨rfl, rfl⟩, rfl⟩⟩, hr⟩, List.nodup_nil, by simp⟩
  · refine ⟨[g], ⟨⟨cap, hc1, hc2, .inr ⟨g, cap * 2, fun i => cur.getD i undef, rfl, rfl, by omega, ⟨cur, hh, by omega, fun i hi => ?_⟩, fun i hi => ?_⟩⟩, hr⟩, by simp, by simpa using hb⟩
    · have hlt : i < cur.size := by omega
      simp [hlt]
    · have e := hx i (by omega)
      rw [← ht, List.getElem?_take, if_pos (by omega)] at e
      have hlt : i < cur.size := by omega
      simp only [Array.getElem?_toList] at e
      simp [Array.getD, hlt]
      simpa [hlt] using e
end Go.Proofs.Ytndgbildkeglfaa
