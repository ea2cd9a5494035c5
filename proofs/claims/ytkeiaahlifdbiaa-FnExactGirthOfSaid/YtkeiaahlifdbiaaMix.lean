/- The network whose first nodes have been written over by those that get their numbers: as plain data, and in memory. -/
import Derived.Test.YtkeiaahlifdbiaaKg
import Derived.Test.YtkeiaahlifdbiaaRen2
namespace Go.Proofs.Ytkeiaahlifdbiaa
open Go.RowKit

def mix {α : Type} (n : Nat) (l : List Int) (k : Nat) (f g : Nat → α) : List α := (List.range n).map fun i => if inv l i < k then f (inv l i) else g i
theorem mix_length {α : Type} (n : Nat) (l : List Int) (k : Nat) (f g : Nat → α) : (mix n l k f g).length = n := by simp [mix]
theorem mix_zero {α : Type} (n : Nat) (l : List Int) (f g : Nat → α) : mix n l 0 f g = (List.range n).map g := by simp [mix]
theorem mix_all {α : Type} {n : Nat} {l : List Int} (h : PermOK l n) (f g : Nat → α) : mix n l n f g = (List.range n).map fun i => f (inv l i) :=
  List.map_congr_left fun i hi => by rw [if_pos (inv_spec h (List.mem_range.1 hi)).1]
theorem mix_step {α : Type} {n k c : Nat} {l : List Int} (h : PermOK l n) (hk : k < n) (hc : gi l k = c) (f g : Nat → α) : (mix n l k f g).set c (f k) = mix n l (k + 1) f g := by
  refine List.ext_getElem (by simp [mix]) fun i h1 h2 => ?_
  have hi : i < n := by simpa [mix] using h2
  simp only [mix, List.getElem_set, List.getElem_map, List.getElem_range]
  by_cases e : c = i
  · subst e
    have hik : inv l c = k := inv_of h hk hc
    rw [if_pos rfl, hik, if_pos (by omega)]
  · rw [if_neg e]
    have hne : inv l i ≠ k := fun e2 => e (by have := (inv_spec h hi).2; rw [e2, hc] at this; omega)
    by_cases h1 : inv l i < k
    · rw [if_pos h1, if_pos (by omega)]
    · rw [if_neg h1, if_neg (by omega)]
theorem map_gr {α : Type} (l : List (List α)) : (List.range l.length).map (gr l) = l := by
  refine List.ext_getElem (by simp) fun i h1 h2 => ?_
  simp [gr, List.getD, h2]
theorem map_gi (l : List Int) : (List.range l.length).map (gi l) = l := by
  refine List.ext_getElem (by simp) fun i h1 h2 => ?_
  simp [gi, List.getD, h2]

def mixEnds (N : Net) (l : List Int) (k : Nat) : List (List (Int × Int)) := mix N.ends.length l k (fun v => renRow l (gr N.ends v)) (gr N.ends)
def mixIds (N : Net) (l : List Int) (k : Nat) : List Int := if N.ids.length = 0 then [] else mix N.ends.length l k (gi N.ids) (gi N.ids)
def mixInputs (N : Net) (l : List Int) (k : Nat) : List Int := mix N.ends.length l k (gi N.inputs) (gi N.inputs)
def mixNet (N : Net) (l : List Int) (ke ki kd : Nat) : Net := ⟨mixEnds N l ke, mixIds N l kd, mixInputs N l ki⟩
theorem mixNet_zero {N : Net} (l : List Int) (hi : N.inputs.length = N.ends.length) (hd : N.ids.length = 0 ∨ N.ids.length = N.ends.length) : mixNet N l 0 0 0 = N := by
  obtain ⟨E, D, I⟩ := N
  simp only [mixNet, mixEnds, mixIds, mixInputs, mix_zero, Net.mk.injEq] at *
  refine ⟨map_gr E, ?_, by rw [← hi]; exact map_gi I⟩
  by_cases h0 : D.length = 0
  · rw [if_pos h0]; exact (List.eq_nil_of_length_eq_zero h0).symm
  · rw [if_neg h0, ← hd.resolve_left h0]; exact map_gi D
theorem mixNet_all {N : Net} {l : List Int} (hp : PermOK l N.ends.length) : mixNet N l N.ends.length N.ends.length N.ends.length = renNet N l := by
  simp only [mixNet, mixEnds, mixIds, mixInputs, mix_all hp, renNet, renEnds, renInts]

theorem mix_ends_len (N : Net) (l : List Int) (k : Nat) : (mixEnds N l k).length = N.ends.length := mix_length _ _ _ _ _
theorem mix_inputs_len (N : Net) (l : List Int) (k : Nat) : (mixInputs N l k).length = N.ends.length := mix_length _ _ _ _ _
theorem mix_ids_len {N : Net} (l : List Int) (k : Nat) (h : 0 < N.ids.length) : (mixIds N l k).length = N.ends.length := by rw [mixIds, if_neg (by omega)]; exact mix_length _ _ _ _ _
theorem mix_ids_none {N : Net} (l : List Int) (k : Nat) (h : N.ids.length = 0) : mixIds N l k = [] := by rw [mixIds, if_pos h]

/-- The network under construction in memory: its box lies at p. -/
structure Mixed (W0 wr : World) (N : Net) (l : List Int) (ke ki kd p : Nat) (v0 v1 v2 : Value) (bs : List Nat) : Prop where
  ext : Ext W0 wr
  hp : W0.heap.size ≤ p
  box : wr.rowIs p 29 3 (tri v0 v1 v2)
  own : OwnNet wr (.agg #[v0, v1, v2]) (mixNet N l ke ki kd) bs
  nodup : bs.Nodup
  ge : ∀ b ∈ bs, W0.heap.size ≤ b ∧ b ≠ p
theorem Mixed.lt {W0 wr : World} {N : Net} {l : List Int} {ke ki kd p : Nat} {v0 v1 v2 : Value} {bs : List Nat} (h : Mixed W0 wr N l ke ki kd p v0 v1 v2 bs) : ∀ b ∈ bs, b < wr.heap.size := h.own.lt
theorem Mixed.mono {W0 wr w' : World} {N : Net} {l : List Int} {ke ki kd p : Nat} {v0 v1 v2 : Value} {bs : List Nat} (h : Mixed W0 wr N l ke ki kd p v0 v1 v2 bs) (hx : Ext wr w') : Mixed W0 w' N l ke ki kd p v0 v1 v2 bs :=
  ⟨h.ext.trans' hx, h.hp, row_ext h.box hx, h.own.ext hx, h.nodup, h.ge⟩

/-- A row is written over. -/
theorem Mixed.stepE {W0 wo : World} {N : Net} {l : List Int} {k ki kd p c : Nat} {v0 v1 v2 : Value} {bs : List Nat} (h : Mixed W0 wo N l k ki kd p v0 v1 v2 bs) (hp : PermOK l N.ends.length) (hk : k < N.ends.length) (hc : gi l k = c) :
    ∃ b q x, v0 = .slice (some ⟨b, 0, none⟩) N.ends.length q ∧ W0.heap.size ≤ b ∧ b ≠ p ∧ b < wo.heap.size ∧ wo.cell? ⟨b, c, none⟩ = some x ∧ wo.frozen? ⟨b, c, none⟩ = false ∧
      ∀ (wx : World) (x' : Value) (cs : List Nat), Ext wo wx → OwnE wx x' (renRow l (gr N.ends k)) cs → (∀ y ∈ cs, wo.heap.size ≤ y) → ∃ ds, Mixed W0 (wx.setCell ⟨b, c, none⟩ x') N l (k + 1) ki kd p v0 v1 v2 ds := by
  obtain ⟨j, hj, hjn⟩ := perm_range hp hk
  obtain rfl : j = c := by omega
  obtain ⟨b, q, x, t, hv, hb, hx, hf, hE, ht, hback⟩ := h.own.focus h.nodup (k := j) (by show j < (mixEnds N l k).length; rw [mix_ends_len]; exact hjn)
  refine ⟨b, q, x, by rw [hv]; show Value.slice _ (mixEnds N l k).length q = _; rw [mix_ends_len], (h.ge b hb).1, (h.ge b hb).2, h.own.lt b hb, hx, hf, fun wx x' cs hxx ho hcs => ?_⟩
  obtain ⟨ds, g1, g2, g3⟩ := hback wx x' _ cs (fun y hy _ => hxx.block y hy) ho (fun y hy => .inr (hcs y hy))
  have hpw := h.box.lt
  have hex := h.ext.size
  refine ⟨ds, (h.ext.trans' hxx).store (h.ge b hb).1 _, h.hp, row_far' (row_ext h.box hxx) (fun e => (h.ge b hb).2 e.symm), ?_, g2, fun y hy => ?_⟩
  · have e : { mixNet N l k ki kd with ends := (mixNet N l k ki kd).ends.set j (renRow l (gr N.ends k)) } = mixNet N l (k + 1) ki kd := by
      simp only [mixNet, mixEnds, Net.mk.injEq, and_true]
      exact mix_step hp hk hc (fun v => renRow l (gr N.ends v)) (gr N.ends)
    rw [← e]
    exact g1
  · rcases g3 y hy with h1 | h1
    · exact h.ge y h1
    · exact ⟨by omega, by omega⟩

theorem Mixed.stepI {W0 wr : World} {N : Net} {l : List Int} {k ke kd p c : Nat} {v0 v1 v2 : Value} {bs : List Nat} (h : Mixed W0 wr N l ke k kd p v0 v1 v2 bs) (hp : PermOK l N.ends.length) (hk : k < N.ends.length) (hc : gi l k = c) (hr : inI64 (gi N.inputs k)) :
    ∃ b q x, v2 = .slice (some ⟨b, 0, none⟩) N.ends.length q ∧ W0.heap.size ≤ b ∧ b ≠ p ∧ wr.cell? ⟨b, c, none⟩ = some x ∧ wr.frozen? ⟨b, c, none⟩ = false ∧
      Mixed W0 (wr.setCell ⟨b, c, none⟩ (.int .i64 (gi N.inputs k))) N l ke (k + 1) kd p v0 v1 v2 bs := by
  obtain ⟨j, hj, hjn⟩ := perm_range hp hk
  obtain rfl : j = c := by omega
  obtain ⟨b, q, hv, hb, hx, hf, hput⟩ := h.own.putInput h.nodup (k := j) (by show j < (mixInputs N l k).length; rw [mix_inputs_len]; exact hjn)
  refine ⟨b, q, _, by rw [hv]; show Value.slice _ (mixInputs N l k).length q = _; rw [mix_inputs_len], (h.ge b hb).1, (h.ge b hb).2, hx, hf, h.ext.store (h.ge b hb).1 _, h.hp, row_far' h.box (fun e => (h.ge b hb).2 e.symm), ?_, h.nodup, h.ge⟩
  have e : { mixNet N l ke k kd with inputs := (mixNet N l ke k kd).inputs.set j (gi N.inputs k) } = mixNet N l ke (k + 1) kd := by
    simp only [mixNet, mixInputs, Net.mk.injEq, true_and]
    exact mix_step hp hk hc (gi N.inputs) (gi N.inputs)
  rw [← e]
  exact hput wr _ (fun _ _ => rfl) hr

theorem Mixed.stepD {W0 wr : World} {N : Net} {l : List Int} {k ke ki p c : Nat} {v0 v1 v2 : Value} {bs : List Nat} (h : Mixed W0 wr N l ke ki k p v0 v1 v2 bs) (hp : PermOK l N.ends.length) (hk : k < N.ends.length) (hc : gi l k = c) (h0 : 0 < N.ids.length) (hr : inI64 (gi N.ids k)) :
    ∃ b q x, v1 = .slice (some ⟨b, 0, none⟩) N.ends.length q ∧ W0.heap.size ≤ b ∧ b ≠ p ∧ wr.cell? ⟨b, c, none⟩ = some x ∧ wr.frozen? ⟨b, c, none⟩ = false ∧
      Mixed W0 (wr.setCell ⟨b, c, none⟩ (.int .i64 (gi N.ids k))) N l ke ki (k + 1) p v0 v1 v2 bs := by
  obtain ⟨j, hj, hjn⟩ := perm_range hp hk
  obtain rfl : j = c := by omega
  obtain ⟨b, q, hv, hb, hx, hf, hput⟩ := h.own.putId h.nodup (k := j) (by show j < (mixIds N l k).length; rw [mix_ids_len _ _ h0]; exact hjn)
  refine ⟨b, q, _, by rw [hv]; show Value.slice _ (mixIds N l k).length q = _; rw [mix_ids_len _ _ h0], (h.ge b hb).1, (h.ge b hb).2, hx, hf, h.ext.store (h.ge b hb).1 _, h.hp, row_far' h.box (fun e => (h.ge b hb).2 e.symm), ?_, h.nodup, h.ge⟩
  have e : { mixNet N l ke ki k with ids := (mixNet N l ke ki k).ids.set j (gi N.ids k) } = mixNet N l ke ki (k + 1) := by
    simp only [mixNet, mixIds, if_neg (show ¬ N.ids.length = 0 by omega), Net.mk.injEq, true_and, and_true]
    exact mix_step hp hk hc (gi N.ids) (gi N.ids)
  rw [← e]
  exact hput wr _ (fun _ _ => rfl) hr
/-- Where there are no identifiers, there is nothing to write. -/
theorem Mixed.skipD {W0 wr : World} {N : Net} {l : List Int} {k ke ki p : Nat} {v0 v1 v2 : Value} {bs : List Nat} (h : Mixed W0 wr N l ke ki k p v0 v1 v2 bs) (h0 : N.ids.length = 0) : Mixed W0 wr N l ke ki (k + 1) p v0 v1 v2 bs := by
  refine ⟨h.ext, h.hp, h.box, ?_, h.nodup, h.ge⟩
  have e : mixNet N l ke ki (k + 1) = mixNet N l ke ki k := by simp only [mixNet, mix_ids_none _ _ h0]
  rw [e]
  exact h.own
end Go.Proofs.Ytkeiaahlifdbiaa
