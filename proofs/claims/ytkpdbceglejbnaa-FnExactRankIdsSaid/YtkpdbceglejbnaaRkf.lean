/- slices.Collect and slices.Sorted over the numbers of a list. -/
import Derived.Test.YtkpdbceglejbnaaRkc
import Derived.Test.YtkpdbceglejbnaaRkd
import Derived.Test.YtkpdbceglejbnaaShelf
import Derived.Lib.OwnBridge
namespace Go.Proofs.Ytkpdbceglejbnaa
open Go.RowKit Go.Shelf Go.Sort

theorem lt_of_cellR {w : World} {p : Addr} {x : Value} (h : w.cell? p = some x) : p.block < w.heap.size := by
  rcases Nat.lt_or_ge p.block w.heap.size with h' | h'
  · exact h'
  · unfold World.cell? at h
    rw [Array.getElem?_eq_none h'] at h
    cases h
theorem grow_extR (w : World) (os : Array Obj) : Ext w (grow w os) := ⟨rfl, rfl, rfl, by simp [grow], fun k hk => by simp [grow, Array.getElem?_append_left hk]⟩
theorem sort_ownR {w : World} {B : Nat} {v : Value} {l : List Int} (h : w.ownsRow B 3 1 v l.length (intCells l)) (hl : l.length ≤ 1000000) (h0 : 0 < l.length) :
    Calls Try.prog 150 #[v] w fun e w' => e = .returned (.tuple #[]) ∧ (∀ W : World, Ext W w → W.heap.size ≤ B → Ext W w') ∧ w'.ownsRow B 3 1 v l.length (intCells (l.mergeSort fun x y => decide (x ≤ y))) := by
  have hv : v ≠ .slice none 0 0 := fun e => by
    subst e
    rcases h.2 with ⟨-, hn⟩ | ⟨g, cap, cur, e, -⟩
    · omega
    · cases e
  obtain ⟨g, cap, rfl, hB, hlt, -, -, -, hH⟩ := Lib.holds_of_ownsRow (enc := Value.int .i64) (zs := l) h hv
  refine (Try.slices_Sort_int g 0 cap l w hH hlt (by omega)).mono ?_
  rintro e w' ⟨rfl, q, os, rfl⟩
  refine ⟨rfl, fun W hW hWB => ?_, ?_⟩
  · have hb : Below W.heap.size W w := ⟨hW.os, hW.tape, hW.output, hW.size, fun k hk => hW.block k hk⟩
    have hp := Lib.below_putRow (enc := Value.int .i64) (q := q) (d := (l.mergeSort fun x y => decide (x ≤ y)).toArray) hb (show W.heap.size ≤ g by omega)
    exact Ext.trans' (⟨hp.os, hp.tape, hp.output, hp.size, fun k hk => hp.block k hk⟩ : Ext W _) (grow_extR _ _)
  · have := Lib.ownsRow_putRow (enc := Value.int .i64) (q := q) (k := l.length) (ys := l.mergeSort fun x y => decide (x ≤ y)) h (by simp) (Nat.le_refl _)
    rw [List.take_of_length_le (by simp)] at this
    exact owns_ext this (grow_extR _ _)

theorem preR_all (l : List Int) : preR l l.length = intCells l := by
  apply List.ext_getElem (by simp [preR, intCells])
  intro i h1 h2
  simp [preR] at h1
  simp [preR, intCells, gi, h1]

set_option maxHeartbeats 1600000 in
set_option maxRecDepth 100000 in
theorem collectV_any {w : World} {c0 cap : Nat} {a : Option Addr} {l : List Int} (hc : w.rowIs c0 26 1 (fun _ => .slice a l.length cap)) (hI : IntSl w (.slice a l.length cap) l) (h0 : 0 < l.length) (hl : l.length ≤ 1000000) :
    Calls Try.prog 149 #[.func (.func 151) #[] #[.pointer (some ⟨c0, 0, none⟩)]] w fun e w' => ∃ v', e = .returned v' ∧ Ext w w' ∧ w'.ownsRow (w.heap.size + 1) 3 1 v' l.length (intCells l) := by
  have HC := Lib.hid hc
  have HI := Lib.hid hI
  have HB : Hid (∀ b o, a = some ⟨b, o, none⟩ → b < w.heap.size) := fun b o e => by
    obtain ⟨a', b', o', c', e', h2, h3, h4, h5⟩ := hI
    simp only [Value.slice.injEq] at e'
    obtain ⟨rfl, -, rfl⟩ := e'
    obtain rfl := h2 h0
    simp only [Option.some.injEq, Addr.mk.injEq] at e
    obtain ⟨rfl, rfl, -⟩ := e
    obtain ⟨x, hx, -⟩ := h5 0 h0
    exact lt_of_cellR hx
  clear hc hI
  go_enter Try.func149, Try.ntmps149
  go_wp2_with fail
  (with_reducible refine (appendSeq_any (l := l) (enters_values) ?_ hl).mono ?_)
  · intro W1 hx hz
    have := HC.out.lt
    exact values_stops (n := 4) (by omega) (row_ext HC.out hx) (HI.out.ext hx) ⟨by omega, by simp; omega⟩ (fun b o e => by have := HB.out b o e; exact ⟨by omega, by simp; omega⟩)
  · rintro e w1 ⟨v', rfl, hx, ho⟩
    have K := Lib.hid hx
    have O := Lib.hid ho
    clear hx ho
    go_wp2
    go_ret
    exact ⟨_, rfl, K.out, by rw [← preR_all]; exact O.out⟩

set_option maxHeartbeats 1600000 in
set_option maxRecDepth 100000 in
theorem sortedV_any {w : World} {c0 cap : Nat} {a : Option Addr} {l : List Int} (hc : w.rowIs c0 26 1 (fun _ => .slice a l.length cap)) (hI : IntSl w (.slice a l.length cap) l) (h0 : 0 < l.length) (hl : l.length ≤ 1000000) :
    Calls Try.prog 99 #[.func (.func 151) #[] #[.pointer (some ⟨c0, 0, none⟩)]] w fun e w' => ∃ v', e = .returned v' ∧ Ext w w' ∧ w'.ownsRow (w.heap.size + 1) 3 1 v' l.length (intCells (l.mergeSort fun x y => decide (x ≤ y))) := by
  have HC := Lib.hid hc
  have HI := Lib.hid hI
  clear hc hI
  go_enter Try.func99, Try.ntmps99
  go_wp2_with fail
  (with_reducible refine (collectV_any HC.out HI.out h0 hl).mono ?_)
  rintro e w1 ⟨v', rfl, hx, ho⟩
  have K := Lib.hid hx
  have O := Lib.hid ho
  clear hx ho
  go_wp2_with fail
  (with_reducible refine (sort_ownR O.out hl h0).mono ?_)
  rintro e w2 ⟨rfl, hx, ho⟩
  have K2 := Lib.hid (hx w K.out (by omega))
  have O2 := Lib.hid ho
  clear hx ho
  go_wp2
  go_ret
  exact ⟨_, rfl, K2.out, O2.out⟩
end Go.Proofs.Ytkpdbceglejbnaa
