/- slices.Clone at lists of bools: a copy in a new block. -/
import Derived.Test.YtcjiejbndmnjaaaI13
import Derived.Test.YtcjiejbndmnjaaaB3
namespace Go.Proofs.Ytcjiejbndmnjaaa
open Go.RowKit

/-- A row of n bools in block g. -/
def BRow (w : World) (v : Value) (n g : Nat) (f : Nat → Value) : Prop :=
  ∃ c m gf, v = .slice (some ⟨g, 0, none⟩) n c ∧ n ≤ c ∧ c ≤ maxLen ∧ n ≤ m ∧ w.rowIs g 4 m gf ∧ ∀ i, i < n → gf i = f i
theorem BRow.lt {w : World} {v : Value} {n g : Nat} {f : Nat → Value} (h : BRow w v n g f) : g < w.heap.size := by
  obtain ⟨c, m, gf, _, _, _, _, h, _⟩ := h
  exact h.lt
theorem BRow.keep {w w' : World} {v : Value} {n g : Nat} {f : Nat → Value} (h : BRow w v n g f) (he : w'.heap[g]? = w.heap[g]?) : BRow w' v n g f := by
  obtain ⟨c, m, gf, h1, h2, h3, h4, h5, h6⟩ := h
  exact ⟨c, m, gf, h1, h2, h3, h4, h5.of_block he, h6⟩
theorem BRow.ext {w w' : World} {v : Value} {n g : Nat} {f : Nat → Value} (h : BRow w v n g f) (he : Ext w w') : BRow w' v n g f := h.keep (he.block g h.lt)
theorem BRow.cell {w : World} {v : Value} {n g : Nat} {f : Nat → Value} (h : BRow w v n g f) {i : Nat} (hi : i < n) : w.cell? ⟨g, i, none⟩ = some (f i) ∧ w.frozen? ⟨g, i, none⟩ = false := by
  obtain ⟨c, m, gf, h1, h2, h3, h4, h5, h6⟩ := h
  exact ⟨by rw [h5.cell (by omega), h6 i hi], h5.frozen i⟩
theorem BRow.set {w : World} {v : Value} {n g i : Nat} {f f' : Nat → Value} {u : Value} (h : BRow w v n g f) (hf : ∀ j, j < n → f' j = if j = i then u else f j) : BRow (w.setCell ⟨g, i, none⟩ u) v n g f' := by
  obtain ⟨c, m, gf, h1, h2, h3, h4, h5, h6⟩ := h
  refine ⟨c, m, _, h1, h2, h3, h4, h5.set i u, fun j hj => ?_⟩
  rw [hf j hj]
  by_cases e : j = i
  · simp [e]
  · simp only [if_neg e]; exact h6 j hj
theorem BRow.congr {w : World} {v : Value} {n g : Nat} {f f' : Nat → Value} (h : BRow w v n g f) (hf : ∀ j, j < n → f j = f' j) : BRow w v n g f' := by
  obtain ⟨c, m, gf, h1, h2, h3, h4, h5, h6⟩ := h
  exact ⟨c, m, gf, h1, h2, h3, h4, h5, fun i hi => by rw [h6 i hi, hf i hi]⟩

theorem owns_empty (w : World) (t : Nat) : (w.alloc (.cells #[] t)).ownsRow w.heap.size t 1 (.slice (some ⟨w.heap.size, 0, none⟩) 0 0) 0 [] :=
  ⟨by simp, .inr ⟨w.heap.size, 0, _, rfl, Nat.le_refl _, Go.Deep.blk_alloc_new _ _, by omega, by unfold maxLen; omega, by simp, by simp⟩⟩
theorem BRow.src {w w' : World} {a : Option Addr} {c n n' g : Nat} {f : Nat → Value} (h : BRow w (.slice a n' c) n g f) (he : Ext w w') (hf : ∀ i, i < n → (f i).oneCell' = true) : SrcAt w' a n 1 ((List.range n).map f) := by
  obtain ⟨c', m, gf, h1, h2, h3, h4, h5, h6⟩ := h
  obtain ⟨rfl, rfl, rfl⟩ : a = some ⟨g, 0, none⟩ ∧ n' = n ∧ c = c' := by simpa using h1
  refine ⟨by simp, by simp, fun ad e j u hu => ?_, fun u hu => ?_⟩
  · obtain rfl := Option.some.inj e
    have hj : j < n' := by have := (List.getElem?_eq_some_iff.1 hu).1; simpa using this
    have hu' : u = f j := by simpa [hj] using hu.symm
    rw [add_plain, Nat.zero_add, hu', ← h6 j hj]
    exact he.cell' (h5.cell (by omega))
  · obtain ⟨i, hi, rfl⟩ := List.mem_map.1 hu
    exact hf i (List.mem_range.1 hi)
theorem brow_of_owns {w : World} {B n : Nat} {v : Value} {f : Nat → Value} (hn : 0 < n) (h : w.ownsRow B 4 1 v n ((List.range n).map f)) : ∃ g, B ≤ g ∧ BRow w v n g f := by
  obtain ⟨hl, h⟩ := h
  rcases h with ⟨rfl, h0⟩ | ⟨g, cap, cur, rfl, hb, hh, hc1, hc2, hs, ht⟩
  · omega
  · refine ⟨g, hb, cap, cap, fun i => cur.getD i undef, rfl, hc1, hc2, by omega, ⟨cur, hh, by omega, fun i hi => ?_⟩, fun i hi => ?_⟩
    · have hlt : i < cur.size := by omega
      simp [hlt]
    · have hlt : i < cur.size := by omega
      have e : ((List.range n).map f)[i]? = some (f i) := by simp [hi]
      rw [← ht, List.getElem?_take, if_pos (by omega)] at e
      simp only [Array.getElem?_toList] at e
      simp [Array.getD, hlt]
      simpa [hlt] using e

set_option maxHeartbeats 1600000 in
set_option maxRecDepth 100000 in
theorem clone_any {w : World} {v : Value} {n g : Nat} {f : Nat → Value} (hn0 : 0 < n) (hn : n ≤ 100001) (h : BRow w v n g f) (hf : ∀ i, i < n → (f i).oneCell' = true) :
    Calls Try.prog 74 #[v] w fun e w' => ∃ v' g', e = .returned v' ∧ Ext w w' ∧ w.heap.size ≤ g' ∧ BRow w' v' n g' f := by
  have HB := Lib.hid h
  obtain ⟨c, m, gf, rfl, hc, hm, _, _, _⟩ := h
  have hnil := Lib.run_eql_slice_nil (P := Try.prog)
  unfold maxLen at hm
  obtain ⟨i0, hi, hz0, hz1, hz2⟩ := info_parts Try.info4
  have I0 := Lib.hid (And.intro hi (And.intro hz0 (And.intro hz1 hz2)))
  have HF := Lib.hid hf
  clear hi hz0 hz1 hz2 hf
  go_enter Try.func74, Try.ntmps74
  go_wp2_with (at_builtin; refine wpList_app rfl (.tmp 5) (.tmp 6) 52 rfl w.heap.size 4 i0 (.bool false) 1 1 Try.underlying52 I0.out.1 I0.out.2.1 I0.out.2.2.1 I0.out.2.2.2 rfl (by decide) _ 0 [] rfl (owns_empty w _) (some ⟨g, 0, none⟩) n c ((List.range n).map f) rfl (HB.out.src ((Ext.rfl' w).alloc' _) HF.out) (by unfold maxLen; omega) (by omega) (by simp) ?_)
  intro v' w1 hg
  obtain ⟨g', hg1, hg2⟩ := brow_of_owns hn0 hg.1
  have HX := Lib.hid (hg.ext (W := w) ((Ext.rfl' w).alloc' _) (fun b hb => by simp [Value.ownBlock] at hb; omega))
  have HG := Lib.hid (And.intro hg1 hg2)
  clear hg hg1 hg2 hnil
  go_wp2
  go_ret
  exact ⟨_, g', rfl, HX.out, HG.out.1, HG.out.2⟩
end Go.Proofs.Ytcjiejbndmnjaaa
