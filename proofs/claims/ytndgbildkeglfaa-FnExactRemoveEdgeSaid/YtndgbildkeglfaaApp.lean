/- What is collected by append lies in memory of its own; the contract of neDegrees. -/
import Derived.Test.YtndgbildkeglfaaOe2
namespace Go.Proofs.Ytndgbildkeglfaa
open Go.RowKit

/-- What is collected by append is a slice of integers in memory of its own. -/
theorem own_of_row {w : World} {B : Nat} {v : Value} {l : List Int} {xs : List Value} (h : w.ownsRow B 3 1 v l.length xs) (hx : ∀ i, i < l.length → xs[i]? = some (.int .i64 (gi l i))) (hr : ∀ i, i < l.length → inI64 (gi l i)) :
    ∃ bs, OwnI w v l bs ∧ bs.Nodup ∧ ∀ b ∈ bs, B ≤ b := by
  obtain ⟨hl, h⟩ := h
  rcases h with ⟨rfl, hn⟩ | ⟨g, cap, cur, rfl, hb, hh, hc1, hc2, hs, ht⟩
  · exact ⟨[], ⟨⟨0, by omega, by unfold maxLen; omega, .inl ⟨hn, rfl, none, ⟨rfl, rfl⟩, rfl⟩⟩, hr⟩, List.nodup_nil, by simp⟩
  · refine ⟨[g], ⟨⟨cap, hc1, hc2, .inr ⟨g, cap, fun i => cur.getD i undef, rfl, rfl, by omega, ⟨cur, hh, by omega, fun i hi => ?_⟩, fun i hi => ?_⟩⟩, hr⟩, by simp, by simpa using hb⟩
    · have hlt : i < cur.size := by omega
      simp [hlt]
    · have e := hx i (by omega)
      rw [← ht, List.getElem?_take, if_pos (by omega)] at e
      have hlt : i < cur.size := by omega
      simp only [Array.getElem?_toList] at e
      simp [Array.getD, hlt]
      simpa [hlt] using e

theorem grown_ext {W w w' : World} {B : Nat} {v : Value} {n : Nat} {xs : List Value} {t k : Nat} (he : Ext W w) (hB : W.heap.size ≤ B) (ho : w.ownsRow B t k v n xs) (hg : w.grownBy w' v.ownBlock) : Ext W w' :=
  he.grown hg he.size fun k hk => Nat.le_trans hB (ho.lt k hk).1

def degs (N : Net) : List Int := N.ends.map fun r => (r.length : Int)
theorem gi_degs (N : Net) (i : Nat) (h : i < N.ends.length) : gi (degs N) i = ((gr N.ends i).length : Int) := by
  simp [gi, degs, gr, h]
/-- The first k degrees, as cells. -/
def degCells (N : Net) (k : Nat) : List Value := (List.range k).map fun j => .int .i64 ((gr N.ends j).length : Int)
theorem degCells_succ (N : Net) (k : Nat) : degCells N k ++ [.int .i64 ((gr N.ends k).length : Int)] = degCells N (k + 1) := by
  simp [degCells, List.range_succ]

theorem degCells_get (N : Net) (i : Nat) (h : i < N.ends.length) : (degCells N N.ends.length)[i]? = some (.int .i64 (gi (degs N) i)) := by
  rw [gi_degs N i h]
  simp [degCells, h]

set_option maxHeartbeats 1600000 in
set_option maxRecDepth 100000 in
theorem neDegrees_any {w : World} {v : Value} {N : Net} (h : NetAt w v N) (hs : N.ends.length ≤ 1048576) :
    Calls Try.prog 75 #[v] w fun e w' => ∃ v' bs, e = .returned v' ∧ Ext w w' ∧ OwnI w' v' (degs N) bs ∧ Fresh w bs := by
  obtain ⟨v0, v1, v2, rfl, hE, hI, hP⟩ := h
  clear hI hP
  obtain ⟨a, b, o, c, rfl, ha, hl, hm, hc⟩ := hE
  unfold maxLen at hm
  have Hc := Lib.hid hc
  have Ha := Lib.hid ha
  clear hc ha
  have HX := Lib.hid (boxed_ext w (.slice a N.ends.length c) v1 v2 30)
  obtain ⟨i0, hi, hz0, hz1, hz2⟩ := info_parts Try.info3
  have I0 := Lib.hid (And.intro hi (And.intro hz0 (And.intro hz1 hz2)))
  clear hi hz0 hz1 hz2
  go_enter Try.func75, Try.ntmps75
  go_wp2
  go_loopg [3, 9] N.ends.length (fun g s i wr => ∃ k : Nat, k ≤ N.ends.length ∧ g = N.ends.length - k ∧ i = .int .i64 k ∧ Hid (Ext (boxed w (.slice a N.ends.length c) v1 v2 30) wr ∧ wr.ownsRow (w.heap.size + 1) 3 1 s k (degCells N k)))
  case atStart => exact ⟨0, Nat.zero_le _, rfl, rfl, Ext.rfl' _, World.ownsRow_nil _ _ _ _⟩
  case round =>
    obtain ⟨k, hk, rfl, rfl, Hr⟩ := hrel
    by_cases hlt : k < N.ends.length
    · obtain ⟨z, hz, hz2⟩ := Hc.out k hlt
      obtain ⟨a', b', o', c', rfl, _, hl', hm', _⟩ := hz2
      unfold maxLen at hm'
      obtain rfl := Ha.out (by omega)
      have hz1 := Hr.out.1.cell' (HX.out.cell' hz)
      have hB : w.heap.size + 1 ≤ wr.heap.size := by have := Hr.out.1.size; simpa using this
      clear hz
      go_wp2_with (at_builtin; refine wpList_append_own _ rfl _ _ 23 rfl (w.heap.size + 1) 3 i0 (.int .i64 0) 1 8 Try.underlying23 I0.out.1 I0.out.2.1 I0.out.2.2.1 I0.out.2.2.2 rfl (by decide) _ _ _ rfl (Hr.out.2.alloc _) ⟨wr.heap.size, 0, none⟩ 1 1 [.int .i64 ((gr N.ends k).length : Int)] rfl rfl ?c1 ?c2 ?c3 ?c4 ?c5 ?_)
      case c2 => simp [Value.oneCell']
      case c3 => unfold maxLen; omega
      case c4 => omega
      case c5 => first | omega | (simp; omega)
      intro v' w1 hown' hgrow _
      have Hn : Hid (Ext (boxed w (.slice (some ⟨b, o, none⟩) N.ends.length c) v1 v2 30) w1 ∧ w1.ownsRow (w.heap.size + 1) 3 1 v' (k + 1) (degCells N (k + 1))) := by
        refine ⟨grown_ext (Hr.out.1.alloc' _) (by simp) (Hr.out.2.alloc _) hgrow, ?_⟩
        rw [← degCells_succ]
        exact hown'
      clear hown' hgrow
      go_wp2
      go_roundg (N.ends.length - (k + 1))
      case measure => omega
      case rel => exact ⟨k + 1, by omega, rfl, by go_num, Hn⟩
    · obtain rfl : k = N.ends.length := by omega
      go_wp2
      go_ret
      have hdl : (degs N).length = N.ends.length := by simp [degs]
      obtain ⟨bs, ho, hnd, hge⟩ := own_of_row (l := degs N) (by rw [hdl]; exact Hr.out.2) (fun i hi => degCells_get N i (by omega))
        (fun i hi => by
          rw [gi_degs N i (by omega)]
          obtain ⟨z, _, a', b', o', c', _, _, h3, h4, _⟩ := Hc.out i (by omega)
          unfold maxLen at h4
          exact ⟨by omega, by omega⟩)
      exact ⟨_, bs, rfl, HX.out.trans' Hr.out.1, ho, hnd, fun b hb => by have := hge b hb; omega⟩
end Go.Proofs.Ytndgbildkeglfaa
