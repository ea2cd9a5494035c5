/- Contracts of leadsTo and neNear. -/
import Derived.Test.YtndgbildkeglfaaReg2
namespace Go.Proofs.Ytndgbildkeglfaa
open Go.RowKit

theorem gn_take {l : List (Int × Int)} {k j : Nat} (h : j < k) : gn (l.take k) j = gn l j := by simp [gn, h]
theorem gp_take {l : List (Int × Int)} {k j : Nat} (h : j < k) : gp (l.take k) j = gp l j := by simp [gp, h]
theorem EndSl.take {w : World} {a : Option Addr} {n c k : Nat} {l : List (Int × Int)} (h : EndSl w (.slice a n c) l) (hk : k ≤ l.length) : EndSl w (.slice a k c) (l.take k) := by
  obtain ⟨a', b, o, c', e, h2, h3, h4, h5⟩ := h
  cases e
  have hl : (l.take k).length = k := by simp; omega
  refine ⟨a, b, o, c, by rw [hl], fun h => h2 (by omega), by omega, h4, fun i hi => ?_⟩
  rw [gn_take (by omega), gp_take (by omega)]
  exact h5 i (by omega)

def Leads (l : List (Int × Int)) (x : Int) : Prop := ∃ j, j < l.length ∧ gn l j = x

set_option maxHeartbeats 800000 in
set_option maxRecDepth 100000 in
theorem leadsTo_any {w : World} {v : Value} {l : List (Int × Int)} (x : Int) (h : EndSl w v l) :
    Calls Try.prog 73 #[v, .int .i64 x] w fun e w' => e = .returned (.bool (dec (Leads l x))) ∧ Ext w w' := by
  obtain ⟨a, b, o, c, rfl, ha, hl, hm, hc⟩ := h
  unfold maxLen at hm
  have Hc := Lib.hid hc
  have Ha := Lib.hid ha
  clear hc ha
  go_enter Try.func73, Try.ntmps73
  go_wp2
  go_loopg [9] l.length (fun g i wr => ∃ k : Nat, k ≤ l.length ∧ g = l.length - k ∧ i = .int .i64 k ∧ Hid (Ext w wr ∧ ∀ j, j < k → gn l j ≠ x))
  case atStart => exact ⟨0, Nat.zero_le _, rfl, rfl, Ext.rfl' w, fun j hj => absurd hj (by omega)⟩
  case round =>
    obtain ⟨k, hk, rfl, rfl, Hr⟩ := hrel
    by_cases hlt : k < l.length
    · obtain ⟨hc1, hc2, _⟩ := Hc.out k hlt
      obtain rfl := Ha.out (by omega)
      have q1 := Hr.out.1.cell' hc1
      have q2 := Hr.out.1.cell' hc2
      clear hc1 hc2
      by_cases he : gn l k = x
      · have heb : (gn l k == x) = true := beq_iff_eq.2 he
        have He := Lib.hid he
        clear he
        go_wp2
        go_ret
        exact ⟨ret_t ⟨k, hlt, He.out⟩, Hr.out.1.alloc' _⟩
      · have heb : (gn l k == x) = false := beq_eq_false_iff_ne.2 he
        have He := Lib.hid he
        clear he
        go_wp2
        go_roundg (l.length - (k + 1))
        case measure => omega
        case rel =>
          refine ⟨k + 1, by omega, rfl, by go_num, Hr.out.1.alloc' _, fun j hj => ?_⟩
          by_cases e : j = k
          · subst e; exact He.out
          · exact Hr.out.2 j (by omega)
    · obtain rfl : k = l.length := by omega
      go_wp2
      go_ret
      exact ⟨ret_f fun ⟨j, h1, h2⟩ => Hr.out.2 j h1 h2, Hr.out.1⟩

def nears (l : List (Int × Int)) : List Int := l.map (·.1)
theorem gi_nears (l : List (Int × Int)) (i : Nat) (h : i < l.length) : gi (nears l) i = gn l i := by simp [gi, nears, gn, h]
theorem length_nears (l : List (Int × Int)) : (nears l).length = l.length := by simp [nears]
def nearCells (l : List (Int × Int)) (k : Nat) : List Value := (List.range k).map fun j => .int .i64 (gn l j)
theorem nearCells_succ (l : List (Int × Int)) (k : Nat) : nearCells l k ++ [.int .i64 (gn l k)] = nearCells l (k + 1) := by simp [nearCells, List.range_succ]
theorem nearCells_get (l : List (Int × Int)) (i : Nat) (h : i < l.length) : (nearCells l l.length)[i]? = some (.int .i64 (gi (nears l) i)) := by
  rw [gi_nears l i h]
  simp [nearCells, h]

set_option maxHeartbeats 1600000 in
set_option maxRecDepth 100000 in
theorem neNear_any {w : World} {v : Value} {N : Net} (x : Nat) (hx : x < N.ends.length) (h : NetAt w v N) (hs : (gr N.ends x).length ≤ 1048576) :
    Calls Try.prog 80 #[v, .int .i64 x] w fun e w' => ∃ v' bs, e = .returned v' ∧ Ext w w' ∧ OwnI w' v' (nears (gr N.ends x)) bs ∧ Fresh w bs := by
  obtain ⟨v0, v1, v2, rfl, hE, hI, hP⟩ := h
  clear hI hP
  obtain ⟨a, b, o, c, rfl, ha, hl, hm, hc⟩ := hE
  unfold maxLen at hm
  obtain ⟨z, hz, hz2⟩ := hc x hx
  obtain ⟨a', b', o', c', rfl, ha', hl', hm', hc'⟩ := hz2
  unfold maxLen at hm'
  obtain rfl := ha (by omega)
  have HX := Lib.hid (boxed_ext w (.slice (some ⟨b, o, none⟩) N.ends.length c) v1 v2 30)
  have hz1 := HX.out.cell' hz
  have Hc := Lib.hid hc'
  have Ha := Lib.hid ha'
  clear hc ha hc' ha' hz
  obtain ⟨i0, hi, hz0, hz1', hz2⟩ := info_parts Try.info3
  have I0 := Lib.hid (And.intro hi (And.intro hz0 (And.intro hz1' hz2)))
  clear hi hz0 hz1' hz2
  go_enter Try.func80, Try.ntmps80
  go_wp2
  clear hz1
  go_loopg [5, 14] (gr N.ends x).length (fun g s i wr => ∃ k : Nat, k ≤ (gr N.ends x).length ∧ g = (gr N.ends x).length - k ∧ i = .int .i64 k ∧ Hid (Ext (boxed w (.slice (some ⟨b, o, none⟩) N.ends.length c) v1 v2 30) wr ∧ wr.ownsRow (w.heap.size + 1) 3 1 s k (nearCells (gr N.ends x) k)))
  case atStart => exact ⟨0, Nat.zero_le _, rfl, rfl, Ext.rfl' _, World.ownsRow_nil _ _ _ _⟩
  case round =>
    obtain ⟨k, hk, rfl, rfl, Hr⟩ := hrel
    by_cases hlt : k < (gr N.ends x).length
    · obtain ⟨hc1, hc2, _⟩ := Hc.out k hlt
      obtain rfl := Ha.out (by omega)
      have q1 := Hr.out.1.cell' (HX.out.cell' hc1)
      have q2 := Hr.out.1.cell' (HX.out.cell' hc2)
      have hB : w.heap.size + 1 ≤ wr.heap.size := by have := Hr.out.1.size; simpa using this
      clear hc1 hc2
      go_wp2_with (at_builtin; refine wpList_append_own _ rfl _ _ 23 rfl (w.heap.size + 1) 3 i0 (.int .i64 0) 1 8 Try.underlying23 I0.out.1 I0.out.2.1 I0.out.2.2.1 I0.out.2.2.2 rfl (by decide) _ _ _ rfl ((Hr.out.2.alloc _).alloc _) ⟨wr.heap.size + 1, 0, none⟩ 1 1 [.int .i64 (gn (gr N.ends x) k)] rfl rfl ?c1 ?c2 ?c3 ?c4 ?c5 ?_)
      case c2 => simp [Value.oneCell']
      case c3 => unfold maxLen; omega
      case c4 => omega
      case c5 => first | omega | (simp; omega)
      intro v' w1 hown' hgrow _
      have Hn : Hid (Ext (boxed w (.slice (some ⟨b, o, none⟩) N.ends.length c) v1 v2 30) w1 ∧ w1.ownsRow (w.heap.size + 1) 3 1 v' (k + 1) (nearCells (gr N.ends x) (k + 1))) := by
        refine ⟨grown_ext ((Hr.out.1.alloc' _).alloc' _) (by simp) ((Hr.out.2.alloc _).alloc _) hgrow, ?_⟩
        rw [← nearCells_succ]
        exact hown'
      clear hown' hgrow
      go_wp2
      go_roundg ((gr N.ends x).length - (k + 1))
      case measure => omega
      case rel => exact ⟨k + 1, by omega, rfl, by go_num, Hn⟩
    · obtain rfl : k = (gr N.ends x).length := by omega
      go_wp2
      go_ret
      have hdl := length_nears (gr N.ends x)
      obtain ⟨bs, ho, hnd, hge⟩ := own_of_row (l := nears (gr N.ends x)) (by rw [hdl]; exact Hr.out.2) (fun i hi => nearCells_get _ i (by omega))
        (fun i hi => by rw [gi_nears _ i (by omega)]; exact (Hc.out i (by omega)).2.2.1)
      exact ⟨_, bs, rfl, HX.out.trans' Hr.out.1, ho, hnd, fun b hb => by have := hge b hb; omega⟩
end Go.Proofs.Ytndgbildkeglfaa
