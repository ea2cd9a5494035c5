/- Contracts of hasNode, neNode, neNear, slices.Equal and l1Same. -/
import Derived.Test.YtkpdbceglejbnaaIb
import Derived.Deep.RegionHeld3
namespace Go.Proofs.Ytkpdbceglejbnaa
open Go.RowKit

theorem bool_of {b c : Bool} (h : b = c) : Ending.returned (.bool b) = .returned (.bool c) := by rw [h]
def NodeOK (N : Net) (x : Int) : Prop := 0 ≤ x ∧ x < N.ends.length
def NodeAns (N : Net) (x : Int) : Prop := Good N ∧ NodeOK N x

set_option maxRecDepth 100000 in
theorem hasNode_any {w : World} {v : Value} {N : Net} (x : Int) (h : NetAt w v N) :
    Calls Try.prog 84 #[v, .int .i64 x] w fun e w' => e = .returned (.bool (dec (NodeOK N x))) ∧ Ext w w' := by
  obtain ⟨v0, v1, v2, rfl, hE, hI, hP⟩ := h
  clear hI hP
  obtain ⟨a, b, o, c, rfl, ha, hl, hm, hc⟩ := hE
  unfold maxLen at hm
  clear ha hc
  have HX := Lib.hid (boxed_ext w (.slice a N.ends.length c) v1 v2 34)
  by_cases h1 : 0 ≤ x
  · by_cases h2 : x < N.ends.length
    · have HF := Lib.hid (show NodeOK N x from ⟨h1, h2⟩)
      go_enter Try.func84, Try.ntmps84
      go_wp2
      go_ret
      exact ⟨ret_t HF.out, HX.out⟩
    · have HF := Lib.hid (show ¬ NodeOK N x from fun h => h2 h.2)
      go_enter Try.func84, Try.ntmps84
      go_wp2
      go_ret
      exact ⟨ret_f HF.out, HX.out⟩
  · have HF := Lib.hid (show ¬ NodeOK N x from fun h => h1 h.1)
    go_enter Try.func84, Try.ntmps84
    go_wp2
    go_ret
    exact ⟨ret_f HF.out, HX.out⟩

set_option maxHeartbeats 800000 in
set_option maxRecDepth 100000 in
theorem neNode_any {w : World} {v : Value} {N : Net} (x : Int) (h : NetAt w v N) :
    Calls Try.prog 102 #[v, .int .i64 x] w fun e w' => e = .returned (.bool (dec (NodeAns N x))) ∧ Ext w w' := by
  have HN := Lib.hid h
  obtain ⟨v0, v1, v2, rfl, hE, hI, hP⟩ := h
  clear hI hP
  obtain ⟨a, b, o, c, rfl, ha, hl, hm, hc⟩ := hE
  unfold maxLen at hm
  clear ha hc
  have HX := Lib.hid (boxed_ext w (.slice a N.ends.length c) v1 v2 34)
  have HR := Lib.hid (row3_made w (.slice a N.ends.length c) v1 v2 34)
  obtain ⟨p0, p1, p2, -, -, -⟩ := row3_facts HR.out
  by_cases hg : Good N
  · have G := Lib.hid (dec_true hg)
    have D := Lib.hid (show dec (InB x 0 ((N.ends.length : Int) - 1)) = dec (NodeAns N x) from dec_congr ⟨fun h => ⟨hg, h.1, by have := h.2; omega⟩, fun h => ⟨h.2.1, by have := h.2.2; omega⟩⟩)
    clear hg
    go_enter Try.func102, Try.ntmps102
    go_wp2_with fail
    (with_reducible refine (neGood_any (HN.out.ext HX.out)).mono ?_)
    rintro e w1 ⟨rfl, hw⟩
    rw [G.out]
    have K1 := Lib.hid (HX.out.trans' hw)
    obtain ⟨q0, q1, q2, -, -, -⟩ := row3_facts (row_ext HR.out hw)
    clear hw p0 p1 p2
    go_wp2_with (go_at_call 103; (with_reducible refine (l1In_any x _ _ _).mono ?_); rintro e w' ⟨rfl, rfl⟩; rw [D.out])
    go_ret
    exact ⟨rfl, K1.out⟩
  · have G := Lib.hid (dec_false hg)
    have D := Lib.hid (dec_false (p := NodeAns N x) fun h => hg h.1)
    clear hg
    go_enter Try.func102, Try.ntmps102
    go_wp2_with (go_at_call 62; (with_reducible refine (neGood_any (HN.out.ext HX.out)).mono ?_); rintro e w1 ⟨rfl, hw⟩; rw [G.out]; have K1 := Lib.hid (HX.out.trans' hw); clear hw)
    go_ret
    exact ⟨bool_of D.out.symm, K1.out⟩

def nears (l : List (Int × Int)) : List Int := l.map (·.1)
theorem gi_nears (l : List (Int × Int)) (i : Nat) (h : i < l.length) : gi (nears l) i = gn l i := by simp [gi, nears, gn, h]
theorem length_nears (l : List (Int × Int)) : (nears l).length = l.length := by simp [nears]
def nearCells (l : List (Int × Int)) (k : Nat) : List Value := (List.range k).map fun j => .int .i64 (gn l j)
theorem nearCells_succ (l : List (Int × Int)) (k : Nat) : nearCells l k ++ [.int .i64 (gn l k)] = nearCells l (k + 1) := by simp [nearCells, List.range_succ]
theorem nearCells_get (l : List (Int × Int)) (i : Nat) (h : i < l.length) : (nearCells l l.length)[i]? = some (.int .i64 (gi (nears l) i)) := by
  rw [gi_nears l i h]
  simp [nearCells, h]

set_option maxHeartbeats 1600000 in
set_option maxRecDepth 100000 in
theorem neNear_any {w : World} {v : Value} {N : Net} (x : Nat) (hx : x < N.ends.length) (h : NetAt w v N) (hs : (gr N.ends x).length ≤ 1048576) :
    Calls Try.prog 129 #[v, .int .i64 x] w fun e w' => ∃ v' bs, e = .returned v' ∧ Ext w w' ∧ OwnI w' v' (nears (gr N.ends x)) bs ∧ Fresh w bs := by
  obtain ⟨v0, v1, v2, rfl, hE, hI, hP⟩ := h
  clear hI hP
  obtain ⟨a, b, o, c, rfl, ha, hl, hm, hc⟩ := hE
  unfold maxLen at hm
  obtain ⟨z, hz, hz2⟩ := hc x hx
  obtain ⟨a', b', o', c', rfl, ha', hl', hm', hc'⟩ := hz2
  unfold maxLen at hm'
  obtain rfl := ha (by omega)
  have HX := Lib.hid (boxed_ext w (.slice (some ⟨b, o, none⟩) N.ends.length c) v1 v2 34)
  have hz1 := HX.out.cell' hz
  have Hc := Lib.hid hc'
  have Ha := Lib.hid ha'
  clear hc ha hc' ha' hz
  obtain ⟨i0, hi, hz0, hz1', hz2⟩ := info_parts Try.info3
  have I0 := Lib.hid (And.intro hi (And.intro hz0 (And.intro hz1' hz2)))
  clear hi hz0 hz1' hz2
  go_enter Try.func129, Try.ntmps129
  go_wp2
  clear hz1
  go_loopg [5, 14] (gr N.ends x).length (fun g s i wr => ∃ k : Nat, k ≤ (gr N.ends x).length ∧ g = (gr N.ends x).length - k ∧ i = .int .i64 k ∧ Hid (Ext (boxed w (.slice (some ⟨b, o, none⟩) N.ends.length c) v1 v2 34) wr ∧ wr.ownsRow (w.heap.size + 1) 3 1 s k (nearCells (gr N.ends x) k)))
  case atStart => exact ⟨0, Nat.zero_le _, rfl, rfl, Ext.rfl' _, World.ownsRow_nil _ _ _ _⟩
  case round =>
    obtain ⟨k, hk, rfl, rfl, Hr⟩ := hrel
    by_cases hlt : k < (gr N.ends x).length
    · obtain ⟨hc1, hc2, _⟩ := Hc.out k hlt
      obtain rfl := Ha.out (by omega)
      have q1 := Hr.out.1.cell' (HX.out.cell' hc1)
      have q2 := Hr.out.1.cell' (HX.out.cell' hc2)
      have hB : w.heap.size + 1 ≤ wr.heap.size := by have := Hr.out.1.size; simpa using this
      clear hc1 hc2
      go_wp2_with (at_builtin; refine wpList_append_own _ rfl _ _ 26 rfl (w.heap.size + 1) 3 i0 (.int .i64 0) 1 8 Try.underlying26 I0.out.1 I0.out.2.1 I0.out.2.2.1 I0.out.2.2.2 rfl (by decide) _ _ _ rfl ((Hr.out.2.alloc _).alloc _) ⟨wr.heap.size + 1, 0, none⟩ 1 1 [.int .i64 (gn (gr N.ends x) k)] rfl rfl ?c1 ?c2 ?c3 ?c4 ?c5 ?_)
      case c2 => simp [Value.oneCell']
      case c3 => unfold maxLen; omega
      case c4 => omega
      case c5 => first | omega | (simp; omega)
      intro v' w1 hown' hgrow _
      have Hn : Hid (Ext (boxed w (.slice (some ⟨b, o, none⟩) N.ends.length c) v1 v2 34) w1 ∧ w1.ownsRow (w.heap.size + 1) 3 1 v' (k + 1) (nearCells (gr N.ends x) (k + 1))) := by
        refine ⟨grown_ext ((Hr.out.1.alloc' _).alloc' _) (by simp) ((Hr.out.2.alloc _).alloc _) hgrow, ?_⟩
        rw [← nearCells_succ]
        exact hown'
      clear hown' hgrow
      go_wp2
      go_roundg ((gr N.ends x).length - (k + 1))
      case measure => omega
      case rel => exact ⟨k + 1, by omega, rfl, by go_num, Hn⟩
    · obtain rfl : k = (gr N.ends x).length := by omega
      go_wp2
      go_ret
      have hdl := length_nears (gr N.ends x)
      obtain ⟨bs, ho, hnd, hge⟩ := own_of_row (l := nears (gr N.ends x)) (by rw [hdl]; exact Hr.out.2) (fun i hi => nearCells_get _ i (by omega))
        (fun i hi => by rw [gi_nears _ i (by omega)]; exact (Hc.out i (by omega)).2.2.1)
      exact ⟨_, bs, rfl, HX.out.trans' Hr.out.1, ho, hnd, fun b hb => by have := hge b hb; omega⟩

end Go.Proofs.Ytkpdbceglejbnaa
