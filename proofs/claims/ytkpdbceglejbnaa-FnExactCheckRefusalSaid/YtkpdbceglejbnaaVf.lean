/- The contracts of the two function values that classesByDepth and finerClasses hand on, and of the comparison of lists of ends. -/
import Derived.Test.YtkpdbceglejbnaaVd
import Derived.Test.YtkpdbceglejbnaaKb
import Derived.Shelf.Abstract
namespace Go.Proofs.Ytkpdbceglejbnaa
open Go.RowKit

/-- A network's lists and inputs lie in the box b. -/
def NetBox (w : World) (b : Nat) (N : Net) : Prop := ∃ v0 v2, w.cell? ⟨b, 0, none⟩ = some v0 ∧ w.cell? ⟨b, 2, none⟩ = some v2 ∧ EndSS w v0 N.ends ∧ IntSl w v2 N.inputs
theorem NetBox.ext {w w' : World} {b : Nat} {N : Net} (h : NetBox w b N) (he : Ext w w') : NetBox w' b N := by
  obtain ⟨v0, v2, h1, h2, h3, h4⟩ := h
  exact ⟨v0, v2, he.cell' h1, he.cell' h2, h3.ext he, h4.ext he⟩

/-- A row that is copied whole reads as a list in memory of its own. -/
theorem own_row {w : World} {b n : Nat} {l : List Int} (hl : l.length = n) (hr : ∀ i, i < n → inI64 (gi l i)) (hn : n ≤ 1048576) (h : w.rowIs b 3 n (copied l n)) : OwnI w (.slice (some ⟨b, 0, none⟩) n n) l [b] := by
  subst hl
  refine ⟨⟨l.length, Nat.le_refl _, small_max hn, .inr ⟨b, l.length, copied l l.length, rfl, rfl, by omega, h, fun i hi => ?_⟩⟩, fun i hi => hr i (by omega)⟩
  simp only [copied]
  rw [if_pos (by omega)]
theorem seqC_in {N : Net} {t i : Nat} (hi : i < N.ends.length) : 0 ≤ gi (seqC N t) i ∧ gi (seqC N t) i < (N.ends.length : Int) := by
  rw [seqC_num]
  have := cl_range (equR N t _) hi
  have := cnt_le (seqR N t) N.ends.length
  omega
theorem seqC_range {N : Net} (hs : N.ends.length ≤ 1048576) (t i : Nat) (hi : i < N.ends.length) : inI64 (gi (seqC N t) i) ∧ 0 ≤ gi (seqC N t) i := by
  have := seqC_in (t := t) hi
  unfold inI64; omega

theorem bool_of {b c : Bool} (h : b = c) : Ending.returned (.bool b) = .returned (.bool c) := by rw [h]

set_option maxHeartbeats 1600000 in
set_option maxRecDepth 100000 in
theorem alike0_any {w : World} {b : Nat} {N : Net} (h : NetBox w b N) (hl : N.inputs.length = N.ends.length) (x y : Nat) (hx : x < N.ends.length) (hy : y < N.ends.length) :
    Calls Try.prog 125 #[.int .i64 x, .int .i64 y, .pointer (some ⟨b, 0, none⟩)] w fun e w' => e = .returned (.bool (like0 N x y)) ∧ Ext w w' := by
  obtain ⟨v0, v2, c0, c2, hE, hP⟩ := h
  obtain ⟨a, b1, o, c, rfl, ha, hn, hm, hc⟩ := hE
  obtain ⟨a2, b2, o2, d, rfl, ha2, hn2, hm2, hc2⟩ := hP
  unfold maxLen at hm hm2
  obtain rfl := ha (by omega)
  obtain rfl := ha2 (by omega)
  obtain ⟨zx, hzx, hrx⟩ := hc x hx
  obtain ⟨ax, _, _, cx, rfl, _, hnx, hmx, _⟩ := hrx
  obtain ⟨zy, hzy, hry⟩ := hc y hy
  obtain ⟨ay, _, _, cy, rfl, _, hny, hmy, _⟩ := hry
  obtain ⟨_, hix, rfl, _⟩ := hc2 x (by omega)
  obtain ⟨_, hiy, rfl, _⟩ := hc2 y (by omega)
  unfold maxLen at hmx hmy
  have hx2 : x < N.inputs.length := by omega
  have hy2 : y < N.inputs.length := by omega
  clear hc hc2 ha ha2
  by_cases h1 : (gr N.ends x).length = (gr N.ends y).length
  · have d1 : (((gr N.ends x).length : Int) == ((gr N.ends y).length : Int)) = true := by simp [h1]
    by_cases h2 : gi N.inputs x = gi N.inputs y
    · have d2 : (gi N.inputs x == gi N.inputs y) = true := by simp [h2]
      have Hn := Lib.hid (show like0 N x y = true from like0_iff.2 ⟨h1, h2⟩)
      clear h1 h2
      go_enter Try.func125, Try.ntmps125
      go_wp2
      go_quiet (fail)
      go_wp2
      go_ret
      exact ⟨bool_of Hn.out.symm, (Ext.rfl' w).drewN' _⟩
    · have d2 : (gi N.inputs x == gi N.inputs y) = false := by simp [h2]
      have Hn := Lib.hid (show like0 N x y = false from by rcases hb : like0 N x y with _ | _; rfl; exact absurd (like0_iff.1 hb).2 h2)
      clear h1 h2
      go_enter Try.func125, Try.ntmps125
      go_wp2
      go_quiet (fail)
      go_wp2
      go_ret
      exact ⟨bool_of Hn.out.symm, (Ext.rfl' w).drewN' _⟩
  · have d1 : (((gr N.ends x).length : Int) == ((gr N.ends y).length : Int)) = false := by simp; omega
    have Hn := Lib.hid (show like0 N x y = false from by rcases hb : like0 N x y with _ | _; rfl; exact absurd (like0_iff.1 hb).1 h1)
    clear h1
    go_enter Try.func125, Try.ntmps125
    go_wp2
    go_quiet (fail)
    go_wp2
    go_ret
    exact ⟨bool_of Hn.out.symm, (Ext.rfl' w).drewN' _⟩

/-- Two ends with equal ports and classes. -/
def SameEnd (c : List Int) (x1 p1 x2 p2 : Int) : Prop := p1 = p2 ∧ gi c x1.toNat = gi c x2.toNat

set_option maxHeartbeats 1600000 in
set_option maxRecDepth 100000 in
theorem sameEnds_any {w : World} {b : Nat} {vc : Value} {c : List Int} (h : w.cell? ⟨b, 0, none⟩ = some vc) (hC : IntSl w vc c) (x1 p1 x2 p2 : Int) (h1 : 0 ≤ x1 ∧ x1 < c.length) (h2 : 0 ≤ x2 ∧ x2 < c.length) :
    Calls Try.prog 168 #[.agg #[.int .i64 x1, .int .i64 p1], .agg #[.int .i64 x2, .int .i64 p2], .pointer (some ⟨b, 0, none⟩)] w fun e w' => e = .returned (.bool (dec (SameEnd c x1 p1 x2 p2))) ∧ Ext w w' := by
  obtain ⟨a, b1, o, d, rfl, ha, hn, hm, hc⟩ := hC
  unfold maxLen at hm
  obtain ⟨m, rfl⟩ := Int.eq_ofNat_of_zero_le h1.1
  obtain ⟨k, rfl⟩ := Int.eq_ofNat_of_zero_le h2.1
  have hm1 : m < c.length := by omega
  have hk1 : k < c.length := by omega
  obtain rfl := ha (by omega)
  obtain ⟨_, q1, rfl, _⟩ := hc m hm1
  obtain ⟨_, q2, rfl, _⟩ := hc k hk1
  have HX := Lib.hid (((Ext.rfl' w).alloc' (.cells #[.int .i64 (m : Int), .int .i64 p1] 95)).alloc' (.cells #[.int .i64 (k : Int), .int .i64 p2] 95))
  have t1 := HX.out.cell' h
  have t2 := HX.out.cell' q1
  have t3 := HX.out.cell' q2
  clear hc ha h q1 q2 h1 h2
  by_cases e1 : p1 = p2
  · have d1 : (p1 == p2) = true := by simp [e1]
    by_cases e2 : gi c m = gi c k
    · have d2 : (gi c m == gi c k) = true := by simp [e2]
      have Hn := Lib.hid (dec_true (p := SameEnd c m p1 k p2) ⟨e1, e2⟩)
      clear e1 e2
      go_enter Try.func168, Try.ntmps168
      go_wp2
      go_quiet (fail)
      go_wp2
      go_ret
      exact ⟨bool_of Hn.out.symm, HX.out.drewN' _⟩
    · have d2 : (gi c m == gi c k) = false := by simp [e2]
      have Hn := Lib.hid (dec_false (p := SameEnd c m p1 k p2) fun h => e2 h.2)
      clear e1 e2
      go_enter Try.func168, Try.ntmps168
      go_wp2
      go_quiet (fail)
      go_wp2
      go_ret
      exact ⟨bool_of Hn.out.symm, HX.out.drewN' _⟩
  · have d1 : (p1 == p2) = false := by simp [e1]
    have Hn := Lib.hid (dec_false (p := SameEnd c m p1 k p2) fun h => e1 h.1)
    clear e1
    go_enter Try.func168, Try.ntmps168
    go_wp2
    go_quiet (fail)
    go_wp2
    go_ret
    exact ⟨bool_of Hn.out.symm, HX.out.drewN' _⟩
end Go.Proofs.Ytkpdbceglejbnaa
