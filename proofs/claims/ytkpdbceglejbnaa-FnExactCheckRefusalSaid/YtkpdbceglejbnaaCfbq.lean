/- The contracts of conflictWithin, of the model's taConflict, of hasOutputs and taOuts. -/
import Derived.Test.YtkpdbceglejbnaaCfa
import Derived.Test.YtkpdbceglejbnaaVmq
namespace Go.Proofs.Ytkpdbceglejbnaa
open Go.RowKit

theorem ret_iib {x y x' y' : Int} {b c : Bool} (h : x = x') (h' : y = y') (k : b = c) : Ending.returned (.tuple #[.int .i64 x, .int .i64 y, .bool b]) = .returned (.tuple #[.int .i64 x', .int .i64 y', .bool c]) := by rw [h, h', k]

/-- The cells of a list in one block of its own. -/
theorem own_row_of {w : World} {b n c : Nat} {l : List Int} (h : OwnI w (.slice (some ⟨b, 0, none⟩) n c) l [b]) (hl : l.length = n) : n ≤ c ∧ c ≤ maxLen ∧ ∀ i, i < n → w.cell? ⟨b, i, none⟩ = some (.int .i64 (gi l i)) := by
  obtain ⟨⟨c', h1, h2, h3⟩, h4⟩ := h
  rcases h3 with ⟨_, hb, _⟩ | ⟨b', m, g, hb, hv, hm, hr, hf⟩
  · exact absurd hb (by simp)
  · obtain rfl : b = b' := by simpa using hb
    obtain ⟨_, rfl⟩ : n = l.length ∧ c = c' := by simpa using hv
    exact ⟨by omega, h2, fun i hi => by rw [hr.cell (by omega), hf i (by omega)]⟩

theorem bool_ret {b c : Bool} (h : b = c) : Ending.returned (.bool b) = .returned (.bool c) := by rw [h]

set_option maxHeartbeats 1600000 in
set_option maxRecDepth 100000 in
theorem hasOutputs_any {w : World} {v vl : Value} {N : Net} {l : List Int} (h : NetAt w v N) (k : IntSl w vl l) :
    Calls Try.prog 60 #[v, vl] w fun e w' => e = .returned (.bool (dec (OutsOK N l))) ∧ Ext w w' := by
  have HN := Lib.hid h
  have HL := Lib.hid k
  obtain ⟨v0, v1, v2, rfl, hE, -, -⟩ := h
  obtain ⟨a0, _, _, c0, rfl, -, -, hm0, -⟩ := hE
  obtain ⟨a2, b2, o2, d2, rfl, -, -, hm2, -⟩ := k
  unfold maxLen at hm2 hm0
  have HX := Lib.hid (boxed_ext w (.slice a0 N.ends.length c0) v1 v2 34)
  have HR := Lib.hid (row3_made w (.slice a0 N.ends.length c0) v1 v2 34)
  obtain ⟨p0, p1, p2, -, -, -⟩ := row3_facts HR.out
  by_cases hg : Good N
  case neg =>
    have G := Lib.hid (dec_false hg)
    have D := Lib.hid (dec_false (p := OutsOK N l) fun h => hg h.1)
    clear hg
    go_enter Try.func60, Try.ntmps60
    go_wp2_with (first | (go_at_call 73; (with_reducible refine (isNetwork_any (HN.out.ext HX.out)).mono ?_); rintro e w1 ⟨rfl, hw⟩; rw [G.out]; have K1 := Lib.hid (HX.out.trans' hw); clear hw))
    go_ret
    exact ⟨bool_ret D.out.symm, K1.out⟩
  have G := Lib.hid (dec_true hg)
  by_cases hl : l.length = N.ends.length
  case neg =>
    have D := Lib.hid (dec_false (p := OutsOK N l) fun h => hl h.2.1)
    have b1 : ((l.length : Int) == (N.ends.length : Int)) = false := by simp; omega
    clear hg hl
    go_enter Try.func60, Try.ntmps60
    go_wp2_with fail
    (with_reducible refine (isNetwork_any (HN.out.ext HX.out)).mono ?_)
    rintro e w1 ⟨rfl, hw⟩
    rw [G.out]
    have K1 := Lib.hid (HX.out.trans' hw)
    obtain ⟨q0, q1, q2, -, -, -⟩ := row3_facts (row_ext HR.out hw)
    clear hw p0 p1 p2
    go_wp2
    go_ret
    exact ⟨bool_ret D.out.symm, K1.out⟩
  have b1 : ((l.length : Int) == (N.ends.length : Int)) = true := by simp [hl]
  have D := Lib.hid (show dec (AllIn l 0 99) = dec (OutsOK N l) from dec_congr ⟨fun h => ⟨hg, hl, h⟩, fun h => h.2.2⟩)
  clear hg hl
  go_enter Try.func60, Try.ntmps60
  go_wp2_with fail
  (with_reducible refine (isNetwork_any (HN.out.ext HX.out)).mono ?_)
  rintro e w1 ⟨rfl, hw⟩
  rw [G.out]
  have K1 := Lib.hid (HX.out.trans' hw)
  obtain ⟨q0, q1, q2, -, -, -⟩ := row3_facts (row_ext HR.out hw)
  clear hw p0 p1 p2
  go_wp2_with (first | (go_at_call 111; (with_reducible refine (areBetween_any _ _ (HL.out.ext K1.out)).mono ?_); rintro e w2 ⟨rfl, rfl⟩; rw [D.out]))
  go_ret
  exact ⟨rfl, K1.out⟩

set_option maxHeartbeats 1600000 in
set_option maxRecDepth 100000 in
theorem taOuts_any {w : World} {v vl : Value} {N : Net} {l : List Int} (h : NetAt w v N) (k : IntSl w vl l) :
    Calls Try.prog 57 #[v, vl] w fun e w' => e = .returned (.bool (dec (OutsOK N l))) ∧ Ext w w' := by
  have HN := Lib.hid h
  have HL := Lib.hid k
  obtain ⟨v0, v1, v2, rfl, hE, -, -⟩ := h
  obtain ⟨a0, _, _, c0, rfl, -, -, hm0, -⟩ := hE
  obtain ⟨a2, b2, o2, d2, rfl, -, -, hm2, -⟩ := k
  unfold maxLen at hm2 hm0
  have HX := Lib.hid (boxed_ext w (.slice a0 N.ends.length c0) v1 v2 34)
  have HR := Lib.hid (row3_made w (.slice a0 N.ends.length c0) v1 v2 34)
  obtain ⟨p0, p1, p2, -, -, -⟩ := row3_facts HR.out
  by_cases hg : Good N
  case neg =>
    have G := Lib.hid (dec_false hg)
    have D := Lib.hid (dec_false (p := OutsOK N l) fun h => hg h.1)
    clear hg
    go_enter Try.func57, Try.ntmps57
    go_wp2_with (first | (go_at_call 62; (with_reducible refine (neGood_any (HN.out.ext HX.out)).mono ?_); rintro e w1 ⟨rfl, hw⟩; rw [G.out]; have K1 := Lib.hid (HX.out.trans' hw); clear hw))
    go_ret
    exact ⟨bool_ret D.out.symm, K1.out⟩
  have G := Lib.hid (dec_true hg)
  by_cases hl : l.length = N.ends.length
  case neg =>
    have D := Lib.hid (dec_false (p := OutsOK N l) fun h => hl h.2.1)
    have b1 : ((l.length : Int) == (N.ends.length : Int)) = false := by simp; omega
    clear hg hl
    go_enter Try.func57, Try.ntmps57
    go_wp2_with fail
    (with_reducible refine (neGood_any (HN.out.ext HX.out)).mono ?_)
    rintro e w1 ⟨rfl, hw⟩
    rw [G.out]
    have K1 := Lib.hid (HX.out.trans' hw)
    obtain ⟨q0, q1, q2, -, -, -⟩ := row3_facts (row_ext HR.out hw)
    clear hw p0 p1 p2
    go_wp2
    go_ret
    exact ⟨bool_ret D.out.symm, K1.out⟩
  have b1 : ((l.length : Int) == (N.ends.length : Int)) = true := by simp [hl]
  have D := Lib.hid (show dec (AllIn l 0 99) = dec (OutsOK N l) from dec_congr ⟨fun h => ⟨hg, hl, h⟩, fun h => h.2.2⟩)
  clear hg hl
  go_enter Try.func57, Try.ntmps57
  go_wp2_with fail
  (with_reducible refine (neGood_any (HN.out.ext HX.out)).mono ?_)
  rintro e w1 ⟨rfl, hw⟩
  rw [G.out]
  have K1 := Lib.hid (HX.out.trans' hw)
  obtain ⟨q0, q1, q2, -, -, -⟩ := row3_facts (row_ext HR.out hw)
  clear hw p0 p1 p2
  go_wp2_with (first | (go_at_call 109; (with_reducible refine (l1All_any _ _ (HL.out.ext K1.out)).mono ?_); rintro e w2 ⟨rfl, rfl⟩; rw [D.out]))
  go_ret
  exact ⟨rfl, K1.out⟩
end Go.Proofs.Ytkpdbceglejbnaa
