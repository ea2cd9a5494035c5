/- Contracts of the functions that count sizes: where the count is not negative, all lengths are bounded. -/
import Derived.Test.YtndgbildkeglfaaKit
namespace Go.Proofs.Ytndgbildkeglfaa
open Go.RowKit

theorem szEndS_any {w : World} {v : Value} {l : List (Int × Int)} (left : Int) (h : EndSl w v l) (h0 : -1 ≤ left) (h1 : left ≤ 1048576) :
    Calls Try.prog 103 #[v, .int .i64 left] w fun e w' => ∃ r : Int, e = .returned (.int .i64 r) ∧ w = w' ∧ r ≤ left ∧ -1 ≤ r ∧ (0 ≤ r → (l.length : Int) + r ≤ left) := by
  obtain ⟨a, b, o, c, rfl, _, h3, h4, _⟩ := h
  unfold maxLen at h4
  go_enter Try.func103, Try.ntmps103
  go_wp2
  all_goals go_ret
  · exact ⟨-1, rfl, rfl, by omega, by omega, by omega⟩
  · exact ⟨_, rfl, rfl, by omega, by omega, by omega⟩

theorem szIntS_any {w : World} {v : Value} {l : List Int} (left : Int) (h : IntSl w v l) (h0 : -1 ≤ left) (h1 : left ≤ 1048576) :
    Calls Try.prog 65 #[v, .int .i64 left] w fun e w' => ∃ r : Int, e = .returned (.int .i64 r) ∧ w = w' ∧ r ≤ left ∧ -1 ≤ r ∧ (0 ≤ r → (l.length : Int) + r ≤ left) := by
  obtain ⟨a, b, o, c, rfl, _, h3, h4, _⟩ := h
  unfold maxLen at h4
  go_enter Try.func65, Try.ntmps65
  go_wp2
  all_goals go_ret
  · exact ⟨-1, rfl, rfl, by omega, by omega, by omega⟩
  · exact ⟨_, rfl, rfl, by omega, by omega, by omega⟩

set_option maxHeartbeats 400000 in
set_option maxRecDepth 100000 in
theorem szEndSS_any {w : World} {v : Value} {l : List (List (Int × Int))} (left : Int) (h : EndSS w v l) (h0 : -1 ≤ left) (h1 : left ≤ 1048576) :
    Calls Try.prog 64 #[v, .int .i64 left] w fun e w' => ∃ r : Int, e = .returned (.int .i64 r) ∧ w = w' ∧ r ≤ left ∧ -1 ≤ r ∧
      (0 ≤ r → (l.length : Int) + r ≤ left ∧ ∀ i, i < l.length → ((gr l i).length : Int) ≤ left) := by
  obtain ⟨a, b, o, c, rfl, ha, h3, h4, hc⟩ := h
  unfold maxLen at h4
  have Hc := Lib.hid hc
  have Ha := Lib.hid ha
  clear hc ha
  by_cases hneg : left - l.length < 0
  · go_enter Try.func64, Try.ntmps64
    go_wp2
    go_ret
    exact ⟨-1, rfl, rfl, by omega, by omega, by omega⟩
  · go_enter Try.func64, Try.ntmps64
    go_wp2
    go_loop [1, 5] (fun t i => ∃ (k : Nat) (r : Int), k ≤ l.length ∧ i = .int .i64 k ∧ t = .int .i64 r ∧ 0 ≤ r ∧ (l.length : Int) + r ≤ left ∧ Hid (∀ i, i < k → ((gr l i).length : Int) ≤ left)) (fun _ i => l.length - (intOf i).toNat)
    case atStart => exact ⟨0, left - l.length, by omega, rfl, rfl, by omega, by omega, fun i hi => absurd hi (by omega)⟩
    case round =>
      obtain ⟨k, r, hk, rfl, rfl, hr0, hr, Hr⟩ := hrel
      by_cases hlt : k < l.length
      · obtain ⟨x, hc, hx⟩ := Hc.out k hlt
        obtain rfl := Ha.out (by omega)
        have Hx := Lib.hid hx
        clear hx
        go_wp2_with (go_at_call 103; refine (szEndS_any _ Hx.out (by omega) (by omega)).mono ?_; rintro e w' ⟨r', rfl, rfl, hr1, hr2, hr3⟩)
        · go_ret
          exact ⟨-1, rfl, rfl, by omega, by omega, by omega⟩
        · go_round
          case rel =>
            refine ⟨k + 1, r', by omega, by go_num, rfl, by omega, by omega, fun i hi => ?_⟩
            by_cases e : i = k
            · subst e; omega
            · exact Hr.out i (by omega)
          case measure => simp [intOf]; omega
      · go_wp2
        go_ret
        obtain rfl : k = l.length := by omega
        exact ⟨r, rfl, rfl, by omega, by omega, fun _ => ⟨by omega, Hr.out⟩⟩

set_option maxHeartbeats 400000 in
set_option maxRecDepth 100000 in
theorem szNetwork_any {w : World} {v : Value} {N : Net} (left : Int) (h : NetAt w v N) (h0 : -1 ≤ left) (h1 : left ≤ 1048576) :
    Calls Try.prog 19 #[v, .int .i64 left] w fun e w' => ∃ r : Int, e = .returned (.int .i64 r) ∧ Ext w w' ∧ -1 ≤ r ∧ r ≤ left ∧ (0 ≤ r → N.small) := by
  obtain ⟨v0, v1, v2, rfl, hE, hI, hP⟩ := h
  go_enter Try.func19, Try.ntmps19
  have HE := Lib.hid (fun o => hE.ext ((Ext.rfl' w).alloc' o))
  have HI := Lib.hid (fun o => hI.ext ((Ext.rfl' w).alloc' o))
  have HP := Lib.hid (fun o => hP.ext ((Ext.rfl' w).alloc' o))
  clear hE hI hP
  go_wp2_with (first | (go_at_call 64; (with_reducible refine (szEndSS_any _ (HE.out _) (by omega) (by omega)).mono ?_); rintro e w' ⟨r1, rfl, rfl, h11, h12, h13⟩; have H13 := Lib.hid h13; clear h13) | (go_at_call 65; (with_reducible refine (szIntS_any _ (HI.out _) (by omega) (by omega)).mono ?_); rintro e w' ⟨r2, rfl, rfl, h21, h22, h23⟩; have H23 := Lib.hid h23; clear h23) | (go_at_call 65; (with_reducible refine (szIntS_any _ (HP.out _) (by omega) (by omega)).mono ?_); rintro e w' ⟨r3, rfl, rfl, h31, h32, h33⟩; have H33 := Lib.hid h33; clear h33))
  all_goals go_ret
  · exact ⟨-1, rfl, (Ext.rfl' w).alloc' _, by omega, by omega, by omega⟩
  · exact ⟨-1, rfl, (Ext.rfl' w).alloc' _, by omega, by omega, by omega⟩
  · exact ⟨-1, rfl, (Ext.rfl' w).alloc' _, by omega, by omega, by omega⟩
  · refine ⟨r3, rfl, (Ext.rfl' w).alloc' _, by omega, by omega, fun _ => ?_⟩
    obtain ⟨a1, a2⟩ := H13.out (by omega)
    have a3 := H23.out (by omega)
    have a4 := H33.out (by omega)
    refine ⟨by omega, fun i => ?_, by omega, by omega⟩
    by_cases hi : i < N.ends.length
    · have := a2 i hi; omega
    · simp [gr, List.getD, List.getElem?_eq_none (show N.ends.length ≤ i by omega)]
end Go.Proofs.Ytndgbildkeglfaa
