/- heldNetwork finds the marks that markNetwork leaves. -/
import Derived.Test.YtndgbildkeglfaaHold
namespace Go.Proofs.Ytndgbildkeglfaa
open Go.RowKit

set_option maxHeartbeats 800000 in
set_option maxRecDepth 100000 in
theorem heldEndS_any {w : World} {v : Value} (k : Int) (n : Nat) (h : EndSl w v (emarks k n)) (hs : n ≤ 1048576) (h0 : 0 ≤ k) (h1 : k ≤ 1125899906842624) :
    Calls Try.prog 112 #[v, .int .i64 k] w fun e w' => e = .returned (.int .i64 (k + 2 * n)) ∧ w = w' := by
  obtain ⟨a, b, o, c, rfl, ha, hl, hm, hc⟩ := h
  unfold maxLen at hm
  rw [length_emarks] at ha hl hc ⊢
  have Hc := Lib.hid hc
  have Ha := Lib.hid ha
  clear hc ha
  go_enter Try.func112, Try.ntmps112
  go_wp2
  go_loop [1, 5] (fun t i => ∃ j : Nat, j ≤ n ∧ i = .int .i64 j ∧ t = .int .i64 (k + 2 * j)) (fun _ i => n - (intOf i).toNat)
  case atStart => exact ⟨0, Nat.zero_le _, rfl, by simp⟩
  case round =>
    obtain ⟨j, hj, rfl, rfl⟩ := hrel
    by_cases hlt : j < n
    · obtain ⟨q1, q2, _⟩ := Hc.out j hlt
      rw [gn_emarks _ _ _ hlt] at q1
      rw [gp_emarks _ _ _ hlt] at q2
      obtain rfl := Ha.out (by omega)
      go_wp2
      go_round
      case rel => exact ⟨j + 1, by omega, by go_num, by simp; omega⟩
      case measure => simp [intOf]; omega
    · obtain rfl : j = n := by omega
      go_wp2
      go_ret
      exact ⟨rfl, rfl⟩

set_option maxHeartbeats 800000 in
set_option maxRecDepth 100000 in
theorem heldEndSS_any {w : World} {v : Value} {l : List (List (Int × Int))} (h : EndSS w v (smarks 1 l)) (hs : l.length ≤ 1048576) (hs2 : ∀ i, (gr l i).length ≤ 1048576) :
    Calls Try.prog 87 #[v, .int .i64 1] w fun e w' => e = .returned (.int .i64 (kAt 1 l l.length)) ∧ w = w' := by
  obtain ⟨a, b, o, c, rfl, ha, hl, hm, hc⟩ := h
  unfold maxLen at hm
  rw [length_smarks] at ha hl hc ⊢
  have Hc := Lib.hid hc
  have Ha := Lib.hid ha
  have HS := Lib.hid hs2
  have HK := Lib.hid (kAt_le 1 l hs2)
  clear hc ha hs2
  go_enter Try.func87, Try.ntmps87
  go_wp2
  go_loop [1, 5] (fun t i => ∃ j : Nat, j ≤ l.length ∧ i = .int .i64 j ∧ t = .int .i64 (kAt 1 l j)) (fun _ i => l.length - (intOf i).toNat)
  case atStart => exact ⟨0, Nat.zero_le _, rfl, rfl⟩
  case round =>
    obtain ⟨j, hj, rfl, rfl⟩ := hrel
    by_cases hlt : j < l.length
    · obtain ⟨x, hx, hrow⟩ := Hc.out j hlt
      rw [gr_smarks _ _ _ hlt] at hrow
      have HR := Lib.hid hrow
      obtain rfl := Ha.out (by omega)
      obtain ⟨hk1, hk2⟩ := HK.out j
      have hlen := HS.out j
      clear hrow
      go_wp2_with (go_at_call 112; (with_reducible refine (heldEndS_any _ _ HR.out (HS.out _) (by omega) (by omega)).mono ?_); rintro e w1 ⟨rfl, rfl⟩)
      go_round
      case rel => exact ⟨j + 1, by omega, by go_num, rfl⟩
      case measure => simp [intOf]; omega
    · obtain rfl : j = l.length := by omega
      go_wp2
      go_ret
      exact ⟨rfl, rfl⟩

set_option maxHeartbeats 1600000 in
set_option maxRecDepth 100000 in
theorem heldNetwork_any {w : World} {v : Value} {N : Net} (h : NetAt w v (netMarks N)) (hs : N.small) :
    Calls Try.prog 46 #[v, .int .i64 1] w fun e w' => e = .returned (.int .i64 (netLast N)) ∧ Ext w w' := by
  obtain ⟨v0, v1, v2, rfl, hE, hI, hP⟩ := h
  obtain ⟨s1, s2, s3, s4⟩ := hs
  have hX := (Ext.rfl' w).alloc' (.cells #[v0, v1, v2] 30)
  have A := Lib.hid (hE.ext hX)
  have B := Lib.hid (hI.ext hX)
  have C := Lib.hid (hP.ext hX)
  have HX := Lib.hid hX
  have S := Lib.hid s2
  obtain ⟨hk1, hk2⟩ := kAt_le 1 N.ends s2 N.ends.length
  clear hE hI hP hX s2
  go_enter Try.func46, Try.ntmps46
  go_wp2_with (first | (go_at_call 87; (with_reducible refine (heldEndSS_any A.out s1 S.out).mono ?_); rintro e w1 ⟨rfl, rfl⟩) | (go_at_call 33; (with_reducible refine (heldIntS_any _ _ B.out s3 (by omega) (by omega)).mono ?_); rintro e w1 ⟨rfl, rfl⟩) | (go_at_call 33; (with_reducible refine (heldIntS_any _ _ C.out s4 (by omega) (by omega)).mono ?_); rintro e w1 ⟨rfl, rfl⟩))
  go_ret
  exact ⟨rfl, HX.out⟩
end Go.Proofs.Ytndgbildkeglfaa
