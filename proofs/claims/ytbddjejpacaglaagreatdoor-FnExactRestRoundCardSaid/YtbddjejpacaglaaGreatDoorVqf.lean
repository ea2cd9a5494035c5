/- What the model finds: without needs, counts, results of two values, cut numbers. -/
import Derived.Test.YtbddjejpacaglaaGreatDoorVqe
namespace Go.Proofs.YtbddjejpacaglaaGreatDoor
open Go.RowKit

def leV (S : Sg) (k : Nat) : Int := if k = 0 then S.own else lessTo S.near (k - 1)
def grV (S : Sg) (k : Nat) : Int := if k = 0 then S.own else mostTo S.near (k - 1)
theorem leV_yes {S : Sg} {k : Nat} (h : k = 0 ∨ gi S.near k < leV S k) : leV S (k + 1) = gi S.near k := by
  cases k with
  | zero => rfl
  | succ k => simp only [leV] at h ⊢; simp at h ⊢; simp only [lessTo]; rw [if_pos h]
theorem leV_no {S : Sg} {k : Nat} (h0 : k ≠ 0) (h : ¬ gi S.near k < leV S k) : leV S (k + 1) = leV S k := by
  cases k with
  | zero => exact absurd rfl h0
  | succ k => simp only [leV] at h ⊢; simp at h ⊢; simp only [lessTo]; rw [if_neg (by omega)]
theorem grV_yes {S : Sg} {k : Nat} (h : k = 0 ∨ grV S k < gi S.near k) : grV S (k + 1) = gi S.near k := by
  cases k with
  | zero => rfl
  | succ k => simp only [grV] at h ⊢; simp at h ⊢; simp only [mostTo]; rw [if_pos h]
theorem grV_no {S : Sg} {k : Nat} (h0 : k ≠ 0) (h : ¬ grV S k < gi S.near k) : grV S (k + 1) = grV S k := by
  cases k with
  | zero => exact absurd rfl h0
  | succ k => simp only [grV] at h ⊢; simp at h ⊢; simp only [mostTo]; rw [if_neg (by omega)]
theorem leV_end (S : Sg) : leV S S.near.length = leastV S := rfl
theorem grV_end (S : Sg) : grV S S.near.length = greatV S := rfl

theorem l1Least_any (a b : Int) (w : World) : Calls Tryz.prog 88 #[.int .i64 a, .int .i64 b] w fun e w' => e = .returned (.int .i64 (min a b)) ∧ w = w' := by
  by_cases h : a < b
  · have d : decide (a < b) = true := by simpa using h
    have E := Lib.hid (show a = min a b by omega)
    go_enter Tryz.func88, Tryz.ntmps88
    go_wp2
    go_ret
    exact ⟨ret_i64 E.out, rfl⟩
  · have d : decide (a < b) = false := by simpa using h
    have E := Lib.hid (show b = min a b by omega)
    go_enter Tryz.func88, Tryz.ntmps88
    go_wp2
    go_ret
    exact ⟨ret_i64 E.out, rfl⟩
theorem l1Most_max (a b : Int) (w : World) : Calls Tryz.prog 89 #[.int .i64 a, .int .i64 b] w fun e w' => e = .returned (.int .i64 (max a b)) ∧ w = w' :=
  (l1Most_any a b w).mono fun e w' ⟨h1, h2⟩ => ⟨by rw [h1]; exact ret_i64 (by unfold moreI; split <;> omega), h2⟩
theorem vaClip_any (x : Int) (w : World) : Calls Tryz.prog 77 #[.int .i64 x] w fun e w' => e = .returned (.int .i64 (clp x)) ∧ w = w' := by
  go_enter Tryz.func77, Tryz.ntmps77
  go_wp2_with (first | (go_at_call 88; (with_reducible refine (l1Least_any _ _ _).mono ?_); rintro e _ ⟨rfl, rfl⟩) | (go_at_call 89; (with_reducible refine (l1Most_max _ _ _).mono ?_); rintro e _ ⟨rfl, rfl⟩))
  go_ret
  exact ⟨rfl, rfl⟩

set_option maxHeartbeats 800000 in
set_option maxRecDepth 100000 in
theorem vaCount_any {w : World} {sv : Value} {S : Sg} (hs : SightAt w sv S) (ho : SgOK S) (lo hi : Int) :
    Calls Tryz.prog 75 #[sv, .int .i64 lo, .int .i64 hi] w fun e w' => e = .returned (.int .i64 (cbTo S.near lo (hi - 1) S.near.length : Int)) ∧ Ext w w' := by
  obtain ⟨a, c, rfl, hn⟩ := hs
  have HX := Lib.hid ((Ext.rfl' w).alloc' (.cells #[.int .i64 S.own, .int .i64 S.id, .int .i64 S.inp, .int .i64 S.rnd, .slice a S.near.length c] 86))
  have hln := ho.2.1
  obtain ⟨_, b, o, _, e, ha, hl, hm, hc⟩ := hn
  cases e
  unfold maxLen at hm
  have Hc := Lib.hid hc
  have Ha := Lib.hid ha
  clear hc ha ho
  obtain ⟨n, hn⟩ : ∃ n, n = S.near.length := ⟨_, rfl⟩
  have HN := Lib.hid hn
  rw [← hn] at HX hl hln ⊢
  clear hn
  go_enter Tryz.func75, Tryz.ntmps75
  go_wp2
  go_loopg [7, 13] n (fun g d i wr => ∃ k : Nat, k ≤ n ∧ g = n - k ∧ d = .int .i64 (cbTo S.near lo (hi - 1) k : Int) ∧ i = .int .i64 (k : Int) ∧ Hid (Ext w wr))
  case atStart => exact ⟨0, Nat.zero_le _, rfl, rfl, rfl, HX.out⟩
  case round =>
    obtain ⟨k, hk, rfl, rfl, rfl, HR⟩ := hrel
    have hle := cbTo_le S.near lo (hi - 1) k
    by_cases hlt : k < n
    · obtain ⟨z, hz, rfl, _⟩ := Hc.out k (by have := HN.out; omega)
      obtain rfl := Ha.out (by have := HN.out; omega)
      have hz' := HR.out.cell' hz
      clear hz
      by_cases h1 : lo ≤ gi S.near k
      · have d1 : decide (lo ≤ gi S.near k) = true := by simpa using h1
        by_cases h2 : gi S.near k < hi
        · have d2 : decide (gi S.near k < hi) = true := by simpa using h2
          have HS := Lib.hid (show cbTo S.near lo (hi - 1) (k + 1) = cbTo S.near lo (hi - 1) k + 1 from if_pos ⟨h1, by omega⟩)
          clear h1 h2
          go_wp2
          go_roundg (n - (k + 1))
          case measure => omega
          case rel => exact ⟨k + 1, by omega, rfl, by rw [HS.out]; go_num, by go_num, HR.out⟩
        · have d2 : decide (gi S.near k < hi) = false := by simpa using h2
          have HS := Lib.hid (show cbTo S.near lo (hi - 1) (k + 1) = cbTo S.near lo (hi - 1) k from if_neg (by omega))
          clear h1 h2
          go_wp2
          go_roundg (n - (k + 1))
          case measure => omega
          case rel => exact ⟨k + 1, by omega, rfl, by rw [HS.out], by go_num, HR.out⟩
      · have d1 : decide (lo ≤ gi S.near k) = false := by simpa using h1
        have HS := Lib.hid (show cbTo S.near lo (hi - 1) (k + 1) = cbTo S.near lo (hi - 1) k from if_neg (by omega))
        clear h1
        go_wp2
        go_roundg (n - (k + 1))
        case measure => omega
        case rel => exact ⟨k + 1, by omega, rfl, by rw [HS.out], by go_num, HR.out⟩
    · obtain rfl : k = n := by omega
      go_wp2
      go_ret
      exact ⟨rfl, HR.out⟩

/-- The result of an operation on two values. -/
def twoV (x a b : Int) : Int :=
  if x = 13 then a + b else if x = 14 then a - b else if x = 15 then min a b else if x = 16 then max a b else if x = 17 then tru (decide (a < b)) else tru (decide (a = b))
theorem opv_two (S : Sg) (y a b : Int) (A : List Int) (h0 : gi A 0 = a) (h1 : gi A 1 = b) (x : Int) (h : 13 ≤ x ∧ x ≤ 18) : opv S x y A = twoV x a b := by
  subst h0 h1
  have : x = 13 ∨ x = 14 ∨ x = 15 ∨ x = 16 ∨ x = 17 ∨ x = 18 := by omega
  rcases this with rfl | rfl | rfl | rfl | rfl | rfl <;> simp [opv, twoV]

set_option maxHeartbeats 800000 in
set_option maxRecDepth 100000 in
theorem vaTwo_any (x a b : Int) (hx : 13 ≤ x ∧ x ≤ 18) (ha : -1000000 ≤ a ∧ a ≤ 1000000) (hb : -1000000 ≤ b ∧ b ≤ 1000000) (w : World) :
    Calls Tryz.prog 76 #[.int .i64 x, .int .i64 a, .int .i64 b] w fun e w' => e = .returned (.int .i64 (twoV x a b)) ∧ w = w' := by
  have : x = 13 ∨ x = 14 ∨ x = 15 ∨ x = 16 ∨ x = 17 ∨ x = 18 := by omega
  clear hx
  rcases this with rfl | rfl | rfl | rfl | rfl | rfl
  · go_enter Tryz.func76, Tryz.ntmps76
    go_wp2_with fail
    go_ret
    exact ⟨rfl, rfl⟩
  · go_enter Tryz.func76, Tryz.ntmps76
    go_wp2_with fail
    go_ret
    exact ⟨rfl, rfl⟩
  · go_enter Tryz.func76, Tryz.ntmps76
    go_wp2_with (go_at_call 88; (with_reducible refine (l1Least_any _ _ _).mono ?_); rintro e _ ⟨rfl, rfl⟩)
    go_ret
    exact ⟨rfl, rfl⟩
  · go_enter Tryz.func76, Tryz.ntmps76
    go_wp2_with (go_at_call 89; (with_reducible refine (l1Most_max _ _ _).mono ?_); rintro e _ ⟨rfl, rfl⟩)
    go_ret
    exact ⟨rfl, rfl⟩
  · go_enter Tryz.func76, Tryz.ntmps76
    go_wp2_with (go_at_call 90; (with_reducible refine (vaIs_any _ _).mono ?_); rintro e _ ⟨rfl, rfl⟩)
    go_ret
    exact ⟨rfl, rfl⟩
  · go_enter Tryz.func76, Tryz.ntmps76
    go_wp2_with (go_at_call 90; (with_reducible refine (vaIs_any _ _).mono ?_); rintro e _ ⟨rfl, rfl⟩)
    go_ret
    exact ⟨rfl, rfl⟩
end Go.Proofs.YtbddjejpacaglaaGreatDoor
