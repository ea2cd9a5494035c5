/- Counting what stays: the places that stay, and where they go. -/
import Derived.Test.YtkeiaahlifdbiaaPoG
namespace Go.Proofs.Ytkeiaahlifdbiaa
open Go.RowKit

def cnt (st : Nat → Bool) : Nat → Nat
  | 0 => 0
  | i + 1 => cnt st i + (if st i = true then 1 else 0)
def stay (st : Nat → Bool) (len : Nat) : List Nat := (List.range len).filter st
def nth (st : Nat → Bool) (len q : Nat) : Nat := (stay st len).getD q 0
theorem cnt_succ (st : Nat → Bool) (i : Nat) : cnt st (i + 1) = cnt st i + (if st i = true then 1 else 0) := rfl
theorem cnt_le (st : Nat → Bool) : ∀ i, cnt st i ≤ i
  | 0 => Nat.le_refl _
  | i + 1 => by rw [cnt_succ]; have := cnt_le st i; by_cases h : st i = true <;> simp [h] <;> omega
theorem cnt_mono (st : Nat → Bool) {i j : Nat} (h : i ≤ j) : cnt st i ≤ cnt st j := by
  induction j with
  | zero => obtain rfl : i = 0 := by omega
            exact Nat.le_refl _
  | succ j ih =>
    by_cases e : i = j + 1
    · subst e; exact Nat.le_refl _
    · have := ih (by omega); rw [cnt_succ]; omega
theorem stay_succ (st : Nat → Bool) (len : Nat) : stay st (len + 1) = stay st len ++ (if st len = true then [len] else []) := by
  unfold stay
  rw [List.range_succ, List.filter_append]
  congr 1
  by_cases h : st len = true <;> simp [h]
theorem length_stay (st : Nat → Bool) : ∀ len, (stay st len).length = cnt st len
  | 0 => rfl
  | len + 1 => by
    rw [stay_succ, cnt_succ, List.length_append, length_stay st len]
    by_cases h : st len = true <;> simp [h]
theorem nth_low (st : Nat → Bool) {len q : Nat} (h : q < cnt st len) : nth st (len + 1) q = nth st len q := by
  unfold nth
  rw [stay_succ, List.getD_eq_getElem?_getD, List.getD_eq_getElem?_getD, List.getElem?_append_left (by rw [length_stay]; exact h)]
theorem nth_last (st : Nat → Bool) {len : Nat} (h : st len = true) : nth st (len + 1) (cnt st len) = len := by
  unfold nth
  rw [stay_succ, List.getD_eq_getElem?_getD, List.getElem?_append_right (by rw [length_stay]; exact Nat.le_refl _), length_stay, if_pos h]
  simp
theorem nth_cnt (st : Nat → Bool) : ∀ {len i : Nat}, i < len → st i = true → nth st len (cnt st i) = i
  | 0, i, h, _ => absurd h (by omega)
  | len + 1, i, h, hs => by
    by_cases e : i = len
    · subst e; exact nth_last st hs
    · have h1 : cnt st i < cnt st len := by
        have h2 := cnt_mono st (i := i + 1) (j := len) (by omega)
        rw [cnt_succ, if_pos hs] at h2
        omega
      rw [nth_low st h1]
      exact nth_cnt st (by omega) hs
theorem nth_spec (st : Nat → Bool) : ∀ {len q : Nat}, q < cnt st len → nth st len q < len ∧ st (nth st len q) = true ∧ cnt st (nth st len q) = q
  | 0, q, h => absurd h (by simp [cnt])
  | len + 1, q, h => by
    by_cases e : q < cnt st len
    · obtain ⟨h1, h2, h3⟩ := nth_spec st e
      rw [nth_low st e]
      exact ⟨by omega, h2, h3⟩
    · rw [cnt_succ] at h
      by_cases hs : st len = true
      · rw [if_pos hs] at h
        obtain rfl : q = cnt st len := by omega
        rw [nth_last st hs]
        exact ⟨by omega, hs, rfl⟩
      · rw [if_neg hs] at h; omega
theorem cnt_plan (st : Nat → Bool) (len : Nat) : Plan len (cnt st len) st (cnt st) (nth st len) :=
  ⟨cnt_le st len, fun i hi hs => ⟨by
    have h2 := cnt_mono st (i := i + 1) (j := len) (by omega)
    rw [cnt_succ, if_pos hs] at h2
    omega, nth_cnt st hi hs⟩, fun q hq => nth_spec st hq⟩

set_option maxHeartbeats 800000 in
set_option maxRecDepth 100000 in
theorem stayingG_any {w : World} {c : Value} {k : Int} {N : Net} {x y : Int} {l : List Int} {st : Nat → Bool} (v n : Nat) (h : ChgAt w c k N x y l) (hn : n ≤ 1048576)
    (hst : ∀ (w' : World) (i : Nat), Ext w w' → i < n → Calls Try.prog 165 #[c, .agg #[.int .i64 v, .int .i64 i]] w' fun e w'' => e = .returned (.bool (st i)) ∧ Ext w' w'') :
    Calls Try.prog 164 #[c, .int .i64 v, .int .i64 n] w fun e w' => e = .returned (.int .i64 (cnt st n)) ∧ Ext w w' := by
  obtain ⟨v0, v1, v2, v3, rfl, _, _⟩ := h
  have HST := Lib.hid hst
  clear hst
  have HC := Lib.hid (chg_cells w k v0 v1 v2 v3 x y)
  have HX := Lib.hid ((Ext.rfl' w).alloc' (.cells #[.int .i64 k, v0, v1, v2, .int .i64 x, .int .i64 y, v3] 119))
  go_enter Try.func164, Try.ntmps164
  go_wp2
  generalize w.alloc (.cells #[.int .i64 k, v0, v1, v2, .int .i64 x, .int .i64 y, v3] 119) = W0 at *
  go_loopg [7, 10] n (fun g t i wr => ∃ j : Nat, j ≤ n ∧ g = n - j ∧ i = .int .i64 j ∧ t = .int .i64 (cnt st j) ∧ Hid (Ext W0 wr))
  case atStart => exact ⟨0, Nat.zero_le _, rfl, rfl, rfl, Ext.rfl' _⟩
  case round =>
    obtain ⟨j, hj, rfl, rfl, rfl, Hr⟩ := hrel
    have hcj := cnt_le st j
    by_cases hlt : j < n
    · obtain ⟨c0, c1, c2, c3, c4, c5, c6⟩ := HC.out
      have c0 := Hr.out.cell' c0
      have c1 := Hr.out.cell' c1
      have c2 := Hr.out.cell' c2
      have c3 := Hr.out.cell' c3
      have c4 := Hr.out.cell' c4
      have c5 := Hr.out.cell' c5
      have c6 := Hr.out.cell' c6
      by_cases hs : st j = true
      · have HS : Hid (cnt st (j + 1) = cnt st j + 1) := by show cnt st (j + 1) = _; rw [cnt_succ, if_pos hs]
        go_wp2_with (go_at_call 165; (with_reducible refine (HST.out _ j (HX.out.trans' Hr.out) hlt).mono ?_); rintro e w1 ⟨rfl, hw⟩; rw [hs]; have K1 := Lib.hid (Hr.out.trans' hw); clear hw)
        go_roundg (n - (j + 1))
        case measure => omega
        case rel => exact ⟨j + 1, by omega, rfl, by go_num, by rw [HS.out]; go_num, K1.out⟩
      · have hs : st j = false := by simpa using hs
        have HS : Hid (cnt st (j + 1) = cnt st j) := by show cnt st (j + 1) = _; rw [cnt_succ, hs]; rfl
        go_wp2_with (go_at_call 165; (with_reducible refine (HST.out _ j (HX.out.trans' Hr.out) hlt).mono ?_); rintro e w1 ⟨rfl, hw⟩; rw [hs]; have K1 := Lib.hid (Hr.out.trans' hw); clear hw)
        go_roundg (n - (j + 1))
        case measure => omega
        case rel => exact ⟨j + 1, by omega, rfl, by go_num, by rw [HS.out], K1.out⟩
    · obtain rfl : j = n := by omega
      go_wp2
      go_ret
      exact ⟨rfl, HX.out.trans' Hr.out⟩
end Go.Proofs.Ytkeiaahlifdbiaa
