/- Increasing lists, lengths, the greatest common divisor: the model and the program answer the same. -/
import Derived.Test.YtcjiejbndmnjaaaI1
import Derived.Test.YtcjiejbndmnjaaaNumB
import Derived.RegionTactic
namespace Go.Proofs.Ytcjiejbndmnjaaa
open Go.RowKit

def IncAt (l : List Int) (lo hi : Int) (j : Nat) : Prop := InB (gi l j) lo hi ∧ (0 < j → gi l (j - 1) < gi l j)
/-- A strictly increasing list of numbers from lo to hi. -/
def Inc (l : List Int) (lo hi : Int) : Prop := ∀ j, j < l.length → IncAt l lo hi j

set_option maxHeartbeats 800000 in
set_option maxRecDepth 100000 in
theorem l1Rising_any {w : World} {v : Value} {l : List Int} (lo hi : Int) (h : IntSl w v l) : Calls Try.prog 62 #[v, .int .i64 lo, .int .i64 hi] w fun e w' => e = .returned (.bool (dec (Inc l lo hi))) ∧ w = w' := by
  obtain ⟨a, b, o, c, rfl, ha, hl, hm, hc⟩ := h
  unfold maxLen at hm
  have Hc := Lib.hid hc
  have Ha := Lib.hid ha
  clear hc ha
  go_enter Try.func62, Try.ntmps62
  go_wp2
  go_loop [11] (fun i => ∃ k : Nat, k ≤ l.length ∧ i = .int .i64 k ∧ Hid (∀ j, j < k → IncAt l lo hi j)) (fun i => l.length - (intOf i).toNat)
  case atStart => exact ⟨0, Nat.zero_le _, rfl, fun j hj => absurd hj (by omega)⟩
  case round =>
    obtain ⟨k, hk, rfl, Hr⟩ := hrel
    by_cases hlt : k < l.length
    · obtain ⟨y, hc, rfl, _⟩ := Hc.out k hlt
      obtain rfl := Ha.out (by omega)
      by_cases he : InB (gi l k) lo hi
      · have Heb := Lib.hid (dec_true he)
        have He := Lib.hid he
        clear he
        cases k with
        | zero =>
          rw [Nat.add_zero] at hc
          go_wp2_with (go_at_call 50; (with_reducible refine (l1In_any _ _ _ _).mono ?_); rintro e w' ⟨rfl, rfl⟩; rw [Heb.out])
          go_round
          case rel => exact ⟨1, by omega, by go_num, fun j hj => by
            obtain rfl : j = 0 := by omega
            exact ⟨He.out, fun h => absurd h (by omega)⟩⟩
          case measure => simp [intOf] <;> omega
        | succ k =>
          obtain ⟨z, hc2, rfl, _⟩ := Hc.out k (by omega)
          by_cases hs : gi l k < gi l (k + 1)
          · have hsb : decide (gi l (k + 1) ≤ gi l k) = false := by simpa using hs
            have Hs := Lib.hid hs
            clear hs
            go_wp2_with (go_at_call 50; (with_reducible refine (l1In_any _ _ _ _).mono ?_); rintro e w' ⟨rfl, rfl⟩; rw [Heb.out])
            go_round
            case rel =>
              refine ⟨k + 1 + 1, by omega, by go_num, fun j hj => ?_⟩
              by_cases e : j = k + 1
              · subst e; exact ⟨He.out, fun _ => Hs.out⟩
              · exact Hr.out j (by omega)
            case measure => simp [intOf] <;> omega
          · have hsb : decide (gi l (k + 1) ≤ gi l k) = true := by simpa using hs
            have Hs := Lib.hid hs
            clear hs
            go_wp2_with (go_at_call 50; (with_reducible refine (l1In_any _ _ _ _).mono ?_); rintro e w' ⟨rfl, rfl⟩; rw [Heb.out])
            go_ret
            exact ⟨ret_f (fun h => by have h2 := (h _ hlt).2 (by omega); rw [Nat.add_sub_cancel] at h2; have := Hs.out; omega), rfl⟩
      · have Heb := Lib.hid (dec_false he)
        have He := Lib.hid he
        clear he
        go_wp2_with (go_at_call 50; (with_reducible refine (l1In_any _ _ _ _).mono ?_); rintro e w' ⟨rfl, rfl⟩; rw [Heb.out])
        go_ret
        exact ⟨ret_f (fun h => He.out (h k hlt).1), rfl⟩
    · go_wp2
      go_ret
      obtain rfl : k = l.length := by omega
      exact ⟨ret_t Hr.out, rfl⟩

set_option maxHeartbeats 800000 in
set_option maxRecDepth 100000 in
theorem isIncreasing_any {w : World} {v : Value} {l : List Int} (lo hi : Int) (h : IntSl w v l) : Calls Try.prog 63 #[v, .int .i64 lo, .int .i64 hi] w fun e w' => e = .returned (.bool (dec (Inc l lo hi))) ∧ w = w' := by
  obtain ⟨a, b, o, c, rfl, ha, hl, hm, hc⟩ := h
  unfold maxLen at hm
  have Hc := Lib.hid hc
  have Ha := Lib.hid ha
  clear hc ha
  go_enter Try.func63, Try.ntmps63
  go_wp2
  go_loop [11] (fun i => ∃ k : Nat, k ≤ l.length ∧ i = .int .i64 k ∧ Hid (∀ j, j < k → IncAt l lo hi j)) (fun i => l.length - (intOf i).toNat)
  case atStart => exact ⟨0, Nat.zero_le _, rfl, fun j hj => absurd hj (by omega)⟩
  case round =>
    obtain ⟨k, hk, rfl, Hr⟩ := hrel
    by_cases hlt : k < l.length
    · obtain ⟨y, hc, rfl, _⟩ := Hc.out k hlt
      obtain rfl := Ha.out (by omega)
      by_cases he : InB (gi l k) lo hi
      · have Heb := Lib.hid (dec_true he)
        have He := Lib.hid he
        clear he
        cases k with
        | zero =>
          rw [Nat.add_zero] at hc
          go_wp2_with (go_at_call 52; (with_reducible refine (isBetween_any _ _ _ _).mono ?_); rintro e w' ⟨rfl, rfl⟩; rw [Heb.out])
          go_round
          case rel => exact ⟨1, by omega, by go_num, fun j hj => by
            obtain rfl : j = 0 := by omega
            exact ⟨He.out, fun h => absurd h (by omega)⟩⟩
          case measure => simp [intOf] <;> omega
        | succ k =>
          obtain ⟨z, hc2, rfl, _⟩ := Hc.out k (by omega)
          by_cases hs : gi l k < gi l (k + 1)
          · have hsb : decide (gi l (k + 1) ≤ gi l k) = false := by simpa using hs
            have Hs := Lib.hid hs
            clear hs
            go_wp2_with (go_at_call 52; (with_reducible refine (isBetween_any _ _ _ _).mono ?_); rintro e w' ⟨rfl, rfl⟩; rw [Heb.out])
            go_round
            case rel =>
              refine ⟨k + 1 + 1, by omega, by go_num, fun j hj => ?_⟩
              by_cases e : j = k + 1
              · subst e; exact ⟨He.out, fun _ => Hs.out⟩
              · exact Hr.out j (by omega)
            case measure => simp [intOf] <;> omega
          · have hsb : decide (gi l (k + 1) ≤ gi l k) = true := by simpa using hs
            have Hs := Lib.hid hs
            clear hs
            go_wp2_with (go_at_call 52; (with_reducible refine (isBetween_any _ _ _ _).mono ?_); rintro e w' ⟨rfl, rfl⟩; rw [Heb.out])
            go_ret
            exact ⟨ret_f (fun h => by have h2 := (h _ hlt).2 (by omega); rw [Nat.add_sub_cancel] at h2; have := Hs.out; omega), rfl⟩
      · have Heb := Lib.hid (dec_false he)
        have He := Lib.hid he
        clear he
        go_wp2_with (go_at_call 52; (with_reducible refine (isBetween_any _ _ _ _).mono ?_); rintro e w' ⟨rfl, rfl⟩; rw [Heb.out])
        go_ret
        exact ⟨ret_f (fun h => He.out (h k hlt).1), rfl⟩
    · go_wp2
      go_ret
      obtain rfl : k = l.length := by omega
      exact ⟨ret_t Hr.out, rfl⟩

/-- Lengths. -/
def LenOK (l : List Int) : Prop := 0 < l.length ∧ Inc l 1 40

set_option maxRecDepth 100000 in
theorem nuLengths_any {w : World} {v : Value} {l : List Int} (h : IntSl w v l) : Calls Try.prog 64 #[v] w fun e w' => e = .returned (.bool (dec (LenOK l))) ∧ w = w' := by
  have HN := Lib.hid h
  obtain ⟨a, b, o, c, rfl, ha, hl, hm, hc⟩ := h
  unfold maxLen at hm
  clear hc ha
  by_cases h0 : 0 < l.length
  · by_cases hi : Inc l 1 40
    · have Heb := Lib.hid (dec_true hi)
      have D := Lib.hid (dec_true (p := LenOK l) ⟨h0, hi⟩)
      clear hi
      go_enter Try.func64, Try.ntmps64
      go_wp2_with (go_at_call 62; (with_reducible refine (l1Rising_any _ _ HN.out).mono ?_); rintro e w' ⟨rfl, rfl⟩; rw [Heb.out])
      go_ret
      exact ⟨ret_bool D.out.symm, rfl⟩
    · have Heb := Lib.hid (dec_false hi)
      have D := Lib.hid (dec_false (p := LenOK l) fun h => hi h.2)
      clear hi
      go_enter Try.func64, Try.ntmps64
      go_wp2_with (go_at_call 62; (with_reducible refine (l1Rising_any _ _ HN.out).mono ?_); rintro e w' ⟨rfl, rfl⟩; rw [Heb.out])
      go_ret
      exact ⟨ret_bool D.out.symm, rfl⟩
  · have D := Lib.hid (dec_false (p := LenOK l) fun h => h0 h.1)
    go_enter Try.func64, Try.ntmps64
    go_wp2
    go_ret
    exact ⟨ret_bool D.out.symm, rfl⟩

set_option maxRecDepth 100000 in
theorem areLengths_any {w : World} {v : Value} {l : List Int} (h : IntSl w v l) : Calls Try.prog 66 #[v] w fun e w' => e = .returned (.bool (dec (LenOK l))) ∧ w = w' := by
  have HN := Lib.hid h
  obtain ⟨a, b, o, c, rfl, ha, hl, hm, hc⟩ := h
  unfold maxLen at hm
  clear hc ha
  by_cases h0 : 0 < l.length
  · by_cases hi : Inc l 1 40
    · have Heb := Lib.hid (dec_true hi)
      have D := Lib.hid (dec_true (p := LenOK l) ⟨h0, hi⟩)
      clear hi
      go_enter Try.func66, Try.ntmps66
      go_wp2_with (go_at_call 63; (with_reducible refine (isIncreasing_any _ _ HN.out).mono ?_); rintro e w' ⟨rfl, rfl⟩; rw [Heb.out])
      go_ret
      exact ⟨ret_bool D.out.symm, rfl⟩
    · have Heb := Lib.hid (dec_false hi)
      have D := Lib.hid (dec_false (p := LenOK l) fun h => hi h.2)
      clear hi
      go_enter Try.func66, Try.ntmps66
      go_wp2_with (go_at_call 63; (with_reducible refine (isIncreasing_any _ _ HN.out).mono ?_); rintro e w' ⟨rfl, rfl⟩; rw [Heb.out])
      go_ret
      exact ⟨ret_bool D.out.symm, rfl⟩
  · have D := Lib.hid (dec_false (p := LenOK l) fun h => h0 h.1)
    go_enter Try.func66, Try.ntmps66
    go_wp2
    go_ret
    exact ⟨ret_bool D.out.symm, rfl⟩

/-- The list as natural numbers. -/
def ln (l : List Int) : List Nat := l.map Int.toNat
theorem ln_length (l : List Int) : (ln l).length = l.length := by simp [ln]
theorem ln_get {l : List Int} {k : Nat} (h : k < l.length) : (ln l)[k]'(by rw [ln_length]; exact h) = (gi l k).toNat := by simp [ln, gi, h]
theorem len_get {l : List Int} (h : LenOK l) {k : Nat} (hk : k < l.length) : ∃ x : Nat, gi l k = x ∧ 0 < x ∧ x ≤ 40 := by
  obtain ⟨h1, h2⟩ := (h.2 k hk).1
  exact ⟨(gi l k).toNat, by omega, by omega, by omega⟩
theorem gcds_take {l : List Int} {k x : Nat} (h : k < l.length) (hx : gi l k = x) : gcds ((ln l).take (k + 1)) = Nat.gcd (gcds ((ln l).take k)) x := by
  rw [List.take_succ_eq_append_getElem (by rw [ln_length]; exact h), ln_get h, hx]
  simp [gcds, List.foldl_append]
theorem gcds_small {l : List Int} (h : LenOK l) : ∀ k, k ≤ l.length → gcds ((ln l).take k) ≤ 40
  | 0, _ => by simp [gcds]
  | k + 1, hk => by
    obtain ⟨x, hx, h0, h1⟩ := len_get h (k := k) (by omega)
    rw [gcds_take (by omega) hx]
    have := Nat.gcd_le_right (gcds ((ln l).take k)) h0
    omega
theorem ln_all {l : List Int} (h : LenOK l) : ln l ≠ [] ∧ ∀ c ∈ ln l, 0 < c ∧ c ≤ 40 := by
  refine ⟨fun e => by
    have e2 : (ln l).length = 0 := by rw [e]; rfl
    rw [ln_length] at e2
    have := h.1
    omega, fun c hc => ?_⟩
  obtain ⟨k, hk, rfl⟩ := List.getElem_of_mem hc
  rw [ln_length] at hk
  rw [ln_get hk]
  obtain ⟨x, hx, h0, h1⟩ := len_get h hk
  rw [hx]
  omega

set_option maxHeartbeats 800000 in
set_option maxRecDepth 100000 in
theorem nuGcd_any (a b : Nat) (ha : a ≤ 1000) (hb : b ≤ 1000) (w : World) : Calls Try.prog 73 #[.int .i64 a, .int .i64 b] w fun e w' => e = .returned (.int .i64 (Nat.gcd a b : Nat)) ∧ Ext w w' := by
  go_enter Try.func73, Try.ntmps73
  go_wp2
  go_loopg [0, 1] b (fun g x y wr => ∃ p q : Nat, p ≤ 1000 ∧ q ≤ 1000 ∧ g = q ∧ x = .int .i64 p ∧ y = .int .i64 q ∧ Hid (Ext w wr ∧ Nat.gcd p q = Nat.gcd a b))
  case atStart => exact ⟨a, b, ha, hb, rfl, rfl, rfl, Ext.rfl' w, rfl⟩
  case round =>
    obtain ⟨p, q, hp, hq, hg, rfl, rfl, Hr⟩ := hrel
    have HG := Lib.hid hg
    clear hg
    by_cases h0 : 0 < q
    · have hq0 : ((q : Int) != 0) = true := by simp; omega
      have hlt := Nat.mod_lt p h0
      have Hn := Lib.hid (show Nat.gcd q (p % q) = Nat.gcd a b from by rw [← Hr.out.2, Nat.gcd_comm q, ← Nat.gcd_rec, Nat.gcd_comm])
      go_wp2
      go_region
      go_wp2
      go_roundg (p % q)
      case measure => have := HG.out; omega
      case rel => exact ⟨q, p % q, by omega, by omega, rfl, rfl, by go_num, Hr.out.1.drew', Hn.out⟩
    · obtain rfl : q = 0 := by omega
      go_wp2
      go_ret
      have := Hr.out.2
      rw [Nat.gcd_zero_right] at this
      exact ⟨ret_i (by rw [this]), Hr.out.1⟩
end Go.Proofs.Ytcjiejbndmnjaaa
