/- SubsetRank: the model and the program answer the same. -/
import Derived.Test.YtcjiejbndmnjaaaI6
import Derived.Test.YtcjiejbndmnjaaaI5
namespace Go.Proofs.Ytcjiejbndmnjaaa
open Go.RowKit

theorem rest_eq {l : List Int} {n m i x : Nat} (hi : i < l.length) (hx : gi l i = x) (h : x + (m + 1) = n) : rest l n (m + 1) i = rest l n m (i + 1) := by
  rw [rest, if_neg (by omega), if_pos (by show gi l i = _; rw [hx]; omega)]
theorem rest_ne {l : List Int} {n m i x y : Nat} (hi : i < l.length) (hx : gi l i = x) (hxy : y ≠ x) (h : y + (m + 1) = n) : rest l n (m + 1) i = ch m (l.length - 1 - i) + rest l n m i := by
  rw [rest, if_neg (by omega), if_neg (by show ¬gi l i = _; rw [hx]; omega)]
theorem inc_ge {l : List Int} {hi : Int} (h : Inc l 0 hi) : ∀ i, i < l.length → (i : Int) ≤ gi l i
  | 0, h0 => (h 0 h0).1.1
  | i + 1, h0 => by
    have h1 := inc_ge h i (by omega)
    have h2 := (h (i + 1) h0).2 (by omega)
    rw [Nat.add_sub_cancel] at h2
    omega
theorem inc_get {l : List Int} {n : Nat} (h : Inc l 0 ((n : Int) - 1)) {i : Nat} (hi : i < l.length) : ∃ x : Nat, gi l i = x ∧ x < n := by
  obtain ⟨h1, h2⟩ := (h i hi).1
  exact ⟨(gi l i).toNat, by omega, by omega⟩
theorem inc_short {l : List Int} {n : Nat} (h : Inc l 0 ((n : Int) - 1)) : l.length ≤ n := by
  rcases Nat.eq_zero_or_pos l.length with h0 | h0
  · omega
  · have h1 := inc_ge h (l.length - 1) (by omega)
    have h2 := (h (l.length - 1) (by omega)).1.2
    omega
/-- The next number may follow. -/
def From (l : List Int) (x i : Nat) : Prop := i < l.length → (x : Int) ≤ gi l i
theorem from_next {l : List Int} {n i x : Nat} (h : Inc l 0 ((n : Int) - 1)) (hx : gi l i = x) : From l (x + 1) (i + 1) := fun hi => by
  have := (h (i + 1) hi).2 (by omega)
  rw [Nat.add_sub_cancel] at this
  omega
def SrOK (n : Int) (l : List Int) : Prop := InB n 0 60 ∧ Inc l 0 (n - 1)
noncomputable def srAns (n : Int) (l : List Int) : Int := ifP (SrOK n l) (rest l n.toNat n.toNat 0)
theorem rest_bound {l : List Int} {n : Nat} (hn : n ≤ 60) : rest l n n 0 * 60 < 9223372036854775808 := by
  have h1 := rest_le l n n 0
  have h2 := ch_bound (n := n) (k := l.length - 0) hn
  have := Nat.mul_le_mul_right 60 h1
  omega

set_option maxHeartbeats 1600000 in
set_option maxRecDepth 100000 in
theorem specSubsetRank_any {w : World} {v : Value} {l : List Int} (n : Int) (h : IntSl w v l) (_ : l.length ≤ 1048576) : Calls Try.prog 36 #[.int .i64 n, v] w fun e w' => e = .returned (.tuple #[.int .i64 (srAns n l), .bool (dec (SrOK n l))]) ∧ Ext w w' := by
  have HN := Lib.hid h
  obtain ⟨a, b, o, c, rfl, ha, hl, hm, hc⟩ := h
  unfold maxLen at hm
  have Hc := Lib.hid hc
  have Ha := Lib.hid ha
  clear hc ha
  by_cases h0 : InB n 0 60
  case neg =>
    have D := Lib.hid (dec_false h0)
    have F := Lib.hid (dec_false (p := SrOK n l) fun k => h0 k.1)
    have A := Lib.hid (show srAns n l = 0 from ifP_f fun k => h0 k.1)
    clear h0
    go_enter Try.func36, Try.ntmps36
    go_wp2_with (first | (go_at_call 50; (with_reducible refine (l1In_any _ _ _ _).mono ?_); rintro e w' ⟨rfl, rfl⟩; rw [D.out]))
    go_ret2
    exact ⟨ret_ia A.out.symm F.out.symm, Ext.rfl' w⟩
  case pos =>
    have D := Lib.hid (dec_true h0)
    obtain ⟨n, rfl, hn⟩ : ∃ k : Nat, n = k ∧ k ≤ 60 := ⟨n.toNat, by have := h0.1; omega, by have := h0.2; omega⟩
    by_cases h1 : Inc l 0 ((n : Int) - 1)
    · have E := Lib.hid (dec_true h1)
      have F := Lib.hid (dec_true (p := SrOK n l) ⟨h0, h1⟩)
      have A := Lib.hid (show srAns n l = rest l n n 0 from ifP_t (P := SrOK n l) ⟨h0, h1⟩)
      have HI := Lib.hid h1
      have hln := inc_short h1
      have HB := Lib.hid (rest_bound (l := l) hn)
      clear h0 h1
      go_enter Try.func36, Try.ntmps36
      go_wp2_with (first | (go_at_call 50; (with_reducible refine (l1In_any _ _ _ _).mono ?_); rintro e w' ⟨rfl, rfl⟩; rw [D.out]) | (go_at_call 62; (with_reducible refine (l1Rising_any _ _ HN.out).mono ?_); rintro e w' ⟨rfl, rfl⟩; rw [E.out]))
      go_loopg [6, 7, 23] l.length (fun g rk fr ii wr => ∃ x m i q : Nat, x ≤ 60 ∧ i ≤ l.length ∧ q ≤ 200000000000000000 ∧ g = l.length - i ∧ rk = .int .i64 q ∧ fr = .int .i64 x ∧ ii = .int .i64 i ∧ Hid (Ext w wr ∧ x + m = n ∧ From l x i ∧ q + rest l n m i = rest l n n 0))
      case atStart => exact ⟨0, n, 0, 0, by omega, by omega, by omega, rfl, rfl, rfl, rfl, Ext.rfl' w, by omega, fun hi => (HI.out 0 hi).1.1, by omega⟩
      case round =>
        obtain ⟨x, m, i, q, hx, hi, hq, rfl, rfl, rfl, rfl, Hr⟩ := hrel
        by_cases hlt : i < l.length
        · obtain ⟨y, hc, rfl, _⟩ := Hc.out i hlt
          obtain rfl := Ha.out (by omega)
          obtain ⟨z, hz, hzn⟩ := inc_get HI.out hlt
          have HZ := Lib.hid hz
          rw [hz] at hc
          have hc' := Hr.out.1.cell' hc
          have hj60 : l.length - 1 - i ≤ 60 := by omega
          obtain ⟨wo, rfl⟩ : ∃ wo : World, wo = wr := ⟨_, rfl⟩
          have HO := Lib.hid Hr.out
          clear hz hc Hr
          go_wp2
          clear hc'
          go_loopg [6, 10] m (fun g rk yy wr => ∃ y m q : Nat, y ≤ z ∧ q ≤ 200000000000000000 ∧ g = m ∧ rk = .int .i64 q ∧ yy = .int .i64 y ∧ Hid (Ext w wr ∧ y + m = n ∧ q + rest l n m i = rest l n n 0))
          case atStart => exact ⟨x, m, q, by have := HO.out.2.2.1 hlt; have := HZ.out; omega, hq, rfl, rfl, rfl, HO.out.1, HO.out.2.1, HO.out.2.2.2⟩
          case round =>
            obtain ⟨y, m, q, hyz, hq, hg, rfl, rfl, Hr⟩ := hrel
            have HG := Lib.hid hg
            have hm : 0 < m := by have := Hr.out.2.1; omega
            obtain ⟨m, rfl⟩ : ∃ m', m = m' + 1 := ⟨m - 1, by omega⟩
            clear hg hm
            by_cases he : y < z
            · have hm60 : m ≤ 60 := by have := Hr.out.2.1; omega
              have hrest := rest_ne hlt HZ.out (show y ≠ z by omega) Hr.out.2.1
              have htot := Hr.out.2.2
              have hbd := HB.out
              have hq2 : q + ch m (l.length - 1 - i) ≤ 200000000000000000 := by omega
              have HS := Lib.hid (And.intro (show y + 1 + m = n by have := Hr.out.2.1; omega) (show q + ch m (l.length - 1 - i) + rest l n m i = rest l n n 0 by omega))
              have en : (n : Int) - (y : Int) - 1 = (m : Int) := by have := Hr.out.2.1; omega
              have ek : (l.length : Int) - (i : Int) - 1 = ((l.length - 1 - i : Nat) : Int) := by omega
              clear hrest htot hbd
              go_wp2_with (go_at_call 58; (with_reducible refine (nuChoose_any _ _ hm60 (by omega) _).mono ?_); rintro e w1 ⟨rfl, hw⟩; rw [Int.toNat_natCast]; have K1 := Lib.hid (Hr.out.1.trans' hw); clear hw en ek)
              go_roundg m
              case measure => have := HG.out; omega
              case rel => exact ⟨y + 1, m, q + ch m (l.length - 1 - i), by omega, hq2, rfl, by go_num, by go_num, K1.out, HS.out⟩
            · obtain rfl : y = z := by omega
              have HS := Lib.hid (And.intro (show y + 1 + m = n by have := Hr.out.2.1; omega) (And.intro (from_next HI.out HZ.out) (show q + rest l n m (i + 1) = rest l n n 0 by rw [← rest_eq hlt HZ.out (by have := Hr.out.2.1; omega)]; exact Hr.out.2.2)))
              go_wp2
              go_roundg (l.length - (i + 1))
              case measure => omega
              case rel => exact ⟨y + 1, m, i + 1, q, by omega, by omega, hq, rfl, rfl, by go_num, by go_num, Hr.out.1, HS.out⟩
        · obtain rfl : i = l.length := by omega
          have hd := rest_done (l := l) (n := n) (m := m) (Nat.le_refl l.length)
          have HD := Lib.hid (show q = rest l n n 0 by have := Hr.out.2.2.2; omega)
          clear hd
          go_wp2
          go_ret2
          exact ⟨ret_ia (by rw [A.out, ← HD.out]) F.out.symm, Hr.out.1⟩
    · have E := Lib.hid (dec_false h1)
      have F := Lib.hid (dec_false (p := SrOK n l) fun k => h1 k.2)
      have A := Lib.hid (show srAns n l = 0 from ifP_f fun k => h1 k.2)
      clear h0 h1
      go_enter Try.func36, Try.ntmps36
      go_wp2_with (first | (go_at_call 50; (with_reducible refine (l1In_any _ _ _ _).mono ?_); rintro e w' ⟨rfl, rfl⟩; rw [D.out]) | (go_at_call 62; (with_reducible refine (l1Rising_any _ _ HN.out).mono ?_); rintro e w' ⟨rfl, rfl⟩; rw [E.out]))
      go_ret2
      exact ⟨ret_ia A.out.symm F.out.symm, Ext.rfl' w⟩

set_option maxHeartbeats 1600000 in
set_option maxRecDepth 100000 in
theorem subsetRank_any {w : World} {v : Value} {l : List Int} (n : Int) (h : IntSl w v l) (_ : l.length ≤ 1048576) : Calls Try.prog 37 #[.int .i64 n, v] w fun e w' => e = .returned (.tuple #[.int .i64 (srAns n l), .bool (dec (SrOK n l))]) ∧ Ext w w' := by
  have HN := Lib.hid h
  obtain ⟨a, b, o, c, rfl, ha, hl, hm, hc⟩ := h
  unfold maxLen at hm
  have Hc := Lib.hid hc
  have Ha := Lib.hid ha
  clear hc ha
  by_cases h0 : InB n 0 60
  case neg =>
    have D := Lib.hid (dec_false h0)
    have F := Lib.hid (dec_false (p := SrOK n l) fun k => h0 k.1)
    have A := Lib.hid (show srAns n l = 0 from ifP_f fun k => h0 k.1)
    clear h0
    go_enter Try.func37, Try.ntmps37
    go_wp2_with (first | (go_at_call 52; (with_reducible refine (isBetween_any _ _ _ _).mono ?_); rintro e w' ⟨rfl, rfl⟩; rw [D.out]))
    go_ret2
    exact ⟨ret_ia A.out.symm F.out.symm, Ext.rfl' w⟩
  case pos =>
    have D := Lib.hid (dec_true h0)
    obtain ⟨n, rfl, hn⟩ : ∃ k : Nat, n = k ∧ k ≤ 60 := ⟨n.toNat, by have := h0.1; omega, by have := h0.2; omega⟩
    by_cases h1 : Inc l 0 ((n : Int) - 1)
    · have E := Lib.hid (dec_true h1)
      have F := Lib.hid (dec_true (p := SrOK n l) ⟨h0, h1⟩)
      have A := Lib.hid (show srAns n l = rest l n n 0 from ifP_t (P := SrOK n l) ⟨h0, h1⟩)
      have HI := Lib.hid h1
      have hln := inc_short h1
      have HB := Lib.hid (rest_bound (l := l) hn)
      clear h0 h1
      go_enter Try.func37, Try.ntmps37
      go_wp2_with (first | (go_at_call 52; (with_reducible refine (isBetween_any _ _ _ _).mono ?_); rintro e w' ⟨rfl, rfl⟩; rw [D.out]) | (go_at_call 63; (with_reducible refine (isIncreasing_any _ _ HN.out).mono ?_); rintro e w' ⟨rfl, rfl⟩; rw [E.out]))
      go_loop [6, 7, 8] (fun rk tk xx => ∃ x m i q : Nat, x ≤ 60 ∧ i ≤ l.length ∧ q ≤ 200000000000000000 ∧ rk = .int .i64 q ∧ tk = .int .i64 i ∧ xx = .int .i64 x ∧ Hid (x + m = n ∧ From l x i ∧ q + rest l n m i = rest l n n 0)) (fun _ _ xx => 61 - (intOf xx).toNat)
      case atStart => exact ⟨0, n, 0, 0, by omega, by omega, by omega, rfl, rfl, rfl, by omega, fun hi => (HI.out 0 hi).1.1, by omega⟩
      case round =>
        obtain ⟨x, m, i, q, hx, hi, hq, rfl, rfl, rfl, Hr⟩ := hrel
        by_cases hlt : i < l.length
        · obtain ⟨y, hc, rfl, _⟩ := Hc.out i hlt
          obtain rfl := Ha.out (by omega)
          obtain ⟨z, hz, hzn⟩ := inc_get HI.out hlt
          have HZ := Lib.hid hz
          rw [hz] at hc
          have hxz : x ≤ z := by have := Hr.out.2.1 hlt; omega
          have hm : 0 < m := by have := Hr.out.1; omega
          obtain ⟨m, rfl⟩ : ∃ m', m = m' + 1 := ⟨m - 1, by omega⟩
          clear hz hm
          by_cases he : x = z
          · have heb : ((x : Int) == (z : Int)) = true := beq_iff_eq.2 (by omega)
            have HS := Lib.hid (And.intro (show x + 1 + m = n by have := Hr.out.1; omega) (And.intro (from_next HI.out HZ.out) (show q + rest l n m (i + 1) = rest l n n 0 by rw [← rest_eq hlt HZ.out (by have := Hr.out.1; omega)]; exact Hr.out.2.2)))
            have HE := Lib.hid he
            clear he
            go_wp2
            go_round
            case rel => exact ⟨x + 1, m, i + 1, q, by omega, by omega, hq, rfl, by go_num, by go_num, by rw [HE.out]; exact ⟨by have := HS.out.1; have := HE.out; omega, HS.out.2.1, HS.out.2.2⟩⟩
            case measure => simp [intOf]; omega
          · have heb : ((x : Int) == (z : Int)) = false := beq_eq_false_iff_ne.2 (by omega)
            have hm60 : m ≤ 60 := by have := Hr.out.1; omega
            have hj60 : l.length - 1 - i ≤ 60 := by omega
            have hrest := rest_ne hlt HZ.out he Hr.out.1
            have htot := Hr.out.2.2
            have hbd := HB.out
            have hq2 : q + ch m (l.length - 1 - i) ≤ 200000000000000000 := by omega
            have HS := Lib.hid (And.intro (show x + 1 + m = n by have := Hr.out.1; omega) (And.intro (show From l (x + 1) i from fun _ => by have := HZ.out; omega) (show q + ch m (l.length - 1 - i) + rest l n m i = rest l n n 0 by omega)))
            have en : (n : Int) - 1 - (x : Int) = (m : Int) := by have := Hr.out.1; omega
            have ek : (l.length : Int) - 1 - (i : Int) = ((l.length - 1 - i : Nat) : Int) := by omega
            have HE := Lib.hid he
            clear he hrest htot hbd
            go_wp2_with (go_at_call 59; (with_reducible refine (countSubsets_any _ _ hm60 hj60 _).mono ?_); rintro e w1 ⟨rfl, rfl⟩; clear en ek)
            go_round
            case rel => exact ⟨x + 1, m, i, q + ch m (l.length - 1 - i), by omega, hi, hq2, by go_num, rfl, by go_num, HS⟩
            case measure => simp [intOf]; omega
        · obtain rfl : i = l.length := by omega
          have hd := rest_done (l := l) (n := n) (m := m) (Nat.le_refl l.length)
          have HD := Lib.hid (show q = rest l n n 0 by have := Hr.out.2.2; omega)
          clear hd
          go_wp2
          go_ret2
          exact ⟨ret_ia (by rw [A.out, ← HD.out]) F.out.symm, Ext.rfl' w⟩
    · have E := Lib.hid (dec_false h1)
      have F := Lib.hid (dec_false (p := SrOK n l) fun k => h1 k.2)
      have A := Lib.hid (show srAns n l = 0 from ifP_f fun k => h1 k.2)
      clear h0 h1
      go_enter Try.func37, Try.ntmps37
      go_wp2_with (first | (go_at_call 52; (with_reducible refine (isBetween_any _ _ _ _).mono ?_); rintro e w' ⟨rfl, rfl⟩; rw [D.out]) | (go_at_call 63; (with_reducible refine (isIncreasing_any _ _ HN.out).mono ?_); rintro e w' ⟨rfl, rfl⟩; rw [E.out]))
      go_ret2
      exact ⟨ret_ia A.out.symm F.out.symm, Ext.rfl' w⟩
end Go.Proofs.Ytcjiejbndmnjaaa
