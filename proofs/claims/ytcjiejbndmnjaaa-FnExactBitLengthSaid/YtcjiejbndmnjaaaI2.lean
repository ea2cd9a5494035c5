/- BitLength, BitAt and LogStar: the model and the program answer the same. -/
import Derived.Test.YtcjiejbndmnjaaaI1
import Derived.Test.YtcjiejbndmnjaaaShelf
import Derived.Laws.BitsAllLaws
import Derived.Laws.BitsLemmas
namespace Go.Proofs.Ytcjiejbndmnjaaa
open Go.RowKit

noncomputable def blAns (n : Int) : Int := ifP (Wh n) (nbits n.toNat)
theorem wh_nat {n : Int} (h : Wh n) : ∃ k : Nat, n = k ∧ k ≤ 1000000000000 := ⟨n.toNat, by have := h.1; omega, by have := h.2; omega⟩

theorem blAns_t {k : Nat} (h : k ≤ 1000000000000) : blAns k = nbits k := ifP_t (P := Wh k) ⟨by omega, by omega⟩
theorem blAns_f {n : Int} (h : ¬Wh n) : blAns n = 0 := ifP_f h

set_option maxRecDepth 100000 in
theorem specBitLength_any (n : Int) (w : World) : Calls Try.prog 15 #[.int .i64 n] w fun e w' => e = .returned (.tuple #[.int .i64 (blAns n), .bool (dec (Wh n))]) ∧ w = w' := by
  by_cases h : Wh n
  · have D := Lib.hid (dec_true h)
    obtain ⟨k, rfl, hk⟩ := wh_nat h
    have A := Lib.hid (blAns_t hk)
    clear h
    go_enter Try.func15, Try.ntmps15
    go_wp2_with (first | (go_at_call 46; (with_reducible refine (nuWhole_any _ _).mono ?_); rintro e w' ⟨rfl, rfl⟩; rw [D.out]) | (go_at_call 47; (with_reducible refine (nuBits_any _ hk _).mono ?_); rintro e w' ⟨rfl, rfl⟩))
    go_ret2
    exact ⟨ret_ia A.out.symm D.out.symm, rfl⟩
  · have A := Lib.hid (blAns_f h)
    have D := Lib.hid (dec_false h)
    clear h
    go_enter Try.func15, Try.ntmps15
    go_wp2_with (first | (go_at_call 46; (with_reducible refine (nuWhole_any _ _).mono ?_); rintro e w' ⟨rfl, rfl⟩; rw [D.out]))
    go_ret2
    exact ⟨ret_ia A.out.symm D.out.symm, rfl⟩

set_option maxRecDepth 100000 in
theorem bitLength_any (n : Int) (w : World) : Calls Try.prog 16 #[.int .i64 n] w fun e w' => e = .returned (.tuple #[.int .i64 (blAns n), .bool (dec (Wh n))]) ∧ w = w' := by
  by_cases h : Wh n
  · have D := Lib.hid (dec_true h)
    obtain ⟨k, rfl, hk⟩ := wh_nat h
    have A := Lib.hid (blAns_t hk)
    have L := Lib.hid (bitLen_nbits k (by omega))
    clear h
    go_enter Try.func16, Try.ntmps16
    go_wp2_with (first | (go_at_call 48; (with_reducible refine (isWhole_any _ _).mono ?_); rintro e w' ⟨rfl, rfl⟩; rw [D.out]) | (go_at_call 49; (with_reducible refine (Try.bits_Len _ _ (by omega) (by omega)).mono ?_); rintro e w' ⟨rfl, rfl⟩))
    go_ret2
    exact ⟨ret_ia (by rw [A.out, ← L.out]) D.out.symm, rfl⟩
  · have A := Lib.hid (blAns_f h)
    have D := Lib.hid (dec_false h)
    clear h
    go_enter Try.func16, Try.ntmps16
    go_wp2_with (first | (go_at_call 48; (with_reducible refine (isWhole_any _ _).mono ?_); rintro e w' ⟨rfl, rfl⟩; rw [D.out]))
    go_ret2
    exact ⟨ret_ia A.out.symm D.out.symm, rfl⟩

/-- Bit i of n. -/
noncomputable def baAns (n i : Int) : Int := ifP (Wh n ∧ InB i 0 63) (bitAt n.toNat i.toNat)
def BaOK (n i : Int) : Prop := Wh n ∧ InB i 0 63
theorem baAns_t {k i : Nat} (h : k ≤ 1000000000000) (hi : i ≤ 63) : baAns k i = bitAt k i := ifP_t (P := Wh k ∧ InB i 0 63) ⟨⟨by omega, by omega⟩, by omega, by omega⟩
theorem baAns_f {n i : Int} (h : ¬(Wh n ∧ InB i 0 63)) : baAns n i = 0 := ifP_f h

theorem shift_cast (k j : Nat) : ((k : Int) / 2 ^ j) = ((k / 2 ^ j : Nat) : Int) := by
  rw [Int.natCast_ediv, Int.natCast_pow]; rfl
theorem bv64 (m : Nat) (h : m < 9223372036854775808) : (BitVec.ofInt 64 (m : Int)).toNat = m := by
  rw [BitVec.ofInt_natCast, BitVec.toNat_ofNat, Nat.mod_eq_of_lt]; omega
theorem low_bit (m : Nat) (h : m < 9223372036854775808) : bits .and .i64 (m : Int) 1 = ((m % 2 : Nat) : Int) := by
  show IntKind.i64.wrap ((BitVec.ofInt 64 (m : Int) &&& BitVec.ofInt 64 ((1 : Nat) : Int)).toNat : Int) = _
  rw [BitVec.toNat_and, bv64 m h, bv64 1 (by omega), Nat.and_one_is_mod, IntKind.wrap_i64]
  omega

set_option maxRecDepth 100000 in
theorem nuBit_any (n i : Nat) (hn : n ≤ 1000000000000) (hi : i ≤ 63) (w : World) : Calls Try.prog 51 #[.int .i64 n, .int .i64 i] w fun e w' => e = .returned (.int .i64 (bitAt n i)) ∧ w = w' := by
  go_enter Try.func51, Try.ntmps51
  go_wp2
  go_loop [0, 1] (fun m k => ∃ (a b : Nat), a ≤ 1000000000000 ∧ b ≤ 63 ∧ m = .int .i64 a ∧ k = .int .i64 b ∧ Hid (bitAt a b = bitAt n i)) (fun _ k => (intOf k).toNat)
  case atStart => exact ⟨n, i, hn, hi, rfl, rfl, rfl⟩
  case round =>
    obtain ⟨a, b, ha, hb, rfl, rfl, Hr⟩ := hrel
    by_cases h0 : 0 < b
    · go_wp2
      go_round
      case rel =>
        refine ⟨a / 2, b - 1, by omega, by omega, by go_num, by go_num, ?_⟩
        have e := Hr.out
        obtain ⟨c, rfl⟩ : ∃ c, b = c + 1 := ⟨b - 1, by omega⟩
        show bitAt (a / 2) (c + 1 - 1) = _
        rw [← e]
        unfold bitAt
        rw [Nat.add_sub_cancel, Nat.div_div_eq_div_mul, Nat.pow_succ, Nat.mul_comm 2]
      case measure => simp [intOf]; omega
    · obtain rfl : b = 0 := by omega
      go_wp2
      go_ret
      refine ⟨ret_i ?_, rfl⟩
      rw [← Hr.out]
      unfold bitAt
      rw [Nat.pow_zero, Nat.div_one]
      omega

set_option maxRecDepth 100000 in
theorem specBitAt_any (n i : Int) (w : World) : Calls Try.prog 17 #[.int .i64 n, .int .i64 i] w fun e w' => e = .returned (.tuple #[.int .i64 (baAns n i), .bool (dec (BaOK n i))]) ∧ w = w' := by
  by_cases h : Wh n
  · have D := Lib.hid (dec_true h)
    by_cases hi : InB i 0 63
    · have E := Lib.hid (dec_true hi)
      have F := Lib.hid (dec_true (p := BaOK n i) ⟨h, hi⟩)
      obtain ⟨k, rfl, hk⟩ := wh_nat h
      obtain ⟨j, rfl⟩ := Int.eq_ofNat_of_zero_le hi.1
      have hj : j ≤ 63 := by have := hi.2; omega
      have A := Lib.hid (baAns_t hk hj)
      clear h hi
      go_enter Try.func17, Try.ntmps17
      go_wp2_with (first | (go_at_call 46; (with_reducible refine (nuWhole_any _ _).mono ?_); rintro e w' ⟨rfl, rfl⟩; rw [D.out]) | (go_at_call 50; (with_reducible refine (l1In_any _ _ _ _).mono ?_); rintro e w' ⟨rfl, rfl⟩; rw [E.out]) | (go_at_call 51; (with_reducible refine (nuBit_any _ _ hk hj _).mono ?_); rintro e w' ⟨rfl, rfl⟩))
      go_ret2
      exact ⟨ret_ia A.out.symm F.out.symm, rfl⟩
    · have E := Lib.hid (dec_false hi)
      have F := Lib.hid (dec_false (p := BaOK n i) (fun h => hi h.2))
      have A := Lib.hid (baAns_f (n := n) (i := i) (fun h => hi h.2))
      clear h hi
      go_enter Try.func17, Try.ntmps17
      go_wp2_with (first | (go_at_call 46; (with_reducible refine (nuWhole_any _ _).mono ?_); rintro e w' ⟨rfl, rfl⟩; rw [D.out]) | (go_at_call 50; (with_reducible refine (l1In_any _ _ _ _).mono ?_); rintro e w' ⟨rfl, rfl⟩; rw [E.out]))
      go_ret2
      exact ⟨ret_ia A.out.symm F.out.symm, rfl⟩
  · have D := Lib.hid (dec_false h)
    have F := Lib.hid (dec_false (p := BaOK n i) (fun k => h k.1))
    have A := Lib.hid (baAns_f (n := n) (i := i) (fun k => h k.1))
    clear h
    go_enter Try.func17, Try.ntmps17
    go_wp2_with (first | (go_at_call 46; (with_reducible refine (nuWhole_any _ _).mono ?_); rintro e w' ⟨rfl, rfl⟩; rw [D.out]))
    go_ret2
    exact ⟨ret_ia A.out.symm F.out.symm, rfl⟩

set_option maxRecDepth 100000 in
theorem bitAt_any (n i : Int) (w : World) : Calls Try.prog 18 #[.int .i64 n, .int .i64 i] w fun e w' => e = .returned (.tuple #[.int .i64 (baAns n i), .bool (dec (BaOK n i))]) ∧ w = w' := by
  by_cases h : Wh n
  · have D := Lib.hid (dec_true h)
    by_cases hi : InB i 0 63
    · have E := Lib.hid (dec_true hi)
      have F := Lib.hid (dec_true (p := BaOK n i) ⟨h, hi⟩)
      obtain ⟨k, rfl, hk⟩ := wh_nat h
      obtain ⟨j, rfl⟩ := Int.eq_ofNat_of_zero_le hi.1
      have hj : j ≤ 63 := by have := hi.2; omega
      have A := Lib.hid (baAns_t hk hj)
      clear h hi
      go_enter Try.func18, Try.ntmps18
      go_wp2_with (first | (go_at_call 48; (with_reducible refine (isWhole_any _ _).mono ?_); rintro e w' ⟨rfl, rfl⟩; rw [D.out]) | (go_at_call 52; (with_reducible refine (isBetween_any _ _ _ _).mono ?_); rintro e w' ⟨rfl, rfl⟩; rw [E.out]))
      go_ret2
      exact ⟨ret_ia (by rw [A.out, shift_cast, low_bit _ (by have := Nat.div_le_self k (2 ^ j); omega)]; rfl) F.out.symm, rfl⟩
    · have E := Lib.hid (dec_false hi)
      have F := Lib.hid (dec_false (p := BaOK n i) (fun h => hi h.2))
      have A := Lib.hid (baAns_f (n := n) (i := i) (fun h => hi h.2))
      clear h hi
      go_enter Try.func18, Try.ntmps18
      go_wp2_with (first | (go_at_call 48; (with_reducible refine (isWhole_any _ _).mono ?_); rintro e w' ⟨rfl, rfl⟩; rw [D.out]) | (go_at_call 52; (with_reducible refine (isBetween_any _ _ _ _).mono ?_); rintro e w' ⟨rfl, rfl⟩; rw [E.out]))
      go_ret2
      exact ⟨ret_ia A.out.symm F.out.symm, rfl⟩
  · have D := Lib.hid (dec_false h)
    have F := Lib.hid (dec_false (p := BaOK n i) (fun k => h k.1))
    have A := Lib.hid (baAns_f (n := n) (i := i) (fun k => h k.1))
    clear h
    go_enter Try.func18, Try.ntmps18
    go_wp2_with (first | (go_at_call 48; (with_reducible refine (isWhole_any _ _).mono ?_); rintro e w' ⟨rfl, rfl⟩; rw [D.out]))
    go_ret2
    exact ⟨ret_ia A.out.symm F.out.symm, rfl⟩
end Go.Proofs.Ytcjiejbndmnjaaa
