/- Package-level tables: what their variables hold lasts; FirstDifferentBit: the model and the program answer the same. -/
import Derived.Test.YtcjiejbndmnjaaaDoorI1
import Derived.Laws.BitsAllLaws
import Derived.Laws.BitsLemmas
import Derived.Shelf.Spec.TrailingZeros
namespace Go.Proofs.YtcjiejbndmnjaaaDoor
open Go.RowKit

theorem wh_nat {n : Int} (h : Wh n) : ∃ k : Nat, n = k ∧ k ≤ 1000000000000 := ⟨n.toNat, by have := h.1; omega, by have := h.2; omega⟩

theorem bv64 (m : Nat) (h : m < 9223372036854775808) : (BitVec.ofInt 64 (m : Int)).toNat = m := by
  rw [BitVec.ofInt_natCast, BitVec.toNat_ofNat, Nat.mod_eq_of_lt]; omega

set_option maxRecDepth 100000 in
theorem nuBit_any (n i : Nat) (hn : n ≤ 1000000000000) (hi : i ≤ 63) (w : World) : Calls Tryd.prog 29 #[.int .i64 n, .int .i64 i] w fun e w' => e = .returned (.int .i64 (bitAt n i)) ∧ w = w' := by
  go_enter Tryd.func29, Tryd.ntmps29
  go_wp2
  go_loop [0, 1] (fun m k => ∃ (a b : Nat), a ≤ 1000000000000 ∧ b ≤ 63 ∧ m = .int .i64 a ∧ k = .int .i64 b ∧ Hid (bitAt a b = bitAt n i)) (fun _ k => (intOf k).toNat)
  case atStart => exact ⟨n, i, hn, hi, rfl, rfl, rfl⟩
  case round =>
    obtain ⟨a, b, ha, hb, rfl, rfl, Hr⟩ := hrel
    by_cases h0 : 0 < b
    · go_wp2
      go_round
      case rel =>
        refine ⟨a / 2, b - 1, by omega, by omega, by go_num, by go_num, ?_⟩
        have e := Hr.out
        obtain ⟨c, rfl⟩ : ∃ c, b = c + 1 := ⟨b - 1, by omega⟩
        show bitAt (a / 2) (c + 1 - 1) = _
        rw [← e]
        unfold bitAt
        rw [Nat.add_sub_cancel, Nat.div_div_eq_div_mul, Nat.pow_succ, Nat.mul_comm 2]
      case measure => simp [intOf]; omega
    · obtain rfl : b = 0 := by omega
      go_wp2
      go_ret
      refine ⟨ret_i ?_, rfl⟩
      rw [← Hr.out]
      unfold bitAt
      rw [Nat.pow_zero, Nat.div_one]
      omega

theorem xor64 (a b : Nat) (ha : a < 9223372036854775808) (hb : b < 9223372036854775808) : bits .xor .i64 (a : Int) (b : Int) = ((a ^^^ b : Nat) : Int) := by
  have hx : a ^^^ b < 2 ^ 63 := Nat.xor_lt_two_pow (by omega) (by omega)
  show IntKind.i64.wrap ((BitVec.ofInt 64 (a : Int) ^^^ BitVec.ofInt 64 (b : Int)).toNat : Int) = _
  rw [BitVec.toNat_xor, bv64 a ha, bv64 b hb, IntKind.wrap_i64]
  omega

/-- The table of math/bits in its variable. -/
def Tz (w : World) : Prop := TabAt 2 Lib.deBruijn64tab w
theorem Tz.ext {w w' : World} (h : Tz w) (he : Ext w w') : Tz w' := fun j hj => he.cell' (h j hj)

set_option maxHeartbeats 1000000 in
theorem tz64_core (x k idx : Nat) (w : World) (hx0 : ((x : Int) == 0) = false)
    (key : IntKind.u64.wrap (bits BinOp.and IntKind.u64 (x : Int) (IntKind.u64.wrap (-(x : Int))) * 285870213051353865) / 288230376151711744 = (idx : Int))
    (hi : idx < 64) (hk : k < 64) (hcell : w.cell? ⟨2, idx, none⟩ = some (.int .u8 k)) :
    Calls Tryd.prog 31 #[.int .u64 x] w fun e w' => e = .returned (.int .i64 k) ∧ w = w' := by
  go_enter Tryd.func31, Tryd.ntmps31
  go_wp2_with (simp only [key])
  go_ret
  exact ⟨rfl, rfl⟩
theorem tz64_any (x : Nat) (hx : x < 18446744073709551616) (hx0 : x ≠ 0) (w : World) (hT : Tz w) :
    Calls Tryd.prog 31 #[.int .u64 x] w fun e w' => e = .returned (.int .i64 (Lib.ctz 64 x)) ∧ w = w' := by
  obtain ⟨hlow, hk⟩ := Lib.lowest_bit 64 x hx0 hx
  obtain ⟨hi, htab⟩ := Lib.deBruijn64_at _ hk
  have hcell := hT _ hi
  rw [htab] at hcell
  exact tz64_core x _ _ w (by simp; omega) (tz64_key x _ hx hx0 hlow) hi hk hcell
theorem tz_any (x : Nat) (hx : x < 9223372036854775808) (hx0 : x ≠ 0) (w : World) (hT : Tz w) :
    Calls Tryd.prog 20 #[.int .u64 x] w fun e w' => e = .returned (.int .i64 (Lib.ctz 64 x)) ∧ w = w' := by
  have hw : IntKind.u64.wrap (x : Int) = (x : Int) := by rw [IntKind.wrap_u64]; omega
  go_enter Tryd.func20, Tryd.ntmps20
  go_wp2_with (go_at_call 31; (with_reducible refine (tz64_any x (by omega) hx0 _ hT).mono ?_); rintro e w' ⟨rfl, rfl⟩)
  go_ret
  exact ⟨rfl, rfl⟩

def DfOK (a b : Int) : Prop := Wh a ∧ Wh b ∧ a ≠ b
noncomputable def dfAns (a b : Int) : Int := ifP (DfOK a b) (diffAt a.toNat b.toNat)

set_option maxRecDepth 100000 in
theorem nuDiffer_any (a b : Nat) (ha : a ≤ 1000000000000) (hb : b ≤ 1000000000000) (h : a ≠ b) (w : World) :
    Calls Tryd.prog 18 #[.int .i64 a, .int .i64 b] w fun e w' => e = .returned (.int .i64 (diffAt a b)) ∧ w = w' := by
  obtain ⟨h1, h2, h3⟩ := diff_spec (a := a) (b := b) (by omega) (by omega) h
  have H1 := Lib.hid h1
  have H2 := Lib.hid h2
  clear h1 h2 h
  go_enter Tryd.func18, Tryd.ntmps18
  go_wp2
  go_loop [5] (fun i => ∃ k : Nat, k ≤ diffAt a b ∧ i = .int .i64 k) (fun i => 64 - (intOf i).toNat)
  case atStart => exact ⟨0, Nat.zero_le _, rfl⟩
  case round =>
    obtain ⟨k, hk, rfl⟩ := hrel
    by_cases he : bitAt a k = bitAt b k
    · have heb : ((bitAt a k : Int) == (bitAt b k : Int)) = true := beq_iff_eq.2 (by omega)
      have hlt : k < diffAt a b := by
        rcases Nat.lt_or_ge k (diffAt a b) with hlt | hge
        · exact hlt
        · obtain rfl : k = diffAt a b := by omega
          exact absurd he H1.out
      clear he
      go_wp2_with (go_at_call 29; (with_reducible refine (nuBit_any _ _ (by omega) (by omega) _).mono ?_); rintro e w' ⟨rfl, rfl⟩)
      go_round
      case rel => exact ⟨k + 1, by omega, by go_num⟩
      case measure => simp [intOf]; omega
    · have heb : ((bitAt a k : Int) == (bitAt b k : Int)) = false := beq_eq_false_iff_ne.2 (by omega)
      have hge : ¬k < diffAt a b := fun h => he (H2.out k h)
      obtain rfl : k = diffAt a b := by omega
      clear he
      go_wp2_with (go_at_call 29; (with_reducible refine (nuBit_any _ _ (by omega) (by omega) _).mono ?_); rintro e w' ⟨rfl, rfl⟩)
      go_ret
      exact ⟨rfl, rfl⟩



set_option maxHeartbeats 1000000 in
set_option maxRecDepth 100000 in
theorem specFirstDifferentBit_any (a b : Int) (w : World) : Calls Tryd.prog 7 #[.int .i64 a, .int .i64 b] w fun e w' => e = .returned (.tuple #[.int .i64 (dfAns a b), .bool (dec (DfOK a b))]) ∧ w = w' := by
  by_cases h0 : Wh a
  case neg =>
    have D0 := Lib.hid (dec_false h0)
    have F := Lib.hid (dec_false (p := DfOK a b) fun h => h0 h.1)
    have A := Lib.hid (ifP_f (P := DfOK a b) (a := (diffAt a.toNat b.toNat : Int)) fun h => h0 h.1)
    clear h0
    go_enter Tryd.func7, Tryd.ntmps7
    go_wp2_with (first | (go_at_call 17; (with_reducible refine (nuWhole_any _ _).mono ?_); rintro e w' ⟨rfl, rfl⟩; first | rw [D0.out]))
    go_ret2
    exact ⟨ret_ia A.out.symm F.out.symm, rfl⟩
  case pos =>
    have D0 := Lib.hid (dec_true h0)
    by_cases h1 : Wh b
    case neg =>
      have D1 := Lib.hid (dec_false h1)
      have F := Lib.hid (dec_false (p := DfOK a b) fun h => h1 h.2.1)
      have A := Lib.hid (ifP_f (P := DfOK a b) (a := (diffAt a.toNat b.toNat : Int)) fun h => h1 h.2.1)
      clear h0 h1
      go_enter Tryd.func7, Tryd.ntmps7
      go_wp2_with (first | (go_at_call 17; (with_reducible refine (nuWhole_any _ _).mono ?_); rintro e w' ⟨rfl, rfl⟩; first | rw [D0.out] | rw [D1.out]))
      go_ret2
      exact ⟨ret_ia A.out.symm F.out.symm, rfl⟩
    case pos =>
      have D1 := Lib.hid (dec_true h1)
      by_cases he : a = b
      · have F := Lib.hid (dec_false (p := DfOK a b) fun h => h.2.2 he)
        have A := Lib.hid (show dfAns a b = 0 from ifP_f fun h => h.2.2 he)
        have heb : (a == b) = true := beq_iff_eq.2 he
        have HE := Lib.hid he
        clear he h0 h1
        go_enter Tryd.func7, Tryd.ntmps7
        go_wp2_with (first | (go_at_call 17; (with_reducible refine (nuWhole_any _ _).mono ?_); rintro e w' ⟨rfl, rfl⟩; first | rw [D0.out] | rw [D1.out]))
        go_ret2
        exact ⟨ret_ia A.out.symm F.out.symm, rfl⟩
      · have F := Lib.hid (dec_true (p := DfOK a b) ⟨h0, h1, he⟩)
        have A := Lib.hid (show dfAns a b = (diffAt a.toNat b.toNat : Int) from ifP_t ⟨h0, h1, he⟩)
        obtain ⟨a, rfl, hka⟩ := wh_nat h0
        obtain ⟨b, rfl, hkb⟩ := wh_nat h1
        have hne : a ≠ b := fun e => he (by rw [e])
        have heb : ((a : Int) == (b : Int)) = false := beq_eq_false_iff_ne.2 he
        clear he h0 h1
        go_enter Tryd.func7, Tryd.ntmps7
        go_wp2_with (first | (go_at_call 17; (with_reducible refine (nuWhole_any _ _).mono ?_); rintro e w' ⟨rfl, rfl⟩; first | rw [D0.out] | rw [D1.out]) | (go_at_call 18; (with_reducible refine (nuDiffer_any _ _ hka hkb hne _).mono ?_); rintro e w' ⟨rfl, rfl⟩))
        go_ret2
        exact ⟨ret_ia A.out.symm F.out.symm, rfl⟩


set_option maxHeartbeats 1000000 in
set_option maxRecDepth 100000 in
theorem firstDifferentBit_any (a b : Int) (w : World) (hT : Tz w) : Calls Tryd.prog 8 #[.int .i64 a, .int .i64 b] w fun e w' => e = .returned (.tuple #[.int .i64 (dfAns a b), .bool (dec (DfOK a b))]) ∧ w = w' := by
  have HT := Lib.hid hT
  by_cases h0 : Wh a
  case neg =>
    have D0 := Lib.hid (dec_false h0)
    have F := Lib.hid (dec_false (p := DfOK a b) fun h => h0 h.1)
    have A := Lib.hid (ifP_f (P := DfOK a b) (a := (diffAt a.toNat b.toNat : Int)) fun h => h0 h.1)
    clear h0
    go_enter Tryd.func8, Tryd.ntmps8
    go_wp2_with (first | (go_at_call 19; (with_reducible refine (isWhole_any _ _).mono ?_); rintro e w' ⟨rfl, rfl⟩; first | rw [D0.out]))
    go_ret2
    exact ⟨ret_ia A.out.symm F.out.symm, rfl⟩
  case pos =>
    have D0 := Lib.hid (dec_true h0)
    by_cases h1 : Wh b
    case neg =>
      have D1 := Lib.hid (dec_false h1)
      have F := Lib.hid (dec_false (p := DfOK a b) fun h => h1 h.2.1)
      have A := Lib.hid (ifP_f (P := DfOK a b) (a := (diffAt a.toNat b.toNat : Int)) fun h => h1 h.2.1)
      clear h0 h1
      go_enter Tryd.func8, Tryd.ntmps8
      go_wp2_with (first | (go_at_call 19; (with_reducible refine (isWhole_any _ _).mono ?_); rintro e w' ⟨rfl, rfl⟩; first | rw [D0.out] | rw [D1.out]))
      go_ret2
      exact ⟨ret_ia A.out.symm F.out.symm, rfl⟩
    case pos =>
      have D1 := Lib.hid (dec_true h1)
      by_cases he : a = b
      · have F := Lib.hid (dec_false (p := DfOK a b) fun h => h.2.2 he)
        have A := Lib.hid (show dfAns a b = 0 from ifP_f fun h => h.2.2 he)
        have heb : (a == b) = true := beq_iff_eq.2 he
        have HE := Lib.hid he
        clear he h0 h1
        go_enter Tryd.func8, Tryd.ntmps8
        go_wp2_with (first | (go_at_call 19; (with_reducible refine (isWhole_any _ _).mono ?_); rintro e w' ⟨rfl, rfl⟩; first | rw [D0.out] | rw [D1.out]))
        go_ret2
        exact ⟨ret_ia A.out.symm F.out.symm, rfl⟩
      · have F := Lib.hid (dec_true (p := DfOK a b) ⟨h0, h1, he⟩)
        have A := Lib.hid (show dfAns a b = (diffAt a.toNat b.toNat : Int) from ifP_t ⟨h0, h1, he⟩)
        obtain ⟨a, rfl, hka⟩ := wh_nat h0
        obtain ⟨b, rfl, hkb⟩ := wh_nat h1
        have hne : a ≠ b := fun e => he (by rw [e])
        have heb : ((a : Int) == (b : Int)) = false := beq_eq_false_iff_ne.2 he
        have hx63 : a ^^^ b < 9223372036854775808 := Nat.xor_lt_two_pow (n := 63) (by omega) (by omega)
        have hx0 : a ^^^ b ≠ 0 := fun e => hne (by
          have h3 : a ^^^ b ^^^ b = b := by rw [e]; simp
          simpa [Nat.xor_assoc] using h3)
        have exor := xor64 a b (by omega) (by omega)
        have HX := Lib.hid (show diffAt a b = Lib.ctz 64 (a ^^^ b) from rfl)
        clear he h0 h1
        go_enter Tryd.func8, Tryd.ntmps8
        go_wp2_with (first | (go_at_call 19; (with_reducible refine (isWhole_any _ _).mono ?_); rintro e w' ⟨rfl, rfl⟩; first | rw [D0.out] | rw [D1.out]) | (go_at_call 20; (with_reducible refine (tz_any _ hx63 hx0 _ HT.out).mono ?_); rintro e w' ⟨rfl, rfl⟩))
        go_ret2
        exact ⟨ret_ia A.out.symm F.out.symm, rfl⟩


set_option maxRecDepth 100000 in
theorem walk_FirstDifferentBit {w : World} (n0 n1 : Int) (hT : Tz w) : Calls Tryd.prog 3 #[.int .i64 n0, .int .i64 n1] w fun e w' => e = .returned (.bool true) ∧ Ext w w' := by
  have ha : ((dfAns n0 n1) != (dfAns n0 n1)) = false := by simp
  have hb : (dec (DfOK n0 n1) != dec (DfOK n0 n1)) = false := by simp
  have HT := Lib.hid hT
  go_enter Tryd.func3, Tryd.ntmps3
  go_wp2_with (first | (go_at_call 7; (with_reducible refine (specFirstDifferentBit_any _ _ _).mono ?_); rintro e w' ⟨rfl, rfl⟩) | (go_at_call 8; (with_reducible refine (firstDifferentBit_any _ _ _ HT.out).mono ?_); rintro e w' ⟨rfl, rfl⟩))
  go_ret
  exact ⟨rfl, Ext.rfl' w⟩
end Go.Proofs.YtcjiejbndmnjaaaDoor
