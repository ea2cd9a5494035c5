/- LogStar: the model and the program answer the same. -/
import Derived.Test.YtcjiejbndmnjaaaI2
namespace Go.Proofs.Ytcjiejbndmnjaaa
open Go.RowKit

noncomputable def lsAns (n : Int) : Int := ifP (Wh n ∧ n ≠ 0) (lstar n.toNat)
def LsOK (n : Int) : Prop := Wh n ∧ n ≠ 0
theorem lsAns_t {k : Nat} (h : k ≤ 1000000000000) (h0 : 0 < k) : lsAns k = lstar k := ifP_t (P := Wh k ∧ (k : Int) ≠ 0) ⟨⟨by omega, by omega⟩, by omega⟩
theorem lsAns_f {n : Int} (h : ¬LsOK n) : lsAns n = 0 := ifP_f h

set_option maxRecDepth 100000 in
theorem nuLogStar_any (n : Nat) (hn : n ≤ 1000000000000) (w : World) : Calls Try.prog 53 #[.int .i64 n] w fun e w' => e = .returned (.int .i64 (lstar n)) ∧ w = w' := by
  go_enter Try.func53, Try.ntmps53
  go_wp2
  go_loop [0, 3] (fun m k => ∃ (a b : Nat), a ≤ 1000000000000 ∧ b + a ≤ 1000000000000 ∧ m = .int .i64 a ∧ k = .int .i64 b ∧ Hid (b + lstar a = lstar n)) (fun m _ => (intOf m).toNat)
  case atStart => exact ⟨n, 0, hn, by omega, rfl, rfl, by show 0 + lstar n = lstar n; omega⟩
  case round =>
    obtain ⟨a, b, ha, hb, rfl, rfl, Hr⟩ := hrel
    by_cases h0 : 1 < a
    · have hp := Lib.hid (lstar_step h0)
      have h1 := nbits_le a
      have h2 := nbits_ge2 (n := a) (by omega)
      go_wp2_with (go_at_call 47; (with_reducible refine (nuBits_any _ ha _).mono ?_); rintro e w' ⟨rfl, rfl⟩)
      go_round
      case rel => exact ⟨nbits a - 1, b + 1, by omega, by omega, by go_num, by go_num, by have := Hr.out; have := hp.out; show b + 1 + lstar (nbits a - 1) = lstar n; omega⟩
      case measure => simp [intOf]; omega
    · have hp := Lib.hid (lstar_one (n := a) (by omega))
      go_wp2
      go_ret
      exact ⟨ret_i (by have := Hr.out; have := hp.out; omega), rfl⟩

set_option maxRecDepth 100000 in
theorem specLogStar_any (n : Int) (w : World) : Calls Try.prog 19 #[.int .i64 n] w fun e w' => e = .returned (.tuple #[.int .i64 (lsAns n), .bool (dec (LsOK n))]) ∧ w = w' := by
  by_cases h : Wh n
  · have D := Lib.hid (dec_true h)
    by_cases h0 : n = 0
    · subst h0
      have E := Lib.hid (dec_false (p := LsOK 0) (fun h => h.2 rfl))
      have A := Lib.hid (lsAns_f (n := 0) (fun h => h.2 rfl))
      clear h
      go_enter Try.func19, Try.ntmps19
      go_wp2_with (first | (go_at_call 46; (with_reducible refine (nuWhole_any _ _).mono ?_); rintro e w' ⟨rfl, rfl⟩; rw [D.out]))
      go_ret2
      exact ⟨ret_ia A.out.symm E.out.symm, rfl⟩
    · obtain ⟨k, rfl, hk⟩ := wh_nat h
      have E := Lib.hid (dec_true (p := LsOK (k : Int)) ⟨h, by omega⟩)
      have A := Lib.hid (lsAns_t hk (by omega))
      have hz : ((k : Int) == 0) = false := beq_eq_false_iff_ne.2 (by omega)
      clear h h0
      go_enter Try.func19, Try.ntmps19
      go_wp2_with (first | (go_at_call 46; (with_reducible refine (nuWhole_any _ _).mono ?_); rintro e w' ⟨rfl, rfl⟩; rw [D.out]) | (go_at_call 53; (with_reducible refine (nuLogStar_any _ hk _).mono ?_); rintro e w' ⟨rfl, rfl⟩))
      go_ret2
      exact ⟨ret_ia A.out.symm E.out.symm, rfl⟩
  · have D := Lib.hid (dec_false h)
    have E := Lib.hid (dec_false (p := LsOK n) (fun k => h k.1))
    have A := Lib.hid (lsAns_f (n := n) (fun k => h k.1))
    clear h
    go_enter Try.func19, Try.ntmps19
    go_wp2_with (first | (go_at_call 46; (with_reducible refine (nuWhole_any _ _).mono ?_); rintro e w' ⟨rfl, rfl⟩; rw [D.out]))
    go_ret2
    exact ⟨ret_ia A.out.symm E.out.symm, rfl⟩

set_option maxRecDepth 100000 in
theorem logStar_any (n : Int) (w : World) : Calls Try.prog 20 #[.int .i64 n] w fun e w' => e = .returned (.tuple #[.int .i64 (lsAns n), .bool (dec (LsOK n))]) ∧ w = w' := by
  by_cases h : Wh n
  · have D := Lib.hid (dec_true h)
    by_cases h0 : n = 0
    · subst h0
      have E := Lib.hid (dec_false (p := LsOK 0) (fun h => h.2 rfl))
      have A := Lib.hid (lsAns_f (n := 0) (fun h => h.2 rfl))
      clear h
      go_enter Try.func20, Try.ntmps20
      go_wp2_with (first | (go_at_call 48; (with_reducible refine (isWhole_any _ _).mono ?_); rintro e w' ⟨rfl, rfl⟩; rw [D.out]))
      go_ret2
      exact ⟨ret_ia A.out.symm E.out.symm, rfl⟩
    · obtain ⟨k, rfl, hk⟩ := wh_nat h
      have E := Lib.hid (dec_true (p := LsOK (k : Int)) ⟨h, by omega⟩)
      have A := Lib.hid (lsAns_t hk (by omega))
      clear h
      go_enter Try.func20, Try.ntmps20
      go_wp2_with (first | (go_at_call 48; (with_reducible refine (isWhole_any _ _).mono ?_); rintro e w' ⟨rfl, rfl⟩; rw [D.out]))
      go_loop [0, 4] (fun m c => ∃ (a b : Nat), a ≤ 1000000000000 ∧ b + a ≤ 1000000000000 ∧ m = .int .i64 a ∧ c = .int .i64 b ∧ Hid (b + lstar a = lstar k)) (fun m _ => (intOf m).toNat)
      case atStart => exact ⟨k, 0, hk, by omega, rfl, rfl, by show 0 + lstar k = lstar k; omega⟩
      case round =>
        obtain ⟨a, b, ha, hb, rfl, rfl, Hr⟩ := hrel
        by_cases h1 : 1 < a
        · have hp := Lib.hid (lstar_step h1)
          have h1 := nbits_le a
          have h2 := nbits_ge2 (n := a) (by omega)
          have hl := Lib.hid (bitLen_nbits a (by omega))
          go_wp2_with (go_at_call 49; (with_reducible refine (Try.bits_Len _ _ (by omega) (by omega)).mono ?_); rintro e w' ⟨rfl, rfl⟩; rw [Int.toNat_natCast, hl.out])
          go_round
          case rel => exact ⟨nbits a - 1, b + 1, by omega, by omega, by go_num, by go_num, by have := Hr.out; have := hp.out; show b + 1 + lstar (nbits a - 1) = lstar k; omega⟩
          case measure => simp [intOf]; omega
        · have hp := Lib.hid (lstar_one (n := a) (by omega))
          go_wp2
          go_ret2
          exact ⟨ret_ia (by have := Hr.out; have := hp.out; have := A.out; omega) E.out.symm, rfl⟩
  · have D := Lib.hid (dec_false h)
    have E := Lib.hid (dec_false (p := LsOK n) (fun k => h k.1))
    have A := Lib.hid (lsAns_f (n := n) (fun k => h k.1))
    clear h
    go_enter Try.func20, Try.ntmps20
    go_wp2_with (first | (go_at_call 48; (with_reducible refine (isWhole_any _ _).mono ?_); rintro e w' ⟨rfl, rfl⟩; rw [D.out]))
    go_ret2
    exact ⟨ret_ia A.out.symm E.out.symm, rfl⟩
end Go.Proofs.Ytcjiejbndmnjaaa
