/- IsPrime and NextPrime: the model and the program answer the same. -/
import Derived.Test.YtcjiejbndmnjaaaDoorD3
namespace Go.Proofs.YtcjiejbndmnjaaaDoor
open Go.RowKit

def IpOK (n : Int) : Prop := n ≤ 1000000 ∧ PrI n


set_option maxRecDepth 100000 in
theorem specIsPrime_any (n : Int) (w : World) : Calls Tryd.prog 9 #[.int .i64 n] w fun e w' => e = .returned (.bool (dec (IpOK n))) ∧ Ext w w' := by
  by_cases h : n ≤ 1000000
  · have d : decide (n ≤ 1000000) = true := by simpa using h
    have F := Lib.hid (dec_congr (p := IpOK n) (q := PrI n) ⟨fun k => k.2, fun k => ⟨h, k⟩⟩)
    go_enter Tryd.func9, Tryd.ntmps9
    go_wp2_with (go_at_call 21; (with_reducible refine (nuPrime_any _ (by omega) _).mono ?_); rintro e w' ⟨rfl, rfl⟩)
    go_ret
    exact ⟨ret_bool F.out.symm, Ext.rfl' w⟩
  · have d : decide (n ≤ 1000000) = false := by simpa using h
    have F := Lib.hid (dec_false (p := IpOK n) fun k => h k.1)
    go_enter Tryd.func9, Tryd.ntmps9
    go_wp2
    go_ret
    exact ⟨ret_bool F.out.symm, Ext.rfl' w⟩


set_option maxRecDepth 100000 in
theorem isPrime_any (n : Int) (w : World) (hT : Tp w) : Calls Tryd.prog 10 #[.int .i64 n] w fun e w' => e = .returned (.bool (dec (IpOK n))) ∧ Ext w w' := by
  have HT := Lib.hid hT
  by_cases h : n ≤ 1000000
  · have d : decide (n ≤ 1000000) = true := by simpa using h
    have F := Lib.hid (dec_congr (p := IpOK n) (q := PrI n) ⟨fun k => k.2, fun k => ⟨h, k⟩⟩)
    go_enter Tryd.func10, Tryd.ntmps10
    go_wp2_with (go_at_call 22; (with_reducible refine (isPrimeAny_any _ (by omega) _ HT.out).mono ?_); rintro e w' ⟨rfl, rfl⟩)
    go_ret
    exact ⟨ret_bool F.out.symm, Ext.rfl' w⟩
  · have d : decide (n ≤ 1000000) = false := by simpa using h
    have F := Lib.hid (dec_false (p := IpOK n) fun k => h k.1)
    go_enter Tryd.func10, Tryd.ntmps10
    go_wp2
    go_ret
    exact ⟨ret_bool F.out.symm, Ext.rfl' w⟩


/-- The least prime number that is at least n. -/
def NP (n a : Nat) : Prop := n ≤ a ∧ Pr a ∧ ∀ b, n ≤ b → b < a → ¬Pr b
open Classical in
noncomputable def nextP (n : Nat) : Nat := if h : ∃ a, NP n a then h.choose else 0
theorem nextP_eq {n a : Nat} (h : NP n a) : nextP n = a := by
  have hex : ∃ a, NP n a := ⟨a, h⟩
  rw [nextP, dif_pos hex]
  have h2 := hex.choose_spec
  generalize hex.choose = b at h2
  rcases Nat.lt_trichotomy b a with hl | he | hg
  · exact absurd h2.2.1 (h.2.2 b h2.1 hl)
  · exact he
  · exact absurd h.2.1 (h2.2.2 a h.1 hg)

set_option maxHeartbeats 400000 in
set_option maxRecDepth 100000 in
theorem nuNext_any (n : Nat) (hn : n ≤ 1000000) (w : World) : Calls Tryd.prog 24 #[.int .i64 n] w fun e w' => e = .returned (.int .i64 (nextP n)) ∧ w = w' := by
  have HM := Lib.hid million_pr
  go_enter Tryd.func24, Tryd.ntmps24
  go_wp2
  go_loop [0] (fun x => ∃ a : Nat, n ≤ a ∧ a ≤ 1000003 ∧ x = .int .i64 (a : Int) ∧ Hid (∀ b, n ≤ b → b < a → ¬Pr b)) (fun x => 1000010 - (intOf x).toNat)
  case atStart => exact ⟨n, Nat.le_refl _, by omega, rfl, fun b h1 h2 => absurd h2 (by omega)⟩
  case round =>
    obtain ⟨a, ha, ha2, rfl, Hr⟩ := hrel
    by_cases hp : Pr a
    · have D := Lib.hid (dec_true (prI_nat.2 hp))
      have E := Lib.hid (nextP_eq ⟨ha, hp, Hr.out⟩)
      clear hp
      go_wp2_with (go_at_call 21; (with_reducible refine (nuPrime_any _ (by omega) _).mono ?_); rintro e w' ⟨rfl, rfl⟩; rw [D.out])
      go_ret
      exact ⟨ret_i (by rw [E.out]), rfl⟩
    · have D := Lib.hid (dec_false (p := PrI (a : Int)) fun h => hp (prI_nat.1 h))
      have hne : a ≠ 1000003 := fun e => hp (by rw [e]; exact HM.out)
      have HP := Lib.hid hp
      clear hp
      go_wp2_with (go_at_call 21; (with_reducible refine (nuPrime_any _ (by omega) _).mono ?_); rintro e w' ⟨rfl, rfl⟩; rw [D.out])
      go_round
      case rel => exact ⟨a + 1, by omega, by omega, by go_num, fun b h1 h2 => by
        by_cases e : b = a
        · subst e; exact HP.out
        · exact Hr.out b h1 (by omega)⟩
      case measure => simp [intOf]; omega

def NpOK (n : Int) : Prop := InB n 0 1000000
noncomputable def npAns (n : Int) : Int := ifP (NpOK n) (nextP n.toNat)

set_option maxRecDepth 100000 in
theorem specNextPrime_any (n : Int) (w : World) : Calls Tryd.prog 11 #[.int .i64 n] w fun e w' => e = .returned (.tuple #[.int .i64 (npAns n), .bool (dec (NpOK n))]) ∧ Ext w w' := by
  by_cases h : InB n 0 1000000
  · have D := Lib.hid (dec_true h)
    have A := Lib.hid (show npAns n = (nextP n.toNat : Int) from ifP_t h)
    obtain ⟨n, rfl, hn⟩ : ∃ k : Nat, n = k ∧ k ≤ 1000000 := ⟨n.toNat, by have := h.1; omega, by have := h.2; omega⟩
    clear h
    go_enter Tryd.func11, Tryd.ntmps11
    go_wp2_with (first | (go_at_call 23; (with_reducible refine (l1In_any _ _ _ _).mono ?_); rintro e w' ⟨rfl, rfl⟩; rw [D.out]) | (go_at_call 24; (with_reducible refine (nuNext_any _ hn _).mono ?_); rintro e w' ⟨rfl, rfl⟩))
    go_ret2
    exact ⟨ret_ia A.out.symm D.out.symm, Ext.rfl' w⟩
  · have D := Lib.hid (dec_false h)
    have A := Lib.hid (show npAns n = 0 from ifP_f h)
    clear h
    go_enter Tryd.func11, Tryd.ntmps11
    go_wp2_with (go_at_call 23; (with_reducible refine (l1In_any _ _ _ _).mono ?_); rintro e w' ⟨rfl, rfl⟩; rw [D.out])
    go_ret2
    exact ⟨ret_ia A.out.symm D.out.symm, Ext.rfl' w⟩

set_option maxHeartbeats 400000 in
set_option maxRecDepth 100000 in
theorem nextPrime_any (n : Int) (w : World) (hT : Tp w) : Calls Tryd.prog 12 #[.int .i64 n] w fun e w' => e = .returned (.tuple #[.int .i64 (npAns n), .bool (dec (NpOK n))]) ∧ Ext w w' := by
  have HT := Lib.hid hT
  have HM := Lib.hid million_pr
  by_cases h : InB n 0 1000000
  · have D := Lib.hid (dec_true h)
    have F := Lib.hid (dec_true (p := NpOK n) h)
    have A := Lib.hid (show npAns n = (nextP n.toNat : Int) from ifP_t h)
    obtain ⟨n, rfl, hn⟩ : ∃ k : Nat, n = k ∧ k ≤ 1000000 := ⟨n.toNat, by have := h.1; omega, by have := h.2; omega⟩
    clear h
    go_enter Tryd.func12, Tryd.ntmps12
    go_wp2_with (go_at_call 25; (with_reducible refine (isBetween_any _ _ _ _).mono ?_); rintro e w' ⟨rfl, rfl⟩; rw [D.out])
    go_loop [0] (fun x => ∃ a : Nat, n ≤ a ∧ a ≤ 1000003 ∧ x = .int .i64 (a : Int) ∧ Hid (∀ b, n ≤ b → b < a → ¬Pr b)) (fun x => 1000010 - (intOf x).toNat)
    case atStart => exact ⟨n, Nat.le_refl _, by omega, rfl, fun b h1 h2 => absurd h2 (by omega)⟩
    case round =>
      obtain ⟨a, ha, ha2, rfl, Hr⟩ := hrel
      by_cases hp : Pr a
      · have D2 := Lib.hid (dec_true (prI_nat.2 hp))
        have E := Lib.hid (nextP_eq ⟨ha, hp, Hr.out⟩)
        clear hp
        go_wp2_with (go_at_call 22; (with_reducible refine (isPrimeAny_any _ (by omega) _ HT.out).mono ?_); rintro e w' ⟨rfl, rfl⟩; rw [D2.out])
        go_ret2
        exact ⟨ret_ia (by rw [A.out, Int.toNat_natCast, E.out]) F.out.symm, Ext.rfl' w⟩
      · have D2 := Lib.hid (dec_false (p := PrI (a : Int)) fun h => hp (prI_nat.1 h))
        have hne : a ≠ 1000003 := fun e => hp (by rw [e]; exact HM.out)
        have HP := Lib.hid hp
        clear hp
        go_wp2_with (go_at_call 22; (with_reducible refine (isPrimeAny_any _ (by omega) _ HT.out).mono ?_); rintro e w' ⟨rfl, rfl⟩; rw [D2.out])
        go_round
        case rel => exact ⟨a + 1, by omega, by omega, by go_num, fun b h1 h2 => by
          by_cases e : b = a
          · subst e; exact HP.out
          · exact Hr.out b h1 (by omega)⟩
        case measure => simp [intOf]; omega
  · have D := Lib.hid (dec_false h)
    have A := Lib.hid (show npAns n = 0 from ifP_f h)
    have F := Lib.hid (dec_false (p := NpOK n) h)
    clear h
    go_enter Tryd.func12, Tryd.ntmps12
    go_wp2_with (go_at_call 25; (with_reducible refine (isBetween_any _ _ _ _).mono ?_); rintro e w' ⟨rfl, rfl⟩; rw [D.out])
    go_ret2
    exact ⟨ret_ia A.out.symm F.out.symm, Ext.rfl' w⟩
end Go.Proofs.YtcjiejbndmnjaaaDoor
