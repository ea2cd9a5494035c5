/- SubsetAt: the model and the program answer the same. -/
import Derived.Test.YtcjiejbndmnjaaaI9
import Derived.Test.YtcjiejbndmnjaaaI8
namespace Go.Proofs.Ytcjiejbndmnjaaa
open Go.RowKit

def SaOK (n k r : Int) : Prop := SxOK n k ∧ InB r 0 (biAns n k - 1)
noncomputable def saAns (n k r : Int) : List Int := ifL (SaOK n k r) (sub 0 n.toNat k.toNat r.toNat)
theorem sa_no {n k : Nat} {r : Int} (hn : n ≤ 60) (hk : k ≤ 60) (h : ¬InB r 0 ((ch n k : Int) - 1)) : ¬SaOK n k r := fun ⟨_, h2⟩ => h (by rw [biAns_t hn hk] at h2; exact h2)
theorem sa_yes {n k r : Nat} (hn : n ≤ 60) (hk : k ≤ 60) (h : r < ch n k) : SaOK n k r := ⟨⟨⟨by omega, by omega⟩, by omega, by omega⟩, by rw [biAns_t hn hk]; exact ⟨by omega, by omega⟩⟩
theorem saAns_t {n k r : Nat} (hn : n ≤ 60) (hk : k ≤ 60) (h : r < ch n k) : saAns n k r = sub 0 n k r := ifL_t (sa_yes hn hk h)
theorem saAns_len (n k r : Int) : (saAns n k r).length ≤ 1048576 := by
  by_cases h : SaOK n k r
  · obtain ⟨a, b, rfl, rfl, ha, hb⟩ := sx_nat h.1
    have h2 := h.2
    rw [biAns_t ha hb] at h2
    obtain ⟨h3, h4⟩ := h2
    obtain ⟨q, rfl⟩ := Int.eq_ofNat_of_zero_le h3
    rw [saAns_t ha hb (by omega), sub_length _ _ _ _ (by omega)]
    omega
  · rw [saAns, ifL_f h]; exact Nat.zero_le _

set_option maxHeartbeats 1600000 in
set_option maxRecDepth 100000 in
theorem specSubsetAt_any {w : World} (n k r : Int) : Calls Try.prog 38 #[.int .i64 n, .int .i64 k, .int .i64 r] w (AnsL w (saAns n k r) (SaOK n k r)) := by
  by_cases h : SxOK n k
  case neg =>
    have D := Lib.hid (dec_false h)
    have F := Lib.hid (dec_false (p := SaOK n k r) fun k => h k.1)
    have A := Lib.hid (show saAns n k r = [] from ifL_f fun k => h k.1)
    clear h
    go_enter Try.func38, Try.ntmps38
    go_wp2_with (first | (go_at_call 57; (with_reducible refine (nuSixty_any _ _ _).mono ?_); rintro e w' ⟨rfl, rfl⟩; rw [D.out]))
    go_ret2
    exact AnsL.no F.out A.out (Ext.rfl' w)
  case pos =>
    have D := Lib.hid (dec_true h)
    obtain ⟨a, b, rfl, rfl, ha, hb⟩ := sx_nat h
    have hbd := ch_bound (n := a) (k := b) ha
    have B := Lib.hid (biAns_t ha hb)
    by_cases hr : InB r 0 ((ch a b : Int) - 1)
    · have E := Lib.hid (dec_true hr)
      obtain ⟨q, rfl⟩ := Int.eq_ofNat_of_zero_le hr.1
      have hq : q < ch a b := by have := hr.2; omega
      have F := Lib.hid (dec_true (sa_yes ha hb hq))
      have A := Lib.hid (saAns_t ha hb hq)
      clear h hr
      go_enter Try.func38, Try.ntmps38
      go_wp2_with (first | (go_at_call 57; (with_reducible refine (nuSixty_any _ _ _).mono ?_); rintro e w' ⟨rfl, rfl⟩; rw [D.out]) | (go_at_call 58; (with_reducible refine (nuChoose_any _ _ ha (by omega) _).mono ?_); rintro e w1 ⟨rfl, hw⟩; rw [Int.toNat_natCast]; have K1 := Lib.hid hw; clear hw) | (go_at_call 50; (with_reducible refine (l1In_any _ _ _ _).mono ?_); rintro e w' ⟨rfl, rfl⟩; rw [E.out]) | (go_at_call 60; (with_reducible refine (nuAt_any _ _ _ ha hb hq _).mono ?_); rintro e w2 ⟨v', bs, rfl, hx, ho, hf⟩; have K2 := Lib.hid (K1.out.trans' hx); have HO := Lib.hid ho; have HF := Lib.hid (hf.of K1.out.size); clear hx ho hf))
      go_ret2
      exact AnsL.mk F.out K2.out (by rw [A.out]; exact HO.out) HF.out
    · have E := Lib.hid (dec_false hr)
      have F := Lib.hid (dec_false (sa_no ha hb hr))
      have A := Lib.hid (show saAns a b r = [] from ifL_f (sa_no ha hb hr))
      clear h hr
      go_enter Try.func38, Try.ntmps38
      go_wp2_with (first | (go_at_call 57; (with_reducible refine (nuSixty_any _ _ _).mono ?_); rintro e w' ⟨rfl, rfl⟩; rw [D.out]) | (go_at_call 58; (with_reducible refine (nuChoose_any _ _ ha (by omega) _).mono ?_); rintro e w1 ⟨rfl, hw⟩; rw [Int.toNat_natCast]; have K1 := Lib.hid hw; clear hw) | (go_at_call 50; (with_reducible refine (l1In_any _ _ _ _).mono ?_); rintro e w' ⟨rfl, rfl⟩; rw [E.out]))
      go_ret2
      exact AnsL.no F.out A.out K1.out

set_option maxHeartbeats 1600000 in
set_option maxRecDepth 100000 in
theorem subsetAt_any {w : World} (n k r : Int) : Calls Try.prog 39 #[.int .i64 n, .int .i64 k, .int .i64 r] w (AnsL w (saAns n k r) (SaOK n k r)) := by
  by_cases h : SxOK n k
  case neg =>
    have D := Lib.hid (dec_false h)
    have F := Lib.hid (dec_false (p := SaOK n k r) fun k => h k.1)
    have A := Lib.hid (show saAns n k r = [] from ifL_f fun k => h k.1)
    clear h
    go_enter Try.func39, Try.ntmps39
    go_wp2_with (first | (go_at_call 30; (with_reducible refine (binomial_any _ _ _).mono ?_); rintro e w1 ⟨rfl, hw⟩; rw [D.out]; have K1 := Lib.hid hw; clear hw))
    go_ret2
    exact AnsL.no F.out A.out (K1.out)
  case pos =>
    have D := Lib.hid (dec_true h)
    obtain ⟨a, b, rfl, rfl, ha, hb⟩ := sx_nat h
    have hbd := ch_bound (n := a) (k := b) ha
    have B := Lib.hid (biAns_t ha hb)
    by_cases hr : InB r 0 ((ch a b : Int) - 1)
    · have E := Lib.hid (dec_true hr)
      obtain ⟨q, rfl⟩ := Int.eq_ofNat_of_zero_le hr.1
      have hq : q < ch a b := by have := hr.2; omega
      have F := Lib.hid (dec_true (sa_yes ha hb hq))
      have A := Lib.hid (saAns_t ha hb hq)
      clear h hr
      go_enter Try.func39, Try.ntmps39
      go_wp2_with (first | (go_at_call 30; (with_reducible refine (binomial_any _ _ _).mono ?_); rintro e w1 ⟨rfl, hw⟩; rw [D.out, B.out]; have K1 := Lib.hid hw; clear hw) | (go_at_call 52; (with_reducible refine (isBetween_any _ _ _ _).mono ?_); rintro e w' ⟨rfl, rfl⟩; rw [E.out]) | (go_at_call 61; (with_reducible refine (subsetWithRank_any _ _ _ ha hb hq _).mono ?_); rintro e w2 ⟨v', bs, rfl, hx, ho, hf⟩; have K2 := Lib.hid (K1.out.trans' hx); have HO := Lib.hid ho; have HF := Lib.hid (hf.of K1.out.size); clear hx ho hf))
      go_ret2
      exact AnsL.mk F.out K2.out (by rw [A.out]; exact HO.out) HF.out
    · have E := Lib.hid (dec_false hr)
      have F := Lib.hid (dec_false (sa_no ha hb hr))
      have A := Lib.hid (show saAns a b r = [] from ifL_f (sa_no ha hb hr))
      clear h hr
      go_enter Try.func39, Try.ntmps39
      go_wp2_with (first | (go_at_call 30; (with_reducible refine (binomial_any _ _ _).mono ?_); rintro e w1 ⟨rfl, hw⟩; rw [D.out, B.out]; have K1 := Lib.hid hw; clear hw) | (go_at_call 52; (with_reducible refine (isBetween_any _ _ _ _).mono ?_); rintro e w' ⟨rfl, rfl⟩; rw [E.out]))
      go_ret2
      exact AnsL.no F.out A.out K1.out
end Go.Proofs.Ytcjiejbndmnjaaa
