/- Primes: the model and the program answer the same. -/
import Derived.Test.YtcjiejbndmnjaaaDoorI1
import Derived.Test.YtcjiejbndmnjaaaDoorD2
import Derived.Laws.Rows
namespace Go.Proofs.YtcjiejbndmnjaaaDoor
open Go.RowKit

/-- A prime number. -/
def PrI (n : Int) : Prop := ∃ m : Nat, n = m ∧ Pr m
theorem prI_nat {m : Nat} : PrI (m : Int) ↔ Pr m := ⟨fun ⟨k, e, h⟩ => by obtain rfl : m = k := by omega
                                                                         exact h, fun h => ⟨m, rfl, h⟩⟩
theorem prI_small {n : Int} (h : n ≤ 1) : ¬PrI n := fun ⟨m, e, h2, _⟩ => by omega

set_option maxHeartbeats 800000 in
set_option maxRecDepth 100000 in
theorem nuPrime_any (n : Int) (hn : n ≤ 2000000) (w : World) : Calls Tryd.prog 21 #[.int .i64 n] w fun e w' => e = .returned (.bool (dec (PrI n))) ∧ w = w' := by
  by_cases h1 : 1 < n
  · obtain ⟨m, rfl⟩ : ∃ m : Nat, n = m := ⟨n.toNat, by omega⟩
    go_enter Tryd.func21, Tryd.ntmps21
    go_wp2
    go_loop [3] (fun d => ∃ d' : Nat, 2 ≤ d' ∧ d' ≤ 1500 ∧ d = .int .i64 (d' : Int) ∧ Hid (∀ e, 2 ≤ e → e < d' → m % e ≠ 0)) (fun d => 2000 - (intOf d).toNat)
    case atStart => exact ⟨2, by omega, by omega, rfl, fun e h1 h2 => absurd h2 (by omega)⟩
    case round =>
      obtain ⟨d, hd2, hd, rfl, Hr⟩ := hrel
      have e0 : ((d * d : Nat) : Int) = (d : Int) * (d : Int) := Int.natCast_mul d d
      have hmul : d * d ≤ 1500 * 1500 := Nat.mul_le_mul hd hd
      have m0 : 0 ≤ (d : Int) * (d : Int) := by omega
      have m1 : (d : Int) * (d : Int) ≤ 2250000 := by omega
      by_cases hle : d * d ≤ m
      · have hle2 : (d : Int) * (d : Int) ≤ (m : Int) := by omega
        have hd14 : d ≤ 1450 := by
          rcases Nat.lt_or_ge 1450 d with h | h
          · have := Nat.mul_le_mul (show 1451 ≤ d by omega) (show 1451 ≤ d by omega); omega
          · exact h
        by_cases hz : m % d = 0
        · have hzb : ((m : Int) % (d : Int) == 0) = true := by
            have : ((m : Int) % (d : Int)) = ((m % d : Nat) : Int) := rfl
            rw [this, hz]; rfl
          have F := Lib.hid (dec_false (p := PrI (m : Int)) fun h => (prI_nat.1 h).2 d hd2 hle hz)
          clear hz e0 hmul
          go_wp2
          go_ret
          exact ⟨ret_bool F.out.symm, rfl⟩
        · have hzb : ((m : Int) % (d : Int) == 0) = false := by
            have : ((m : Int) % (d : Int)) = ((m % d : Nat) : Int) := rfl
            rw [this]; exact beq_eq_false_iff_ne.2 (by omega)
          have HZ := Lib.hid hz
          clear hz e0 hmul
          go_wp2
          go_round
          case rel => exact ⟨d + 1, by omega, by omega, by go_num, fun e h1 h2 => by
            by_cases ee : e = d
            · subst ee; exact HZ.out
            · exact Hr.out e h1 (by omega)⟩
          case measure => simp [intOf]; omega
      · have hle2 : ¬(d : Int) * (d : Int) ≤ (m : Int) := by omega
        have F := Lib.hid (dec_true (prI_nat.2 (show Pr m from ⟨by omega, fun e h1 h2 => Hr.out e h1 (by
          rcases Nat.lt_or_ge e d with h | h
          · exact h
          · have := Nat.mul_le_mul h h; omega)⟩)))
        clear e0 hmul hle
        go_wp2
        go_ret
        exact ⟨ret_bool F.out.symm, rfl⟩
  · have F := Lib.hid (dec_false (prI_small (n := n) (by omega)))
    have h4 : ¬(4 : Int) ≤ n := by omega
    go_enter Tryd.func21, Tryd.ntmps21
    go_wp2
    go_loop [3] (fun d => d = .int .i64 2) (fun _ => 0)
    case atStart => rfl
    case round =>
      obtain rfl := hrel
      go_wp2
      go_ret
      exact ⟨ret_bool (by rw [F.out]; exact decide_eq_false (by omega)), rfl⟩

def ptb (k : Nat) : Nat := tbl.getD k 0
theorem ptb_mem {k : Nat} (h : k < 11) : ptb k ∈ tbl := by
  have h2 : ∀ k, k < 11 → ptb k ∈ tbl := by decide
  exact h2 k h
theorem mem_ptb {p : Nat} (h : p ∈ tbl) : ∃ k, k < 11 ∧ ptb k = p := by
  have h2 : ∀ p ∈ tbl, ∃ k, k < 11 ∧ ptb k = p := by decide
  exact h2 p h
theorem ptb_range {k : Nat} (h : k < 11) : 2 ≤ ptb k ∧ ptb k ≤ 31 := by
  have h2 : ∀ k, k < 11 → 2 ≤ ptb k ∧ ptb k ≤ 31 := by decide
  exact h2 k h
theorem idx_ptb (k : Nat) (h : k < 11) (w : World) : (Instr.index 44 (.agg pcells) (.int .i64 (k : Int))).run Tryd.prog w = .ok (.int .i64 (ptb k : Int)) w := by
  rcases (by omega : k = 0 ∨ k = 1 ∨ k = 2 ∨ k = 3 ∨ k = 4 ∨ k = 5 ∨ k = 6 ∨ k = 7 ∨ k = 8 ∨ k = 9 ∨ k = 10) with rfl | rfl | rfl | rfl | rfl | rfl | rfl | rfl | rfl | rfl | rfl <;> (clear h; kernel_rfl)

set_option maxHeartbeats 1600000 in
set_option maxRecDepth 100000 in
theorem isPrimeAny_any (n : Int) (hn : n ≤ 2000000) (w : World) (hT : Tp w) : Calls Tryd.prog 22 #[.int .i64 n] w fun e w' => e = .returned (.bool (dec (PrI n))) ∧ w = w' := by
  obtain ⟨t, fr, hg⟩ := hT
  have c10 : w.cell? ⟨0, 10, none⟩ = some (.int .i64 31) := by rw [cell_of_row w _ _ _ _ _ hg]; rfl
  by_cases h1 : 1 < n
  · obtain ⟨m, rfl⟩ : ∃ m : Nat, n = m := ⟨n.toNat, by omega⟩
    go_enter Tryd.func22, Tryd.ntmps22
    go_wp2_with (refine wpList_load_row rfl 44 _ rfl 0 rfl t pcells fr _ hg Tryd.underlying44 rfl (by kernel_rfl) ?_)
    go_loop [9] (fun i => ∃ k : Nat, k ≤ 11 ∧ i = .int .i64 (k : Int) ∧ Hid (∀ j, j < k → m % ptb j ≠ 0)) (fun i => 11 - (intOf i).toNat)
    case atStart => exact ⟨0, by omega, rfl, fun j hj => absurd hj (by omega)⟩
    case round =>
      obtain ⟨k, hk, rfl, Hr⟩ := hrel
      by_cases hlt : k < 11
      · have hix := idx_ptb k hlt
        have hp := ptb_mem hlt
        have hpr := small_pr _ hp
        obtain ⟨hr1, hr2⟩ := ptb_range hlt
        have HK := Lib.hid (show ptb k = ptb k from rfl)
        generalize hpe : ptb k = p at hix hp hpr hr1 hr2
        have HPE := Lib.hid hpe
        clear hpe HK hp
        by_cases hz : m % p = 0
        · have hzb : ((m : Int) % (p : Int) == 0) = true := by
            have : ((m : Int) % (p : Int)) = ((m % p : Nat) : Int) := rfl
            rw [this, hz]; rfl
          by_cases hmp : m = p
          · have heb : ((m : Int) == (p : Int)) = true := beq_iff_eq.2 (by omega)
            have F := Lib.hid (dec_true (prI_nat.2 (hmp ▸ hpr : Pr m)))
            clear hz hmp hpr
            go_wp2
            go_ret
            exact ⟨ret_bool F.out.symm, rfl⟩
          · have heb : ((m : Int) == (p : Int)) = false := beq_eq_false_iff_ne.2 (by omega)
            have hlt2 : p < m := by
              have := Nat.le_of_dvd (by omega) (Nat.dvd_of_mod_eq_zero hz)
              omega
            have F := Lib.hid (dec_false (p := PrI (m : Int)) fun h => not_pr hr1 hlt2 hz (prI_nat.1 h))
            clear hz hmp hpr
            go_wp2
            go_ret
            exact ⟨ret_bool F.out.symm, rfl⟩
        · have hzb : ((m : Int) % (p : Int) == 0) = false := by
            have : ((m : Int) % (p : Int)) = ((m % p : Nat) : Int) := rfl
            rw [this]; exact beq_eq_false_iff_ne.2 (by omega)
          have HZ := Lib.hid hz
          clear hz hpr
          go_wp2
          go_round
          case rel => exact ⟨k + 1, by omega, by go_num, fun j hj => by
            by_cases ee : j = k
            · subst ee; rw [HPE.out]; exact HZ.out
            · exact Hr.out j (by omega)⟩
          case measure => simp [intOf]; omega
      · obtain rfl : k = 11 := by omega
        have HS := Lib.hid (show ∀ p ∈ tbl, m % p ≠ 0 from fun p hp => by
          obtain ⟨j, hj, rfl⟩ := mem_ptb hp
          exact Hr.out j hj)
        clear hlt
        go_wp2
        go_loop [5] (fun d => ∃ d' : Nat, 33 ≤ d' ∧ d' ≤ 1500 ∧ d = .int .i64 (d' : Int) ∧ Hid (d' % 2 = 1 ∧ ∀ e, 33 ≤ e → e % 2 = 1 → e < d' → m % e ≠ 0)) (fun d => 2000 - (intOf d).toNat)
        case atStart => exact ⟨33, by omega, by omega, rfl, rfl, fun e h1 _ h2 => absurd h2 (by omega)⟩
        case round =>
          obtain ⟨d, hd2, hd, rfl, Hq⟩ := hrel
          have e0 : ((d * d : Nat) : Int) = (d : Int) * (d : Int) := Int.natCast_mul d d
          have hmul : d * d ≤ 1500 * 1500 := Nat.mul_le_mul hd hd
          have m0 : 0 ≤ (d : Int) * (d : Int) := by omega
          have m1 : (d : Int) * (d : Int) ≤ 2250000 := by omega
          by_cases hle : d * d ≤ m
          · have hle2 : (d : Int) * (d : Int) ≤ (m : Int) := by omega
            have hd14 : d ≤ 1450 := by
              rcases Nat.lt_or_ge 1450 d with h | h
              · have := Nat.mul_le_mul (show 1451 ≤ d by omega) (show 1451 ≤ d by omega); omega
              · exact h
            by_cases hz : m % d = 0
            · have hzb : ((m : Int) % (d : Int) == 0) = true := by
                have : ((m : Int) % (d : Int)) = ((m % d : Nat) : Int) := rfl
                rw [this, hz]; rfl
              have F := Lib.hid (dec_false (p := PrI (m : Int)) fun h => (prI_nat.1 h).2 d (by omega) hle hz)
              clear hz e0 hmul
              go_wp2
              go_ret
              exact ⟨ret_bool F.out.symm, rfl⟩
            · have hzb : ((m : Int) % (d : Int) == 0) = false := by
                have : ((m : Int) % (d : Int)) = ((m % d : Nat) : Int) := rfl
                rw [this]; exact beq_eq_false_iff_ne.2 (by omega)
              have HZ := Lib.hid hz
              clear hz e0 hmul
              go_wp2
              go_round
              case rel => exact ⟨d + 2, by omega, by omega, by go_num, by have := Hq.out.1; omega, fun e h1 h3 h2 => by
                by_cases ee : e = d
                · subst ee; exact HZ.out
                · exact Hq.out.2 e h1 h3 (by have := Hq.out.1; omega)⟩
              case measure => simp [intOf]; omega
          · have hle2 : ¬(d : Int) * (d : Int) ≤ (m : Int) := by omega
            have F := Lib.hid (dec_true (prI_nat.2 (pr_of (by omega) HS.out fun e h1 h3 h2 => Hq.out.2 e h1 h3 (by
              rcases Nat.lt_or_ge e d with h | h
              · exact h
              · have := Nat.mul_le_mul h h; omega))))
            clear e0 hmul hle
            go_wp2
            go_ret
            exact ⟨ret_bool F.out.symm, rfl⟩
  · have F := Lib.hid (dec_false (prI_small (n := n) (by omega)))
    go_enter Tryd.func22, Tryd.ntmps22
    go_wp2
    go_ret
    exact ⟨ret_bool F.out.symm, rfl⟩
end Go.Proofs.YtcjiejbndmnjaaaDoor
