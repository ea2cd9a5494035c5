/- DigitsOf: the model and the program answer the same. -/
import Derived.Test.YtcjiejbndmnjaaaI1
namespace Go.Proofs.Ytcjiejbndmnjaaa
open Go.RowKit

open Classical in
/-- l where P holds, and nothing elsewhere. -/
noncomputable def ifL (P : Prop) (l : List Int) : List Int := if P then l else []
theorem ifL_t {P : Prop} {l : List Int} (h : P) : ifL P l = l := if_pos h
theorem ifL_f {P : Prop} {l : List Int} (h : ¬P) : ifL P l = [] := if_neg h
theorem ifL_len {P : Prop} {l : List Int} {n : Nat} (h : l.length ≤ n) : (ifL P l).length ≤ n := by
  unfold ifL
  split
  · exact h
  · exact Nat.zero_le _

def dgs (n base count : Nat) : List Int := (List.range count).map fun i => ((n / base ^ i % base : Nat) : Int)
theorem dgs_length (n base count : Nat) : (dgs n base count).length = count := by simp [dgs]
theorem gi_dgs {n base count i : Nat} (h : i < count) : gi (dgs n base count) i = ((n / base ^ i % base : Nat) : Int) := by simp [gi, dgs, h]
def DoIn (n base count : Int) : Prop := Wh n ∧ InB base 2 1000 ∧ InB count 0 60
def DoOK (n base count : Int) : Prop := DoIn n base count ∧ n.toNat / base.toNat ^ count.toNat = 0
noncomputable def doAns (n base count : Int) : List Int := ifL (DoOK n base count) (dgs n.toNat base.toNat count.toNat)
theorem doAns_len (n base count : Int) : (doAns n base count).length ≤ 1048576 := by
  by_cases h : DoOK n base count
  · refine ifL_len ?_
    rw [dgs_length]
    have := h.1.2.2.2
    omega
  · rw [doAns, ifL_f h]; exact Nat.zero_le _
def dgRow (n base k i : Nat) : Value := if i < k then .int .i64 ((n / base ^ i % base : Nat) : Int) else .int .i64 0
theorem dgRow_set {w : World} {b n base k q c : Nat} (hq : q = n / base ^ k) (h : w.rowIs b 3 c (dgRow n base k)) : (w.setCell ⟨b, k, none⟩ (.int .i64 ((q : Int) % (base : Int)))).rowIs b 3 c (dgRow n base (k + 1)) :=
  (h.set k _).congr fun i _ => by
    unfold dgRow
    by_cases e : i = k
    · subst e
      rw [if_pos rfl, if_pos (by omega), hq]
      rfl
    · rw [if_neg e]
      by_cases hlt : i < k
      · rw [if_pos hlt, if_pos (by omega)]
      · rw [if_neg hlt, if_neg (by omega)]
theorem dg_next {n base k q : Nat} (hq : q = n / base ^ k) : q / base = n / base ^ (k + 1) := by
  rw [hq, Nat.div_div_eq_div_mul, Nat.pow_succ]
theorem dg_own {w : World} {b n base c : Nat} (hc : c ≤ 60) (hb0 : 2 ≤ base) (hb : base ≤ 1000) (h : w.rowIs b 3 c (dgRow n base c)) : OwnI w (.slice (some ⟨b, 0, none⟩) c c) (dgs n base c) [b] := by
  refine ⟨?_, fun i hi => ?_⟩
  · have := own_made (k := 1) (f := fun i => .int .i64 (gi (dgs n base c) i)) (by simpa using h) (small_max (by omega)) (fun i hi => by simp only [dgRow]; rw [if_pos (by omega), gi_dgs (by omega)])
    rw [dgs_length]; exact this
  · rw [dgs_length] at hi
    rw [gi_dgs hi]
    have := Nat.mod_lt (n / base ^ i) (show 0 < base by omega)
    exact ⟨by omega, by omega⟩

set_option maxHeartbeats 800000 in
set_option maxRecDepth 100000 in
theorem nuDigits_any (n base count : Nat) (hn : n ≤ 1000000000000) (hb0 : 2 ≤ base) (hb : base ≤ 1000) (hc : count ≤ 60) (w : World) :
    Calls Try.prog 54 #[.int .i64 n, .int .i64 base, .int .i64 count] w fun e w' => ∃ v' bs, e = .returned v' ∧ Ext w w' ∧ OwnI w' v' (dgs n base count) bs ∧ Fresh w bs := by
  have hmk := run_make_row' (P := Try.prog) 27 3 (.int .i64 0) 8 Try.underlying27 Try.info3 rfl .i64 .i64 count (by omega) (by omega)
  go_enter Try.func54, Try.ntmps54
  go_wp2
  clear hmk
  go_loopg [0, 13] count (fun g m i wr => ∃ k q : Nat, k ≤ count ∧ q ≤ 1000000000000 ∧ g = count - k ∧ i = .int .i64 k ∧ m = .int .i64 q ∧ Hid (q = n / base ^ k ∧ Ext w wr ∧ wr.rowIs w.heap.size 3 count (dgRow n base k)))
  case atStart => exact ⟨0, n, Nat.zero_le _, hn, rfl, rfl, rfl, by rw [Nat.pow_zero, Nat.div_one], (Ext.rfl' w).alloc' _, (World.rowIs_made w _ _ _).congr fun i _ => by unfold dgRow; rw [if_neg (by omega)]⟩
  case round =>
    obtain ⟨k, q, hk, hq, rfl, rfl, rfl, Hr⟩ := hrel
    by_cases hlt : k < count
    · have f1 := Hr.out.2.2.cell hlt
      have f2 := Hr.out.2.2.frozen k
      have HS := Lib.hid (And.intro (dg_next Hr.out.1) (And.intro (Hr.out.2.1.store (Nat.le_refl _) (p := ⟨w.heap.size, k, none⟩) (.int .i64 ((q : Int) % (base : Int)))) (dgRow_set Hr.out.1 Hr.out.2.2)))
      have hd := Nat.div_le_self q base
      have hd1 : (0 : Int) ≤ (q : Int) / (base : Int) := Int.ediv_nonneg (by omega) (by omega)
      have hd2 : (q : Int) / (base : Int) ≤ 1000000000000 := by show ((q / base : Nat) : Int) ≤ _; omega
      go_wp2
      go_roundg (count - (k + 1))
      case measure => omega
      case rel => exact ⟨k + 1, q / base, by omega, by omega, rfl, by go_num, by go_num, HS.out⟩
    · obtain rfl : k = count := by omega
      go_wp2
      go_ret
      exact ⟨_, [w.heap.size], rfl, Hr.out.2.1, dg_own hc hb0 hb Hr.out.2.2, by simp, by simp⟩

set_option maxHeartbeats 1600000 in
set_option maxRecDepth 100000 in
theorem specDigitsOf_any {w : World} (n base count : Int) : Calls Try.prog 21 #[.int .i64 n, .int .i64 base, .int .i64 count] w (AnsL w (doAns n base count) (DoOK n base count)) := by
  by_cases h0 : Wh n
  case neg =>
    have D0 := Lib.hid (dec_false h0)
    have F := Lib.hid (dec_false (p := DoOK n base count) fun h => h0 h.1.1)
    have A := Lib.hid (ifL_f (P := DoOK n base count) (l := dgs n.toNat base.toNat count.toNat) fun h => h0 h.1.1)
    clear h0
    go_enter Try.func21, Try.ntmps21
    go_wp2_with (first | (go_at_call 46; (with_reducible refine (nuWhole_any _ _).mono ?_); rintro e w' ⟨rfl, rfl⟩; first | rw [D0.out]) | (go_at_call 50; (with_reducible refine (l1In_any _ _ _ _).mono ?_); rintro e w' ⟨rfl, rfl⟩; first | rw [D0.out]))
    go_ret2
    exact AnsL.no F.out A.out (Ext.rfl' w)
  case pos =>
    have D0 := Lib.hid (dec_true h0)
    by_cases h1 : InB base 2 1000
    case neg =>
      have D1 := Lib.hid (dec_false h1)
      have F := Lib.hid (dec_false (p := DoOK n base count) fun h => h1 h.1.2.1)
      have A := Lib.hid (ifL_f (P := DoOK n base count) (l := dgs n.toNat base.toNat count.toNat) fun h => h1 h.1.2.1)
      clear h0 h1
      go_enter Try.func21, Try.ntmps21
      go_wp2_with (first | (go_at_call 46; (with_reducible refine (nuWhole_any _ _).mono ?_); rintro e w' ⟨rfl, rfl⟩; first | rw [D0.out] | rw [D1.out]) | (go_at_call 50; (with_reducible refine (l1In_any _ _ _ _).mono ?_); rintro e w' ⟨rfl, rfl⟩; first | rw [D0.out] | rw [D1.out]))
      go_ret2
      exact AnsL.no F.out A.out (Ext.rfl' w)
    case pos =>
      have D1 := Lib.hid (dec_true h1)
      by_cases h2 : InB count 0 60
      case neg =>
        have D2 := Lib.hid (dec_false h2)
        have F := Lib.hid (dec_false (p := DoOK n base count) fun h => h2 h.1.2.2)
        have A := Lib.hid (ifL_f (P := DoOK n base count) (l := dgs n.toNat base.toNat count.toNat) fun h => h2 h.1.2.2)
        clear h0 h1 h2
        go_enter Try.func21, Try.ntmps21
        go_wp2_with (first | (go_at_call 46; (with_reducible refine (nuWhole_any _ _).mono ?_); rintro e w' ⟨rfl, rfl⟩; first | rw [D0.out] | rw [D1.out] | rw [D2.out]) | (go_at_call 50; (with_reducible refine (l1In_any _ _ _ _).mono ?_); rintro e w' ⟨rfl, rfl⟩; first | rw [D0.out] | rw [D1.out] | rw [D2.out]))
        go_ret2
        exact AnsL.no F.out A.out (Ext.rfl' w)
      case pos =>
        have D2 := Lib.hid (dec_true h2)
        obtain ⟨n, rfl, hn⟩ : ∃ k : Nat, n = k ∧ k ≤ 1000000000000 := ⟨n.toNat, by have := h0.1; omega, by have := h0.2; omega⟩
        obtain ⟨base, rfl, hb0, hb⟩ : ∃ k : Nat, base = k ∧ 2 ≤ k ∧ k ≤ 1000 := ⟨base.toNat, by have := h1.1; omega, by have := h1.1; omega, by have := h1.2; omega⟩
        obtain ⟨count, rfl, hc⟩ : ∃ k : Nat, count = k ∧ k ≤ 60 := ⟨count.toNat, by have := h2.1; omega, by have := h2.2; omega⟩
        have HI : Hid (DoIn (n : Int) (base : Int) (count : Int)) := ⟨h0, h1, h2⟩
        clear h0 h1 h2
        go_enter Try.func21, Try.ntmps21
        go_wp2_with (first | (go_at_call 46; (with_reducible refine (nuWhole_any _ _).mono ?_); rintro e w' ⟨rfl, rfl⟩; first | rw [D0.out] | rw [D1.out] | rw [D2.out]) | (go_at_call 50; (with_reducible refine (l1In_any _ _ _ _).mono ?_); rintro e w' ⟨rfl, rfl⟩; first | rw [D0.out] | rw [D1.out] | rw [D2.out]))
        go_loop [8, 9] (fun m i => ∃ k q : Nat, k ≤ count ∧ q ≤ 1000000000000 ∧ i = .int .i64 k ∧ m = .int .i64 q ∧ Hid (q = n / base ^ k)) (fun _ i => count - (intOf i).toNat)
        case atStart => exact ⟨0, n, Nat.zero_le _, hn, rfl, rfl, by show n = n / base ^ 0; rw [Nat.pow_zero, Nat.div_one]⟩
        case round =>
          obtain ⟨k, q, hk, hq, rfl, rfl, Hr⟩ := hrel
          by_cases hlt : k < count
          · have hd := Nat.div_le_self q base
            have hd1 : (0 : Int) ≤ (q : Int) / (base : Int) := Int.ediv_nonneg (by omega) (by omega)
            have hd2 : (q : Int) / (base : Int) ≤ 1000000000000 := by show ((q / base : Nat) : Int) ≤ _; omega
            go_wp2
            go_round
            case rel => exact ⟨k + 1, q / base, by omega, by omega, by go_num, by go_num, dg_next Hr.out⟩
            case measure => simp [intOf]; omega
          · obtain rfl : k = count := by omega
            by_cases hz : 0 < q
            · have F := Lib.hid (dec_false (p := DoOK (n : Int) base k) fun h => by have e : n / base ^ k = 0 := h.2; have := Hr.out; omega)
              have A := Lib.hid (ifL_f (P := DoOK (n : Int) base k) (l := dgs n base k) fun h => by have e : n / base ^ k = 0 := h.2; have := Hr.out; omega)
              go_wp2
              go_ret2
              exact AnsL.no F.out A.out (Ext.rfl' w)
            · have F := Lib.hid (dec_true (p := DoOK (n : Int) base k) ⟨HI.out, by show n / base ^ k = 0; have := Hr.out; omega⟩)
              have A := Lib.hid (ifL_t (P := DoOK (n : Int) base k) (l := dgs n base k) ⟨HI.out, by show n / base ^ k = 0; have := Hr.out; omega⟩)
              go_wp2_with (go_at_call 54; (with_reducible refine (nuDigits_any _ _ _ hn hb0 hb hc _).mono ?_); rintro e w1 ⟨v', bs, rfl, hx, ho, hf⟩; have HX := Lib.hid hx; have HO := Lib.hid ho; have HF := Lib.hid hf; clear hx ho hf)
              go_ret2
              exact AnsL.mk F.out HX.out (by rw [show doAns n base k = _ from A.out]; exact HO.out) HF.out

set_option maxHeartbeats 1600000 in
set_option maxRecDepth 100000 in
theorem digitsOf_any {w : World} (n base count : Int) : Calls Try.prog 22 #[.int .i64 n, .int .i64 base, .int .i64 count] w (AnsL w (doAns n base count) (DoOK n base count)) := by
  by_cases h0 : Wh n
  case neg =>
    have D0 := Lib.hid (dec_false h0)
    have F := Lib.hid (dec_false (p := DoOK n base count) fun h => h0 h.1.1)
    have A := Lib.hid (ifL_f (P := DoOK n base count) (l := dgs n.toNat base.toNat count.toNat) fun h => h0 h.1.1)
    clear h0
    go_enter Try.func22, Try.ntmps22
    go_wp2_with (first | (go_at_call 48; (with_reducible refine (isWhole_any _ _).mono ?_); rintro e w' ⟨rfl, rfl⟩; first | rw [D0.out]) | (go_at_call 52; (with_reducible refine (isBetween_any _ _ _ _).mono ?_); rintro e w' ⟨rfl, rfl⟩; first | rw [D0.out]))
    go_ret2
    exact AnsL.no F.out A.out (Ext.rfl' w)
  case pos =>
    have D0 := Lib.hid (dec_true h0)
    by_cases h1 : InB base 2 1000
    case neg =>
      have D1 := Lib.hid (dec_false h1)
      have F := Lib.hid (dec_false (p := DoOK n base count) fun h => h1 h.1.2.1)
      have A := Lib.hid (ifL_f (P := DoOK n base count) (l := dgs n.toNat base.toNat count.toNat) fun h => h1 h.1.2.1)
      clear h0 h1
      go_enter Try.func22, Try.ntmps22
      go_wp2_with (first | (go_at_call 48; (with_reducible refine (isWhole_any _ _).mono ?_); rintro e w' ⟨rfl, rfl⟩; first | rw [D0.out] | rw [D1.out]) | (go_at_call 52; (with_reducible refine (isBetween_any _ _ _ _).mono ?_); rintro e w' ⟨rfl, rfl⟩; first | rw [D0.out] | rw [D1.out]))
      go_ret2
      exact AnsL.no F.out A.out (Ext.rfl' w)
    case pos =>
      have D1 := Lib.hid (dec_true h1)
      by_cases h2 : InB count 0 60
      case neg =>
        have D2 := Lib.hid (dec_false h2)
        have F := Lib.hid (dec_false (p := DoOK n base count) fun h => h2 h.1.2.2)
        have A := Lib.hid (ifL_f (P := DoOK n base count) (l := dgs n.toNat base.toNat count.toNat) fun h => h2 h.1.2.2)
        clear h0 h1 h2
        go_enter Try.func22, Try.ntmps22
        go_wp2_with (first | (go_at_call 48; (with_reducible refine (isWhole_any _ _).mono ?_); rintro e w' ⟨rfl, rfl⟩; first | rw [D0.out] | rw [D1.out] | rw [D2.out]) | (go_at_call 52; (with_reducible refine (isBetween_any _ _ _ _).mono ?_); rintro e w' ⟨rfl, rfl⟩; first | rw [D0.out] | rw [D1.out] | rw [D2.out]))
        go_ret2
        exact AnsL.no F.out A.out (Ext.rfl' w)
      case pos =>
        have D2 := Lib.hid (dec_true h2)
        obtain ⟨n, rfl, hn⟩ : ∃ k : Nat, n = k ∧ k ≤ 1000000000000 := ⟨n.toNat, by have := h0.1; omega, by have := h0.2; omega⟩
        obtain ⟨base, rfl, hb0, hb⟩ : ∃ k : Nat, base = k ∧ 2 ≤ k ∧ k ≤ 1000 := ⟨base.toNat, by have := h1.1; omega, by have := h1.1; omega, by have := h1.2; omega⟩
        obtain ⟨count, rfl, hc⟩ : ∃ k : Nat, count = k ∧ k ≤ 60 := ⟨count.toNat, by have := h2.1; omega, by have := h2.2; omega⟩
        have HI : Hid (DoIn (n : Int) (base : Int) (count : Int)) := ⟨h0, h1, h2⟩
        clear h0 h1 h2
        have hmk := run_make_row' (P := Try.prog) 27 3 (.int .i64 0) 8 Try.underlying27 Try.info3 rfl .i64 .i64 count (by omega) (by omega)
        go_enter Try.func22, Try.ntmps22
        go_wp2_with (first | (go_at_call 48; (with_reducible refine (isWhole_any _ _).mono ?_); rintro e w' ⟨rfl, rfl⟩; first | rw [D0.out] | rw [D1.out] | rw [D2.out]) | (go_at_call 52; (with_reducible refine (isBetween_any _ _ _ _).mono ?_); rintro e w' ⟨rfl, rfl⟩; first | rw [D0.out] | rw [D1.out] | rw [D2.out]))
        clear hmk
        go_loopg [0, 27] count (fun g m i wr => ∃ k q : Nat, k ≤ count ∧ q ≤ 1000000000000 ∧ g = count - k ∧ i = .int .i64 k ∧ m = .int .i64 q ∧ Hid (q = n / base ^ k ∧ Ext w wr ∧ wr.rowIs w.heap.size 3 count (dgRow n base k)))
        case atStart => exact ⟨0, n, Nat.zero_le _, hn, rfl, rfl, rfl, by rw [Nat.pow_zero, Nat.div_one], (Ext.rfl' w).alloc' _, (World.rowIs_made w _ _ _).congr fun i _ => by unfold dgRow; rw [if_neg (by omega)]⟩
        case round =>
          obtain ⟨k, q, hk, hq, rfl, rfl, rfl, Hr⟩ := hrel
          by_cases hlt : k < count
          · have f1 := Hr.out.2.2.cell hlt
            have f2 := Hr.out.2.2.frozen k
            have HS := Lib.hid (And.intro (dg_next Hr.out.1) (And.intro (Hr.out.2.1.store (Nat.le_refl _) (p := ⟨w.heap.size, k, none⟩) (.int .i64 ((q : Int) % (base : Int)))) (dgRow_set Hr.out.1 Hr.out.2.2)))
            have hd := Nat.div_le_self q base
            have hd1 : (0 : Int) ≤ (q : Int) / (base : Int) := Int.ediv_nonneg (by omega) (by omega)
            have hd2 : (q : Int) / (base : Int) ≤ 1000000000000 := by show ((q / base : Nat) : Int) ≤ _; omega
            go_wp2
            go_roundg (count - (k + 1))
            case measure => omega
            case rel => exact ⟨k + 1, q / base, by omega, by omega, rfl, by go_num, by go_num, HS.out⟩
          · obtain rfl : k = count := by omega
            by_cases hz : 0 < q
            · have F := Lib.hid (dec_false (p := DoOK (n : Int) base k) fun h => by have e : n / base ^ k = 0 := h.2; have := Hr.out.1; omega)
              have A := Lib.hid (ifL_f (P := DoOK (n : Int) base k) (l := dgs n base k) fun h => by have e : n / base ^ k = 0 := h.2; have := Hr.out.1; omega)
              go_wp2
              go_ret2
              exact AnsL.no F.out A.out Hr.out.2.1
            · have F := Lib.hid (dec_true (p := DoOK (n : Int) base k) ⟨HI.out, by show n / base ^ k = 0; have := Hr.out.1; omega⟩)
              have A := Lib.hid (ifL_t (P := DoOK (n : Int) base k) (l := dgs n base k) ⟨HI.out, by show n / base ^ k = 0; have := Hr.out.1; omega⟩)
              go_wp2
              go_ret2
              exact AnsL.mk F.out Hr.out.2.1 (by rw [show doAns n base k = _ from A.out]; exact dg_own hc hb0 hb Hr.out.2.2) ⟨by simp, by simp⟩
end Go.Proofs.Ytcjiejbndmnjaaa
