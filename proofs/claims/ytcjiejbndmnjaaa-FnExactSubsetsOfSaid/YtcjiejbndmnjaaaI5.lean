/- Binomial: the model and the program answer the same. -/
import Derived.Test.YtcjiejbndmnjaaaI1
import Derived.RegionTactic
namespace Go.Proofs.Ytcjiejbndmnjaaa
open Go.RowKit

/-- Row p of Pascal's triangle, from j + 1 on already the next one. -/
def binRow (p j i : Nat) : Value := .int .i64 ((if j < i then ch (p + 1) i else ch p i : Nat) : Int)
theorem binRow_next (p i : Nat) : binRow p 0 i = binRow (p + 1) (p + 2) i := by
  unfold binRow
  by_cases h : 0 < i
  · rw [if_pos h]
    by_cases h2 : p + 2 < i
    · rw [if_pos h2, ch_big (show p + 1 < i by omega), ch_big (show p + 1 + 1 < i by omega)]
    · rw [if_neg h2]
  · obtain rfl : i = 0 := by omega
    rw [if_neg (by omega), if_neg (by omega), ch_zero, ch_zero]
theorem binRow_get {p q : Nat} : binRow p (q + 1) (q + 1) = .int .i64 (ch p (q + 1)) ∧ binRow p (q + 1) q = .int .i64 (ch p q) := by
  unfold binRow
  rw [if_neg (by omega), if_neg (by omega)]
  exact ⟨rfl, rfl⟩
theorem binRow_set {w : World} {b p q n : Nat} (h : w.rowIs b 3 n (binRow p (q + 1))) : (w.setCell ⟨b, q + 1, none⟩ (.int .i64 ((ch p (q + 1) : Int) + (ch p q : Int)))).rowIs b 3 n (binRow p q) :=
  (h.set _ _).congr fun i _ => by
    unfold binRow
    by_cases e : i = q + 1
    · subst e
      rw [if_pos rfl, if_pos (by omega), ch_succ]
      congr 1; omega
    · rw [if_neg e]
      by_cases hlt : q < i
      · rw [if_pos hlt, if_pos (by omega)]
      · rw [if_neg hlt, if_neg (by omega)]

def chAns (n k : Nat) : Int := ch n k
set_option maxHeartbeats 800000 in
set_option maxRecDepth 100000 in
theorem nuChoose_any (n : Nat) (k : Int) (hn : n ≤ 60) (hk0 : 0 ≤ k) (w : World) :
    Calls Try.prog 58 #[.int .i64 n, .int .i64 k] w fun e w' => e = .returned (.int .i64 (ch n k.toNat)) ∧ Ext w w' := by
  obtain ⟨k, rfl⟩ := Int.eq_ofNat_of_zero_le hk0
  by_cases hkn : k ≤ n
  · have hmk := run_make_row' (P := Try.prog) 27 3 (.int .i64 0) 8 Try.underlying27 Try.info3 rfl .i64 .i64 (n + 1) (by omega) (by omega)
    have hcast : ((n + 1 : Nat) : Int) = (n : Int) + 1 := rfl
    rw [hcast] at hmk
    clear hcast
    have hrow := World.rowIs_made w (.int .i64 0) (n + 1) 3
    have p0 := hrow.cell (i := 0) (by omega)
    have p1 := hrow.frozen 0
    have hr1 := hrow.set 0 (.int .i64 1)
    rw [World.setCell_alloc_at _ _ _ _ _ rfl] at hr1
    have HR := Lib.hid hr1
    clear hr1
    clear hrow
    go_enter Try.func58, Try.ntmps58
    go_wp2
    clear hmk p0 p1
    go_loopg [6] n (fun g m wr => ∃ p : Nat, p ≤ n ∧ g = n - p ∧ m = .int .i64 ((p + 1 : Nat) : Int) ∧ Hid (Ext w wr ∧ wr.rowIs w.heap.size 3 (n + 1) (fun i => .int .i64 (ch p i))))
    case atStart =>
      refine ⟨0, Nat.zero_le _, rfl, rfl, ?_, ?_⟩
      · exact (Ext.rfl' w).alloc' _
      · refine HR.out.congr fun i _ => ?_
        by_cases e : i = 0
        · subst e; rw [if_pos rfl, ch_zero]; rfl
        · rw [if_neg e]
          obtain ⟨j, rfl⟩ : ∃ j, i = j + 1 := ⟨i - 1, by omega⟩
          rw [ch_none]; rfl
    case round =>
      obtain ⟨p, hp, rfl, rfl, Hr⟩ := hrel
      by_cases hlt : p < n
      · obtain ⟨wo, rfl⟩ : ∃ wo : World, wo = wr := ⟨_, rfl⟩
        have HO := Lib.hid Hr.out
        clear Hr
        go_wp2
        go_loopg [7] (p + 1) (fun g j wr => ∃ q : Nat, q ≤ p + 1 ∧ g = q ∧ j = .int .i64 (q : Int) ∧ Hid (Ext w wr ∧ wr.rowIs w.heap.size 3 (n + 1) (binRow p q)))
        case atStart => exact ⟨p + 1, Nat.le_refl _, rfl, rfl, HO.out.1, HO.out.2.congr fun i _ => by
          unfold binRow
          by_cases e : p + 1 < i
          · rw [if_pos e, ch_big (show p < i by omega), ch_big e]
          · rw [if_neg e]⟩
        case round =>
          obtain ⟨q, hq, hg, rfl, Hr⟩ := hrel
          by_cases h0 : 0 < q
          · obtain ⟨q, rfl⟩ : ∃ q', q = q' + 1 := ⟨q - 1, by omega⟩
            have c1 := Hr.out.2.cell (i := q + 1) (by omega)
            have c2 := Hr.out.2.cell (i := q) (by omega)
            have c3 := Hr.out.2.frozen (q + 1)
            rw [binRow_get.1] at c1
            rw [binRow_get.2] at c2
            have b1 := ch_bound (n := p) (k := q + 1) (by omega)
            have b2 := ch_bound (n := p) (k := q) (by omega)
            have HS := Lib.hid (And.intro ((Hr.out.1.store (Nat.le_refl _) (p := ⟨w.heap.size, q + 1, none⟩) (.int .i64 ((ch p (q + 1) : Int) + (ch p q : Int)))).drew') (binRow_set Hr.out.2).drew)
            have HG := Lib.hid hg
            clear hg
            go_wp2
            go_region
            clear c1 c2 c3
            go_wp2
            go_roundg q
            case measure => have := HG.out; omega
            case rel => exact ⟨q, by omega, rfl, by go_num, HS.out⟩
          · obtain rfl : q = 0 := by omega
            have HS := Lib.hid (And.intro Hr.out.1 (Hr.out.2.congr (g := binRow (p + 1) (p + 2)) fun i _ => binRow_next p i))
            clear hg h0
            go_wp2
            go_roundg (n - (p + 1))
            case measure => omega
            case rel => exact ⟨p + 1, by omega, rfl, by go_num, HS.out.1, HS.out.2.congr fun i _ => by
              unfold binRow
              by_cases e : p + 2 < i
              · rw [if_pos e, ch_big (show p + 1 < i by omega), ch_big (show p + 1 + 1 < i by omega)]
              · rw [if_neg e]⟩
      · obtain rfl : p = n := by omega
        have c1 := Hr.out.2.cell (i := k) (by omega)
        go_wp2
        go_ret
        exact ⟨rfl, Hr.out.1⟩
  · have Z := Lib.hid (ch_big (n := n) (k := k) (by omega))
    go_enter Try.func58, Try.ntmps58
    go_wp2
    go_ret
    exact ⟨ret_i (by rw [Int.toNat_natCast, Z.out]; rfl), Ext.rfl' w⟩

set_option maxHeartbeats 800000 in
set_option maxRecDepth 100000 in
theorem countSubsets_any (n k : Nat) (hn : n ≤ 60) (hk : k ≤ 60) (w : World) :
    Calls Try.prog 59 #[.int .i64 n, .int .i64 k] w fun e w' => e = .returned (.int .i64 (ch n k)) ∧ w = w' := by
  go_enter Try.func59, Try.ntmps59
  go_wp2
  go_loop [5, 8] (fun c i => ∃ q : Nat, q ≤ k ∧ i = .int .i64 (q : Int) ∧ c = .int .i64 (ch n q : Int)) (fun _ i => k - (intOf i).toNat)
  case atStart => exact ⟨0, Nat.zero_le _, rfl, by rw [ch_zero]; rfl⟩
  case round =>
    obtain ⟨q, hq, rfl, rfl⟩ := hrel
    by_cases hlt : q < k
    · have hm := ch_mul n q
      have hb := ch_bound (n := n) (k := q) hn
      have e : ∃ m : Int, (ch n q : Int) * ((n : Int) - (q : Int)) = m ∧ 0 ≤ m ∧ m ≤ 9223372036854775807 ∧ m / ((q : Int) + 1) = (ch n (q + 1) : Int) := by
        by_cases hqn : q ≤ n
        · refine ⟨((ch n (q + 1) * (q + 1) : Nat) : Int), ?_, by omega, ?_, ?_⟩
          · rw [hm, Int.natCast_mul, Int.natCast_sub hqn]
          · have h1 : ch n q * (n - q) ≤ ch n q * 60 := Nat.mul_le_mul_left _ (by omega)
            omega
          · rw [Int.natCast_mul, show ((q + 1 : Nat) : Int) = (q : Int) + 1 from rfl]
            exact Int.mul_ediv_cancel _ (by omega)
        · refine ⟨0, ?_, by omega, by omega, ?_⟩
          · rw [ch_big (show n < q by omega)]; simp
          · rw [ch_big (show n < q + 1 by omega)]; simp
      obtain ⟨m, e1, e2, e3, e4⟩ := e
      have E4 := Lib.hid e4
      clear hm e4
      go_wp2
      go_round
      case rel => exact ⟨q + 1, by omega, by go_num, by rw [E4.out]⟩
      case measure => simp [intOf]; omega
    · go_wp2
      go_ret
      obtain rfl : q = k := by omega
      exact ⟨rfl, rfl⟩

def SxOK (n k : Int) : Prop := InB n 0 60 ∧ InB k 0 60
noncomputable def biAns (n k : Int) : Int := ifP (SxOK n k) (ch n.toNat k.toNat)
theorem biAns_t {n k : Nat} (hn : n ≤ 60) (hk : k ≤ 60) : biAns n k = ch n k := ifP_t (P := SxOK n k) ⟨⟨by omega, by omega⟩, by omega, by omega⟩
theorem biAns_f {n k : Int} (h : ¬SxOK n k) : biAns n k = 0 := ifP_f h
theorem sx_nat {n k : Int} (h : SxOK n k) : ∃ a b : Nat, n = a ∧ k = b ∧ a ≤ 60 ∧ b ≤ 60 := by
  obtain ⟨⟨h1, h2⟩, h3, h4⟩ := h
  exact ⟨n.toNat, k.toNat, by omega, by omega, by omega, by omega⟩

set_option maxRecDepth 100000 in
theorem nuSixty_any (n k : Int) (w : World) : Calls Try.prog 57 #[.int .i64 n, .int .i64 k] w fun e w' => e = .returned (.bool (dec (SxOK n k))) ∧ w = w' := by
  by_cases h1 : InB n 0 60
  · have D := Lib.hid (dec_true h1)
    by_cases h2 : InB k 0 60
    · have E := Lib.hid (dec_true h2)
      have F := Lib.hid (dec_true (p := SxOK n k) ⟨h1, h2⟩)
      clear h1 h2
      go_enter Try.func57, Try.ntmps57
      go_wp2_with (go_at_call 50; (with_reducible refine (l1In_any _ _ _ _).mono ?_); rintro e w' ⟨rfl, rfl⟩; first | rw [D.out] | rw [E.out])
      go_ret
      exact ⟨ret_bool F.out.symm, rfl⟩
    · have E := Lib.hid (dec_false h2)
      have F := Lib.hid (dec_false (p := SxOK n k) fun h => h2 h.2)
      clear h1 h2
      go_enter Try.func57, Try.ntmps57
      go_wp2_with (go_at_call 50; (with_reducible refine (l1In_any _ _ _ _).mono ?_); rintro e w' ⟨rfl, rfl⟩; first | rw [D.out] | rw [E.out])
      go_ret
      exact ⟨ret_bool F.out.symm, rfl⟩
  · have D := Lib.hid (dec_false h1)
    have F := Lib.hid (dec_false (p := SxOK n k) fun h => h1 h.1)
    clear h1
    go_enter Try.func57, Try.ntmps57
    go_wp2_with (go_at_call 50; (with_reducible refine (l1In_any _ _ _ _).mono ?_); rintro e w' ⟨rfl, rfl⟩; rw [D.out])
    go_ret
    exact ⟨ret_bool F.out.symm, rfl⟩

set_option maxRecDepth 100000 in
theorem specBinomial_any (n k : Int) (w : World) : Calls Try.prog 29 #[.int .i64 n, .int .i64 k] w fun e w' => e = .returned (.tuple #[.int .i64 (biAns n k), .bool (dec (SxOK n k))]) ∧ Ext w w' := by
  by_cases h : SxOK n k
  · have D := Lib.hid (dec_true h)
    obtain ⟨a, b, rfl, rfl, ha, hb⟩ := sx_nat h
    have A := Lib.hid (biAns_t ha hb)
    clear h
    go_enter Try.func29, Try.ntmps29
    go_wp2_with (first | (go_at_call 57; (with_reducible refine (nuSixty_any _ _ _).mono ?_); rintro e w' ⟨rfl, rfl⟩; rw [D.out]) | (go_at_call 58; (with_reducible refine (nuChoose_any _ _ ha (by omega) _).mono ?_); rintro e w' ⟨rfl, hx⟩; have HX := Lib.hid hx; clear hx))
    go_ret2
    exact ⟨ret_ia A.out.symm D.out.symm, HX.out⟩
  · have D := Lib.hid (dec_false h)
    have A := Lib.hid (biAns_f h)
    clear h
    go_enter Try.func29, Try.ntmps29
    go_wp2_with (go_at_call 57; (with_reducible refine (nuSixty_any _ _ _).mono ?_); rintro e w' ⟨rfl, rfl⟩; rw [D.out])
    go_ret2
    exact ⟨ret_ia A.out.symm D.out.symm, Ext.rfl' w⟩

set_option maxRecDepth 100000 in
theorem binomial_any (n k : Int) (w : World) : Calls Try.prog 30 #[.int .i64 n, .int .i64 k] w fun e w' => e = .returned (.tuple #[.int .i64 (biAns n k), .bool (dec (SxOK n k))]) ∧ Ext w w' := by
  by_cases h1 : InB n 0 60
  · have D := Lib.hid (dec_true h1)
    by_cases h2 : InB k 0 60
    · have E := Lib.hid (dec_true h2)
      have F := Lib.hid (dec_true (p := SxOK n k) ⟨h1, h2⟩)
      obtain ⟨a, b, rfl, rfl, ha, hb⟩ := sx_nat ⟨h1, h2⟩
      have A := Lib.hid (biAns_t ha hb)
      clear h1 h2
      go_enter Try.func30, Try.ntmps30
      go_wp2_with (first | (go_at_call 52; (with_reducible refine (isBetween_any _ _ _ _).mono ?_); rintro e w' ⟨rfl, rfl⟩; first | rw [D.out] | rw [E.out]) | (go_at_call 59; (with_reducible refine (countSubsets_any _ _ ha hb _).mono ?_); rintro e w' ⟨rfl, rfl⟩))
      go_ret2
      exact ⟨ret_ia A.out.symm F.out.symm, Ext.rfl' w⟩
    · have E := Lib.hid (dec_false h2)
      have F := Lib.hid (dec_false (p := SxOK n k) fun h => h2 h.2)
      have A := Lib.hid (biAns_f (n := n) (k := k) fun h => h2 h.2)
      clear h1 h2
      go_enter Try.func30, Try.ntmps30
      go_wp2_with (go_at_call 52; (with_reducible refine (isBetween_any _ _ _ _).mono ?_); rintro e w' ⟨rfl, rfl⟩; first | rw [D.out] | rw [E.out])
      go_ret2
      exact ⟨ret_ia A.out.symm F.out.symm, Ext.rfl' w⟩
  · have D := Lib.hid (dec_false h1)
    have F := Lib.hid (dec_false (p := SxOK n k) fun h => h1 h.1)
    have A := Lib.hid (biAns_f (n := n) (k := k) fun h => h1 h.1)
    clear h1
    go_enter Try.func30, Try.ntmps30
    go_wp2_with (go_at_call 52; (with_reducible refine (isBetween_any _ _ _ _).mono ?_); rintro e w' ⟨rfl, rfl⟩; rw [D.out])
    go_ret2
    exact ⟨ret_ia A.out.symm F.out.symm, Ext.rfl' w⟩
end Go.Proofs.Ytcjiejbndmnjaaa
