/- PolynomialAt: the model and the program answer the same. -/
import Derived.Test.YtcjiejbndmnjaaaDoorD3
namespace Go.Proofs.YtcjiejbndmnjaaaDoor
open Go.RowKit

def DgOK (base : Int) (l : List Int) : Prop := l.length ≤ 60 ∧ AllIn l 0 (base - 1)

set_option maxRecDepth 100000 in
theorem areDigits_any {w : World} {v : Value} {l : List Int} (base : Int) (h : IntSl w v l) (hb0 : 0 ≤ base) (hb : base ≤ 1000000) : Calls Tryd.prog 28 #[v, .int .i64 base] w fun e w' => e = .returned (.bool (dec (DgOK base l))) ∧ w = w' := by
  obtain ⟨a, b, o, c, rfl, ha, hl, hm, hc⟩ := h
  unfold maxLen at hm
  have Hc := Lib.hid hc
  have Ha := Lib.hid ha
  clear hc ha
  by_cases h60 : l.length ≤ 60
  · go_enter Tryd.func28, Tryd.ntmps28
    go_wp2
    go_loop [12] (fun i => ∃ k : Nat, k ≤ l.length ∧ i = .int .i64 k ∧ Hid (∀ j, j < k → 0 ≤ gi l j ∧ gi l j ≤ base - 1)) (fun i => l.length - (intOf i).toNat)
    case atStart => exact ⟨0, Nat.zero_le _, rfl, fun j hj => absurd hj (by omega)⟩
    case round =>
      obtain ⟨k, hk, rfl, Hr⟩ := hrel
      by_cases hlt : k < l.length
      · obtain ⟨y, hc, rfl, _⟩ := Hc.out k hlt
        obtain rfl := Ha.out (by omega)
        by_cases he : InB (gi l k) 0 (base - 1)
        · have Heb := Lib.hid (dec_true he)
          have He := Lib.hid he
          clear he
          go_wp2_with (go_at_call 25; (with_reducible refine (isBetween_any _ _ _ _).mono ?_); rintro e w' ⟨rfl, rfl⟩; rw [Heb.out])
          go_round
          case rel =>
            refine ⟨k + 1, by omega, by go_num, fun j hj => ?_⟩
            by_cases e : j = k
            · subst e; exact He.out
            · exact Hr.out j (by omega)
          case measure => simp [intOf]; omega
        · have Heb := Lib.hid (dec_false he)
          have He := Lib.hid he
          clear he
          go_wp2_with (go_at_call 25; (with_reducible refine (isBetween_any _ _ _ _).mono ?_); rintro e w' ⟨rfl, rfl⟩; rw [Heb.out])
          go_ret
          exact ⟨ret_f (fun h => He.out (h.2 k hlt)), rfl⟩
      · go_wp2
        go_ret
        obtain rfl : k = l.length := by omega
        exact ⟨ret_t ⟨h60, Hr.out⟩, rfl⟩
  · have hn := Lib.hid h60
    go_enter Tryd.func28, Tryd.ntmps28
    go_wp2
    go_ret
    exact ⟨ret_f (fun h => hn.out h.1), rfl⟩

/-- The value at x modulo q. -/
def pv (q x : Int) (l : List Int) : Int := l.foldr (fun d n => (n * x + d) % q) 0
theorem pv_drop {q x : Int} {l : List Int} {m : Nat} (h : m < l.length) : pv q x (l.drop m) = (pv q x (l.drop (m + 1)) * x + gi l m) % q := by
  rw [List.drop_eq_getElem_cons h]
  show (pv q x (l.drop (m + 1)) * x + l[m]) % q = _
  simp [gi, h]
theorem pv_nil (q x : Int) (l : List Int) : pv q x (l.drop l.length) = 0 := by simp [pv]
theorem pv_range {q x : Int} (hq : 0 < q) (l : List Int) : 0 ≤ pv q x l ∧ pv q x l < q := by
  cases l with
  | nil => exact ⟨Int.le_refl _, hq⟩
  | cons d l => exact ⟨Int.emod_nonneg _ (by omega), Int.emod_lt_of_pos _ hq⟩
def PaOK (q : Int) (l : List Int) (x : Int) : Prop := q ≤ 1000 ∧ PrI q ∧ DgOK q l ∧ InB x 0 (q - 1)
noncomputable def paAns (q : Int) (l : List Int) (x : Int) : Int := ifP (PaOK q l x) (pv q x l)
theorem prI_two {q : Int} (h : PrI q) : 2 ≤ q := by obtain ⟨m, rfl, h2, _⟩ := h; omega


set_option maxHeartbeats 800000 in
set_option maxRecDepth 100000 in
theorem nuValue_any {w : World} {v : Value} {l : List Int} (q x : Int) (h : IntSl w v l) (hd : DgOK q l) (hq0 : 2 ≤ q) (hq1 : q ≤ 1000) (hx0 : 0 ≤ x) (hx1 : x ≤ q - 1) : Calls Tryd.prog 27 #[.int .i64 q, v, .int .i64 x] w fun e w' => e = .returned (.int .i64 (pv q x l)) ∧ w = w' := by
  obtain ⟨a, b, o, c, rfl, ha, hl, hm, hc⟩ := h
  unfold maxLen at hm
  have Hc := Lib.hid hc
  have Ha := Lib.hid ha
  have HD := Lib.hid hd
  clear hc ha hd
  go_enter Tryd.func27, Tryd.ntmps27
  go_wp2
  go_loop [7, 8] (fun n i => ∃ (i' : Int) (j : Nat), j ≤ l.length ∧ i' = (j : Int) - 1 ∧ i = .int .i64 i' ∧ n = .int .i64 (pv q x (l.drop j))) (fun _ i => (intOf i + 1).toNat)
  case atStart => exact ⟨(l.length : Int) - 1, l.length, Nat.le_refl _, rfl, rfl, by rw [pv_nil]⟩
  case round =>
    obtain ⟨i', j, hj, hi', rfl, rfl⟩ := hrel
    by_cases h0 : 0 ≤ i'
    · obtain ⟨m, rfl⟩ := Int.eq_ofNat_of_zero_le h0
      obtain rfl : j = m + 1 := by omega
      clear hi' h0
      have hlt : m < l.length := by omega
      obtain ⟨y, hc, rfl, _⟩ := Hc.out m hlt
      obtain rfl := Ha.out (by omega)
      have hdr := Lib.hid (pv_drop (q := q) (x := x) hlt)
      obtain ⟨n0, n1⟩ := pv_range (q := q) (x := x) (by omega) (l.drop (m + 1))
      have m0 := Int.mul_nonneg n0 (show 0 ≤ x by omega)
      have m1 : pv q x (l.drop (m + 1)) * x ≤ 1000 * 1000 := Int.mul_le_mul (by omega) (by omega) (by omega) (by omega)
      obtain ⟨g0, g1⟩ := HD.out.2 m hlt
      go_wp2
      go_round
      case rel => exact ⟨(m : Int) - 1, m, by omega, rfl, by go_num, by rw [hdr.out]⟩
      case measure => simp [intOf] <;> omega
    · obtain rfl : j = 0 := by omega
      obtain rfl : i' = -1 := by omega
      clear hi' h0
      go_wp2
      go_ret
      exact ⟨rfl, rfl⟩


set_option maxHeartbeats 1600000 in
set_option maxRecDepth 100000 in
theorem specPolynomialAt_any {w : World} {v : Value} {l : List Int} (q x : Int) (h : IntSl w v l) (_ : l.length ≤ 1048576) : Calls Tryd.prog 13 #[.int .i64 q, v, .int .i64 x] w fun e w' => e = .returned (.tuple #[.int .i64 (paAns q l x), .bool (dec (PaOK q l x))]) ∧ Ext w w' := by
  have HN := Lib.hid h
  by_cases h0 : InB q 2 1000
  case neg =>
    have D0 := Lib.hid (dec_false h0)
    have F := Lib.hid (dec_false (p := PaOK q l x) (fun h => h0 ⟨prI_two h.2.1, h.1⟩))
    have A := Lib.hid (show paAns q l x = 0 from ifP_f (fun h => h0 ⟨prI_two h.2.1, h.1⟩))
    clear h0
    obtain ⟨a, b, o, c, rfl, ha, hl, hm, hc⟩ := h
    unfold maxLen at hm
    clear ha hc
    go_enter Tryd.func13, Tryd.ntmps13
    go_wp2_with (first | (go_at_call 23; (with_reducible refine (l1In_any _ _ _ _).mono ?_); rintro e w' ⟨rfl, rfl⟩; first | rw [D0.out]) | (go_at_call 21; (with_reducible refine (nuPrime_any _ (by omega) _).mono ?_); rintro e w' ⟨rfl, rfl⟩; first | rw [D0.out]) | (go_at_call 26; (with_reducible refine (l1All_any _ _ HN.out).mono ?_); rintro e w' ⟨rfl, rfl⟩; first | rw [D0.out]))
    go_ret2
    exact ⟨ret_ia A.out.symm F.out.symm, Ext.rfl' w⟩
  case pos =>
    have D0 := Lib.hid (dec_true h0)
    by_cases h1 : PrI q
    case neg =>
      have D1 := Lib.hid (dec_false h1)
      have F := Lib.hid (dec_false (p := PaOK q l x) (fun h => h1 h.2.1))
      have A := Lib.hid (show paAns q l x = 0 from ifP_f (fun h => h1 h.2.1))
      have hq1 : q ≤ 1000 := h0.2
      clear h0 h1
      obtain ⟨a, b, o, c, rfl, ha, hl, hm, hc⟩ := h
      unfold maxLen at hm
      clear ha hc
      go_enter Tryd.func13, Tryd.ntmps13
      go_wp2_with (first | (go_at_call 23; (with_reducible refine (l1In_any _ _ _ _).mono ?_); rintro e w' ⟨rfl, rfl⟩; first | rw [D0.out] | rw [D1.out]) | (go_at_call 21; (with_reducible refine (nuPrime_any _ (by omega) _).mono ?_); rintro e w' ⟨rfl, rfl⟩; first | rw [D0.out] | rw [D1.out]) | (go_at_call 26; (with_reducible refine (l1All_any _ _ HN.out).mono ?_); rintro e w' ⟨rfl, rfl⟩; first | rw [D0.out] | rw [D1.out]))
      go_ret2
      exact ⟨ret_ia A.out.symm F.out.symm, Ext.rfl' w⟩
    case pos =>
      have D1 := Lib.hid (dec_true h1)
      by_cases h2 : l.length ≤ 60
      case neg =>
        have F := Lib.hid (dec_false (p := PaOK q l x) (fun h => h2 h.2.2.1.1))
        have A := Lib.hid (show paAns q l x = 0 from ifP_f (fun h => h2 h.2.2.1.1))
        have hq1 : q ≤ 1000 := h0.2
        have hq0 := prI_two h1
        clear h0 h1
        obtain ⟨a, b, o, c, rfl, ha, hl, hm, hc⟩ := h
        unfold maxLen at hm
        clear ha hc
        go_enter Tryd.func13, Tryd.ntmps13
        go_wp2_with (first | (go_at_call 23; (with_reducible refine (l1In_any _ _ _ _).mono ?_); rintro e w' ⟨rfl, rfl⟩; first | rw [D0.out] | rw [D1.out]) | (go_at_call 21; (with_reducible refine (nuPrime_any _ (by omega) _).mono ?_); rintro e w' ⟨rfl, rfl⟩; first | rw [D0.out] | rw [D1.out]) | (go_at_call 26; (with_reducible refine (l1All_any _ _ HN.out).mono ?_); rintro e w' ⟨rfl, rfl⟩; first | rw [D0.out] | rw [D1.out]))
        go_ret2
        exact ⟨ret_ia A.out.symm F.out.symm, Ext.rfl' w⟩
      case pos =>
        by_cases h3 : AllIn l 0 (q - 1)
        case neg =>
          have D3 := Lib.hid (dec_false h3)
          have F := Lib.hid (dec_false (p := PaOK q l x) (fun h => h3 h.2.2.1.2))
          have A := Lib.hid (show paAns q l x = 0 from ifP_f (fun h => h3 h.2.2.1.2))
          have hq1 : q ≤ 1000 := h0.2
          have hq0 := prI_two h1
          clear h0 h1 h3
          obtain ⟨a, b, o, c, rfl, ha, hl, hm, hc⟩ := h
          unfold maxLen at hm
          clear ha hc
          go_enter Tryd.func13, Tryd.ntmps13
          go_wp2_with (first | (go_at_call 23; (with_reducible refine (l1In_any _ _ _ _).mono ?_); rintro e w' ⟨rfl, rfl⟩; first | rw [D0.out] | rw [D1.out] | rw [D3.out]) | (go_at_call 21; (with_reducible refine (nuPrime_any _ (by omega) _).mono ?_); rintro e w' ⟨rfl, rfl⟩; first | rw [D0.out] | rw [D1.out] | rw [D3.out]) | (go_at_call 26; (with_reducible refine (l1All_any _ _ HN.out).mono ?_); rintro e w' ⟨rfl, rfl⟩; first | rw [D0.out] | rw [D1.out] | rw [D3.out]))
          go_ret2
          exact ⟨ret_ia A.out.symm F.out.symm, Ext.rfl' w⟩
        case pos =>
          have D3 := Lib.hid (dec_true h3)
          by_cases h4 : InB x 0 (q - 1)
          case neg =>
            have D4 := Lib.hid (dec_false h4)
            have F := Lib.hid (dec_false (p := PaOK q l x) (fun h => h4 h.2.2.2))
            have A := Lib.hid (show paAns q l x = 0 from ifP_f (fun h => h4 h.2.2.2))
            have hq1 : q ≤ 1000 := h0.2
            have hq0 := prI_two h1
            clear h0 h1 h3 h4
            obtain ⟨a, b, o, c, rfl, ha, hl, hm, hc⟩ := h
            unfold maxLen at hm
            clear ha hc
            go_enter Tryd.func13, Tryd.ntmps13
            go_wp2_with (first | (go_at_call 23; (with_reducible refine (l1In_any _ _ _ _).mono ?_); rintro e w' ⟨rfl, rfl⟩; first | rw [D0.out] | rw [D1.out] | rw [D3.out] | rw [D4.out]) | (go_at_call 21; (with_reducible refine (nuPrime_any _ (by omega) _).mono ?_); rintro e w' ⟨rfl, rfl⟩; first | rw [D0.out] | rw [D1.out] | rw [D3.out] | rw [D4.out]) | (go_at_call 26; (with_reducible refine (l1All_any _ _ HN.out).mono ?_); rintro e w' ⟨rfl, rfl⟩; first | rw [D0.out] | rw [D1.out] | rw [D3.out] | rw [D4.out]))
            go_ret2
            exact ⟨ret_ia A.out.symm F.out.symm, Ext.rfl' w⟩
          case pos =>
            have D4 := Lib.hid (dec_true h4)
            have F := Lib.hid (dec_true (p := PaOK q l x) ⟨h0.2, h1, ⟨h2, h3⟩, h4⟩)
            have A := Lib.hid (show paAns q l x = pv q x l from ifP_t ⟨h0.2, h1, ⟨h2, h3⟩, h4⟩)
            have HD : Hid (DgOK q l) := Lib.hid (show DgOK q l from ⟨h2, h3⟩)
            have hq0 := prI_two h1
            have hq1 : q ≤ 1000 := h0.2
            have hx0 := h4.1
            have hx1 := h4.2
            clear h0 h1 h3 h4
            obtain ⟨a, b, o, c, rfl, ha, hl, hm, hc⟩ := h
            unfold maxLen at hm
            clear ha hc
            go_enter Tryd.func13, Tryd.ntmps13
            go_wp2_with (first | (go_at_call 23; (with_reducible refine (l1In_any _ _ _ _).mono ?_); rintro e w' ⟨rfl, rfl⟩; first | rw [D0.out] | rw [D1.out] | rw [D3.out] | rw [D4.out]) | (go_at_call 21; (with_reducible refine (nuPrime_any _ (by omega) _).mono ?_); rintro e w' ⟨rfl, rfl⟩; first | rw [D0.out] | rw [D1.out] | rw [D3.out] | rw [D4.out]) | (go_at_call 26; (with_reducible refine (l1All_any _ _ HN.out).mono ?_); rintro e w' ⟨rfl, rfl⟩; first | rw [D0.out] | rw [D1.out] | rw [D3.out] | rw [D4.out]) | (go_at_call 27; (with_reducible refine (nuValue_any _ _ HN.out HD.out hq0 hq1 hx0 hx1).mono ?_); rintro e w' ⟨rfl, rfl⟩))
            go_ret2
            exact ⟨ret_ia A.out.symm F.out.symm, Ext.rfl' w⟩


set_option maxHeartbeats 1600000 in
set_option maxRecDepth 100000 in
theorem polynomialAt_any {w : World} {v : Value} {l : List Int} (q x : Int) (h : IntSl w v l) (_ : l.length ≤ 1048576) (hT : Tp w) : Calls Tryd.prog 15 #[.int .i64 q, v, .int .i64 x] w fun e w' => e = .returned (.tuple #[.int .i64 (paAns q l x), .bool (dec (PaOK q l x))]) ∧ Ext w w' := by
  have HN := Lib.hid h
  have HT := Lib.hid hT
  by_cases h0 : q ≤ 1000
  case neg =>
    have F := Lib.hid (dec_false (p := PaOK q l x) (fun h => h0 h.1))
    have A := Lib.hid (show paAns q l x = 0 from ifP_f (fun h => h0 h.1))
    obtain ⟨a, b, o, c, rfl, ha, hl, hm, hc⟩ := h
    unfold maxLen at hm
    clear ha hc
    go_enter Tryd.func15, Tryd.ntmps15
    go_wp2_with (first | (go_at_call 22; (with_reducible refine (isPrimeAny_any _ (by omega) _ HT.out).mono ?_); rintro e w' ⟨rfl, rfl⟩; skip) | (go_at_call 28; (with_reducible refine (areDigits_any _ HN.out (by omega) (by omega)).mono ?_); rintro e w' ⟨rfl, rfl⟩; skip) | (go_at_call 25; (with_reducible refine (isBetween_any _ _ _ _).mono ?_); rintro e w' ⟨rfl, rfl⟩; skip))
    go_ret2
    exact ⟨ret_ia A.out.symm F.out.symm, Ext.rfl' w⟩
  case pos =>
    by_cases h1 : PrI q
    case neg =>
      have D1 := Lib.hid (dec_false h1)
      have F := Lib.hid (dec_false (p := PaOK q l x) (fun h => h1 h.2.1))
      have A := Lib.hid (show paAns q l x = 0 from ifP_f (fun h => h1 h.2.1))
      have hq1 : q ≤ 1000 := h0
      clear h1
      obtain ⟨a, b, o, c, rfl, ha, hl, hm, hc⟩ := h
      unfold maxLen at hm
      clear ha hc
      go_enter Tryd.func15, Tryd.ntmps15
      go_wp2_with (first | (go_at_call 22; (with_reducible refine (isPrimeAny_any _ (by omega) _ HT.out).mono ?_); rintro e w' ⟨rfl, rfl⟩; first | rw [D1.out]) | (go_at_call 28; (with_reducible refine (areDigits_any _ HN.out (by omega) (by omega)).mono ?_); rintro e w' ⟨rfl, rfl⟩; first | rw [D1.out]) | (go_at_call 25; (with_reducible refine (isBetween_any _ _ _ _).mono ?_); rintro e w' ⟨rfl, rfl⟩; first | rw [D1.out]))
      go_ret2
      exact ⟨ret_ia A.out.symm F.out.symm, Ext.rfl' w⟩
    case pos =>
      have D1 := Lib.hid (dec_true h1)
      by_cases h2 : DgOK q l
      case neg =>
        have D2 := Lib.hid (dec_false h2)
        have F := Lib.hid (dec_false (p := PaOK q l x) (fun h => h2 h.2.2.1))
        have A := Lib.hid (show paAns q l x = 0 from ifP_f (fun h => h2 h.2.2.1))
        have hq1 : q ≤ 1000 := h0
        have hq0 := prI_two h1
        clear h1 h2
        obtain ⟨a, b, o, c, rfl, ha, hl, hm, hc⟩ := h
        unfold maxLen at hm
        clear ha hc
        go_enter Tryd.func15, Tryd.ntmps15
        go_wp2_with (first | (go_at_call 22; (with_reducible refine (isPrimeAny_any _ (by omega) _ HT.out).mono ?_); rintro e w' ⟨rfl, rfl⟩; first | rw [D1.out] | rw [D2.out]) | (go_at_call 28; (with_reducible refine (areDigits_any _ HN.out (by omega) (by omega)).mono ?_); rintro e w' ⟨rfl, rfl⟩; first | rw [D1.out] | rw [D2.out]) | (go_at_call 25; (with_reducible refine (isBetween_any _ _ _ _).mono ?_); rintro e w' ⟨rfl, rfl⟩; first | rw [D1.out] | rw [D2.out]))
        go_ret2
        exact ⟨ret_ia A.out.symm F.out.symm, Ext.rfl' w⟩
      case pos =>
        have D2 := Lib.hid (dec_true h2)
        by_cases h3 : InB x 0 (q - 1)
        case neg =>
          have D3 := Lib.hid (dec_false h3)
          have F := Lib.hid (dec_false (p := PaOK q l x) (fun h => h3 h.2.2.2))
          have A := Lib.hid (show paAns q l x = 0 from ifP_f (fun h => h3 h.2.2.2))
          have hq1 : q ≤ 1000 := h0
          have hq0 := prI_two h1
          clear h1 h2 h3
          obtain ⟨a, b, o, c, rfl, ha, hl, hm, hc⟩ := h
          unfold maxLen at hm
          clear ha hc
          go_enter Tryd.func15, Tryd.ntmps15
          go_wp2_with (first | (go_at_call 22; (with_reducible refine (isPrimeAny_any _ (by omega) _ HT.out).mono ?_); rintro e w' ⟨rfl, rfl⟩; first | rw [D1.out] | rw [D2.out] | rw [D3.out]) | (go_at_call 28; (with_reducible refine (areDigits_any _ HN.out (by omega) (by omega)).mono ?_); rintro e w' ⟨rfl, rfl⟩; first | rw [D1.out] | rw [D2.out] | rw [D3.out]) | (go_at_call 25; (with_reducible refine (isBetween_any _ _ _ _).mono ?_); rintro e w' ⟨rfl, rfl⟩; first | rw [D1.out] | rw [D2.out] | rw [D3.out]))
          go_ret2
          exact ⟨ret_ia A.out.symm F.out.symm, Ext.rfl' w⟩
        case pos =>
          have D3 := Lib.hid (dec_true h3)
          have F := Lib.hid (dec_true (p := PaOK q l x) ⟨h0, h1, h2, h3⟩)
          have A := Lib.hid (show paAns q l x = pv q x l from ifP_t ⟨h0, h1, h2, h3⟩)
          have HD : Hid (DgOK q l) := Lib.hid h2
          have hq0 := prI_two h1
          have hq1 : q ≤ 1000 := h0
          have hx0 := h3.1
          have hx1 := h3.2
          clear h1 h2 h3
          obtain ⟨a, b, o, c, rfl, ha, hl, hm, hc⟩ := h
          unfold maxLen at hm
          have Hc := Lib.hid hc
          have Ha := Lib.hid ha
          clear hc ha
          go_enter Tryd.func15, Tryd.ntmps15
          go_wp2_with (first | (go_at_call 22; (with_reducible refine (isPrimeAny_any _ (by omega) _ HT.out).mono ?_); rintro e w' ⟨rfl, rfl⟩; first | rw [D1.out] | rw [D2.out] | rw [D3.out]) | (go_at_call 28; (with_reducible refine (areDigits_any _ HN.out (by omega) (by omega)).mono ?_); rintro e w' ⟨rfl, rfl⟩; first | rw [D1.out] | rw [D2.out] | rw [D3.out]) | (go_at_call 25; (with_reducible refine (isBetween_any _ _ _ _).mono ?_); rintro e w' ⟨rfl, rfl⟩; first | rw [D1.out] | rw [D2.out] | rw [D3.out]))
          go_loop [8, 9] (fun n i => ∃ (i' : Int) (j : Nat), j ≤ l.length ∧ i' = (j : Int) - 1 ∧ i = .int .i64 i' ∧ n = .int .i64 (pv q x (l.drop j))) (fun _ i => (intOf i + 1).toNat)
          case atStart => exact ⟨(l.length : Int) - 1, l.length, Nat.le_refl _, rfl, rfl, by rw [pv_nil]⟩
          case round =>
            obtain ⟨i', j, hj, hi', rfl, rfl⟩ := hrel
            by_cases h0 : 0 ≤ i'
            · obtain ⟨m, rfl⟩ := Int.eq_ofNat_of_zero_le h0
              obtain rfl : j = m + 1 := by omega
              clear hi' h0
              have hlt : m < l.length := by omega
              obtain ⟨y, hc, rfl, _⟩ := Hc.out m hlt
              obtain rfl := Ha.out (by omega)
              have hdr := Lib.hid (pv_drop (q := q) (x := x) hlt)
              obtain ⟨n0, n1⟩ := pv_range (q := q) (x := x) (by omega) (l.drop (m + 1))
              have m0 := Int.mul_nonneg n0 (show 0 ≤ x by omega)
              have m1 : pv q x (l.drop (m + 1)) * x ≤ 1000 * 1000 := Int.mul_le_mul (by omega) (by omega) (by omega) (by omega)
              obtain ⟨g0, g1⟩ := HD.out.2 m hlt
              go_wp2
              go_round
              case rel => exact ⟨(m : Int) - 1, m, by omega, rfl, by go_num, by rw [hdr.out]⟩
              case measure => simp [intOf] <;> omega
            · obtain rfl : j = 0 := by omega
              obtain rfl : i' = -1 := by omega
              clear hi' h0
              go_wp2
              go_ret2
              exact ⟨ret_ia A.out.symm F.out.symm, Ext.rfl' w⟩

end Go.Proofs.YtcjiejbndmnjaaaDoor
