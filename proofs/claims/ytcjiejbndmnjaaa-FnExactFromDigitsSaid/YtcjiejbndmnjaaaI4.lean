/- FromDigits: the model and the program answer the same. -/
import Derived.Test.YtcjiejbndmnjaaaI1
namespace Go.Proofs.Ytcjiejbndmnjaaa
open Go.RowKit

/-- The number with the digits l to the base. -/
def hv (base : Int) (l : List Int) : Int := l.foldr (fun d n => n * base + d) 0
theorem hv_drop {base : Int} {l : List Int} {m : Nat} (h : m < l.length) : hv base (l.drop m) = hv base (l.drop (m + 1)) * base + gi l m := by
  rw [List.drop_eq_getElem_cons h]
  show hv base (l.drop (m + 1)) * base + l[m] = _
  simp [gi, h]
theorem hv_nil (base : Int) (l : List Int) : hv base (l.drop l.length) = 0 := by simp [hv]
def DgOK (base : Int) (l : List Int) : Prop := l.length ≤ 60 ∧ AllIn l 0 (base - 1)
def FdOK (base : Int) (l : List Int) : Prop := InB base 2 1000 ∧ DgOK base l ∧ ∀ p : Nat, hv base (l.drop p) ≤ 1000000000000
noncomputable def fdAns (base : Int) (l : List Int) : Int := ifP (FdOK base l) (hv base l)
theorem hv_nonneg {base : Int} {l : List Int} (hb : 0 ≤ base) (h : AllIn l 0 (base - 1)) : ∀ k m : Nat, m + k = l.length → 0 ≤ hv base (l.drop m)
  | 0, m, e => by obtain rfl : m = l.length := by omega
                  rw [hv_nil]; omega
  | k + 1, m, e => by
    rw [hv_drop (by omega)]
    have h1 := hv_nonneg hb h k (m + 1) (by omega)
    have h2 := (h m (by omega)).1
    have := Int.mul_nonneg h1 hb
    omega

set_option maxRecDepth 100000 in
theorem areDigits_any {w : World} {v : Value} {l : List Int} (base : Int) (h : IntSl w v l) (hb0 : 0 ≤ base) (hb : base ≤ 1000000) : Calls Try.prog 56 #[v, .int .i64 base] w fun e w' => e = .returned (.bool (dec (DgOK base l))) ∧ w = w' := by
  obtain ⟨a, b, o, c, rfl, ha, hl, hm, hc⟩ := h
  unfold maxLen at hm
  have Hc := Lib.hid hc
  have Ha := Lib.hid ha
  clear hc ha
  by_cases h60 : l.length ≤ 60
  · go_enter Try.func56, Try.ntmps56
    go_wp2
    go_loop [12] (fun i => ∃ k : Nat, k ≤ l.length ∧ i = .int .i64 k ∧ Hid (∀ j, j < k → 0 ≤ gi l j ∧ gi l j ≤ base - 1)) (fun i => l.length - (intOf i).toNat)
    case atStart => exact ⟨0, Nat.zero_le _, rfl, fun j hj => absurd hj (by omega)⟩
    case round =>
      obtain ⟨k, hk, rfl, Hr⟩ := hrel
      by_cases hlt : k < l.length
      · obtain ⟨y, hc, rfl, _⟩ := Hc.out k hlt
        obtain rfl := Ha.out (by omega)
        by_cases he : InB (gi l k) 0 (base - 1)
        · have Heb := Lib.hid (dec_true he)
          have He := Lib.hid he
          clear he
          go_wp2_with (go_at_call 52; (with_reducible refine (isBetween_any _ _ _ _).mono ?_); rintro e w' ⟨rfl, rfl⟩; rw [Heb.out])
          go_round
          case rel =>
            refine ⟨k + 1, by omega, by go_num, fun j hj => ?_⟩
            by_cases e : j = k
            · subst e; exact He.out
            · exact Hr.out j (by omega)
          case measure => simp [intOf]; omega
        · have Heb := Lib.hid (dec_false he)
          have He := Lib.hid he
          clear he
          go_wp2_with (go_at_call 52; (with_reducible refine (isBetween_any _ _ _ _).mono ?_); rintro e w' ⟨rfl, rfl⟩; rw [Heb.out])
          go_ret
          exact ⟨ret_f (fun h => He.out (h.2 k hlt)), rfl⟩
      · go_wp2
        go_ret
        obtain rfl : k = l.length := by omega
        exact ⟨ret_t ⟨h60, Hr.out⟩, rfl⟩
  · have hn := Lib.hid h60
    go_enter Try.func56, Try.ntmps56
    go_wp2
    go_ret
    exact ⟨ret_f (fun h => hn.out h.1), rfl⟩

set_option maxHeartbeats 800000 in
set_option maxRecDepth 100000 in
theorem specFromDigits_any {w : World} {v : Value} {l : List Int} (base : Int) (h : IntSl w v l) (_ : l.length ≤ 1048576) : Calls Try.prog 26 #[.int .i64 base, v] w fun e w' => e = .returned (.tuple #[.int .i64 (fdAns base l), .bool (dec (FdOK base l))]) ∧ Ext w w' := by
  have HN := Lib.hid h
  obtain ⟨a, b, o, c, rfl, ha, hl, hm, hc⟩ := h
  unfold maxLen at hm
  have Hc := Lib.hid hc
  have Ha := Lib.hid ha
  clear hc ha
  by_cases hb : InB base 2 1000
  · have D := Lib.hid (dec_true hb)
    obtain ⟨hb0, hb1⟩ := hb
    by_cases h60 : l.length ≤ 60
    case neg =>
      have F := Lib.hid (dec_false (p := FdOK base l) (fun k => h60 k.2.1.1))
      have A := Lib.hid (ifP_f (P := FdOK base l) (a := hv base l) (fun k => h60 k.2.1.1))
      go_enter Try.func26, Try.ntmps26
      go_wp2_with (first | (go_at_call 50; (with_reducible refine (l1In_any _ _ _ _).mono ?_); rintro e w' ⟨rfl, rfl⟩; rw [D.out]))
      go_ret2
      exact ⟨ret_ia A.out.symm F.out.symm, Ext.rfl' w⟩
    by_cases hd : AllIn l 0 (base - 1)
    · have E := Lib.hid (dec_true hd)
      have hd' : DgOK base l := ⟨h60, hd⟩
      have HD := Lib.hid hd'
      have hlen := hd'.1
      have NN := Lib.hid (fun m (hm : m ≤ l.length) => hv_nonneg (by omega) hd'.2 (l.length - m) m (by omega))
      clear hd hd'
      go_enter Try.func26, Try.ntmps26
      go_wp2_with (first | (go_at_call 50; (with_reducible refine (l1In_any _ _ _ _).mono ?_); rintro e w' ⟨rfl, rfl⟩; rw [D.out]) | (go_at_call 55; (with_reducible refine (l1All_any _ _ HN.out).mono ?_); rintro e w' ⟨rfl, rfl⟩; rw [E.out]))
      go_loop [6, 7] (fun n i => ∃ (i' : Int) (j : Nat), j ≤ l.length ∧ i' = (j : Int) - 1 ∧ i = .int .i64 i' ∧ n = .int .i64 (hv base (l.drop j)) ∧ Hid (∀ p, j ≤ p → hv base (l.drop p) ≤ 1000000000000)) (fun _ i => (intOf i + 1).toNat)
      case atStart => exact ⟨(l.length : Int) - 1, l.length, Nat.le_refl _, rfl, rfl, by rw [hv_nil], fun p hp => by rw [List.drop_of_length_le hp]; show (0 : Int) ≤ _; omega⟩
      case round =>
        obtain ⟨i', j, hj, hi', rfl, rfl, Hr⟩ := hrel
        by_cases h0 : 0 ≤ i'
        · obtain ⟨m, rfl⟩ := Int.eq_ofNat_of_zero_le h0
          obtain rfl : j = m + 1 := by omega
          clear hi' h0
          have hlt : m < l.length := by omega
          obtain ⟨y, hc, rfl, _⟩ := Hc.out m hlt
          obtain rfl := Ha.out (by omega)
          have hdr := Lib.hid (hv_drop (base := base) hlt)
          have n0 := NN.out (m + 1) (by omega)
          have n1 := Hr.out (m + 1) (Nat.le_refl _)
          have m0 := Int.mul_nonneg n0 (show 0 ≤ base by omega)
          have m1 : hv base (l.drop (m + 1)) * base ≤ 1000000000000 * 1000 := Int.mul_le_mul n1 hb1 (by omega) (by omega)
          obtain ⟨g0, g1⟩ := HD.out.2 m hlt
          by_cases hbig : 1000000000000 < hv base (l.drop (m + 1)) * base + gi l m
          · have F := Lib.hid (dec_false (p := FdOK base l) (fun k => by have := k.2.2 m; rw [hdr.out] at this; omega))
            have A := Lib.hid (ifP_f (P := FdOK base l) (a := hv base l) (fun k => by have := k.2.2 m; rw [hdr.out] at this; omega))
            go_wp2
            go_ret2
            exact ⟨ret_ia A.out.symm F.out.symm, Ext.rfl' w⟩
          · go_wp2
            go_round
            case rel =>
              refine ⟨(m : Int) - 1, m, by omega, rfl, by go_num, by rw [hdr.out], fun p hp => ?_⟩
              by_cases e : p = m
              · subst e; rw [hdr.out]; omega
              · exact Hr.out p (by omega)
            case measure => simp [intOf] <;> omega
        · obtain rfl : j = 0 := by omega
          obtain rfl : i' = -1 := by omega
          have F := Lib.hid (dec_true (p := FdOK base l) ⟨⟨hb0, hb1⟩, HD.out, fun p => Hr.out p (by omega)⟩)
          have A := Lib.hid (ifP_t (P := FdOK base l) (a := hv base l) ⟨⟨hb0, hb1⟩, HD.out, fun p => Hr.out p (by omega)⟩)
          clear hi' h0
          go_wp2
          go_ret2
          exact ⟨ret_ia A.out.symm F.out.symm, Ext.rfl' w⟩
    · have E := Lib.hid (dec_false hd)
      have F := Lib.hid (dec_false (p := FdOK base l) (fun k => hd k.2.1.2))
      have A := Lib.hid (ifP_f (P := FdOK base l) (a := hv base l) (fun k => hd k.2.1.2))
      clear hd
      go_enter Try.func26, Try.ntmps26
      go_wp2_with (first | (go_at_call 50; (with_reducible refine (l1In_any _ _ _ _).mono ?_); rintro e w' ⟨rfl, rfl⟩; rw [D.out]) | (go_at_call 55; (with_reducible refine (l1All_any _ _ HN.out).mono ?_); rintro e w' ⟨rfl, rfl⟩; rw [E.out]))
      go_ret2
      exact ⟨ret_ia A.out.symm F.out.symm, Ext.rfl' w⟩
  · have D := Lib.hid (dec_false hb)
    have F := Lib.hid (dec_false (p := FdOK base l) (fun k => hb k.1))
    have A := Lib.hid (ifP_f (P := FdOK base l) (a := hv base l) (fun k => hb k.1))
    clear hb
    go_enter Try.func26, Try.ntmps26
    go_wp2_with (first | (go_at_call 50; (with_reducible refine (l1In_any _ _ _ _).mono ?_); rintro e w' ⟨rfl, rfl⟩; rw [D.out]))
    go_ret2
    exact ⟨ret_ia A.out.symm F.out.symm, Ext.rfl' w⟩

set_option maxHeartbeats 800000 in
set_option maxRecDepth 100000 in
theorem fromDigits_any {w : World} {v : Value} {l : List Int} (base : Int) (h : IntSl w v l) (_ : l.length ≤ 1048576) : Calls Try.prog 28 #[.int .i64 base, v] w fun e w' => e = .returned (.tuple #[.int .i64 (fdAns base l), .bool (dec (FdOK base l))]) ∧ Ext w w' := by
  have HN := Lib.hid h
  obtain ⟨a, b, o, c, rfl, ha, hl, hm, hc⟩ := h
  unfold maxLen at hm
  have Hc := Lib.hid hc
  have Ha := Lib.hid ha
  clear hc ha
  by_cases hb : InB base 2 1000
  · have D := Lib.hid (dec_true hb)
    obtain ⟨hb0, hb1⟩ := hb
    by_cases hd : DgOK base l
    · have E := Lib.hid (dec_true hd)
      have hd' : DgOK base l := hd
      have HD := Lib.hid hd'
      have hlen := hd'.1
      have NN := Lib.hid (fun m (hm : m ≤ l.length) => hv_nonneg (by omega) hd'.2 (l.length - m) m (by omega))
      clear hd hd'
      go_enter Try.func28, Try.ntmps28
      go_wp2_with (first | (go_at_call 52; (with_reducible refine (isBetween_any _ _ _ _).mono ?_); rintro e w' ⟨rfl, rfl⟩; rw [D.out]) | (go_at_call 56; (with_reducible refine (areDigits_any _ HN.out (by omega) (by omega)).mono ?_); rintro e w' ⟨rfl, rfl⟩; rw [E.out]))
      go_loop [6, 7] (fun n i => ∃ (i' : Int) (j : Nat), j ≤ l.length ∧ i' = (j : Int) - 1 ∧ i = .int .i64 i' ∧ n = .int .i64 (hv base (l.drop j)) ∧ Hid (∀ p, j ≤ p → hv base (l.drop p) ≤ 1000000000000)) (fun _ i => (intOf i + 1).toNat)
      case atStart => exact ⟨(l.length : Int) - 1, l.length, Nat.le_refl _, rfl, rfl, by rw [hv_nil], fun p hp => by rw [List.drop_of_length_le hp]; show (0 : Int) ≤ _; omega⟩
      case round =>
        obtain ⟨i', j, hj, hi', rfl, rfl, Hr⟩ := hrel
        by_cases h0 : 0 ≤ i'
        · obtain ⟨m, rfl⟩ := Int.eq_ofNat_of_zero_le h0
          obtain rfl : j = m + 1 := by omega
          clear hi' h0
          have hlt : m < l.length := by omega
          obtain ⟨y, hc, rfl, _⟩ := Hc.out m hlt
          obtain rfl := Ha.out (by omega)
          have hdr := Lib.hid (hv_drop (base := base) hlt)
          have n0 := NN.out (m + 1) (by omega)
          have n1 := Hr.out (m + 1) (Nat.le_refl _)
          have m0 := Int.mul_nonneg n0 (show 0 ≤ base by omega)
          have m1 : hv base (l.drop (m + 1)) * base ≤ 1000000000000 * 1000 := Int.mul_le_mul n1 hb1 (by omega) (by omega)
          obtain ⟨g0, g1⟩ := HD.out.2 m hlt
          by_cases hbig : 1000000000000 < hv base (l.drop (m + 1)) * base + gi l m
          · have F := Lib.hid (dec_false (p := FdOK base l) (fun k => by have := k.2.2 m; rw [hdr.out] at this; omega))
            have A := Lib.hid (ifP_f (P := FdOK base l) (a := hv base l) (fun k => by have := k.2.2 m; rw [hdr.out] at this; omega))
            go_wp2
            go_ret2
            exact ⟨ret_ia A.out.symm F.out.symm, Ext.rfl' w⟩
          · go_wp2
            go_round
            case rel =>
              refine ⟨(m : Int) - 1, m, by omega, rfl, by go_num, by rw [hdr.out], fun p hp => ?_⟩
              by_cases e : p = m
              · subst e; rw [hdr.out]; omega
              · exact Hr.out p (by omega)
            case measure => simp [intOf] <;> omega
        · obtain rfl : j = 0 := by omega
          obtain rfl : i' = -1 := by omega
          have F := Lib.hid (dec_true (p := FdOK base l) ⟨⟨hb0, hb1⟩, HD.out, fun p => Hr.out p (by omega)⟩)
          have A := Lib.hid (ifP_t (P := FdOK base l) (a := hv base l) ⟨⟨hb0, hb1⟩, HD.out, fun p => Hr.out p (by omega)⟩)
          clear hi' h0
          go_wp2
          go_ret2
          exact ⟨ret_ia A.out.symm F.out.symm, Ext.rfl' w⟩
    · have E := Lib.hid (dec_false hd)
      have F := Lib.hid (dec_false (p := FdOK base l) (fun k => hd k.2.1))
      have A := Lib.hid (ifP_f (P := FdOK base l) (a := hv base l) (fun k => hd k.2.1))
      clear hd
      go_enter Try.func28, Try.ntmps28
      go_wp2_with (first | (go_at_call 52; (with_reducible refine (isBetween_any _ _ _ _).mono ?_); rintro e w' ⟨rfl, rfl⟩; rw [D.out]) | (go_at_call 56; (with_reducible refine (areDigits_any _ HN.out (by omega) (by omega)).mono ?_); rintro e w' ⟨rfl, rfl⟩; rw [E.out]))
      go_ret2
      exact ⟨ret_ia A.out.symm F.out.symm, Ext.rfl' w⟩
  · have D := Lib.hid (dec_false hb)
    have F := Lib.hid (dec_false (p := FdOK base l) (fun k => hb k.1))
    have A := Lib.hid (ifP_f (P := FdOK base l) (a := hv base l) (fun k => hb k.1))
    clear hb
    go_enter Try.func28, Try.ntmps28
    go_wp2_with (first | (go_at_call 52; (with_reducible refine (isBetween_any _ _ _ _).mono ?_); rintro e w' ⟨rfl, rfl⟩; rw [D.out]))
    go_ret2
    exact ⟨ret_ia A.out.symm F.out.symm, Ext.rfl' w⟩
end Go.Proofs.Ytcjiejbndmnjaaa
