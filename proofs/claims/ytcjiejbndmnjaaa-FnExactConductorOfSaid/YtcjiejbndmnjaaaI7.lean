/- GcdOf: the model and the program answer the same. -/
import Derived.Test.YtcjiejbndmnjaaaI6
namespace Go.Proofs.Ytcjiejbndmnjaaa
open Go.RowKit

noncomputable def gcAns (l : List Int) : Int := ifP (LenOK l) (gcds (ln l))

set_option maxHeartbeats 800000 in
set_option maxRecDepth 100000 in
theorem nuGcds_any {w : World} {v : Value} {l : List Int} (h : IntSl w v l) (hl : LenOK l) : Calls Try.prog 65 #[v] w fun e w' => e = .returned (.int .i64 (gcds (ln l))) ∧ Ext w w' := by
  have HL := Lib.hid hl
  obtain ⟨a, b, o, c, rfl, ha, hl', hm, hc⟩ := h
  unfold maxLen at hm
  have Hc := Lib.hid hc
  have Ha := Lib.hid ha
  clear hc ha hl
  go_enter Try.func65, Try.ntmps65
  go_wp2
  go_loopg [3, 8] l.length (fun g t i wr => ∃ k : Nat, k ≤ l.length ∧ g = l.length - k ∧ i = .int .i64 k ∧ t = .int .i64 (gcds ((ln l).take k) : Int) ∧ Hid (Ext w wr))
  case atStart => exact ⟨0, Nat.zero_le _, rfl, rfl, rfl, Ext.rfl' w⟩
  case round =>
    obtain ⟨k, hk, rfl, rfl, rfl, Hr⟩ := hrel
    by_cases hlt : k < l.length
    · obtain ⟨y, hc, rfl, _⟩ := Hc.out k hlt
      obtain rfl := Ha.out (by omega)
      obtain ⟨x, hx, h0, h1⟩ := len_get HL.out hlt
      rw [hx] at hc
      have hc' := Hr.out.cell' hc
      have hs := gcds_small HL.out k hk
      have HT := Lib.hid (gcds_take hlt hx)
      clear hc hx
      go_wp2_with (go_at_call 73; (with_reducible refine (nuGcd_any _ _ (by omega) (by omega) _).mono ?_); rintro e w1 ⟨rfl, hw⟩; have K1 := Lib.hid (Hr.out.trans' hw); clear hw)
      go_roundg (l.length - (k + 1))
      case measure => omega
      case rel => exact ⟨k + 1, by omega, rfl, by go_num, by rw [HT.out], K1.out⟩
    · obtain rfl : k = l.length := by omega
      go_wp2
      go_ret
      exact ⟨ret_i (by rw [← ln_length l, List.take_length]), Hr.out⟩

set_option maxRecDepth 100000 in
theorem specGcdOf_any {w : World} {v : Value} {l : List Int} (h : IntSl w v l) (_ : l.length ≤ 1048576) : Calls Try.prog 40 #[v] w fun e w' => e = .returned (.tuple #[.int .i64 (gcAns l), .bool (dec (LenOK l))]) ∧ Ext w w' := by
  have HN := Lib.hid h
  clear h
  by_cases hl : LenOK l
  · have D := Lib.hid (dec_true hl)
    have A := Lib.hid (ifP_t (a := (gcds (ln l) : Int)) hl)
    have HL := Lib.hid hl
    clear hl
    go_enter Try.func40, Try.ntmps40
    go_wp2_with (first | (go_at_call 64; (with_reducible refine (nuLengths_any HN.out).mono ?_); rintro e w' ⟨rfl, rfl⟩; rw [D.out]) | (go_at_call 65; (with_reducible refine (nuGcds_any HN.out HL.out).mono ?_); rintro e w' ⟨rfl, hx⟩; have HX := Lib.hid hx; clear hx))
    go_ret2
    exact ⟨ret_ia A.out.symm D.out.symm, HX.out⟩
  · have D := Lib.hid (dec_false hl)
    have A := Lib.hid (ifP_f (a := (gcds (ln l) : Int)) hl)
    clear hl
    go_enter Try.func40, Try.ntmps40
    go_wp2_with (first | (go_at_call 64; (with_reducible refine (nuLengths_any HN.out).mono ?_); rintro e w' ⟨rfl, rfl⟩; rw [D.out]))
    go_ret2
    exact ⟨ret_ia A.out.symm D.out.symm, Ext.rfl' w⟩

set_option maxHeartbeats 800000 in
set_option maxRecDepth 100000 in
theorem gcdOf_any {w : World} {v : Value} {l : List Int} (h : IntSl w v l) (_ : l.length ≤ 1048576) : Calls Try.prog 41 #[v] w fun e w' => e = .returned (.tuple #[.int .i64 (gcAns l), .bool (dec (LenOK l))]) ∧ Ext w w' := by
  have HN := Lib.hid h
  by_cases hl : LenOK l
  · have D := Lib.hid (dec_true hl)
    have A := Lib.hid (ifP_t (a := (gcds (ln l) : Int)) hl)
    have HL := Lib.hid hl
    clear hl
    obtain ⟨a, b, o, c, rfl, ha, hl', hm, hc⟩ := h
    unfold maxLen at hm
    have Hc := Lib.hid hc
    have Ha := Lib.hid ha
    clear hc ha
    go_enter Try.func41, Try.ntmps41
    go_wp2_with (first | (go_at_call 66; (with_reducible refine (areLengths_any HN.out).mono ?_); rintro e w' ⟨rfl, rfl⟩; rw [D.out]))
    go_loopg [4, 12] l.length (fun g t i wr => ∃ k : Nat, k ≤ l.length ∧ g = l.length - k ∧ i = .int .i64 k ∧ t = .int .i64 (gcds ((ln l).take k) : Int) ∧ Hid (Ext w wr))
    case atStart => exact ⟨0, Nat.zero_le _, rfl, rfl, rfl, Ext.rfl' w⟩
    case round =>
      obtain ⟨k, hk, rfl, rfl, rfl, Hr⟩ := hrel
      by_cases hlt : k < l.length
      · obtain ⟨y, hc, rfl, _⟩ := Hc.out k hlt
        obtain rfl := Ha.out (by omega)
        obtain ⟨x, hx, h0, h1⟩ := len_get HL.out hlt
        rw [hx] at hc
        have hc' := Hr.out.cell' hc
        have hs := gcds_small HL.out k hk
        have HT := Lib.hid (gcds_take hlt hx)
        obtain ⟨wo, rfl⟩ : ∃ wo : World, wo = wr := ⟨_, rfl⟩
        clear hc hx
        go_wp2
        clear hc'
        go_loopg [4, 6] x (fun g t r wr => ∃ p q : Nat, p ≤ 1000 ∧ q ≤ 1000 ∧ g = q ∧ t = .int .i64 p ∧ r = .int .i64 q ∧ Hid (Ext w wr ∧ Nat.gcd p q = Nat.gcd (gcds ((ln l).take k)) x))
        case atStart => exact ⟨gcds ((ln l).take k), x, by omega, by omega, rfl, rfl, rfl, Hr.out, rfl⟩
        case round =>
          obtain ⟨p, q, hp, hq, hg, rfl, rfl, Hs⟩ := hrel
          have HG := Lib.hid hg
          clear hg
          by_cases hq0 : 0 < q
          · have hlt2 := Nat.mod_lt p hq0
            have Hn := Lib.hid (show Nat.gcd q (p % q) = Nat.gcd (gcds ((ln l).take k)) x from by rw [← Hs.out.2, Nat.gcd_comm q, ← Nat.gcd_rec, Nat.gcd_comm])
            go_wp2
            go_region
            go_wp2
            go_roundg (p % q)
            case measure => have := HG.out; omega
            case rel => exact ⟨q, p % q, by omega, by omega, rfl, rfl, by go_num, Hs.out.1.drew', Hn.out⟩
          · obtain rfl : q = 0 := by omega
            have HE := Lib.hid (show p = gcds ((ln l).take (k + 1)) from by rw [HT.out, ← Hs.out.2, Nat.gcd_zero_right])
            go_wp2
            go_roundg (l.length - (k + 1))
            case measure => omega
            case rel => exact ⟨k + 1, by omega, rfl, by go_num, by rw [← HE.out], Hs.out.1⟩
      · obtain rfl : k = l.length := by omega
        go_wp2
        go_ret2
        exact ⟨ret_ia (by rw [gcAns, A.out, ← ln_length l, List.take_length]) D.out.symm, Hr.out⟩
  · have D := Lib.hid (dec_false hl)
    have A := Lib.hid (ifP_f (a := (gcds (ln l) : Int)) hl)
    clear hl
    go_enter Try.func41, Try.ntmps41
    go_wp2_with (first | (go_at_call 66; (with_reducible refine (areLengths_any HN.out).mono ?_); rintro e w' ⟨rfl, rfl⟩; rw [D.out]))
    go_ret2
    exact ⟨ret_ia A.out.symm D.out.symm, Ext.rfl' w⟩
end Go.Proofs.Ytcjiejbndmnjaaa
