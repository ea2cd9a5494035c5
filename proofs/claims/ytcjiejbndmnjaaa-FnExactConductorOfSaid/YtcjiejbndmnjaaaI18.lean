/- ConductorOf: the model and the program answer the same. -/
import Derived.Test.YtcjiejbndmnjaaaI17
import Derived.Test.YtcjiejbndmnjaaaI7
namespace Go.Proofs.Ytcjiejbndmnjaaa
open Go.RowKit

noncomputable def coN (l : List Int) : Nat := lastNo (ln l) (gcds (ln l)) (3200 / gcds (ln l))
noncomputable def coAns (l : List Int) : Int := ifP (LenOK l) (coN l)
theorem mul_pred {k g p : Nat} (hp : p = k * g) (h0 : 0 < p) : g ≤ p ∧ p - g = (k - 1) * g ∧ k = k - 1 + 1 := by
  cases k with
  | zero => simp at hp; omega
  | succ k => rw [Nat.succ_mul] at hp; rw [Nat.add_sub_cancel]; exact ⟨by omega, by omega, rfl⟩

set_option maxHeartbeats 3200000 in
set_option maxRecDepth 100000 in
theorem nuConductor_any {w : World} {v : Value} {l : List Int} (h : IntSl w v l) (hl : LenOK l) (hlong : l.length ≤ 1048576) : Calls Try.prog 70 #[v] w fun e w' => e = .returned (.int .i64 (coN l)) ∧ Ext w w' := by
  have HN := Lib.hid h
  have HL := Lib.hid hl
  have HP := Lib.hid hl.len
  obtain ⟨g0, g1⟩ := gcds_pos (ln_all hl).1 (ln_all hl).2
  have HG := Lib.hid (show coN l = lastNo (ln l) (gcds (ln l)) (3200 / gcds (ln l)) from rfl)
  have HGC := Lib.hid (fun (w : World) (v : Value) (h : IntSl w v l) => nuGcds_any h hl)
  generalize gcds (ln l) = g at g0 g1 HG HGC
  obtain ⟨M, hM⟩ : ∃ M, M = 3200 / g * g := ⟨_, rfl⟩
  have hM1 : M ≤ 3200 := by rw [hM]; exact Nat.div_mul_le_self _ _
  have eM : (3200 : Int) / (g : Int) * (g : Int) = (M : Int) := by rw [hM]; rfl
  have hq1 : (0 : Int) ≤ (3200 : Int) / (g : Int) := Int.ediv_nonneg (by omega) (by omega)
  have hq2 : (3200 : Int) / (g : Int) ≤ 3200 := by show ((3200 / g : Nat) : Int) ≤ _; have := Nat.div_le_self 3200 g; omega
  have HM := Lib.hid hM
  clear h hl hM
  go_enter Try.func70, Try.ntmps70
  go_wp2_with fail
  (with_reducible refine (HGC.out _ _ HN.out).mono ?_)
  rintro e w1 ⟨rfl, hw⟩
  have K1 := Lib.hid hw
  clear hw
  go_wp2_with fail
  (with_reducible refine (nuSums_any _ (HN.out.ext K1.out) HP.out hlong (by omega)).mono ?_)
  rintro e w2 ⟨rfl, hw, hr⟩
  have K2 := Lib.hid (K1.out.trans' hw)
  have HR := Lib.hid hr
  clear hw hr eM hq1 hq2
  go_wp2
  go_loop [6] (fun cc => ∃ p k : Nat, p ≤ M ∧ cc = .int .i64 (p : Int) ∧ Hid (p = k * g ∧ lastNo (ln l) g k = coN l)) (fun cc => (intOf cc).toNat)
  case atStart => exact ⟨M, 3200 / g, Nat.le_refl _, rfl, HM.out, HG.out.symm⟩
  case round =>
    obtain ⟨p, k, hp, rfl, Hr⟩ := hrel
    by_cases h0 : 0 < p
    · obtain ⟨h1, h2, h3⟩ := mul_pred Hr.out.1 h0
      have HK := Lib.hid (And.intro h2 h3)
      have c1 := HR.out.cell (i := p - g) (by omega)
      have en : (p : Int) - (g : Int) = ((p - g : Nat) : Int) := by omega
      have hne : ((p : Int) == 0) = false := beq_eq_false_iff_ne.2 (by omega)
      clear h2 h3
      by_cases hs : Sum (ln l) (p - g)
      · rw [show sumAll l (p - g) = .bool true from by unfold sumAll; rw [dec_true hs]] at c1
        have HS := Lib.hid (show lastNo (ln l) g (k - 1) = coN l from by
          have := Hr.out.2
          rw [HK.out.2, lastNo_yes (by rw [← HK.out.1]; exact hs)] at this
          exact this)
        clear hs
        go_wp2
        go_round
        case rel => exact ⟨p - g, k - 1, by omega, by go_num, HK.out.1, HS.out⟩
        case measure => simp [intOf]; omega
      · rw [show sumAll l (p - g) = .bool false from by unfold sumAll; rw [dec_false hs]] at c1
        have HS := Lib.hid (show p - g + 1 = coN l from by
          have := Hr.out.2
          rw [HK.out.2, lastNo_no (by rw [← HK.out.1]; exact hs)] at this
          rw [HK.out.1]; exact this)
        clear hs
        go_wp2
        go_ret
        exact ⟨ret_i (by rw [← HS.out]; omega), K2.out⟩
    · obtain rfl : p = 0 := by omega
      have HS := Lib.hid (show coN l = 0 from by
        have h1 := Hr.out.1
        have hk : k = 0 := by
          rcases Nat.eq_zero_or_pos k with h | h
          · exact h
          · have := Nat.mul_pos h g0; omega
        rw [← Hr.out.2, hk]; rfl)
      clear h0
      go_wp2
      go_ret
      exact ⟨ret_i (by rw [HS.out]; rfl), K2.out⟩

set_option maxRecDepth 100000 in
theorem specConductorOf_any {w : World} {v : Value} {l : List Int} (h : IntSl w v l) (hlong : l.length ≤ 1048576) : Calls Try.prog 44 #[v] w fun e w' => e = .returned (.tuple #[.int .i64 (coAns l), .bool (dec (LenOK l))]) ∧ Ext w w' := by
  have HN := Lib.hid h
  clear h
  by_cases hl : LenOK l
  · have D := Lib.hid (dec_true hl)
    have A := Lib.hid (ifP_t (a := (coN l : Int)) hl)
    have HL := Lib.hid hl
    clear hl
    go_enter Try.func44, Try.ntmps44
    go_wp2_with (first | (go_at_call 64; (with_reducible refine (nuLengths_any HN.out).mono ?_); rintro e w' ⟨rfl, rfl⟩; rw [D.out]) | (go_at_call 70; (with_reducible refine (nuConductor_any HN.out HL.out hlong).mono ?_); rintro e w' ⟨rfl, hx⟩; have HX := Lib.hid hx; clear hx))
    go_ret2
    exact ⟨ret_ia A.out.symm D.out.symm, HX.out⟩
  · have D := Lib.hid (dec_false hl)
    have A := Lib.hid (ifP_f (a := (coN l : Int)) hl)
    clear hl
    go_enter Try.func44, Try.ntmps44
    go_wp2_with (first | (go_at_call 64; (with_reducible refine (nuLengths_any HN.out).mono ?_); rintro e w' ⟨rfl, rfl⟩; rw [D.out]))
    go_ret2
    exact ⟨ret_ia A.out.symm D.out.symm, Ext.rfl' w⟩

theorem sumsFrom_1600 {w : World} {v : Value} {l : List Int} (h : IntSl w v l) (hl : LenP l) (hlen : l.length ≤ 1000) :
    Calls Try.prog 69 #[v, .int .i64 1600] w fun e w' => e = .returned (.slice (some ⟨w.heap.size, 0, none⟩) (l.length + 1) (l.length + 1)) ∧ TabAt w w' l 1600 0 := sumsFrom_any 1600 h hl hlen (by omega)

set_option maxHeartbeats 3200000 in
set_option maxRecDepth 100000 in
theorem conductorOf_any {w : World} {v : Value} {l : List Int} (h : IntSl w v l) (hlong : l.length ≤ 1048576) : Calls Try.prog 45 #[v] w fun e w' => e = .returned (.tuple #[.int .i64 (coAns l), .bool (dec (LenOK l))]) ∧ Ext w w' := by
  have HN := Lib.hid h
  clear h
  by_cases hl : LenOK l
  · have D := Lib.hid (dec_true hl)
    have A := Lib.hid (ifP_t (a := (coN l : Int)) hl)
    have HL := Lib.hid hl
    have HP := Lib.hid hl.len
    have hlen := len_short hl
    obtain ⟨g0, g1⟩ := gcds_pos (ln_all hl).1 (ln_all hl).2
    have HG := Lib.hid (show lastNo (ln l) (gcds (ln l)) (1600 / gcds (ln l) + 1) = coN l from (lastNo_same (ln_all hl).1 (ln_all hl).2).symm)
    have B := Lib.hid (show gcAns l = (gcds (ln l) : Int) from ifP_t hl)
    generalize gcds (ln l) = g at g0 g1 HG B
    have hd := Nat.div_add_mod 1600 g
    have hlt := Nat.mod_lt 1600 g0
    obtain ⟨r, hr⟩ : ∃ r, r = 1600 % g := ⟨_, rfl⟩
    rw [← hr] at hd hlt
    have er : (1600 : Int) % (g : Int) = (r : Int) := by rw [hr]; rfl
    have HD := Lib.hid (show 1600 - r + g = (1600 / g + 1) * g ∧ r ≤ 1600 from by rw [Nat.succ_mul, Nat.mul_comm]; omega)
    have hr1 : r ≤ 1600 := HD.out.2
    clear hl hd hr
    go_enter Try.func45, Try.ntmps45
    go_wp2_with fail
    (with_reducible refine (gcdOf_any HN.out hlong).mono ?_)
    rintro e w1 ⟨rfl, hw⟩
    have K1 := Lib.hid hw
    rw [B.out, D.out]
    clear hw
    go_wp2_with fail
    (with_reducible refine (sumsFrom_1600 (HN.out.ext K1.out) HP.out (by omega)).mono ?_)
    rintro e w2 ⟨rfl, ht⟩
    have K2 := Lib.hid (K1.out.trans' ht.1)
    obtain ⟨h1, R, T, h2, h3⟩ := ht
    obtain ⟨h4, h5⟩ := h3 0 (by omega) (by omega)
    have c0 := h2.cell (i := 0) (by omega)
    have HB := Lib.hid h4
    obtain ⟨c2, m2, gf2, hR0, hb1, hb2, _, _, _⟩ := h4
    unfold maxLen at hb2
    rw [hR0] at c0
    clear h1 h2 h3 h5 hR0
    go_wp2
    clear c0 er
    go_loop [8] (fun mm => ∃ (i' : Int) (p k : Nat), p ≤ 3200 ∧ i' ≤ 1600 ∧ i' + g = p ∧ mm = .int .i64 i' ∧ Hid (p = k * g ∧ lastNo (ln l) g k = coN l)) (fun mm => (intOf mm + 100).toNat)
    case atStart => exact ⟨1600 - (r : Int), 1600 - r + g, 1600 / g + 1, by omega, by omega, by omega, rfl, HD.out.1, HG.out⟩
    case round =>
      obtain ⟨i', p, k, hp, hi16, hip, rfl, Hr⟩ := hrel
      by_cases h0 : 0 ≤ i'
      · obtain ⟨m, rfl⟩ := Int.eq_ofNat_of_zero_le h0
        obtain ⟨h1, h2, h3⟩ := mul_pred Hr.out.1 (by omega)
        have HK := Lib.hid (And.intro (show m = (k - 1) * g by omega) h3)
        have hmp : m + g = p := by omega
        have HMP := Lib.hid hmp
        have hm16 : m ≤ 1600 := by omega
        clear h0 h1 h2 h3 hip hmp
        have c1 := (HB.out.cell (i := m) (by omega)).1
        by_cases hs : Sum (ln l) m
        · rw [show sumAll (l.drop 0) m = .bool true from by unfold sumAll; rw [List.drop_zero, dec_true hs]] at c1
          have HS := Lib.hid (show lastNo (ln l) g (k - 1) = coN l from by
            have := Hr.out.2
            rw [HK.out.2, lastNo_yes (by rw [← HK.out.1]; exact hs)] at this
            exact this)
          clear hs
          go_wp2
          go_round
          case rel => exact ⟨(m : Int) - (g : Int), m, k - 1, by omega, by omega, by omega, by go_num, HK.out.1, HS.out⟩
          case measure => simp [intOf]; omega
        · rw [show sumAll (l.drop 0) m = .bool false from by unfold sumAll; rw [List.drop_zero, dec_false hs]] at c1
          have HS := Lib.hid (show m + 1 = coN l from by
            have := Hr.out.2
            rw [HK.out.2, lastNo_no (by rw [← HK.out.1]; exact hs)] at this
            rw [← HK.out.1] at this; exact this)
          clear hs
          go_wp2
          go_ret2
          exact ⟨ret_ia (by rw [coAns, A.out, ← HS.out]; omega) D.out.symm, K2.out⟩
      · have HS := Lib.hid (show coN l = 0 from by
          have h1 := Hr.out.1
          have hk : k = 0 := by
            rcases Nat.eq_zero_or_pos k with h | h
            · exact h
            · have := Nat.le_mul_of_pos_left g h; omega
          rw [← Hr.out.2, hk]; rfl)
        clear hip
        go_wp2
        go_ret2
        exact ⟨ret_ia (by rw [coAns, A.out, HS.out]; rfl) D.out.symm, K2.out⟩
  · have D := Lib.hid (dec_false hl)
    have A := Lib.hid (ifP_f (a := (coN l : Int)) hl)
    clear hl
    go_enter Try.func45, Try.ntmps45
    go_wp2_with fail
    (with_reducible refine (gcdOf_any HN.out hlong).mono ?_)
    rintro e w1 ⟨rfl, hw⟩
    have K1 := Lib.hid hw
    rw [D.out]
    clear hw
    go_wp2
    go_ret2
    exact ⟨ret_ia A.out.symm D.out.symm, K1.out⟩
end Go.Proofs.Ytcjiejbndmnjaaa
