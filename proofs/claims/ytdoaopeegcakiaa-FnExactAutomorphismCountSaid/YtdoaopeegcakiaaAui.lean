/- The contract of the model's AutomorphismCount. -/
import Derived.Test.YtdoaopeegcakiaaAuh
namespace Go.Proofs.Ytdoaopeegcakiaa
open Go.RowKit

theorem runK_le (key : Nat → List Int) (l : List Nat) : ∀ i, runK key l i ≤ i
  | 0 => Nat.le_refl _
  | i + 1 => by
    have := runK_le key l i
    rw [runK]
    split <;> omega
theorem bcnt_le {N : Net} (hN : Leads' N) {v : Nat} (hv : v < N.ends.length) : bcnt N v ≤ N.ends.length := by
  have h := (best_spec hN hv).2.2.1
  rw [h, ← cnt_eq hN hv]
  exact Nat.le_trans List.countP_le_length (nd_len hN hv)
theorem pcells_at1 {N : Net} {C Wv : Nat → Value} : ∀ (L : List Nat) (i : Nat), i < L.length → (pcells N C Wv L)[i * 3 + 1]? = some (Wv (ig L i)) ∧ (pcells N C Wv L)[i * 3 + 2]? = some (.int .i64 (bcnt N (ig L i) : Int))
  | a :: l, 0, _ => ⟨rfl, rfl⟩
  | a :: l, i + 1, h => by
    rw [pcells_cons, show (i + 1) * 3 + 1 = i * 3 + 1 + 1 + 1 + 1 by omega, show (i + 1) * 3 + 2 = i * 3 + 2 + 1 + 1 + 1 by omega]
    simp only [List.getElem?_cons_succ]
    have := pcells_at1 (N := N) (C := C) (Wv := Wv) l i (by simpa using h)
    rw [this.1, this.2]
    simp [ig, List.getD]

set_option maxHeartbeats 3200000 in
set_option maxRecDepth 100000 in
theorem specAutomorphismCount_any {w : World} {v : Value} {N : Net} (h : NetAt w v N) :
    Calls Try.prog 19 #[v] w fun e w' => e = .returned (.tuple #[.int .i64 (autA N), .bool (dec (AutB N))]) ∧ Ext w w' := by
  have HN := Lib.hid h
  obtain ⟨v0, v1, v2, rfl, -, -, -⟩ := h
  have HX := Lib.hid (boxed_ext w v0 v1 v2 31)
  have HR := Lib.hid (row3_made w v0 v1 v2 31)
  obtain ⟨p0, p1, p2, -, -, -⟩ := row3_facts HR.out
  by_cases hg : Good N
  case neg =>
    have G := Lib.hid (dec_false hg)
    have A := Lib.hid (aut_f (N := N) fun h => hg h.1)
    clear hg
    go_enter Try.func19, Try.ntmps19
    go_wp2_with (first | (go_at_call 44; (with_reducible refine (neGood_any (HN.out.ext HX.out)).mono ?_); rintro e w1 ⟨rfl, hw⟩; rw [G.out]; have K1 := Lib.hid (HX.out.trans' hw); clear hw))
    go_ret2
    exact ⟨ret_ii A.out.1.symm A.out.2.symm, K1.out⟩
  have G := Lib.hid (dec_true hg)
  have HG := Lib.hid hg
  have GW := Lib.hid (good_w hg)
  have HM := Lib.hid (mutual_of hg)
  have h40 : N.ends.length ≤ 40 := hg.1.2
  obtain ⟨P, hP⟩ : ∃ P, P = partsR N N.ends.length := ⟨_, rfl⟩
  have HP := Lib.hid hP
  have PR := Lib.hid (show ∀ r ∈ P, r < N.ends.length from fun r hr => by
    have := (partsR_perm N N.ends.length).mem_iff.1 (hP ▸ hr)
    exact List.mem_range.1 (List.mem_filter.1 this).1)
  have pl : P.length ≤ 40 := by
    have h1 := (partsR_perm N N.ends.length).length_eq
    rw [← hP] at h1
    have h2 := List.length_filter_le (rep N) (List.range N.ends.length)
    rw [List.length_range] at h2
    omega
  have AM := Lib.hid (show prodK (keyN N) (bcnt N) P P.length = autN N by rw [hP]; exact aut_model GW.out.leads HM.out)
  have MONO := Lib.hid (show ∀ i, i ≤ P.length → prodK (keyN N) (bcnt N) P i ≤ autN N from fun i hi => by
    rw [← AM.out]
    exact prodK_mono (keyN N) (bcnt N) (fun x hx => (best_spec GW.out.leads (PR.out x hx)).2.2.2.1) i P.length hi (Nat.le_refl _))
  clear hg
  go_enter Try.func19, Try.ntmps19
  go_wp2_with fail
  (with_reducible refine (neGood_any (HN.out.ext HX.out)).mono ?_)
  rintro e w1 ⟨rfl, hw⟩
  rw [G.out]
  have K1 := Lib.hid (HX.out.trans' hw)
  obtain ⟨q0, q1, q2, -, -, -⟩ := row3_facts (row_ext HR.out hw)
  clear hw p0 p1 p2
  go_wp2_with fail
  (with_reducible refine (isParts_any (HN.out.ext K1.out) HG.out).mono ?_)
  rintro e w2 ⟨ov, C, Wv, rfl, hx, ho, hr⟩
  rw [← hP] at ho hr
  have K2 := Lib.hid (K1.out.trans' hx)
  have OUT := Lib.hid ho
  have HRD := Lib.hid hr
  clear hP hx hr q0 q1 q2
  obtain ⟨ao, oc, rfl⟩ := owns_slice ho
  have PA := Lib.hid (show 0 < P.length → ∃ g, ao = some ⟨g, 0, none⟩ from fun h0 => by
    rcases ho.2 with ⟨_, e⟩ | ⟨g, cap, cur, e, _⟩
    · omega
    · cases e; exact ⟨g, rfl⟩)
  clear ho
  go_wp2_with fail
  go_loopg [4, 5, 16] P.length (fun g cv rv i wr => ∃ k : Nat, k ≤ P.length ∧ g = P.length - k ∧ cv = .int .i64 (prodK (keyN N) (bcnt N) P k : Int) ∧ rv = .int .i64 (runK (keyN N) P k : Int) ∧ i = .int .i64 (k : Int) ∧ prodK (keyN N) (bcnt N) P k ≤ 1000000000000 ∧ Hid (Ext w2 wr))
  case atStart => exact ⟨0, Nat.zero_le _, rfl, rfl, rfl, rfl, by simp [prodK], Ext.rfl' _⟩
  case round =>
    obtain ⟨k, hk, rfl, rfl, rfl, rfl, hbd, Hr⟩ := hrel
    by_cases hlt : k < P.length
    · obtain ⟨g, rfl⟩ := PA.out (by omega)
      have z0 := World.ownsRow.cellAt (owns_ext OUT.out Hr.out) (k * 3) (by omega)
      have z1 := World.ownsRow.cellAt (owns_ext OUT.out Hr.out) (k * 3 + 1) (by omega)
      have z2 := World.ownsRow.cellAt (owns_ext OUT.out Hr.out) (k * 3 + 2) (by omega)
      rw [pcells_at _ _ hlt] at z0
      rw [(pcells_at1 _ _ hlt).1] at z1
      rw [(pcells_at1 _ _ hlt).2] at z2
      obtain ⟨hc, hw⟩ := HRD.out _ (ig_in hlt)
      have RC := Lib.hid (hc.ext Hr.out)
      obtain ⟨ca, _, _, cc, ec, -⟩ := hc
      obtain ⟨wa, _, _, wc, ew, -⟩ := hw
      rw [ec] at z0
      rw [ew] at z1
      have RC2 := Lib.hid (show IntSl wr (.slice ca (keyN N (ig P k)).length cc) (keyN N (ig P k)) by rw [← ec]; exact RC.out)
      have hrun := runK_le (keyN N) P k
      have hcnt : bcnt N (ig P k) ≤ 40 := Nat.le_trans (bcnt_le GW.out.leads (PR.out _ (ig_in hlt))) h40
      clear ec ew
      go_wp2_with fail
      obtain ⟨W5, hW5⟩ : ∃ W, W = wr.alloc (.cells #[.slice ca (keyN N (ig P k)).length cc, .slice wa (wk N (bn N (ig P k))).length wc, .int .i64 (bcnt N (ig P k) : Int)] 64) := ⟨_, rfl⟩
      have XE := Lib.hid (show Ext wr W5 by rw [hW5]; exact (Ext.rfl' wr).alloc' _)
      have RB := Lib.hid (show W5.rowIs wr.heap.size 64 3 (tri (.slice ca (keyN N (ig P k)).length cc) (.slice wa (wk N (bn N (ig P k))).length wc) (.int .i64 (bcnt N (ig P k) : Int))) by rw [hW5]; exact row3_made _ _ _ _ _)
      rw [← hW5]
      clear hW5 z0 z1 z2
      obtain ⟨b0, b1, b2, -, -, -⟩ := row3_facts RB.out
      by_cases h0 : k = 0
      · subst h0
        have RK := Lib.hid (show runK (keyN N) P (0 + 1) = runK (keyN N) P 0 + 1 by simp [runK])
        go_wp2_with fail
        go_quiet (fail)
        have XD := Lib.hid (show Ext w2 (W5.drewN nq) from (Hr.out.trans' XE.out).drewN' _)
        obtain ⟨d0, d1, d2, -, -, -⟩ := row3_facts (row_ext RB.out ((Ext.rfl' W5).drewN' nq))
        have hM1 : (runK (keyN N) P 0 + 1) * bcnt N (ig P 0) ≤ 1640 := Nat.mul_le_mul (show (runK (keyN N) P 0 + 1) ≤ 41 by omega) hcnt
        have hM2 : prodK (keyN N) (bcnt N) P 0 * ((runK (keyN N) P 0 + 1) * bcnt N (ig P 0)) ≤ 1000000000000 * 1640 := Nat.mul_le_mul hbd hM1
        have hPK := Lib.hid (show prodK (keyN N) (bcnt N) P (0 + 1) = prodK (keyN N) (bcnt N) P 0 * ((runK (keyN N) P 0 + 1) * bcnt N (ig P 0)) by show prodK (keyN N) (bcnt N) P 0 * (runK (keyN N) P (0 + 1) * bcnt N (ig P 0)) = _; rw [RK.out])
        have c1 : (((runK (keyN N) P 0 : Int) + 1) * (bcnt N (ig P 0) : Int)) = (((runK (keyN N) P 0 + 1) * bcnt N (ig P 0) : Nat) : Int) := by simp
        have c2 : ((prodK (keyN N) (bcnt N) P 0 : Int) * (((runK (keyN N) P 0 : Int) + 1) * (bcnt N (ig P 0) : Int))) = ((prodK (keyN N) (bcnt N) P 0 * ((runK (keyN N) P 0 + 1) * bcnt N (ig P 0)) : Nat) : Int) := by simp
        have CC2 := Lib.hid c2
        have hw1 : IntKind.i64.wrap (((runK (keyN N) P 0 : Int) + 1) * (bcnt N (ig P 0) : Int)) = ((runK (keyN N) P 0 : Int) + 1) * (bcnt N (ig P 0) : Int) := IntWalk.i64_in _ (by omega)
        have hw2 : IntKind.i64.wrap ((prodK (keyN N) (bcnt N) P 0 : Int) * (((runK (keyN N) P 0 : Int) + 1) * (bcnt N (ig P 0) : Int))) = (prodK (keyN N) (bcnt N) P 0 : Int) * (((runK (keyN N) P 0 : Int) + 1) * (bcnt N (ig P 0) : Int)) := IntWalk.i64_in _ (by omega)
        by_cases hov : 1000000000000 < prodK (keyN N) (bcnt N) P (0 + 1)
        · have hd : decide ((1000000000000 : Int) < (prodK (keyN N) (bcnt N) P 0 : Int) * (((runK (keyN N) P 0 : Int) + 1) * (bcnt N (ig P 0) : Int))) = true := decide_eq_true (by rw [hPK.out] at hov; omega)
          have A := Lib.hid (aut_f (N := N) fun h => by have h1 := MONO.out (0 + 1) hlt; have := h.2; omega)
          clear c1 c2 hov hM1 hM2
          go_wp2
          go_ret2
          exact ⟨ret_ii A.out.1.symm A.out.2.symm, K2.out.trans' (XD.out)⟩
        · have hd : decide ((1000000000000 : Int) < (prodK (keyN N) (bcnt N) P 0 : Int) * (((runK (keyN N) P 0 : Int) + 1) * (bcnt N (ig P 0) : Int))) = false := decide_eq_false (by rw [hPK.out] at hov; omega)
          have HOV := Lib.hid hov
          clear c1 c2 hov hM1 hM2
          go_wp2
          go_roundg (P.length - (0 + 1))
          case measure => omega
          case rel => exact ⟨0 + 1, by omega, rfl, by rw [hPK.out, ← CC2.out], by rw [RK.out]; go_num, by go_num, by have := HOV.out; omega, XD.out⟩
      · obtain ⟨j, hj⟩ : ∃ j, k = j + 1 := ⟨k - 1, by omega⟩
        have hk1 : (k : Int) - 1 = (j : Int) := by omega
        have hk0 : decide (0 < k) = true := decide_eq_true (by omega)
        have hjl : j < P.length := by omega
        have hjI : (j : Int) < (P.length : Int) := by omega
        have HJ := Lib.hid hj
        have y0 := World.ownsRow.cellAt (owns_ext OUT.out (Hr.out.trans' XE.out)) (j * 3) (by omega)
        rw [pcells_at _ _ hjl] at y0
        have RJ := Lib.hid ((HRD.out _ (ig_in hjl)).1.ext (Hr.out.trans' XE.out))
        have R5 := Lib.hid (RC2.out.ext XE.out)
        clear hj h0
        by_cases hs : keyN N (ig P j) = keyN N (ig P k)
        · have RK := Lib.hid (show runK (keyN N) P (k + 1) = runK (keyN N) P k + 1 by rw [runK, if_neg fun h => h.2 (by rw [HJ.out]; rw [HJ.out] at hs; exact hs)])
          have D := Lib.hid (decide_eq_true hs)
          clear hs
          go_wp2_with fail
          go_quiet (exact l1Same_quiet RJ.out R5.out D.out)
          have XD := Lib.hid (show Ext w2 (W5.drewN nq) from (Hr.out.trans' XE.out).drewN' _)
          obtain ⟨d0, d1, d2, -, -, -⟩ := row3_facts (row_ext RB.out ((Ext.rfl' W5).drewN' nq))
          have hM1 : (runK (keyN N) P k + 1) * bcnt N (ig P k) ≤ 1640 := Nat.mul_le_mul (show (runK (keyN N) P k + 1) ≤ 41 by omega) hcnt
          have hM2 : prodK (keyN N) (bcnt N) P k * ((runK (keyN N) P k + 1) * bcnt N (ig P k)) ≤ 1000000000000 * 1640 := Nat.mul_le_mul hbd hM1
          have hPK := Lib.hid (show prodK (keyN N) (bcnt N) P (k + 1) = prodK (keyN N) (bcnt N) P k * ((runK (keyN N) P k + 1) * bcnt N (ig P k)) by show prodK (keyN N) (bcnt N) P k * (runK (keyN N) P (k + 1) * bcnt N (ig P k)) = _; rw [RK.out])
          have c1 : (((runK (keyN N) P k : Int) + 1) * (bcnt N (ig P k) : Int)) = (((runK (keyN N) P k + 1) * bcnt N (ig P k) : Nat) : Int) := by simp
          have c2 : ((prodK (keyN N) (bcnt N) P k : Int) * (((runK (keyN N) P k : Int) + 1) * (bcnt N (ig P k) : Int))) = ((prodK (keyN N) (bcnt N) P k * ((runK (keyN N) P k + 1) * bcnt N (ig P k)) : Nat) : Int) := by simp
          have CC2 := Lib.hid c2
          have hw1 : IntKind.i64.wrap (((runK (keyN N) P k : Int) + 1) * (bcnt N (ig P k) : Int)) = ((runK (keyN N) P k : Int) + 1) * (bcnt N (ig P k) : Int) := IntWalk.i64_in _ (by omega)
          have hw2 : IntKind.i64.wrap ((prodK (keyN N) (bcnt N) P k : Int) * (((runK (keyN N) P k : Int) + 1) * (bcnt N (ig P k) : Int))) = (prodK (keyN N) (bcnt N) P k : Int) * (((runK (keyN N) P k : Int) + 1) * (bcnt N (ig P k) : Int)) := IntWalk.i64_in _ (by omega)
          by_cases hov : 1000000000000 < prodK (keyN N) (bcnt N) P (k + 1)
          · have hd : decide ((1000000000000 : Int) < (prodK (keyN N) (bcnt N) P k : Int) * (((runK (keyN N) P k : Int) + 1) * (bcnt N (ig P k) : Int))) = true := decide_eq_true (by rw [hPK.out] at hov; omega)
            have A := Lib.hid (aut_f (N := N) fun h => by have h1 := MONO.out (k + 1) hlt; have := h.2; omega)
            clear c1 c2 hov hM1 hM2
            go_wp2
            go_ret2
            exact ⟨ret_ii A.out.1.symm A.out.2.symm, K2.out.trans' (XD.out)⟩
          · have hd : decide ((1000000000000 : Int) < (prodK (keyN N) (bcnt N) P k : Int) * (((runK (keyN N) P k : Int) + 1) * (bcnt N (ig P k) : Int))) = false := decide_eq_false (by rw [hPK.out] at hov; omega)
            have HOV := Lib.hid hov
            clear c1 c2 hov hM1 hM2
            go_wp2
            go_roundg (P.length - (k + 1))
            case measure => omega
            case rel => exact ⟨k + 1, by omega, rfl, by rw [hPK.out, ← CC2.out], by rw [RK.out]; go_num, by go_num, by have := HOV.out; omega, XD.out⟩
        · have RK := Lib.hid (show runK (keyN N) P (k + 1) = 1 by rw [runK, if_pos ⟨by omega, by rw [HJ.out]; rw [HJ.out] at hs; exact hs⟩])
          have D := Lib.hid (decide_eq_false hs)
          clear hs
          go_wp2_with fail
          go_quiet (exact l1Same_quiet RJ.out R5.out D.out)
          have XD := Lib.hid (show Ext w2 (W5.drewN nq) from (Hr.out.trans' XE.out).drewN' _)
          obtain ⟨d0, d1, d2, -, -, -⟩ := row3_facts (row_ext RB.out ((Ext.rfl' W5).drewN' nq))
          have hM2 : prodK (keyN N) (bcnt N) P k * bcnt N (ig P k) ≤ 1000000000000 * 40 := Nat.mul_le_mul hbd hcnt
          have hPK := Lib.hid (show prodK (keyN N) (bcnt N) P (k + 1) = prodK (keyN N) (bcnt N) P k * bcnt N (ig P k) by show prodK (keyN N) (bcnt N) P k * (runK (keyN N) P (k + 1) * bcnt N (ig P k)) = _; rw [RK.out, Nat.one_mul])
          have c2 : ((prodK (keyN N) (bcnt N) P k : Int) * (bcnt N (ig P k) : Int)) = ((prodK (keyN N) (bcnt N) P k * bcnt N (ig P k) : Nat) : Int) := by simp
          have CC2 := Lib.hid c2
          have hw1 : IntKind.i64.wrap (bcnt N (ig P k) : Int) = (bcnt N (ig P k) : Int) := IntWalk.i64_in _ (by omega)
          have hw2 : IntKind.i64.wrap ((prodK (keyN N) (bcnt N) P k : Int) * (bcnt N (ig P k) : Int)) = (prodK (keyN N) (bcnt N) P k : Int) * (bcnt N (ig P k) : Int) := IntWalk.i64_in _ (by omega)
          by_cases hov : 1000000000000 < prodK (keyN N) (bcnt N) P (k + 1)
          · have hd : decide ((1000000000000 : Int) < (prodK (keyN N) (bcnt N) P k : Int) * (bcnt N (ig P k) : Int)) = true := decide_eq_true (by rw [hPK.out] at hov; omega)
            have A := Lib.hid (aut_f (N := N) fun h => by have h1 := MONO.out (k + 1) hlt; have := h.2; omega)
            clear c2 hov hM2
            go_wp2
            go_ret2
            exact ⟨ret_ii A.out.1.symm A.out.2.symm, K2.out.trans' (XD.out)⟩
          · have hd : decide ((1000000000000 : Int) < (prodK (keyN N) (bcnt N) P k : Int) * (bcnt N (ig P k) : Int)) = false := decide_eq_false (by rw [hPK.out] at hov; omega)
            have HOV := Lib.hid hov
            clear c2 hov hM2
            go_wp2
            go_roundg (P.length - (k + 1))
            case measure => omega
            case rel => exact ⟨k + 1, by omega, rfl, by rw [hPK.out, ← CC2.out], by rw [RK.out]; go_num, by go_num, by have := HOV.out; omega, XD.out⟩
    · obtain rfl : k = P.length := by omega
      have A := Lib.hid (aut_t (N := N) ⟨HG.out, by rw [← AM.out]; exact hbd⟩)
      have AE := Lib.hid AM.out
      go_wp2
      go_ret2
      exact ⟨ret_ii (by rw [A.out.1, AE.out]) A.out.2.symm, K2.out.trans' Hr.out⟩
end Go.Proofs.Ytdoaopeegcakiaa
