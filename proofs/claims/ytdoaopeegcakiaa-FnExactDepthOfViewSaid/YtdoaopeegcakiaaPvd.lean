/- The contract of the program's DepthOfView. -/
import Derived.Test.YtdoaopeegcakiaaPvm
namespace Go.Proofs.Ytdoaopeegcakiaa
open Go.RowKit

/-- What holds at the label. -/
def DvJ (s : Bs) (w : World) (a : Act) (wj : World) : Prop := ∃ (L : List Nat) (r : Bs) (d : Option Nat) (mv : Value) (u2 u3 u7 u8 u9 u10 u11 u12 u13 u14 u15 u16 u17 u18 u19 u20 u21 u22 u23 u24 u25 u26 u27 u28 u29 u30 u31 u32 u33 u34 u35 u36 u37 u38 u39 u40 u41 u42 u43 u44 u45 u46 u47 u48 u49 u50 u51 u52 u53 u54 u55 u56 u57 u58 u59 u60 u61 u62 u63 u64 u65 u66 u67 u68 u69 u70 u71 u72 u73 u74 u75 u76 u77 u78 u79 u80 u81 : Value), a = { tmps := #[.string (bs s), undef, u2, u3, .pointer (some ⟨w.heap.size, 0, none⟩), .int .i64 (dI d), mv, u7, u8, u9, u10, u11, u12, u13, u14, u15, u16, u17, u18, u19, u20, u21, u22, u23, u24, u25, u26, u27, u28, u29, u30, u31, u32, u33, u34, u35, u36, u37, u38, u39, u40, u41, u42, u43, u44, u45, u46, u47, u48, u49, u50, u51, u52, u53, u54, u55, u56, u57, u58, u59, u60, u61, u62, u63, u64, u65, u66, u67, u68, u69, u70, u71, u72, u73, u74, u75, u76, u77, u78, u79, u80, u81], defers := [] } ∧ Hid (DvInv s w L r d mv wj)
set_option maxHeartbeats 12800000 in
set_option maxRecDepth 100000 in
theorem depthOfView_any (s : Bs) (w : World) :
    Calls Try.prog 32 #[.string (bs s)] w fun e w' => e = .returned (.tuple #[.int .i64 (depV s), .bool (dec (IsV s))]) ∧ Ext w w' := by
  have hsz := bs_size s
  by_cases hl : s.length ≤ 4000
  case neg =>
    have hd : decide (4000 < (s.length : Int)) = true := decide_eq_true (by omega)
    have A := Lib.hid (depV_f (s := s) (.inl hl))
    clear hl
    go_enter Try.func32, Try.ntmps32
    go_wp2
    go_step3
    go_wp2
    rw [Exit.noGoto_ret]
    go_ret2
    exact ⟨ret_ib A.out.1.symm A.out.2.symm, Ext.rfl' _⟩
  have hd : decide (4000 < (s.length : Int)) = false := decide_eq_false (by omega)
  obtain ⟨i0, hi, hz0, hz1, hz2⟩ := info_parts Try.info3
  have I0 := Lib.hid (And.intro hi (And.intro hz0 (And.intro hz1 hz2)))
  clear hi hz0 hz1 hz2
  go_enter Try.func32, Try.ntmps32
  go_wp2
  refine wp_scope_jumps3 0 (DvJ s w) (fun _ wj => rdLen w.heap.size wj) rfl ?_ ?_
  · rintro a wj ⟨L, r, d, mv, u2, u3, u7, u8, u9, u10, u11, u12, u13, u14, u15, u16, u17, u18, u19, u20, u21, u22, u23, u24, u25, u26, u27, u28, u29, u30, u31, u32, u33, u34, u35, u36, u37, u38, u39, u40, u41, u42, u43, u44, u45, u46, u47, u48, u49, u50, u51, u52, u53, u54, u55, u56, u57, u58, u59, u60, u61, u62, u63, u64, u65, u66, u67, u68, u69, u70, u71, u72, u73, u74, u75, u76, u77, u78, u79, u80, u81, rfl, HI⟩
    go_hide hQQ
    have HQQ := Lib.hid hQQ
    clear hQQ
    have HM := Lib.hid HI.out.mem
    have HA := Lib.hid HI.out.ans
    have HD := Lib.hid HI.out.dep
    have hr4 : r.length ≤ 1048576 := by have := HI.out.mem.rl; omega
    have HLEN := Lib.hid (RdS.len HI.out.mem.rd)
    obtain ⟨ma, mc, hmv⟩ := GrowN.slice HI.out.mem.grow
    have h81 := HI.out.mem.len
    clear HI hd
    obtain ⟨q, hq⟩ : ∃ q, q = L.length := ⟨_, rfl⟩
    rw [ints_len, ← hq] at hmv
    subst hmv
    rw [← hq] at h81
    obtain ⟨bp, hbp⟩ : ∃ b, b = inP L := ⟨_, rfl⟩
    have hp1 : decide (0 < (q : Int)) = bp := by rw [hq, hbp]; cases L <;> simp [inP]
    have hp2 : decide (0 < q) = bp := by rw [hq, hbp]; cases L <;> simp [inP]
    have HQ := Lib.hid hq
    have HBP := Lib.hid hbp
    clear hq hbp
    cases hth : th bp r with
    | none =>
      have A := Lib.hid (depV_f (s := s) (.inr (HA.out.symm.trans (KK_none (by rw [← HBP.out]; exact hth)))))
      have HT := Lib.hid hth
      clear hth
      go_wp2_with fail
      (with_reducible refine (takeHead_n HM.out.rd hr4 HT.out).mono ?_)
      rintro e w1 ⟨dd, rfl, hc⟩
      have X := Lib.hid (HM.out.chg_ext hc)
      clear hc
      go_wp2
      rw [← HQQ.out]
      simp only [Exit.jump]
      go_ret2
      exact ⟨ret_ib A.out.1.symm A.out.2.symm, X.out⟩
    | some z =>
      obtain ⟨dg, r1⟩ := z
      obtain ⟨hr1, hd0, hd6⟩ := th_len hth
      obtain ⟨m, rfl⟩ := Int.eq_ofNat_of_zero_le hd0
      have HT := Lib.hid hth
      have HTL := Lib.hid (show th (inP L) r = some ((m : Int), r1) by rw [← HBP.out]; exact hth)
      have hr14 : r1.length ≤ 1048576 := by omega
      have HR3 := Lib.hid hr1
      clear hth hr1
      by_cases h80 : 80 < q
      · have e80 : decide (80 < (q : Int)) = true := decide_eq_true (by omega)
        have A := Lib.hid (depV_f (s := s) (.inr (HA.out.symm.trans (KK_deep (by rw [← HQ.out]; exact h80)))))
        clear h80
        go_wp2_with fail
        (with_reducible refine (takeHead_s HM.out.rd hr4 HT.out).mono ?_)
        rintro e w1 ⟨rfl, hc, -⟩
        have X := Lib.hid (HM.out.chg_ext hc)
        clear hc
        go_wp2
        rw [← HQQ.out]
        simp only [Exit.jump]
        go_ret2
        exact ⟨ret_ib A.out.1.symm A.out.2.symm, X.out⟩
      have e80 : decide (80 < (q : Int)) = false := decide_eq_false (by omega)
      have HN80 := Lib.hid (show ¬ 80 < L.length by rw [← HQ.out]; exact h80)
      have h80 : q ≤ 80 := by omega
      clear h81
      go_wp2_with fail
      (with_reducible refine (takeHead_s HM.out.rd hr4 HT.out).mono ?_)
      rintro e w1 ⟨rfl, hc, hrd⟩
      have M1 := Lib.hid (HM.out.chg hc hrd (by have := HR3.out; omega))
      clear hc hrd
      by_cases hm0 : m = 0
      · subst hm0
        have HCl := Lib.hid (by have := KK_leaf (o := d) HTL.out (.inl rfl) HN80.out; rw [← HQ.out] at this; exact this)
        have HMl := Lib.hid M1.out
        cases d with
        | none =>
          have e5 : dI none = -1 := rfl
          have HC := Lib.hid (show cont L r1 (some q) = KK s [] none from HCl.out.symm.trans HA.out)
          go_wp2_with fail
          go_loopg [6, 10] q (fun g mvv i wr => ∃ (L2 : List Nat) (r2 : Bs), g = L2.length ∧ i = .int .i64 ((L2.length : Int) - 1) ∧ Hid (DvMem w L2 r2 mvv wr ∧ cont L2 r2 (some q) = KK s [] none ∧ r2.length + 3 ≤ r.length))
          case atStart => exact ⟨L, r1, HQ.out, by rw [← HQ.out], HMl.out, HC.out, HR3.out⟩
          case round =>
            obtain ⟨L2, r2, rfl, rfl, Hr⟩ := hrel
            obtain ⟨rd0, rd1⟩ := Hr.out.1.rd.facts
            have hr24 : r2.length ≤ 1048576 := by have := Hr.out.1.rl; omega
            cases L2 with
            | nil =>
              have e1 : (([] : List Nat).length : Int) - 1 = -1 := rfl
              rw [e1]
              cases r2 with
              | nil =>
                have hb := bs_list []
                have A := Lib.hid (depV_t (s := s) (x := q) hl (by rw [← Hr.out.2.1]; rfl))
                have X := Lib.hid Hr.out.1.ext
                go_wp2
                rw [← HQQ.out]
                simp only [Exit.jump]
                go_ret2
                exact ⟨ret_ib A.out.1.symm A.out.2.symm, X.out⟩
              | cons x2 t2 =>
                have hb := bs_list (x2 :: t2)
                have A := Lib.hid (depV_f (s := s) (.inr (by rw [← Hr.out.2.1]; rfl)))
                have X := Lib.hid Hr.out.1.ext
                go_wp2
                rw [← HQQ.out]
                simp only [Exit.jump]
                go_ret2
                exact ⟨ret_ib A.out.1.symm A.out.2.symm, X.out⟩
            | cons m L3 =>
              have e1 : ((m :: L3).length : Int) - 1 = (L3.length : Int) := by simp
              rw [e1]
              clear e1
              have hm := Hr.out.1.pos m (by simp)
              have hL3 : L3.length ≤ 80 := by have := Hr.out.1.len; simp at this; omega
              obtain ⟨g, c, rfl, hgc, hcm, p0, p1, hgs, p2⟩ := Hr.out.1.at
              unfold maxLen at hcm
              obtain ⟨k, hk⟩ : ∃ k, m = k + 1 := ⟨m - 1, by omega⟩
              have ek : (m : Int) - 1 = (k : Int) := by omega
              have p3 := p2 (.int .i64 (k : Int))
              clear p2
              have HG := Lib.hid hgs
              clear hgs
              obtain ⟨W1, hW1⟩ : ∃ W1, W1 = wr.setCell ⟨g, L3.length, none⟩ (.int .i64 (k : Int)) := ⟨_, rfl⟩
              have HW1 := Lib.hid hW1
              have R1 := Lib.hid (show RdS W1 w.heap.size r2 by rw [hW1]; exact Hr.out.1.dec.2.1)
              have X1 := Lib.hid (show Ext w W1 by rw [hW1]; exact Hr.out.1.dec.2.2)
              have p4 := p3
              rw [← hW1] at p4
              clear hW1
              by_cases hk0 : k = 0
              · have ek0 : decide (0 < (k : Int)) = false := decide_eq_false (by omega)
                have ek1 : decide (0 < k) = false := decide_eq_false (by omega)
                have ek2 : ¬ 0 < k := by omega
                have HK := Lib.hid (show m = 1 by omega)
                have HK0 := Lib.hid hk0
                clear hk0 hk
                cases hcm2 : tkM 41 r2 with
                | none =>
                  have A := Lib.hid (depV_f (s := s) (.inr (by rw [← Hr.out.2.1, HK.out, cont_close, hcm2])))
                  have HCM := Lib.hid hcm2
                  clear hcm2
                  go_wp2_with fail
                  rw [← HW1.out]
                  clear p0 p1 p3
                  (with_reducible refine (take_n R1.out HCM.out hr24).mono ?_)
                  rintro e w5 ⟨rfl, hc, -⟩
                  have X := Lib.hid (hc.ext X1.out (by simp))
                  clear hc
                  go_wp2
                  rw [← HQQ.out]
                  simp only [Exit.jump]
                  go_ret2
                  exact ⟨ret_ib A.out.1.symm A.out.2.symm, X.out⟩
                | some r3 =>
                  have HC3 := Lib.hid (show cont L3 r3 (some q) = KK s [] none by have := Hr.out.2.1; rw [HK.out, cont_close, hcm2] at this; exact this)
                  have HLL := Lib.hid (tkM_len hcm2)
                  have HCM := Lib.hid hcm2
                  clear hcm2
                  go_wp2_with fail
                  rw [← HW1.out]
                  clear p0 p1 p3
                  (with_reducible refine (take_s R1.out HCM.out hr24).mono ?_)
                  rintro e w5 ⟨rfl, hc, hrd⟩
                  have M5 := Lib.hid (DvMem.of_pop Hr.out.1 (by rw [HW1.out, HK0.out]; rfl) hc hrd (by have := HLL.out; omega))
                  clear hc hrd p4
                  go_wp2
                  go_roundg L3.length
                  case measure => simp
                  case rel => exact ⟨L3, r3, rfl, by go_num, M5.out, HC3.out, by have := HLL.out; have := Hr.out.2.2; omega⟩
              · have ek0 : decide (0 < (k : Int)) = true := decide_eq_true (by omega)
                have ek1 : decide (0 < k) = true := decide_eq_true (by omega)
                have ek2 : 0 < k := by omega
                obtain ⟨k2, hk2⟩ : ∃ k2, k = k2 + 1 := ⟨k - 1, by omega⟩
                have HK := Lib.hid (show m = k2 + 2 by omega)
                have HK2 := Lib.hid hk2
                have HK6 := Lib.hid (show 1 ≤ k ∧ k ≤ 6 by omega)
                clear hk0 hk hk2
                cases hcm2 : tkM 44 r2 with
                | none =>
                  have A := Lib.hid (depV_f (s := s) (.inr (by rw [← Hr.out.2.1, HK.out, cont_nomore hcm2])))
                  have HCM := Lib.hid hcm2
                  clear hcm2
                  go_wp2_with fail
                  rw [← HW1.out]
                  clear p0 p1 p3
                  (with_reducible refine (take_n R1.out HCM.out hr24).mono ?_)
                  rintro e w5 ⟨rfl, hc, -⟩
                  have X := Lib.hid (hc.ext X1.out (by simp))
                  have p5 := (Chg.block hc g (by rw [HW1.out]; simp; exact HG.out) (by have := (Hr.out.1.grow.lt g rfl).1; simp; omega))
                  have p6 : w5.cell? ⟨g, L3.length, none⟩ = some (.int .i64 (k : Int)) := by rw [← p4]; simp only [World.cell?, p5]
                  clear hc p5 p4
                  go_wp2
                  rw [← HQQ.out]
                  simp only [Exit.jump]
                  go_ret2
                  exact ⟨ret_ib A.out.1.symm A.out.2.symm, X.out⟩
                | some r3 =>
                  have HC3 := Lib.hid (show KK r3 (k :: L3) (some q) = KK s [] none by rw [← Hr.out.2.1, HK.out, cont_more hcm2, HK2.out])
                  have HLL := Lib.hid (tkM_len hcm2)
                  have HCM := Lib.hid hcm2
                  clear hcm2
                  go_wp2_with fail
                  rw [← HW1.out]
                  clear p0 p1 p3
                  (with_reducible refine (take_s R1.out HCM.out hr24).mono ?_)
                  rintro e w5 ⟨rfl, hc, hrd⟩
                  have M5 := Lib.hid (DvMem.of_dec Hr.out.1 HW1.out HK6.out hc hrd (by have := HLL.out; omega))
                  clear hc hrd p4
                  go_wp2
                  go_step3
                  rw [← HQQ.out]
                  refine ⟨rfl, ⟨k :: L3, r3, some q, _, _, _, _, _, _, _, _, _, _, _, _, _, _, _, _, _, _, _, _, _, _, _, _, _, _, _, _, _, _, _, _, _, _, _, _, _, _, _, _, _, _, _, _, _, _, _, _, _, _, _, _, _, _, _, _, _, _, _, _, _, _, _, _, _, _, _, _, _, _, _, _, _, _, _, _, _, _, rfl, ⟨M5.out, HC3.out, fun y hy => by cases hy; exact h80⟩⟩, ?_⟩
                  show rdLen _ _ < rdLen _ _
                  rw [RdS.len (M5.out).rd, HLEN.out]
                  have := HLL.out; have := Hr.out.2.2; omega
        | some x =>
          have e5 : dI (some x) = (x : Int) := rfl
          have hx80 := HD.out x rfl
          by_cases hxq : x = q
          · subst hxq
            have e6 : ((x : Int) != (x : Int)) = false := by simp
            have HC := Lib.hid (show cont L r1 (some x) = KK s [] none from by rw [← HA.out, HCl.out]; simp [leafD])
            go_wp2_with fail
            go_loopg [6, 10] x (fun g mvv i wr => ∃ (L2 : List Nat) (r2 : Bs), g = L2.length ∧ i = .int .i64 ((L2.length : Int) - 1) ∧ Hid (DvMem w L2 r2 mvv wr ∧ cont L2 r2 (some x) = KK s [] none ∧ r2.length + 3 ≤ r.length))
            case atStart => exact ⟨L, r1, HQ.out, by rw [← HQ.out], HMl.out, HC.out, HR3.out⟩
            case round =>
              obtain ⟨L2, r2, rfl, rfl, Hr⟩ := hrel
              obtain ⟨rd0, rd1⟩ := Hr.out.1.rd.facts
              have hr24 : r2.length ≤ 1048576 := by have := Hr.out.1.rl; omega
              cases L2 with
              | nil =>
                have e1 : (([] : List Nat).length : Int) - 1 = -1 := rfl
                rw [e1]
                cases r2 with
                | nil =>
                  have hb := bs_list []
                  have A := Lib.hid (depV_t (s := s) (x := x) hl (by rw [← Hr.out.2.1]; rfl))
                  have X := Lib.hid Hr.out.1.ext
                  go_wp2
                  rw [← HQQ.out]
                  simp only [Exit.jump]
                  go_ret2
                  exact ⟨ret_ib A.out.1.symm A.out.2.symm, X.out⟩
                | cons x2 t2 =>
                  have hb := bs_list (x2 :: t2)
                  have A := Lib.hid (depV_f (s := s) (.inr (by rw [← Hr.out.2.1]; rfl)))
                  have X := Lib.hid Hr.out.1.ext
                  go_wp2
                  rw [← HQQ.out]
                  simp only [Exit.jump]
                  go_ret2
                  exact ⟨ret_ib A.out.1.symm A.out.2.symm, X.out⟩
              | cons m L3 =>
                have e1 : ((m :: L3).length : Int) - 1 = (L3.length : Int) := by simp
                rw [e1]
                clear e1
                have hm := Hr.out.1.pos m (by simp)
                have hL3 : L3.length ≤ 80 := by have := Hr.out.1.len; simp at this; omega
                obtain ⟨g, c, rfl, hgc, hcm, p0, p1, hgs, p2⟩ := Hr.out.1.at
                unfold maxLen at hcm
                obtain ⟨k, hk⟩ : ∃ k, m = k + 1 := ⟨m - 1, by omega⟩
                have ek : (m : Int) - 1 = (k : Int) := by omega
                have p3 := p2 (.int .i64 (k : Int))
                clear p2
                have HG := Lib.hid hgs
                clear hgs
                obtain ⟨W1, hW1⟩ : ∃ W1, W1 = wr.setCell ⟨g, L3.length, none⟩ (.int .i64 (k : Int)) := ⟨_, rfl⟩
                have HW1 := Lib.hid hW1
                have R1 := Lib.hid (show RdS W1 w.heap.size r2 by rw [hW1]; exact Hr.out.1.dec.2.1)
                have X1 := Lib.hid (show Ext w W1 by rw [hW1]; exact Hr.out.1.dec.2.2)
                have p4 := p3
                rw [← hW1] at p4
                clear hW1
                by_cases hk0 : k = 0
                · have ek0 : decide (0 < (k : Int)) = false := decide_eq_false (by omega)
                  have ek1 : decide (0 < k) = false := decide_eq_false (by omega)
                  have ek2 : ¬ 0 < k := by omega
                  have HK := Lib.hid (show m = 1 by omega)
                  have HK0 := Lib.hid hk0
                  clear hk0 hk
                  cases hcm2 : tkM 41 r2 with
                  | none =>
                    have A := Lib.hid (depV_f (s := s) (.inr (by rw [← Hr.out.2.1, HK.out, cont_close, hcm2])))
                    have HCM := Lib.hid hcm2
                    clear hcm2
                    go_wp2_with fail
                    rw [← HW1.out]
                    clear p0 p1 p3
                    (with_reducible refine (take_n R1.out HCM.out hr24).mono ?_)
                    rintro e w5 ⟨rfl, hc, -⟩
                    have X := Lib.hid (hc.ext X1.out (by simp))
                    clear hc
                    go_wp2
                    rw [← HQQ.out]
                    simp only [Exit.jump]
                    go_ret2
                    exact ⟨ret_ib A.out.1.symm A.out.2.symm, X.out⟩
                  | some r3 =>
                    have HC3 := Lib.hid (show cont L3 r3 (some x) = KK s [] none by have := Hr.out.2.1; rw [HK.out, cont_close, hcm2] at this; exact this)
                    have HLL := Lib.hid (tkM_len hcm2)
                    have HCM := Lib.hid hcm2
                    clear hcm2
                    go_wp2_with fail
                    rw [← HW1.out]
                    clear p0 p1 p3
                    (with_reducible refine (take_s R1.out HCM.out hr24).mono ?_)
                    rintro e w5 ⟨rfl, hc, hrd⟩
                    have M5 := Lib.hid (DvMem.of_pop Hr.out.1 (by rw [HW1.out, HK0.out]; rfl) hc hrd (by have := HLL.out; omega))
                    clear hc hrd p4
                    go_wp2
                    go_roundg L3.length
                    case measure => simp
                    case rel => exact ⟨L3, r3, rfl, by go_num, M5.out, HC3.out, by have := HLL.out; have := Hr.out.2.2; omega⟩
                · have ek0 : decide (0 < (k : Int)) = true := decide_eq_true (by omega)
                  have ek1 : decide (0 < k) = true := decide_eq_true (by omega)
                  have ek2 : 0 < k := by omega
                  obtain ⟨k2, hk2⟩ : ∃ k2, k = k2 + 1 := ⟨k - 1, by omega⟩
                  have HK := Lib.hid (show m = k2 + 2 by omega)
                  have HK2 := Lib.hid hk2
                  have HK6 := Lib.hid (show 1 ≤ k ∧ k ≤ 6 by omega)
                  clear hk0 hk hk2
                  cases hcm2 : tkM 44 r2 with
                  | none =>
                    have A := Lib.hid (depV_f (s := s) (.inr (by rw [← Hr.out.2.1, HK.out, cont_nomore hcm2])))
                    have HCM := Lib.hid hcm2
                    clear hcm2
                    go_wp2_with fail
                    rw [← HW1.out]
                    clear p0 p1 p3
                    (with_reducible refine (take_n R1.out HCM.out hr24).mono ?_)
                    rintro e w5 ⟨rfl, hc, -⟩
                    have X := Lib.hid (hc.ext X1.out (by simp))
                    have p5 := (Chg.block hc g (by rw [HW1.out]; simp; exact HG.out) (by have := (Hr.out.1.grow.lt g rfl).1; simp; omega))
                    have p6 : w5.cell? ⟨g, L3.length, none⟩ = some (.int .i64 (k : Int)) := by rw [← p4]; simp only [World.cell?, p5]
                    clear hc p5 p4
                    go_wp2
                    rw [← HQQ.out]
                    simp only [Exit.jump]
                    go_ret2
                    exact ⟨ret_ib A.out.1.symm A.out.2.symm, X.out⟩
                  | some r3 =>
                    have HC3 := Lib.hid (show KK r3 (k :: L3) (some x) = KK s [] none by rw [← Hr.out.2.1, HK.out, cont_more hcm2, HK2.out])
                    have HLL := Lib.hid (tkM_len hcm2)
                    have HCM := Lib.hid hcm2
                    clear hcm2
                    go_wp2_with fail
                    rw [← HW1.out]
                    clear p0 p1 p3
                    (with_reducible refine (take_s R1.out HCM.out hr24).mono ?_)
                    rintro e w5 ⟨rfl, hc, hrd⟩
                    have M5 := Lib.hid (DvMem.of_dec Hr.out.1 HW1.out HK6.out hc hrd (by have := HLL.out; omega))
                    clear hc hrd p4
                    go_wp2
                    go_step3
                    rw [← HQQ.out]
                    refine ⟨rfl, ⟨k :: L3, r3, some x, _, _, _, _, _, _, _, _, _, _, _, _, _, _, _, _, _, _, _, _, _, _, _, _, _, _, _, _, _, _, _, _, _, _, _, _, _, _, _, _, _, _, _, _, _, _, _, _, _, _, _, _, _, _, _, _, _, _, _, _, _, _, _, _, _, _, _, _, _, _, _, _, _, _, _, _, _, _, rfl, ⟨M5.out, HC3.out, fun y hy => by cases hy; exact h80⟩⟩, ?_⟩
                    show rdLen _ _ < rdLen _ _
                    rw [RdS.len (M5.out).rd, HLEN.out]
                    have := HLL.out; have := Hr.out.2.2; omega
          · have e6 : ((q : Int) != (x : Int)) = true := by simp; omega
            have A := Lib.hid (depV_f (s := s) (.inr (by rw [← HA.out, HCl.out]; simp [leafD, hxq])))
            have X := Lib.hid HMl.out.ext
            clear hxq
            go_wp2
            rw [← HQQ.out]
            simp only [Exit.jump]
            go_ret2
            exact ⟨ret_ib A.out.1.symm A.out.2.symm, X.out⟩
      have e0 : decide (0 < (m : Int)) = true := decide_eq_true (by omega)
      cases htk : tkM 40 r1 with
      | none =>
        have HCl := Lib.hid (by have := KK_leaf (o := d) HTL.out (.inr htk) HN80.out; rw [← HQ.out] at this; exact this)
        have HTK := Lib.hid htk
        clear htk
        go_wp2_with fail
        (with_reducible refine (take_n M1.out.rd HTK.out hr14).mono ?_)
        rintro e w2 ⟨rfl, hc, hrd⟩
        have HMl := Lib.hid (M1.out.chg hc hrd (Nat.le_refl _))
        clear hc hrd
        cases d with
        | none =>
          have e5 : dI none = -1 := rfl
          have HC := Lib.hid (show cont L r1 (some q) = KK s [] none from HCl.out.symm.trans HA.out)
          go_wp2_with fail
          go_loopg [6, 10] q (fun g mvv i wr => ∃ (L2 : List Nat) (r2 : Bs), g = L2.length ∧ i = .int .i64 ((L2.length : Int) - 1) ∧ Hid (DvMem w L2 r2 mvv wr ∧ cont L2 r2 (some q) = KK s [] none ∧ r2.length + 3 ≤ r.length))
          case atStart => exact ⟨L, r1, HQ.out, by rw [← HQ.out], HMl.out, HC.out, HR3.out⟩
          case round =>
            obtain ⟨L2, r2, rfl, rfl, Hr⟩ := hrel
            obtain ⟨rd0, rd1⟩ := Hr.out.1.rd.facts
            have hr24 : r2.length ≤ 1048576 := by have := Hr.out.1.rl; omega
            cases L2 with
            | nil =>
              have e1 : (([] : List Nat).length : Int) - 1 = -1 := rfl
              rw [e1]
              cases r2 with
              | nil =>
                have hb := bs_list []
                have A := Lib.hid (depV_t (s := s) (x := q) hl (by rw [← Hr.out.2.1]; rfl))
                have X := Lib.hid Hr.out.1.ext
                go_wp2
                rw [← HQQ.out]
                simp only [Exit.jump]
                go_ret2
                exact ⟨ret_ib A.out.1.symm A.out.2.symm, X.out⟩
              | cons x2 t2 =>
                have hb := bs_list (x2 :: t2)
                have A := Lib.hid (depV_f (s := s) (.inr (by rw [← Hr.out.2.1]; rfl)))
                have X := Lib.hid Hr.out.1.ext
                go_wp2
                rw [← HQQ.out]
                simp only [Exit.jump]
                go_ret2
                exact ⟨ret_ib A.out.1.symm A.out.2.symm, X.out⟩
            | cons m L3 =>
              have e1 : ((m :: L3).length : Int) - 1 = (L3.length : Int) := by simp
              rw [e1]
              clear e1
              have hm := Hr.out.1.pos m (by simp)
              have hL3 : L3.length ≤ 80 := by have := Hr.out.1.len; simp at this; omega
              obtain ⟨g, c, rfl, hgc, hcm, p0, p1, hgs, p2⟩ := Hr.out.1.at
              unfold maxLen at hcm
              obtain ⟨k, hk⟩ : ∃ k, m = k + 1 := ⟨m - 1, by omega⟩
              have ek : (m : Int) - 1 = (k : Int) := by omega
              have p3 := p2 (.int .i64 (k : Int))
              clear p2
              have HG := Lib.hid hgs
              clear hgs
              obtain ⟨W1, hW1⟩ : ∃ W1, W1 = wr.setCell ⟨g, L3.length, none⟩ (.int .i64 (k : Int)) := ⟨_, rfl⟩
              have HW1 := Lib.hid hW1
              have R1 := Lib.hid (show RdS W1 w.heap.size r2 by rw [hW1]; exact Hr.out.1.dec.2.1)
              have X1 := Lib.hid (show Ext w W1 by rw [hW1]; exact Hr.out.1.dec.2.2)
              have p4 := p3
              rw [← hW1] at p4
              clear hW1
              by_cases hk0 : k = 0
              · have ek0 : decide (0 < (k : Int)) = false := decide_eq_false (by omega)
                have ek1 : decide (0 < k) = false := decide_eq_false (by omega)
                have ek2 : ¬ 0 < k := by omega
                have HK := Lib.hid (show m = 1 by omega)
                have HK0 := Lib.hid hk0
                clear hk0 hk
                cases hcm2 : tkM 41 r2 with
                | none =>
                  have A := Lib.hid (depV_f (s := s) (.inr (by rw [← Hr.out.2.1, HK.out, cont_close, hcm2])))
                  have HCM := Lib.hid hcm2
                  clear hcm2
                  go_wp2_with fail
                  rw [← HW1.out]
                  clear p0 p1 p3
                  (with_reducible refine (take_n R1.out HCM.out hr24).mono ?_)
                  rintro e w5 ⟨rfl, hc, -⟩
                  have X := Lib.hid (hc.ext X1.out (by simp))
                  clear hc
                  go_wp2
                  rw [← HQQ.out]
                  simp only [Exit.jump]
                  go_ret2
                  exact ⟨ret_ib A.out.1.symm A.out.2.symm, X.out⟩
                | some r3 =>
                  have HC3 := Lib.hid (show cont L3 r3 (some q) = KK s [] none by have := Hr.out.2.1; rw [HK.out, cont_close, hcm2] at this; exact this)
                  have HLL := Lib.hid (tkM_len hcm2)
                  have HCM := Lib.hid hcm2
                  clear hcm2
                  go_wp2_with fail
                  rw [← HW1.out]
                  clear p0 p1 p3
                  (with_reducible refine (take_s R1.out HCM.out hr24).mono ?_)
                  rintro e w5 ⟨rfl, hc, hrd⟩
                  have M5 := Lib.hid (DvMem.of_pop Hr.out.1 (by rw [HW1.out, HK0.out]; rfl) hc hrd (by have := HLL.out; omega))
                  clear hc hrd p4
                  go_wp2
                  go_roundg L3.length
                  case measure => simp
                  case rel => exact ⟨L3, r3, rfl, by go_num, M5.out, HC3.out, by have := HLL.out; have := Hr.out.2.2; omega⟩
              · have ek0 : decide (0 < (k : Int)) = true := decide_eq_true (by omega)
                have ek1 : decide (0 < k) = true := decide_eq_true (by omega)
                have ek2 : 0 < k := by omega
                obtain ⟨k2, hk2⟩ : ∃ k2, k = k2 + 1 := ⟨k - 1, by omega⟩
                have HK := Lib.hid (show m = k2 + 2 by omega)
                have HK2 := Lib.hid hk2
                have HK6 := Lib.hid (show 1 ≤ k ∧ k ≤ 6 by omega)
                clear hk0 hk hk2
                cases hcm2 : tkM 44 r2 with
                | none =>
                  have A := Lib.hid (depV_f (s := s) (.inr (by rw [← Hr.out.2.1, HK.out, cont_nomore hcm2])))
                  have HCM := Lib.hid hcm2
                  clear hcm2
                  go_wp2_with fail
                  rw [← HW1.out]
                  clear p0 p1 p3
                  (with_reducible refine (take_n R1.out HCM.out hr24).mono ?_)
                  rintro e w5 ⟨rfl, hc, -⟩
                  have X := Lib.hid (hc.ext X1.out (by simp))
                  have p5 := (Chg.block hc g (by rw [HW1.out]; simp; exact HG.out) (by have := (Hr.out.1.grow.lt g rfl).1; simp; omega))
                  have p6 : w5.cell? ⟨g, L3.length, none⟩ = some (.int .i64 (k : Int)) := by rw [← p4]; simp only [World.cell?, p5]
                  clear hc p5 p4
                  go_wp2
                  rw [← HQQ.out]
                  simp only [Exit.jump]
                  go_ret2
                  exact ⟨ret_ib A.out.1.symm A.out.2.symm, X.out⟩
                | some r3 =>
                  have HC3 := Lib.hid (show KK r3 (k :: L3) (some q) = KK s [] none by rw [← Hr.out.2.1, HK.out, cont_more hcm2, HK2.out])
                  have HLL := Lib.hid (tkM_len hcm2)
                  have HCM := Lib.hid hcm2
                  clear hcm2
                  go_wp2_with fail
                  rw [← HW1.out]
                  clear p0 p1 p3
                  (with_reducible refine (take_s R1.out HCM.out hr24).mono ?_)
                  rintro e w5 ⟨rfl, hc, hrd⟩
                  have M5 := Lib.hid (DvMem.of_dec Hr.out.1 HW1.out HK6.out hc hrd (by have := HLL.out; omega))
                  clear hc hrd p4
                  go_wp2
                  go_step3
                  rw [← HQQ.out]
                  refine ⟨rfl, ⟨k :: L3, r3, some q, _, _, _, _, _, _, _, _, _, _, _, _, _, _, _, _, _, _, _, _, _, _, _, _, _, _, _, _, _, _, _, _, _, _, _, _, _, _, _, _, _, _, _, _, _, _, _, _, _, _, _, _, _, _, _, _, _, _, _, _, _, _, _, _, _, _, _, _, _, _, _, _, _, _, _, _, _, _, rfl, ⟨M5.out, HC3.out, fun y hy => by cases hy; exact h80⟩⟩, ?_⟩
                  show rdLen _ _ < rdLen _ _
                  rw [RdS.len (M5.out).rd, HLEN.out]
                  have := HLL.out; have := Hr.out.2.2; omega
        | some x =>
          have e5 : dI (some x) = (x : Int) := rfl
          have hx80 := HD.out x rfl
          by_cases hxq : x = q
          · subst hxq
            have e6 : ((x : Int) != (x : Int)) = false := by simp
            have HC := Lib.hid (show cont L r1 (some x) = KK s [] none from by rw [← HA.out, HCl.out]; simp [leafD])
            go_wp2_with fail
            go_loopg [6, 10] x (fun g mvv i wr => ∃ (L2 : List Nat) (r2 : Bs), g = L2.length ∧ i = .int .i64 ((L2.length : Int) - 1) ∧ Hid (DvMem w L2 r2 mvv wr ∧ cont L2 r2 (some x) = KK s [] none ∧ r2.length + 3 ≤ r.length))
            case atStart => exact ⟨L, r1, HQ.out, by rw [← HQ.out], HMl.out, HC.out, HR3.out⟩
            case round =>
              obtain ⟨L2, r2, rfl, rfl, Hr⟩ := hrel
              obtain ⟨rd0, rd1⟩ := Hr.out.1.rd.facts
              have hr24 : r2.length ≤ 1048576 := by have := Hr.out.1.rl; omega
              cases L2 with
              | nil =>
                have e1 : (([] : List Nat).length : Int) - 1 = -1 := rfl
                rw [e1]
                cases r2 with
                | nil =>
                  have hb := bs_list []
                  have A := Lib.hid (depV_t (s := s) (x := x) hl (by rw [← Hr.out.2.1]; rfl))
                  have X := Lib.hid Hr.out.1.ext
                  go_wp2
                  rw [← HQQ.out]
                  simp only [Exit.jump]
                  go_ret2
                  exact ⟨ret_ib A.out.1.symm A.out.2.symm, X.out⟩
                | cons x2 t2 =>
                  have hb := bs_list (x2 :: t2)
                  have A := Lib.hid (depV_f (s := s) (.inr (by rw [← Hr.out.2.1]; rfl)))
                  have X := Lib.hid Hr.out.1.ext
                  go_wp2
                  rw [← HQQ.out]
                  simp only [Exit.jump]
                  go_ret2
                  exact ⟨ret_ib A.out.1.symm A.out.2.symm, X.out⟩
              | cons m L3 =>
                have e1 : ((m :: L3).length : Int) - 1 = (L3.length : Int) := by simp
                rw [e1]
                clear e1
                have hm := Hr.out.1.pos m (by simp)
                have hL3 : L3.length ≤ 80 := by have := Hr.out.1.len; simp at this; omega
                obtain ⟨g, c, rfl, hgc, hcm, p0, p1, hgs, p2⟩ := Hr.out.1.at
                unfold maxLen at hcm
                obtain ⟨k, hk⟩ : ∃ k, m = k + 1 := ⟨m - 1, by omega⟩
                have ek : (m : Int) - 1 = (k : Int) := by omega
                have p3 := p2 (.int .i64 (k : Int))
                clear p2
                have HG := Lib.hid hgs
                clear hgs
                obtain ⟨W1, hW1⟩ : ∃ W1, W1 = wr.setCell ⟨g, L3.length, none⟩ (.int .i64 (k : Int)) := ⟨_, rfl⟩
                have HW1 := Lib.hid hW1
                have R1 := Lib.hid (show RdS W1 w.heap.size r2 by rw [hW1]; exact Hr.out.1.dec.2.1)
                have X1 := Lib.hid (show Ext w W1 by rw [hW1]; exact Hr.out.1.dec.2.2)
                have p4 := p3
                rw [← hW1] at p4
                clear hW1
                by_cases hk0 : k = 0
                · have ek0 : decide (0 < (k : Int)) = false := decide_eq_false (by omega)
                  have ek1 : decide (0 < k) = false := decide_eq_false (by omega)
                  have ek2 : ¬ 0 < k := by omega
                  have HK := Lib.hid (show m = 1 by omega)
                  have HK0 := Lib.hid hk0
                  clear hk0 hk
                  cases hcm2 : tkM 41 r2 with
                  | none =>
                    have A := Lib.hid (depV_f (s := s) (.inr (by rw [← Hr.out.2.1, HK.out, cont_close, hcm2])))
                    have HCM := Lib.hid hcm2
                    clear hcm2
                    go_wp2_with fail
                    rw [← HW1.out]
                    clear p0 p1 p3
                    (with_reducible refine (take_n R1.out HCM.out hr24).mono ?_)
                    rintro e w5 ⟨rfl, hc, -⟩
                    have X := Lib.hid (hc.ext X1.out (by simp))
                    clear hc
                    go_wp2
                    rw [← HQQ.out]
                    simp only [Exit.jump]
                    go_ret2
                    exact ⟨ret_ib A.out.1.symm A.out.2.symm, X.out⟩
                  | some r3 =>
                    have HC3 := Lib.hid (show cont L3 r3 (some x) = KK s [] none by have := Hr.out.2.1; rw [HK.out, cont_close, hcm2] at this; exact this)
                    have HLL := Lib.hid (tkM_len hcm2)
                    have HCM := Lib.hid hcm2
                    clear hcm2
                    go_wp2_with fail
                    rw [← HW1.out]
                    clear p0 p1 p3
                    (with_reducible refine (take_s R1.out HCM.out hr24).mono ?_)
                    rintro e w5 ⟨rfl, hc, hrd⟩
                    have M5 := Lib.hid (DvMem.of_pop Hr.out.1 (by rw [HW1.out, HK0.out]; rfl) hc hrd (by have := HLL.out; omega))
                    clear hc hrd p4
                    go_wp2
                    go_roundg L3.length
                    case measure => simp
                    case rel => exact ⟨L3, r3, rfl, by go_num, M5.out, HC3.out, by have := HLL.out; have := Hr.out.2.2; omega⟩
                · have ek0 : decide (0 < (k : Int)) = true := decide_eq_true (by omega)
                  have ek1 : decide (0 < k) = true := decide_eq_true (by omega)
                  have ek2 : 0 < k := by omega
                  obtain ⟨k2, hk2⟩ : ∃ k2, k = k2 + 1 := ⟨k - 1, by omega⟩
                  have HK := Lib.hid (show m = k2 + 2 by omega)
                  have HK2 := Lib.hid hk2
                  have HK6 := Lib.hid (show 1 ≤ k ∧ k ≤ 6 by omega)
                  clear hk0 hk hk2
                  cases hcm2 : tkM 44 r2 with
                  | none =>
                    have A := Lib.hid (depV_f (s := s) (.inr (by rw [← Hr.out.2.1, HK.out, cont_nomore hcm2])))
                    have HCM := Lib.hid hcm2
                    clear hcm2
                    go_wp2_with fail
                    rw [← HW1.out]
                    clear p0 p1 p3
                    (with_reducible refine (take_n R1.out HCM.out hr24).mono ?_)
                    rintro e w5 ⟨rfl, hc, -⟩
                    have X := Lib.hid (hc.ext X1.out (by simp))
                    have p5 := (Chg.block hc g (by rw [HW1.out]; simp; exact HG.out) (by have := (Hr.out.1.grow.lt g rfl).1; simp; omega))
                    have p6 : w5.cell? ⟨g, L3.length, none⟩ = some (.int .i64 (k : Int)) := by rw [← p4]; simp only [World.cell?, p5]
                    clear hc p5 p4
                    go_wp2
                    rw [← HQQ.out]
                    simp only [Exit.jump]
                    go_ret2
                    exact ⟨ret_ib A.out.1.symm A.out.2.symm, X.out⟩
                  | some r3 =>
                    have HC3 := Lib.hid (show KK r3 (k :: L3) (some x) = KK s [] none by rw [← Hr.out.2.1, HK.out, cont_more hcm2, HK2.out])
                    have HLL := Lib.hid (tkM_len hcm2)
                    have HCM := Lib.hid hcm2
                    clear hcm2
                    go_wp2_with fail
                    rw [← HW1.out]
                    clear p0 p1 p3
                    (with_reducible refine (take_s R1.out HCM.out hr24).mono ?_)
                    rintro e w5 ⟨rfl, hc, hrd⟩
                    have M5 := Lib.hid (DvMem.of_dec Hr.out.1 HW1.out HK6.out hc hrd (by have := HLL.out; omega))
                    clear hc hrd p4
                    go_wp2
                    go_step3
                    rw [← HQQ.out]
                    refine ⟨rfl, ⟨k :: L3, r3, some x, _, _, _, _, _, _, _, _, _, _, _, _, _, _, _, _, _, _, _, _, _, _, _, _, _, _, _, _, _, _, _, _, _, _, _, _, _, _, _, _, _, _, _, _, _, _, _, _, _, _, _, _, _, _, _, _, _, _, _, _, _, _, _, _, _, _, _, _, _, _, _, _, _, _, _, _, _, _, rfl, ⟨M5.out, HC3.out, fun y hy => by cases hy; exact h80⟩⟩, ?_⟩
                    show rdLen _ _ < rdLen _ _
                    rw [RdS.len (M5.out).rd, HLEN.out]
                    have := HLL.out; have := Hr.out.2.2; omega
          · have e6 : ((q : Int) != (x : Int)) = true := by simp; omega
            have A := Lib.hid (depV_f (s := s) (.inr (by rw [← HA.out, HCl.out]; simp [leafD, hxq])))
            have X := Lib.hid HMl.out.ext
            clear hxq
            go_wp2
            rw [← HQQ.out]
            simp only [Exit.jump]
            go_ret2
            exact ⟨ret_ib A.out.1.symm A.out.2.symm, X.out⟩
      | some r2 =>
        have HO := Lib.hid (KK_open (o := d) HTL.out (by omega) htk HN80.out)
        have HLL := Lib.hid (tkM_len htk)
        have HTK := Lib.hid htk
        clear htk
        have hm6 : 1 ≤ m ∧ m ≤ 6 := by omega
        have HM6 := Lib.hid hm6
        have hq40 : (ints L).length ≤ 80 := by rw [ints_len, ← HQ.out]; exact h80
        go_wp2_with fail
        (with_reducible refine (take_s M1.out.rd HTK.out hr14).mono ?_)
        rintro e w2 ⟨rfl, hc, hrd⟩
        have M2 := Lib.hid (M1.out.chg hc hrd (by have := HLL.out; omega))
        clear hc hrd
        go_wp2_with (at_builtin; refine wpList_app rfl (.tmp 36) (.tmp 38) 23 rfl (w.heap.size + 1) 3 i0 (.int .i64 0) 1 8 Try.underlying23 I0.out.1 I0.out.2.1 I0.out.2.2.1 I0.out.2.2.2 rfl (by decide) _ (ints L).length (intCells (ints L)) rfl (M2.out.grow.ext ((Ext.rfl' _).alloc' _)) (some ⟨w2.heap.size, 0, none⟩) 1 1 (intCells [(m : Int)]) rfl (src_lits w2 [(m : Int)] 1 rfl 3) (by unfold maxLen; omega) (by omega) ?_ ?_)
        · have := M2.out.ext.size; simp; omega
        intro v' w3 hg
        have M3 := Lib.hid (M2.out.push 3 HM6.out (by have := HN80.out; omega) hg)
        clear hg
        go_wp2
        go_step3
        rw [← HQQ.out]
        refine ⟨rfl, ⟨m :: L, r2, d, v', _, _, _, _, _, _, _, _, _, _, _, _, _, _, _, _, _, _, _, _, _, _, _, _, _, _, _, _, _, _, _, _, _, _, _, _, _, _, _, _, _, _, _, _, _, _, _, _, _, _, _, _, _, _, _, _, _, _, _, _, _, _, _, _, _, _, _, _, _, _, _, _, _, _, _, _, _, rfl, ⟨M3.out, by rw [← HA.out, HO.out, Int.toNat_natCast], HD.out⟩⟩, ?_⟩
        show rdLen _ _ < rdLen _ _
        rw [RdS.len (M3.out).rd, HLEN.out]
        have := HLL.out; have := HR3.out; omega
  · intro h
    have HH := Lib.hid h
    clear h
    go_wp2
    go_step3
    rename_i hK
    refine hK _ _ (HH.out _ _ ⟨[], s, none, _, _, _, _, _, _, _, _, _, _, _, _, _, _, _, _, _, _, _, _, _, _, _, _, _, _, _, _, _, _, _, _, _, _, _, _, _, _, _, _, _, _, _, _, _, _, _, _, _, _, _, _, _, _, _, _, _, _, _, _, _, _, _, _, _, _, _, _, _, _, _, _, _, _, _, _, _, _, rfl, ⟨⟨?_, ?_, ?_, hl, fun m hm => (by cases hm), by simp⟩, rfl, fun x hx => (by cases hx)⟩⟩)
    · exact ((Ext.rfl' w).alloc' _).alloc' _
    · exact row_ext (show RdS (w.alloc (.cells #[.string (bs s)] 93)) w.heap.size s from ⟨#[.string (bs s)], heap_alloc_new w _, rfl, fun i hi => by match i with | 0 => rfl⟩) ((Ext.rfl' _).alloc' _)
    · have := World.ownsRow_lit (base := w.heap.size + 1) (e := 3) (size := 1) (w.alloc (.cells #[.string (bs s)] 93)) #[] 0 (by simp) (by decide) (by simp)
      simpa [GrowN, ints, intCells] using this
end Go.Proofs.Ytdoaopeegcakiaa
