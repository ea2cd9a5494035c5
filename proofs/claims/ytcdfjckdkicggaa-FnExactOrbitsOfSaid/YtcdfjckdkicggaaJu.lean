/- The contract of the model's isFind. -/
import Derived.Test.YtcdfjckdkicggaaJt
namespace Go.Proofs.Ytcdfjckdkicggaa
open Go.RowKit

theorem mayBe_has {A B : Net} {f : List Int} {v w : Nat} (h : (w : Int) ∈ f) : mayBe A B f v w = false := by simp [mayBe, h]
theorem mayBe_code {A B : Net} {f : List Int} {v w : Nat} (h : ¬ code A (v : Int) = code B (w : Int)) : mayBe A B f v w = false := by simp [mayBe, h]

set_option maxHeartbeats 6400000 in
set_option maxRecDepth 100000 in
theorem isFind_any {w : World} {va vb : Value} {A B : Net} (h : NetAt w va A) (k : NetAt w vb B) (ga : Good A) (gb : Good B) :
    Calls Try.prog 54 #[va, vb] w fun e w' => ∃ v' bs, e = .returned (.tuple #[v', .bool (dec (IsoB A B))]) ∧ Ext w w' ∧ OwnI w' v' (isoAns A B) bs ∧ Fresh w bs := by
  have HA := Lib.hid h
  have HB := Lib.hid k
  have HGG := Lib.hid (And.intro ga gb)
  have GA := Lib.hid (good_w ga)
  have GB := Lib.hid (good_w gb)
  have h40 := GA.out.most
  have h41 := GB.out.most
  clear ga gb
  obtain ⟨v0, v1, v2, rfl, hEa, -, -⟩ := h
  obtain ⟨u0, u1, u2, rfl, hEb, -, -⟩ := k
  obtain ⟨ea, -, -, ec, rfl, -, hel, hem, -⟩ := hEa
  obtain ⟨fa, -, -, fc, rfl, -, hfl, hfm, -⟩ := hEb
  unfold maxLen at hem hfm
  obtain ⟨i0, hi, hz0, hz1, hz2⟩ := info_parts Try.info3
  obtain ⟨WB, hWB⟩ : ∃ WB, WB = (w.alloc (.cells #[.slice ea A.ends.length ec, v1, v2] 31)).alloc (.cells #[.slice fa B.ends.length fc, u1, u2] 31) := ⟨_, rfl⟩
  have EW := Lib.hid (show Ext w WB by rw [hWB]; exact (boxed_ext _ _ _ _ _).trans' (boxed_ext _ _ _ _ _))
  have RA := Lib.hid (show WB.rowIs w.heap.size 31 3 (tri (.slice ea A.ends.length ec) v1 v2) by rw [hWB]; exact (boxed_row _ _ _ _ _).alloc _)
  have RB := Lib.hid (show WB.rowIs (w.heap.size + 1) 31 3 (tri (.slice fa B.ends.length fc) u1 u2) by rw [hWB]; simpa using boxed_row (boxed w (.slice ea A.ends.length ec) v1 v2 31) (.slice fa B.ends.length fc) u1 u2 31)
  have ZB := Lib.hid (show WB.heap.size = w.heap.size + 2 by rw [hWB]; simp)
  obtain ⟨p0, p1, p2, -, -, -⟩ := row3_facts RA.out
  obtain ⟨q0, q1, q2, -, -, -⟩ := row3_facts RB.out
  rw [hWB] at p0 p1 p2 q0 q1 q2
  by_cases hl : A.ends.length = B.ends.length
  case neg =>
    have D := Lib.hid (dec_false (p := IsoB A B) fun h => hl h.2.2.1)
    have AN := Lib.hid (isoAns_f (A := A) (B := B) fun h => hl h.2.2.1)
    have hlb : ((A.ends.length : Int) != (B.ends.length : Int)) = true := by simp; omega
    clear hl
    go_enter Try.func54, Try.ntmps54
    go_wp2_with fail
    rw [← hWB]
    go_ret2
    exact ⟨_, [], ret_lb D.out.symm, EW.out, by rw [AN.out]; exact own_nilI _, Fresh.nil _⟩
  have hlb : ((A.ends.length : Int) != (B.ends.length : Int)) = false := by simp; omega
  have HL := Lib.hid hl
  clear hl
  have hmk := run_make_row' (P := Try.prog) 23 3 (.int .i64 0) 8 Try.underlying23 Try.info3 rfl .i64 .i64 A.ends.length (by omega) (by omega)
  obtain ⟨W0, hW0⟩ : ∃ W0, W0 = WB.alloc (.cells (madeCells #[.int .i64 0] A.ends.length) 3) := ⟨_, rfl⟩
  have E0 := Lib.hid (show Ext WB W0 by rw [hW0]; exact (Ext.rfl' _).alloc' _)
  have R0 := Lib.hid (show W0.rowIs (w.heap.size + 2) 3 A.ends.length (copied (List.replicate A.ends.length (-1)) 0) by
    have := World.rowIs_made WB (.int .i64 0) A.ends.length 3
    rw [hW0, ← ZB.out]
    exact this.congr fun i _ => by simp [copied])
  go_enter Try.func54, Try.ntmps54
  go_wp2_with fail
  rw [← hWB, ← hW0]
  clear hmk hi hz0 hz1 hz2 p0 p1 p2 q0 q1 q2 hWB hW0
  go_loopg [28] A.ends.length (fun g i wr => ∃ k : Nat, k ≤ A.ends.length ∧ g = A.ends.length - k ∧ i = .int .i64 k ∧ Hid (Ext WB wr ∧ wr.rowIs (w.heap.size + 2) 3 A.ends.length (copied (List.replicate A.ends.length (-1)) k)))
  case atStart => exact ⟨0, Nat.zero_le _, rfl, rfl, E0.out, R0.out⟩
  case round =>
    obtain ⟨k, hk, rfl, rfl, Hr⟩ := hrel
    by_cases hlt : k < A.ends.length
    · have hcv := Hr.out.2.cell hlt
      have hfr := Hr.out.2.frozen k
      have HG1 := Lib.hid (show gi (List.replicate A.ends.length (-1)) k = -1 by simp [gi, hlt])
      go_wp2
      go_roundg (A.ends.length - (k + 1))
      case measure => omega
      case rel => exact ⟨k + 1, by omega, rfl, by go_num, Hr.out.1.store (by have := ZB.out; simp; omega) _, by have := copied_step Hr.out.2; rw [HG1.out] at this; exact this⟩
    · obtain rfl : k = A.ends.length := by omega
      have R1 := Lib.hid (show wr.rowIs (w.heap.size + 2) 3 A.ends.length (fRow (List.replicate A.ends.length (-1))) from Hr.out.2.congr fun i hi => by simp [copied, fRow, hi])
      have E1 := Lib.hid Hr.out.1
      clear Hr
      go_wp2
      go_loopg [37] A.ends.length (fun g i wx => ∃ (k : Nat) (F : List Int), k ≤ A.ends.length ∧ g = A.ends.length - k ∧ i = .int .i64 k ∧ Hid (isoTo A B k = some F ∧ Ext WB wx ∧ wx.rowIs (w.heap.size + 2) 3 A.ends.length (fRow F)))
      case atStart => exact ⟨0, _, Nat.zero_le _, rfl, rfl, rfl, E1.out, R1.out⟩
      case round =>
        obtain ⟨k, F, hk, rfl, rfl, Hr⟩ := hrel
        have HOK := Lib.hid (isoTo_ok GA.out.leads GB.out.leads HL.out k hk F Hr.out.1)
        by_cases hlt : k < A.ends.length
        · have hfk := Hr.out.2.2.cell hlt
          simp only [fRow] at hfk
          have hok := HOK.out.2 k hlt
          by_cases hm1 : gi F k = -1
          · have HM1 := Lib.hid hm1
            rw [hm1] at hfk
            clear hok hm1
            obtain ⟨p0, p1, p2, -, -, -⟩ := row3_facts (row_ext RA.out Hr.out.2.1)
            go_wp2_with fail
            clear hfk
            (with_reducible refine (isWalk_any k hlt (HA.out.ext (EW.out.trans' Hr.out.2.1)) GA.out).mono ?_)
            rintro e w3 ⟨vl, bl, rfl, hx3, ol, hf3⟩
            have X3 := Lib.hid hx3
            have OL := Lib.hid ol
            have FL := Lib.hid hf3
            clear p0 p1 p2 hx3 ol hf3
            obtain ⟨p0, p1, p2, -, -, -⟩ := row3_facts (row_ext RA.out (Hr.out.2.1.trans' X3.out))
            go_wp2_with fail
            (with_reducible refine (isCode_any (HA.out.ext (EW.out.trans' (Hr.out.2.1.trans' X3.out))) OL.out.read GA.out (wk_good GA.out hlt)).mono ?_)
            rintro e w4 ⟨vc, bc, rfl, hx4, oc, -⟩
            have X4 := Lib.hid (X3.out.trans' hx4)
            have OL4 := Lib.hid (OL.out.ext hx4)
            have OC := Lib.hid (show OwnI w4 vc (code A k) bc from oc)
            clear p0 p1 p2 hx4 oc
            obtain ⟨q0, q1, q2, -, -, -⟩ := row3_facts (row_ext RB.out (Hr.out.2.1.trans' X4.out))
            go_wp2_with fail
            clear q0 q1 q2
            obtain ⟨wo, hwo⟩ : ∃ wo : World, wo = wr := ⟨_, rfl⟩
            subst hwo
            go_loopg [54] B.ends.length (fun g i wx => ∃ j : Nat, j ≤ B.ends.length ∧ g = B.ends.length - j ∧ i = .int .i64 j ∧ Hid (Ext w4 wx ∧ ∀ u, u < j → mayBe A B F k u = false))
            case atStart => exact ⟨0, Nat.zero_le _, rfl, rfl, Ext.rfl' _, fun u hu => absurd hu (by omega)⟩
            case round =>
              obtain ⟨j, hj, rfl, rfl, Hs⟩ := hrel
              have RF := Lib.hid (row_ext Hr.out.2.2 (X4.out.trans' Hs.out.1))
              have XW := Lib.hid (Hr.out.2.1.trans' (X4.out.trans' Hs.out.1))
              by_cases hjl : j < B.ends.length
              · have IF := Lib.hid (fRow_own RF.out HOK.out h40).read
                by_cases hmem : (j : Int) ∈ F
                · have HD := Lib.hid (dec_true ((has_iff F j).2 hmem))
                  have HMB := Lib.hid (mayBe_has (A := A) (B := B) (v := k) hmem)
                  clear hmem
                  go_wp2_with (first | (go_at_call 66; (with_reducible refine (l1Has_any _ IF.out).mono ?_); rintro e w' ⟨rfl, rfl⟩; rw [HD.out]) | fail)
                  go_roundg (B.ends.length - (j + 1))
                  case measure => omega
                  case rel =>
                    refine ⟨j + 1, by omega, rfl, by go_num, Hs.out.1, fun u hu => ?_⟩
                    by_cases e : u = j
                    · subst e; exact HMB.out
                    · exact Hs.out.2 u (by omega)
                · have HD := Lib.hid (dec_false (fun h => hmem ((has_iff F j).1 h)))
                  have HNM := Lib.hid hmem
                  clear hmem
                  obtain ⟨q0, q1, q2, -, -, -⟩ := row3_facts (row_ext RB.out XW.out)
                  go_wp2_with (first | (go_at_call 66; (with_reducible refine (l1Has_any _ IF.out).mono ?_); rintro e w' ⟨rfl, rfl⟩; rw [HD.out]) | fail)
                  (with_reducible refine (isWalk_any j hjl (HB.out.ext (EW.out.trans' XW.out)) GB.out).mono ?_)
                  rintro e w5 ⟨vo, bo, rfl, hx5, oo, hf5⟩
                  have X5 := Lib.hid hx5
                  have OO := Lib.hid oo
                  have FO := Lib.hid hf5
                  clear q0 q1 q2 hx5 oo hf5
                  obtain ⟨q0, q1, q2, -, -, -⟩ := row3_facts (row_ext RB.out (XW.out.trans' X5.out))
                  go_wp2_with fail
                  (with_reducible refine (isCode_any (HB.out.ext (EW.out.trans' (XW.out.trans' X5.out))) OO.out.read GB.out (wk_good GB.out hjl)).mono ?_)
                  rintro e w6 ⟨vd, bd, rfl, hx6, od, -⟩
                  have X6 := Lib.hid (X5.out.trans' hx6)
                  have OO6 := Lib.hid (OO.out.ext hx6)
                  have OD := Lib.hid (show OwnI w6 vd (code B j) bd from od)
                  clear q0 q1 q2 hx6 od
                  by_cases hcd : code A (k : Int) = code B (j : Int)
                  · have HE := Lib.hid (show decide (code A (k : Int) = code B (j : Int)) = true from decide_eq_true hcd)
                    have HFR := Lib.hid (first_some (p := mayBe A B F k) (mayBe_iff.2 ⟨hcd, HNM.out⟩) Hs.out.2 _ hjl)
                    have HLEN := Lib.hid (cd_len hcd)
                    have HST := Lib.hid (show isoTo A B (k + 1) = some (fill F (wk A k) (wk B j) (wk A k).length) by rw [iso_next Hr.out.1]; unfold isoStep; rw [if_pos HM1.out, HFR.out])
                    clear hcd
                    go_wp2_with (first | (go_at_call 46; (with_reducible refine (l1Same_any (OC.out.ext (Hs.out.1.trans' X6.out)).read OD.out.read).mono ?_); rintro e w7 ⟨rfl, hx7⟩; rw [HE.out]; have X7 := Lib.hid (X6.out.trans' hx7); have OO7 := Lib.hid (OO6.out.ext hx7); have OL7 := Lib.hid (OL4.out.ext (Hs.out.1.trans' (X6.out.trans' hx7))); have RF7 := Lib.hid (row_ext RF.out (X6.out.trans' hx7)); clear hx7; obtain ⟨la, lc, rfl⟩ := OL7.out.1.slice; obtain ⟨oa, oc', rfl⟩ := OO7.out.1.slice) | fail)
                    have HNL := Lib.hid (show ∀ b ∈ bl, b ≠ w.heap.size + 2 from fun b hb e => by have := FL.out.2 b hb; have := Hr.out.2.2.lt; omega)
                    have HNO := Lib.hid (show ∀ b ∈ bo, b ≠ w.heap.size + 2 from fun b hb e => by have := FO.out.2 b hb; have := RF.out.lt; omega)
                    have WA := Lib.hid (wk_good GA.out hlt)
                    have HK0 := Lib.hid (show gi (fill F (wk A k) (wk B j) (wk A k).length) k = (j : Int) by
                      have := fill_first (f := F) (K := wk B j) HOK.out.1 WA.out.nodup WA.out.range (wk A k).length (wkTo_pos _ _ _) (Nat.le_refl _)
                      have e1 : gi (wk A k) 0 = (k : Int) := wkTo_first _ _ _
                      have e2 : gi (wk B j) 0 = (j : Int) := wkTo_first _ _ _
                      rw [e1, Int.toNat_natCast, e2] at this; exact this)
                    have E7 := Lib.hid (XW.out.trans' X7.out)
                    clear Hs
                    go_loopg [70] (wk A k).length (fun g i wx => ∃ t : Nat, t ≤ (wk A k).length ∧ g = (wk A k).length - t ∧ i = .int .i64 t ∧ Hid (Ext WB wx ∧ wx.rowIs (w.heap.size + 2) 3 A.ends.length (fRow (fill F (wk A k) (wk B j) t)) ∧ OwnI wx (.slice la (wk A k).length lc) (wk A k) bl ∧ OwnI wx (.slice oa (wk B j).length oc') (wk B j) bo))
                    case atStart => exact ⟨0, Nat.zero_le _, rfl, rfl, E7.out, RF7.out, OL7.out, OO7.out⟩
                    case round =>
                      obtain ⟨t, ht, rfl, rfl, Ht⟩ := hrel
                      by_cases htl : t < (wk A k).length
                      · obtain ⟨pa, pb, po, pc, e, hpa, hpl, hpm, hpc⟩ := Ht.out.2.2.1.read
                        simp only [Value.slice.injEq] at e
                        obtain ⟨rfl, -, rfl⟩ := e
                        obtain rfl := hpa (wkTo_pos _ _ _)
                        obtain ⟨ma, mb, mo, mc, e, hma, hml, hmm, hmc⟩ := Ht.out.2.2.2.read
                        simp only [Value.slice.injEq] at e
                        obtain ⟨rfl, -, rfl⟩ := e
                        obtain rfl := hma (wkTo_pos _ _ _)
                        unfold maxLen at hpm hmm
                        obtain ⟨_, e1, rfl, _⟩ := hpc t htl
                        have hx := WA.out.range _ (gi_in htl)
                        obtain ⟨x, hxx⟩ := Int.eq_ofNat_of_zero_le hx.1
                        have hxn : x < A.ends.length := by omega
                        have htl2 : t < (wk B j).length := by have := HLEN.out; omega
                        obtain ⟨_, e2, rfl, _⟩ := hmc t htl2
                        have FL2 := Lib.hid (show (fill F (wk A k) (wk B j) t).length = A.ends.length by rw [fill_len]; exact HOK.out.1)
                        have HFS := Lib.hid (show fill F (wk A k) (wk B j) (t + 1) = (fill F (wk A k) (wk B j) t).set x (gi (wk B j) t) by show List.set _ _ _ = _; rw [hxx, Int.toNat_natCast])
                        rw [hxx] at e1
                        have hcv := Ht.out.2.1.cell hxn
                        have hfr := Ht.out.2.1.frozen x
                        clear hpc hmc hx hxx
                        go_wp2
                        go_roundg ((wk A k).length - (t + 1))
                        case measure => omega
                        case rel => exact ⟨t + 1, by omega, rfl, by go_num, Ht.out.1.store (by have := ZB.out; simp; omega) _, by rw [HFS.out]; exact fRow_set Ht.out.2.1 FL2.out hxn, Ht.out.2.2.1.keep fun b hb => Below.heap_setCell _ _ _ _ (HNL.out b hb), Ht.out.2.2.2.keep fun b hb => Below.heap_setCell _ _ _ _ (HNO.out b hb)⟩
                      · obtain rfl : t = (wk A k).length := by omega
                        have hfk := Ht.out.2.1.cell hlt
                        simp only [fRow] at hfk
                        rw [HK0.out] at hfk
                        go_wp2
                        go_roundg (A.ends.length - (k + 1))
                        case measure => omega
                        case rel => exact ⟨k + 1, _, by omega, rfl, by go_num, HST.out, Ht.out.1, Ht.out.2.1⟩
                  · have HE := Lib.hid (show decide (code A (k : Int) = code B (j : Int)) = false from decide_eq_false hcd)
                    have HMB := Lib.hid (mayBe_code (f := F) hcd)
                    clear hcd
                    go_wp2_with (first | (go_at_call 46; (with_reducible refine (l1Same_any (OC.out.ext (Hs.out.1.trans' X6.out)).read OD.out.read).mono ?_); rintro e w7 ⟨rfl, hx7⟩; rw [HE.out]; have X7 := Lib.hid (X6.out.trans' hx7); clear hx7) | fail)
                    go_roundg (B.ends.length - (j + 1))
                    case measure => omega
                    case rel =>
                      refine ⟨j + 1, by omega, rfl, by go_num, Hs.out.1.trans' X7.out, fun u hu => ?_⟩
                      by_cases e : u = j
                      · subst e; exact HMB.out
                      · exact Hs.out.2 u (by omega)
              · obtain rfl : j = B.ends.length := by omega
                have hfk := RF.out.cell hlt
                simp only [fRow] at hfk
                rw [HM1.out] at hfk
                have HNO := Lib.hid (show ¬ IsoB A B from fun h => by
                  obtain ⟨f, hf⟩ := h.2.2.2
                  have : isoTo A B (k + 1) = none := by rw [iso_next Hr.out.1]; unfold isoStep; rw [if_pos HM1.out, first_none _ Hs.out.2]
                  rw [isoTo_none this _ hlt] at hf; simp at hf)
                go_wp2
                go_ret2
                exact ⟨_, [], ret_lb (dec_false HNO.out).symm, EW.out.trans' XW.out, by rw [isoAns_f HNO.out]; exact own_nilI _, Fresh.nil _⟩
          · have hge : 0 ≤ gi F k := by omega
            have HST := Lib.hid (show isoTo A B (k + 1) = some F by rw [iso_next Hr.out.1]; unfold isoStep; rw [if_neg hm1])
            clear hm1 hok
            go_wp2
            go_roundg (A.ends.length - (k + 1))
            case measure => omega
            case rel => exact ⟨k + 1, F, by omega, rfl, by go_num, HST.out, Hr.out.2.1, Hr.out.2.2⟩
        · obtain rfl : k = A.ends.length := by omega
          have HI := Lib.hid (show IsoB A B from ⟨HGG.out.1, HGG.out.2, HL.out, F, Hr.out.1⟩)
          go_wp2
          go_ret2
          exact ⟨_, [w.heap.size + 2], ret_lb (dec_true HI.out).symm, EW.out.trans' Hr.out.2.1, by rw [isoAns_t HI.out Hr.out.1]; exact fRow_own Hr.out.2.2 HOK.out h40, by simp, fun b hb => by obtain rfl := List.mem_singleton.1 hb; omega⟩
end Go.Proofs.Ytcdfjckdkicggaa
