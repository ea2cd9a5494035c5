/- TwoColouring, the program's. -/
import Derived.Test.YtkeiaahlifdbiaaZj
namespace Go.Proofs.Ytkeiaahlifdbiaa
open Go.RowKit

/-- The colour of a node. -/
def colF (N : Net) (v : Nat) : Int := (gi (dst N (lessL (wk N (v : Int)))) v).tmod 2
def cols (N : Net) : List Int := tab (colF N) N.ends.length
theorem tmod_small {y : Int} (h : -1 ≤ y) : -1 ≤ y.tmod 2 ∧ y.tmod 2 ≤ 1 := by
  by_cases e : y = -1
  · subst e; decide
  · rw [Int.tmod_eq_emod_of_nonneg (by omega)]; omega
theorem colF_range {N : Net} (hG : GoodW N) {v : Nat} (hv : v < N.ends.length) : -1 ≤ colF N v ∧ colF N v ≤ 1 :=
  tmod_small ((dst_small hG (x := lessL (wk N (v : Int))) (less_range hG hv)).2 v hv).1
theorem cols_in {N : Net} (hG : GoodW N) : ∀ i, i < (cols N).length → inI64 (gi (cols N) i) := fun i hi => by
  unfold cols at hi ⊢
  rw [tab_len] at hi
  rw [gi_tab hi]
  have := colF_range hG hi
  unfold inI64
  omega
/-- No end of a node leads to a node of its colour. -/
def RowP (N : Net) (C : List Int) (v : Nat) : Prop := ∀ j, j < (gr N.ends v).length → gi C (gn (gr N.ends v) j).toNat ≠ gi C v
def TwoB (N : Net) : Prop := Good N ∧ ∀ v, v < N.ends.length → RowP N (cols N) v
theorem colsAns_len (N : Net) : (ansOf (TwoB N) (cols N)).length ≤ 40 := ansOf_len fun h => by
  unfold cols; rw [tab_len]; exact (good_w h.1).most

set_option maxHeartbeats 6400000 in
set_option maxRecDepth 100000 in
theorem twoX_any {w : World} {vn : Value} {N : Net} (h : NetAt w vn N) :
    Calls Try.prog 62 #[vn] w fun e w' => ∃ v' bs, e = .returned (.tuple #[v', .bool (dec (TwoB N))]) ∧ Ext w w' ∧ OwnI w' v' (ansOf (TwoB N) (cols N)) bs ∧ Fresh w bs := by
  have HA := Lib.hid h
  obtain ⟨v0, v1, v2, rfl, hEa, -, -⟩ := h
  obtain ⟨ea, eb, eo, ec, rfl, hea, hel, hem, hec⟩ := hEa
  unfold maxLen at hem
  have HEA := Lib.hid hea
  have HEC := Lib.hid hec
  clear hea hec
  obtain ⟨W1, hW1⟩ : ∃ W1, W1 = w.alloc (.cells #[.slice ea N.ends.length ec, v1, v2] 29) := ⟨_, rfl⟩
  have K0 := Lib.hid (show Ext w W1 by rw [hW1]; exact boxed_ext _ _ _ _ _)
  have R0 := Lib.hid (show W1.rowIs w.heap.size 29 3 (tri (.slice ea N.ends.length ec) v1 v2) by rw [hW1]; exact boxed_row _ _ _ _ _)
  obtain ⟨p0, p1, p2, -, -, -⟩ := row3_facts R0.out
  rw [hW1] at p0 p1 p2
  by_cases hc : Good N
  case neg =>
    have D := Lib.hid (dec_false hc)
    have NB := Lib.hid (show ¬ TwoB N from fun h => hc h.1)
    clear hc
    go_enter Try.func62, Try.ntmps62
    go_wp2_with fail
    rw [← hW1]
    clear hW1 p0 p1 p2
    (with_reducible refine (componentsX_any (HA.out.ext K0.out)).mono ?_)
    rintro e wz ⟨ud, bd, rfl, hxz, hoz, hfz⟩
    rw [D.out]
    have KZ := Lib.hid (K0.out.trans' hxz)
    clear hxz hoz hfz
    go_wp2
    go_ret2
    exact ⟨_, [], ret_mb (dec_false NB.out).symm, KZ.out, by rw [ansOf_f NB.out]; exact own_nilI _, Fresh.nil _⟩
  have D := Lib.hid (dec_true hc)
  have HGD := Lib.hid hc
  have HG := Lib.hid (good_w hc)
  have hA1 := HG.out.one
  have hA40 := HG.out.most
  have AN := Lib.hid (ansOf_t (l := parts N) hc)
  have HPL := Lib.hid (show (parts N).length = N.ends.length from tab_len _ _)
  have hmk := run_make_row' (P := Try.prog) 23 3 (.int .i64 0) 8 Try.underlying23 Try.info3 rfl .i64 .i64 N.ends.length (by omega) (by omega)
  clear hc
  go_enter Try.func62, Try.ntmps62
  go_wp2_with fail
  rw [← hW1]
  clear hW1 p0 p1 p2
  (with_reducible refine (componentsX_any (HA.out.ext K0.out)).mono ?_)
  rintro e wz ⟨ud, bd, rfl, hxz, hoz, hfz⟩
  rw [AN.out] at hoz
  rw [D.out]
  obtain ⟨pa, pc, rfl⟩ := hoz.1.slice
  have KZ := Lib.hid (K0.out.trans' hxz)
  have RZ := Lib.hid (row_ext R0.out hxz)
  have OZ := Lib.hid hoz
  rw [HPL.out] at OZ ⊢
  clear hxz hoz hfz
  go_wp2_with fail
  clear hmk
  obtain ⟨mb, hmb⟩ : ∃ mb, mb = wz.heap.size := ⟨_, rfl⟩
  have HMB := Lib.hid hmb
  have HGE := Lib.hid (show wz.heap.size ≤ mb by omega)
  rw [← hmb]
  clear hmb
  go_loopg [25] N.ends.length (fun g i wr => ∃ k : Nat, k ≤ N.ends.length ∧ g = N.ends.length - k ∧ i = .int .i64 k ∧ Hid (Ext wz wr ∧ wr.rowIs mb 3 N.ends.length (tabRow (colF N) k)))
  case atStart => exact ⟨0, Nat.zero_le _, rfl, rfl, (Ext.rfl' _).alloc' _, by rw [HMB.out]; exact (World.rowIs_made _ _ _ _).congr fun i _ => by simp [tabRow]⟩
  case round =>
    obtain ⟨k, hk, rfl, rfl, Hr⟩ := hrel
    have X0 := Lib.hid Hr.out.1
    have T0 := Lib.hid Hr.out.2
    have E0 := Lib.hid (KZ.out.trans' Hr.out.1)
    clear Hr
    by_cases hlt : k < N.ends.length
    · obtain ⟨p0, p1, p2, -, -, -⟩ := row3_facts (row_ext RZ.out X0.out)
      have f1 := T0.out.cell hlt
      have f2 := T0.out.frozen k
      obtain ⟨pa', pb, po, pc', e, ha, hl, hm, hcn⟩ := (OZ.out.ext X0.out).read
      simp only [Value.slice.injEq] at e
      obtain ⟨rfl, -, rfl⟩ := e
      rw [HPL.out] at ha hl
      obtain rfl := ha (by omega)
      obtain ⟨_, hn1, rfl, _⟩ := hcn k (by rw [HPL.out]; exact hlt)
      unfold maxLen at hm
      obtain ⟨z, hz⟩ := Int.eq_ofNat_of_zero_le (less_range HG.out hlt).1
      have hzn : z < N.ends.length := by have := (less_range HG.out hlt).2; omega
      rw [show gi (parts N) k = lessL (wk N (k : Int)) from gi_tab hlt, hz] at hn1
      have HLZ := Lib.hid hz
      clear hcn ha hz
      go_wp2_with fail
      clear f1 f2 p0 p1 p2
      (with_reducible refine (distancesFrom_any z hzn (HA.out.ext E0.out) HG.out).mono ?_)
      rintro e w0l ⟨ud, bd2, rfl, hx0l, hod, hfr⟩
      have HDL := Lib.hid (dst_small HG.out (x := (z : Int)) (by omega))
      obtain ⟨_, db, dq, dc, rfl, ha2, hl2, hm2, hc2⟩ := hod.read
      rw [HDL.out.1] at ha2 hl2
      obtain rfl := ha2 (by omega)
      obtain ⟨_, hq, rfl, -⟩ := hc2 k (by rw [HDL.out.1]; exact hlt)
      unfold maxLen at hm2
      have hyr := HDL.out.2 k hlt
      have HCF := Lib.hid (show colF N k = (gi (dst N (z : Int)) k).tmod 2 by unfold colF; rw [HLZ.out])
      rw [HDL.out.1]
      obtain ⟨y, hy⟩ : ∃ y, y = gi (dst N (z : Int)) k := ⟨_, rfl⟩
      rw [← hy] at hq hyr HCF
      have hy2 := tmod_small hyr.1
      clear hod hfr ha2 hc2 hy hn1
      have X1 := Lib.hid (X0.out.trans' hx0l)
      have T1 := Lib.hid (row_ext T0.out hx0l)
      have E1 := Lib.hid (E0.out.trans' hx0l)
      clear hx0l
      obtain ⟨p0, p1, p2, -, -, -⟩ := row3_facts (row_ext RZ.out X1.out)
      have f1 := T1.out.cell hlt
      have f2 := T1.out.frozen k
      go_wp2
      go_roundg (N.ends.length - (k + 1))
      case measure => omega
      case rel => exact ⟨k + 1, by omega, rfl, by go_num, X1.out.store HGE.out _, by have := tabRow_step T1.out; rw [HCF.out] at this; exact this⟩
    · obtain rfl : k = N.ends.length := by omega
      have HR := Lib.hid (tabRow_num T0.out)
      obtain ⟨C, hC⟩ : ∃ C, C = cols N := ⟨_, rfl⟩
      have HC := Lib.hid hC
      have HCL := Lib.hid (show C.length = N.ends.length by rw [hC]; exact tab_len _ _)
      have HCI := Lib.hid (cols_in HG.out)
      rw [← hC] at HCI
      have HRC := Lib.hid (show wr.rowIs mb 3 N.ends.length (numRow C) by rw [hC]; exact HR.out)
      have HTB := Lib.hid (show TwoB N ↔ ∀ v, v < N.ends.length → RowP N C v by rw [hC]; exact ⟨fun h => h.2, fun h => ⟨HGD.out, h⟩⟩)
      clear hC
      obtain ⟨p0, p1, p2, -, -, -⟩ := row3_facts (row_ext RZ.out X0.out)
      obtain ⟨wo, hwo⟩ : ∃ wo : World, wo = wr := ⟨_, rfl⟩
      subst hwo
      go_wp2_with fail
      clear p0 p1 p2
      go_loopg [44] N.ends.length (fun g i wx => ∃ k : Nat, k ≤ N.ends.length ∧ g = N.ends.length - k ∧ i = .int .i64 k ∧ Hid (Ext wo wx ∧ ∀ v, v < k → RowP N C v))
      case atStart => exact ⟨0, Nat.zero_le _, rfl, rfl, Ext.rfl' _, fun v hv => absurd hv (by omega)⟩
      case round =>
        obtain ⟨v, hk, rfl, rfl, Hs⟩ := hrel
        have Y0 := Lib.hid Hs.out.1
        have Q0 := Lib.hid Hs.out.2
        have F0 := Lib.hid (E0.out.trans' Y0.out)
        clear Hs
        by_cases hvn : v < N.ends.length
        · obtain rfl := HEA.out (by omega)
          obtain ⟨_, hra, hrowa⟩ := HEC.out v hvn
          obtain ⟨aa, ab, ao, ac, rfl, haa, hal, ham, hac⟩ := hrowa
          unfold maxLen at ham
          have HAA := Lib.hid haa
          have HAC := Lib.hid hac
          have x1 := F0.out.cell' hra
          have h6 := HG.out.deg v hvn
          have HRJ := Lib.hid (show ∀ t, t < (gr N.ends v).length → 0 ≤ gn (gr N.ends v) t ∧ gn (gr N.ends v) t < (N.ends.length : Int) from HG.out.leads.node v hvn)
          clear haa hac hra
          obtain ⟨wv, hwv⟩ : ∃ wv : World, wv = wr := ⟨_, rfl⟩
          subst hwv
          go_wp2_with fail
          clear x1
          go_loopg [51] (gr N.ends v).length (fun g i wx => ∃ j : Nat, j ≤ (gr N.ends v).length ∧ g = (gr N.ends v).length - j ∧ i = .int .i64 j ∧ Hid (Ext wo wx ∧ ∀ t, t < j → gi C (gn (gr N.ends v) t).toNat ≠ gi C v))
          case atStart => exact ⟨0, Nat.zero_le _, rfl, rfl, Y0.out, fun t ht => absurd ht (by omega)⟩
          case round =>
            obtain ⟨j, hj, rfl, rfl, Ht⟩ := hrel
            have Y1 := Lib.hid Ht.out.1
            have Q1 := Lib.hid Ht.out.2
            have F1 := Lib.hid (E0.out.trans' Y1.out)
            clear Ht
            by_cases hjt : j < (gr N.ends v).length
            · obtain rfl := HAA.out (by omega)
              obtain ⟨f1, f2, -⟩ := HAC.out j hjt
              have hl0 := HRJ.out j hjt
              obtain ⟨zz, hzz⟩ := Int.eq_ofNat_of_zero_le hl0.1
              have hzzn : zz < N.ends.length := by omega
              rw [hzz] at f1
              have HZZ := Lib.hid (show (gn (gr N.ends v) j).toNat = zz by rw [hzz, Int.toNat_natCast])
              clear hzz hl0
              obtain ⟨pA, hpA⟩ : ∃ d, d = gp (gr N.ends v) j := ⟨_, rfl⟩
              rw [← hpA] at f2
              have s1 := F1.out.cell' f1
              have s2 := F1.out.cell' f2
              obtain ⟨W2, hW2⟩ : ∃ W2, W2 = wr.alloc (.cells #[.int .i64 zz, .int .i64 pA] 66) := ⟨_, rfl⟩
              have E2 := Lib.hid (show Ext wo W2 by rw [hW2]; exact Y1.out.alloc' _)
              have R2 := Lib.hid (show W2.rowIs wr.heap.size 66 2 (duo (.int .i64 zz) (.int .i64 pA)) by rw [hW2]; exact duo_made _ _ _ _)
              obtain ⟨r0, r1, -, -⟩ := duo_facts R2.out
              have t2 := (row_ext HRC.out E2.out).cell hzzn
              have t4 := (row_ext HRC.out E2.out).cell hvn
              unfold numRow at t2 t4
              obtain ⟨cz, hcz⟩ : ∃ c, c = gi C zz := ⟨_, rfl⟩
              obtain ⟨cv, hcv⟩ : ∃ c, c = gi C v := ⟨_, rfl⟩
              rw [← hcz] at t2
              rw [← hcv] at t4
              have HCZ := Lib.hid (show gi C (gn (gr N.ends v) j).toNat = cz by rw [HZZ.out, hcz])
              have HCV := Lib.hid hcv.symm
              have P0 : ∀ x' : Wx W2, x'.w.cell? ⟨wr.heap.size, 0, none⟩ = some (.int .i64 zz) := fun x' => x'.ok.cell' r0
              have P1 : ∀ x' : Wx W2, x'.w.cell? ⟨mb, zz, none⟩ = some (.int .i64 cz) := fun x' => x'.ok.cell' t2
              have P2 : ∀ x' : Wx W2, x'.w.cell? ⟨mb, v, none⟩ = some (.int .i64 cv) := fun x' => x'.ok.cell' t4
              clear f1 f2 hpA hcz hcv r0 r1 t2 t4
              go_wp2_with fail
              rw [← hW2]
              clear hW2 s1 s2
              refine wp_region_ext (by kernel_rfl) (by kernel_rfl) ?_
              repeat (go_big_quiet_step (fail))
              refine wpQuiet_nil ?_
              rintro wq ⟨⟨_, hz2⟩, rfl⟩
              have E3 := Lib.hid (E2.out.trans' hz2)
              clear hz2 P0 P1 P2
              by_cases hee : cz = cv
              · have NB := Lib.hid (show ¬ TwoB N from fun h => (HTB.out.1 h) v hvn j hjt (by rw [HCZ.out, HCV.out]; exact hee))
                have hbq : (cz == cv) = true := by simpa using hee
                clear hee
                go_wp2
                go_ret2
                exact ⟨_, [], ret_mb (dec_false NB.out).symm, E0.out.trans' E3.out, by rw [ansOf_f NB.out]; exact own_nilI _, Fresh.nil _⟩
              · have Q2 := Lib.hid (show ∀ t, t < j + 1 → gi C (gn (gr N.ends v) t).toNat ≠ gi C v from fun t ht => by
                  by_cases e : t = j
                  · subst e; rw [HCZ.out, HCV.out]; exact hee
                  · exact Q1.out t (by omega))
                have hbq : (cz == cv) = false := beq_eq_false_iff_ne.2 hee
                clear hee
                go_wp2
                go_roundg ((gr N.ends v).length - (j + 1))
                case measure => omega
                case rel => exact ⟨j + 1, by omega, rfl, by go_num, E3.out, Q2.out⟩
            · have Q2 := Lib.hid (show ∀ u, u < v + 1 → RowP N C u from fun u hu => by
                by_cases e : u = v
                · subst e; exact fun t ht => Q1.out t (by omega)
                · exact Q0.out u (by omega))
              go_wp2
              go_roundg (N.ends.length - (v + 1))
              case measure => omega
              case rel => exact ⟨v + 1, by omega, rfl, by go_num, Y1.out, Q2.out⟩
        · obtain rfl : v = N.ends.length := by omega
          have HB := Lib.hid (HTB.out.2 Q0.out)
          have HRF := Lib.hid (row_ext HRC.out Y0.out)
          go_wp2
          go_ret2
          exact ⟨_, [mb], ret_mb (dec_true HB.out).symm, F0.out, by rw [ansOf_t HB.out, ← HC.out]; exact num_own HRF.out HCL.out (by omega) HCI.out, by simp, fun y hy => by
            simp only [List.mem_singleton] at hy
            subst hy
            have := HGE.out; have := KZ.out.size; omega⟩
end Go.Proofs.Ytkeiaahlifdbiaa
