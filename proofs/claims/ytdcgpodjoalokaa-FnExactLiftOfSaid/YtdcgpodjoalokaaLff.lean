/- The model's LiftOf, whole. -/
import Derived.Test.YtdcgpodjoalokaaLfd
import Derived.Test.YtdcgpodjoalokaaLfe
namespace Go.Proofs.Ytdcgpodjoalokaa
open Go.RowKit

set_option maxHeartbeats 6400000 in
set_option maxRecDepth 100000 in
theorem specLift_any {w : World} {v vp : Value} {N : Net} {P : List (List Int)} (k : Int) (h : NetAt w v N) (hp : IntSS w vp P) (_ : IISmall P) :
    Calls Try.prog 62 #[v, .int .i64 k, vp] w fun e w' => ∃ v' bs, e = .returned (.tuple #[v', .bool (dec (LiftOK N k P))]) ∧ Ext w w' ∧ OwnNet w' v' (liftAns N k P) bs ∧ Fresh w bs := by
  have HN := Lib.hid h
  have HP := Lib.hid hp
  obtain ⟨v0, v1, v2, rfl, hE, -, -⟩ := h
  obtain ⟨W0, hW0⟩ : ∃ W0, W0 = (w.alloc (.cells #[v0, v1, v2] 43)).alloc (.cells #[.slice none 0 0, .slice none 0 0, .slice none 0 0] 43) := ⟨_, rfl⟩
  have EW := Lib.hid (show Ext w W0 by rw [hW0]; exact ((Ext.rfl' w).alloc' _).alloc' _)
  have ZW := Lib.hid (show W0.heap.size = w.heap.size + 2 by rw [hW0]; simp)
  have RN := Lib.hid (show W0.rowIs w.heap.size 43 3 (tri v0 v1 v2) by rw [hW0]; exact row_ext (row3_made w _ _ _ _) ((Ext.rfl' _).alloc' _))
  have RQ := Lib.hid (show W0.rowIs (w.heap.size + 1) 43 3 (tri (.slice none 0 0) (.slice none 0 0) (.slice none 0 0)) by rw [hW0]; simpa using row3_made (w.alloc (.cells #[v0, v1, v2] 43)) (.slice none 0 0) (.slice none 0 0) (.slice none 0 0) 43)
  obtain ⟨ea, eb, eo, ec, rfl, -, el, em, -⟩ := hE
  obtain ⟨pa, pb, po, pc, rfl, hpa, pl, pm, hpc⟩ := hp
  unfold maxLen at em pm
  have HPA := Lib.hid hpa
  have HPC := Lib.hid hpc
  clear hpa hpc
  obtain ⟨p0, p1, p2, -, -, -⟩ := row3_facts RN.out
  rw [hW0] at p0 p1 p2
  go_enter Try.func62, Try.ntmps62
  go_wp2_with fail
  rw [← hW0]
  clear hW0 p0 p1 p2
  (with_reducible refine (neGood_any (HN.out.ext EW.out)).mono ?_)
  rintro e w1 ⟨rfl, hx⟩
  have X1 := Lib.hid hx
  clear hx
  obtain ⟨p0, p1, p2, -, -, -⟩ := row3_facts (row_ext RN.out X1.out)
  by_cases hg : Good N
  case neg =>
    rw [dec_false hg]
    have D := Lib.hid (dec_false (show ¬ LiftOK N k P from fun h => hg h.1.1.1))
    have A := Lib.hid (liftAns_f (show ¬ LiftOK N k P from fun h => hg h.1.1.1))
    obtain ⟨q0, q1, q2, t0, t1, t2⟩ := row3_facts (row_ext RQ.out X1.out)
    go_wp2
    refine bodyPost_ret (v := .tuple #[znet, .bool false]) (by simp [results, Try.results62, go_sem, q0, q1, q2, znet]) rfl ⟨_, [], ret_net D.out.symm, store3_ext (EW.out.trans' X1.out) (by omega) _ _ _, by rw [A.out]; exact own_zero _, Fresh.nil _⟩
  rw [dec_true hg]
  have GN := Lib.hid hg
  have hn40 : 1 ≤ N.ends.length ∧ N.ends.length ≤ 40 := ⟨hg.1.1, hg.1.2⟩
  clear hg
  by_cases hk : InB k 1 40
  case neg =>
    have G2 := Lib.hid (dec_false hk)
    have D := Lib.hid (dec_false (show ¬ LiftOK N k P from fun h => hk h.1.1.2))
    have A := Lib.hid (liftAns_f (show ¬ LiftOK N k P from fun h => hk h.1.1.2))
    obtain ⟨q0, q1, q2, t0, t1, t2⟩ := row3_facts (row_ext RQ.out X1.out)
    go_wp2_with (go_at_call 93; (with_reducible refine (l1In_any _ _ _ _).mono ?_); rintro e _ ⟨rfl, rfl⟩; rw [G2.out])
    refine bodyPost_ret (v := .tuple #[znet, .bool false]) (by simp [results, Try.results62, go_sem, q0, q1, q2, znet]) rfl ⟨_, [], ret_net D.out.symm, store3_ext (EW.out.trans' X1.out) (by omega) _ _ _, by rw [A.out]; exact own_zero _, Fresh.nil _⟩
  have G2 := Lib.hid (dec_true hk)
  obtain ⟨kk, rfl, hk1, hk40⟩ : ∃ kk : Nat, k = kk ∧ 1 ≤ kk ∧ kk ≤ 40 := ⟨k.toNat, by have := hk.1; omega, by have := hk.1; omega, by have := hk.2; omega⟩
  have HK := Lib.hid hk
  clear hk
  obtain ⟨T, hT⟩ : ∃ T, T = N.ends.length * kk := ⟨_, rfl⟩
  have HT := Lib.hid hT
  have hT2 : T ≤ 1600 := by rw [hT]; exact Nat.mul_le_mul hn40.2 hk40
  have hmul : (kk : Int) * (N.ends.length : Int) = (T : Int) := by rw [hT, ← Int.natCast_mul, Nat.mul_comm]
  have hwr : IntKind.i64.wrap (T : Int) = (T : Int) := IntWalk.i64_in _ (by omega)
  clear hT
  by_cases hb : T ≤ 40
  case neg =>
    have b1 : decide ((40 : Int) < (T : Int)) = true := decide_eq_true (by omega)
    have HBB := Lib.hid hb
    clear hb
    have D := Lib.hid (dec_false (show ¬ LiftOK N (kk : Int) P from fun h => HBB.out (by have := h.1.2; rw [← Int.natCast_mul, ← HT.out] at this; omega)))
    have A := Lib.hid (liftAns_f (show ¬ LiftOK N (kk : Int) P from fun h => HBB.out (by have := h.1.2; rw [← Int.natCast_mul, ← HT.out] at this; omega)))
    obtain ⟨q0, q1, q2, t0, t1, t2⟩ := row3_facts (row_ext RQ.out X1.out)
    go_wp2_with (go_at_call 93; (with_reducible refine (l1In_any _ _ _ _).mono ?_); rintro e _ ⟨rfl, rfl⟩; rw [G2.out])
    refine bodyPost_ret (v := .tuple #[znet, .bool false]) (by simp [results, Try.results62, go_sem, q0, q1, q2, znet]) rfl ⟨_, [], ret_net D.out.symm, store3_ext (EW.out.trans' X1.out) (by omega) _ _ _, by rw [A.out]; exact own_zero _, Fresh.nil _⟩
  have b1 : decide ((40 : Int) < (T : Int)) = false := decide_eq_false (by omega)
  have HB := Lib.hid hb
  clear hb
  go_wp2_with (go_at_call 93; (with_reducible refine (l1In_any _ _ _ _).mono ?_); rintro e _ ⟨rfl, rfl⟩; rw [G2.out])
  (with_reducible refine (neEdges_any (HN.out.ext (EW.out.trans' X1.out)) GN.out).mono ?_)
  rintro e w2 ⟨v2', bs2, rfl, hx, ho, -⟩
  have X2 := Lib.hid (X1.out.trans' hx)
  have HR4 := Lib.hid (show ∀ t, t < (edgesTo N N.ends.length).length → (gr (edgesTo N N.ends.length) t).length = 4 from fun t ht => by
    obtain ⟨v, i, x, j, -, -, e⟩ := edgeL_at GN.out ht
    rw [e]; rfl)
  obtain ⟨E, hE⟩ : ∃ E, E = edgesTo N N.ends.length := ⟨_, rfl⟩
  have HE := Lib.hid hE
  rw [← hE] at HR4 ho
  clear hE
  obtain ⟨xa, xb, xo, xc, rfl, -, xl, xm, -⟩ := ho.read
  unfold maxLen at xm
  clear hx ho p0 p1 p2
  obtain ⟨p0, p1, p2, -, -, -⟩ := row3_facts (row_ext RN.out X2.out)
  by_cases hlen : P.length = E.length
  case neg =>
    have b2 : ((P.length : Int) != (E.length : Int)) = true := bne_iff_ne.2 (by omega)
    have HLN := Lib.hid (show ¬ P.length = (edgesTo N N.ends.length).length from by rw [← HE.out]; exact hlen)
    clear hlen
    have D := Lib.hid (dec_false (show ¬ LiftOK N (kk : Int) P from fun h => HLN.out h.2.1))
    have A := Lib.hid (liftAns_f (show ¬ LiftOK N (kk : Int) P from fun h => HLN.out h.2.1))
    obtain ⟨q0, q1, q2, t0, t1, t2⟩ := row3_facts (row_ext RQ.out X2.out)
    go_wp2
    refine bodyPost_ret (v := .tuple #[znet, .bool false]) (by simp [results, Try.results62, go_sem, q0, q1, q2, znet]) rfl ⟨_, [], ret_net D.out.symm, store3_ext (EW.out.trans' X2.out) (by omega) _ _ _, by rw [A.out]; exact own_zero _, Fresh.nil _⟩
  have b2 : ((P.length : Int) != (E.length : Int)) = false := bne_eq_false_iff_eq.2 (by omega)
  have HLEN := Lib.hid hlen
  clear hlen
  go_wp2_with fail
  (with_reducible refine (neEdges_any (HN.out.ext (EW.out.trans' X2.out)) GN.out).mono ?_)
  rintro e w3 ⟨v3', bs3, rfl, hx, ho, -⟩
  have X3 := Lib.hid (X2.out.trans' hx)
  rw [← HE.out] at ho
  obtain ⟨ya, yb, yo, yc, rfl, hya, yl, ym, hyc⟩ := ho.read
  unfold maxLen at ym
  have HYA := Lib.hid hya
  have HYC := Lib.hid hyc
  clear hx ho p0 p1 p2 hya hyc
  go_wp2
  go_loopg [40] E.length (fun g0 i wr => ∃ x : Nat, x ≤ E.length ∧ g0 = E.length - x ∧ i = .int .i64 x ∧ Hid (Ext w3 wr ∧ ∀ u, u < x → SheetOK E P kk u))
  case atStart => exact ⟨0, Nat.zero_le _, rfl, rfl, Ext.rfl' _, fun u hu => absurd hu (by omega)⟩
  case round =>
    obtain ⟨x, hx, rfl, rfl, Hr⟩ := hrel
    by_cases hlt : x < E.length
    · have hltP : x < P.length := by rw [HLEN.out]; exact hlt
      obtain rfl := HPA.out (by omega)
      obtain rfl := HYA.out (by omega)
      obtain ⟨_, c0, hzp⟩ := HPC.out x hltP
      obtain ⟨_, c1, hze⟩ := HYC.out x hlt
      have HR := Lib.hid (X3.out.trans' Hr.out.1)
      have HZP := Lib.hid (hzp.ext (EW.out.trans' HR.out))
      obtain ⟨za, zb, zo, zc, rfl, -, zl, zm, -⟩ := hzp
      unfold maxLen at zm
      have hr4 := HR4.out x hlt
      obtain ⟨fa, fb, fo, fc, rfl, hfa, fl, fm, hfc⟩ := hze.ext Hr.out.1
      unfold maxLen at fm
      have d0 := (EW.out.trans' HR.out).cell' c0
      have d1 := Hr.out.1.cell' c1
      obtain rfl := hfa (by omega)
      obtain ⟨_, f0, rfl, -⟩ := hfc 0 (by omega)
      obtain ⟨_, f1, rfl, -⟩ := hfc 1 (by omega)
      obtain ⟨_, f2, rfl, -⟩ := hfc 2 (by omega)
      obtain ⟨_, f3, rfl, -⟩ := hfc 3 (by omega)
      obtain ⟨e0, he0⟩ : ∃ z, z = gi (gr E x) 0 := ⟨_, rfl⟩
      obtain ⟨e1, he1⟩ : ∃ z, z = gi (gr E x) 1 := ⟨_, rfl⟩
      obtain ⟨e2, he2⟩ : ∃ z, z = gi (gr E x) 2 := ⟨_, rfl⟩
      obtain ⟨e3, he3⟩ : ∃ z, z = gi (gr E x) 3 := ⟨_, rfl⟩
      rw [← he0, Nat.add_zero] at f0
      rw [← he1] at f1
      rw [← he2] at f2
      rw [← he3] at f3
      have HST := Lib.hid (show StubE (gr E x) ↔ (e0 = e2 ∧ e1 = e3) by unfold StubE; rw [he0, he1, he2, he3])
      rw [hr4] at d1 fl
      clear c0 c1 hze hfa hfc he0 he1 he2 he3 hr4
      go_wp2_with fail
      (with_reducible refine (nePerm_any kk (by omega) HZP.out).mono ?_)
      rintro e w4 ⟨rfl, rfl⟩
      by_cases hq : PermOK (gr P x) kk
      case neg =>
        rw [dec_false hq]
        have HQ := Lib.hid (show ¬ SheetsOK (edgesTo N N.ends.length) P kk from fun h => hq (h.2 x (by rw [← HE.out]; exact hlt)).1)
        clear hq
        have D := Lib.hid (dec_false (show ¬ LiftOK N (kk : Int) P from fun h => HQ.out (by have := h.2; rwa [Int.toNat_natCast] at this)))
        have A := Lib.hid (liftAns_f (show ¬ LiftOK N (kk : Int) P from fun h => HQ.out (by have := h.2; rwa [Int.toNat_natCast] at this)))
        obtain ⟨q0, q1, q2, t0, t1, t2⟩ := row3_facts (row_ext RQ.out HR.out)
        go_wp2
        refine bodyPost_ret (v := .tuple #[znet, .bool false]) (by simp [results, Try.results62, go_sem, q0, q1, q2, znet]) rfl ⟨_, [], ret_net D.out.symm, store3_ext (EW.out.trans' HR.out) (by omega) _ _ _, by rw [A.out]; exact own_zero _, Fresh.nil _⟩
      rw [dec_true hq]
      have HQ := Lib.hid hq
      have hql : (gr P x).length = kk := hq.1
      obtain ⟨za', zb', zo', zc', e, hza, -, -, hzc⟩ := HZP.out
      simp only [Value.slice.injEq] at e
      obtain ⟨rfl, -, rfl⟩ := e
      obtain rfl := hza (by omega)
      rw [hql] at d0 zl
      have HZC := Lib.hid hzc
      have HPR := Lib.hid (perm_rangeL hq)
      clear hq hza hzc
      obtain ⟨WR, hWR⟩ : ∃ W : World, W = wr := ⟨_, rfl⟩
      subst hWR
      go_wp2
      go_loopg [58] kk (fun g0 i wx => ∃ s : Nat, s ≤ kk ∧ g0 = kk - s ∧ i = .int .i64 s ∧ Hid (Ext WR wx ∧ (StubE (gr E x) → ∀ u : Nat, u < s → gi (gr P x) (gi (gr P x) u).toNat = (u : Int))))
      case atStart => exact ⟨0, Nat.zero_le _, rfl, rfl, Ext.rfl' _, fun _ u hu => absurd hu (by omega)⟩
      case round =>
        obtain ⟨s, hs, rfl, rfl, Hs⟩ := hrel
        by_cases hls : s < kk
        · have hsl : s < (gr P x).length := by omega
          obtain ⟨_, g1, rfl, -⟩ := HZC.out s hsl
          obtain ⟨hz0, hz1⟩ := HPR.out s hsl
          obtain ⟨z, hz⟩ := Int.eq_ofNat_of_zero_le hz0
          have hzl : z < (gr P x).length := by omega
          have hzk : z < kk := by omega
          have hzk2 : (z : Int) < (kk : Int) := by omega
          rw [hz] at g1
          obtain ⟨_, g2, rfl, -⟩ := HZC.out z hzl
          obtain ⟨y, hy⟩ : ∃ y, y = gi (gr P x) z := ⟨_, rfl⟩
          rw [← hy] at g2
          have HY := Lib.hid (show gi (gr P x) (gi (gr P x) s).toNat = y by rw [hz, Int.toNat_natCast, hy])
          clear hz hy hz0 hz1
          have k0 := Hs.out.1.cell' f0
          have k1 := Hs.out.1.cell' f1
          have k2 := Hs.out.1.cell' f2
          have k3 := Hs.out.1.cell' f3
          have k4 := Hs.out.1.cell' g1
          have k5 := Hs.out.1.cell' g2
          have k6 := Hs.out.1.cell' d0
          clear g1 g2
          by_cases h1 : e0 = e2
          · have c1 : (e0 == e2) = true := beq_iff_eq.2 h1
            by_cases h2 : e1 = e3
            · have c2 : (e1 == e3) = true := beq_iff_eq.2 h2
              by_cases h3 : y = (s : Int)
              · have c3' : (y != (s : Int)) = false := bne_eq_false_iff_eq.2 h3
                have H3 := Lib.hid h3
                clear h1 h2 h3
                go_wp2_with fail
                go_region_held3 (fun w' => w'.cell? ⟨fb, fo, none⟩ = some (.int .i64 e0) ∧ w'.cell? ⟨fb, fo + 1, none⟩ = some (.int .i64 e1) ∧ w'.cell? ⟨fb, fo + 2, none⟩ = some (.int .i64 e2) ∧ w'.cell? ⟨fb, fo + 3, none⟩ = some (.int .i64 e3) ∧ w'.cell? ⟨pb, po + x, none⟩ = some (.slice (some ⟨zb', zo', none⟩) kk zc) ∧ w'.cell? ⟨zb', zo' + z, none⟩ = some (.int .i64 y)) (go_keep) (fail)
                have HY2 := Lib.hid (Hs.out.1.drew')
                clear k0 k1 k2 k3 k4 k5 k6
                go_wp2
                go_roundg (kk - (s + 1))
                case measure => omega
                case rel =>
                  refine ⟨s + 1, by omega, rfl, by go_num, HY2.out, fun hst u hu => ?_⟩
                  by_cases e : u = s
                  · subst e; rw [HY.out]; exact H3.out
                  · exact Hs.out.2 hst u (by omega)
              · have c3' : (y != (s : Int)) = true := bne_iff_ne.2 h3
                have HQ := Lib.hid (show ¬ SheetsOK (edgesTo N N.ends.length) P kk from fun h => h3 (by rw [← HY.out]; exact (h.2 x (by rw [← HE.out]; exact hlt)).2 (by rw [← HE.out]; exact HST.out.2 ⟨h1, h2⟩) s hsl))
                clear h1 h2 h3
                go_wp2_with fail
                go_region_held3 (fun w' => w'.cell? ⟨fb, fo, none⟩ = some (.int .i64 e0) ∧ w'.cell? ⟨fb, fo + 1, none⟩ = some (.int .i64 e1) ∧ w'.cell? ⟨fb, fo + 2, none⟩ = some (.int .i64 e2) ∧ w'.cell? ⟨fb, fo + 3, none⟩ = some (.int .i64 e3) ∧ w'.cell? ⟨pb, po + x, none⟩ = some (.slice (some ⟨zb', zo', none⟩) kk zc) ∧ w'.cell? ⟨zb', zo' + z, none⟩ = some (.int .i64 y)) (go_keep) (fail)
                have HY2 := Lib.hid (Hs.out.1.drew')
                clear k0 k1 k2 k3 k4 k5 k6
                have D := Lib.hid (dec_false (show ¬ LiftOK N (kk : Int) P from fun h => HQ.out (by have := h.2; rwa [Int.toNat_natCast] at this)))
                have A := Lib.hid (liftAns_f (show ¬ LiftOK N (kk : Int) P from fun h => HQ.out (by have := h.2; rwa [Int.toNat_natCast] at this)))
                obtain ⟨q0, q1, q2, t0, t1, t2⟩ := row3_facts (row_ext RQ.out (HR.out.trans' Hs.out.1))
                go_wp2
                refine bodyPost_ret (v := .tuple #[znet, .bool false]) (by simp [results, Try.results62, go_sem, q0, q1, q2, znet]) rfl ⟨_, [], ret_net D.out.symm, store3_ext (EW.out.trans' (HR.out.trans' HY2.out)) (by omega) _ _ _, by rw [A.out]; exact own_zero _, Fresh.nil _⟩
            · have c2 : (e1 == e3) = false := beq_eq_false_iff_ne.2 h2
              have c2d : decide (e1 = e3) = false := decide_eq_false h2
              have HNS := Lib.hid (show ¬ StubE (gr E x) from fun h => h2 (HST.out.1 h).2)
              clear h1 h2
              go_upto_region 11 with fail
              refine wp_region_gate (n := 26) (S := fun w' => w'.cell? ⟨fb, fo, none⟩ = some (.int .i64 e0) ∧ w'.cell? ⟨fb, fo + 1, none⟩ = some (.int .i64 e1) ∧ w'.cell? ⟨fb, fo + 2, none⟩ = some (.int .i64 e2) ∧ w'.cell? ⟨fb, fo + 3, none⟩ = some (.int .i64 e3)) (by kernel_rfl) ⟨(Ext.rfl' wr).drew'.cell' k0, (Ext.rfl' wr).drew'.cell' k1, (Ext.rfl' wr).drew'.cell' k2, (Ext.rfl' wr).drew'.cell' k3⟩ (fun hHeld => ?_)
              refine wpAnyG_take (i := 0) (v := ?_) rfl (by decide +kernel) (by kernel_rfl) (by decide) (by kernel_rfl) (by kernel_rfl) (fun _ _ _ h => h) (Or.inl ⟨by kernel_rfl, ?_⟩) hHeld ?_
              rotate_left 1
              · (intro w' hSw; (try dsimp only at hSw); go_simp) <;> with_reducible rfl
              simp only [Act.put]
              refine wpAnyG_take (i := 1) (v := ?_) rfl (by decide +kernel) (by kernel_rfl) (by decide) (by kernel_rfl) (by kernel_rfl) (fun _ _ _ h => h) (Or.inl ⟨by kernel_rfl, ?_⟩) hHeld ?_
              rotate_left 1
              · (intro w' hSw; (try dsimp only at hSw); go_simp) <;> with_reducible rfl
              simp only [Act.put]
              refine wpAnyG_take (i := 2) (v := ?_) rfl (by decide +kernel) (by kernel_rfl) (by decide) (by kernel_rfl) (by kernel_rfl) (fun _ _ _ h => h) (Or.inl ⟨by kernel_rfl, ?_⟩) hHeld ?_
              rotate_left 1
              · (intro w' hSw; (try dsimp only at hSw); go_simp) <;> with_reducible rfl
              simp only [Act.put]
              refine wpAnyG_take (i := 3) (v := ?_) rfl (by decide +kernel) (by kernel_rfl) (by decide) (by kernel_rfl) (by kernel_rfl) (fun _ _ _ h => h) (Or.inl ⟨by kernel_rfl, ?_⟩) hHeld ?_
              rotate_left 1
              · (intro w' hSw; (try dsimp only at hSw); go_simp) <;> with_reducible rfl
              simp only [Act.put]
              refine wpAnyG_take (i := 4) (v := ?_) rfl (by decide +kernel) (by kernel_rfl) (by decide) (by kernel_rfl) (by kernel_rfl) (fun _ _ _ h => h) (Or.inl ⟨by kernel_rfl, ?_⟩) hHeld ?_
              rotate_left 1
              · (intro w' hSw; (try dsimp only at hSw); go_simp) <;> with_reducible rfl
              simp only [Act.put]
              refine wpAnyG_take (i := 5) (v := ?_) rfl (by decide +kernel) (by kernel_rfl) (by decide) (by kernel_rfl) (by kernel_rfl) (fun _ _ _ h => h) (Or.inl ⟨by kernel_rfl, ?_⟩) hHeld ?_
              rotate_left 1
              · (intro w' hSw; (try dsimp only at hSw); go_simp) <;> with_reducible rfl
              simp only [Act.put]
              refine wpAnyG_take (i := 6) (v := ?_) rfl (by decide +kernel) (by kernel_rfl) (by decide) (by kernel_rfl) (by kernel_rfl) (fun _ _ _ h => h) (Or.inl ⟨by kernel_rfl, ?_⟩) hHeld ?_
              rotate_left 1
              · (intro w' hSw; (try dsimp only at hSw); go_simp) <;> with_reducible rfl
              simp only [Act.put]
              refine wpAnyG_take (i := 7) (v := ?_) rfl (by decide +kernel) (by kernel_rfl) (by decide) (by kernel_rfl) (by kernel_rfl) (fun _ _ _ h => h) (Or.inl ⟨by kernel_rfl, ?_⟩) hHeld ?_
              rotate_left 1
              · (intro w' hSw; (try dsimp only at hSw); go_simp) <;> with_reducible rfl
              simp only [Act.put]
              refine wpAnyG_take (i := 8) (v := ?_) rfl (by decide +kernel) (by kernel_rfl) (by decide) (by kernel_rfl) (by kernel_rfl) (fun _ _ _ h => h) (Or.inl ⟨by kernel_rfl, ?_⟩) hHeld ?_
              rotate_left 1
              · (intro w' hSw; (try dsimp only at hSw); go_simp) <;> with_reducible rfl
              simp only [Act.put]
              refine wpAnyG_take (i := 9) (v := ?_) rfl (by decide +kernel) (by kernel_rfl) (by decide) (by kernel_rfl) (by kernel_rfl) (fun _ _ _ h => h) (Or.inl ⟨by kernel_rfl, ?_⟩) hHeld ?_
              rotate_left 1
              · (intro w' hSw; (try dsimp only at hSw); go_simp) <;> with_reducible rfl
              simp only [Act.put]
              refine wpAnyG_take (i := 10) (v := ?_) rfl (by decide +kernel) (by kernel_rfl) (by decide) (by kernel_rfl) (by kernel_rfl) (fun _ _ _ h => h) (Or.inl ⟨by kernel_rfl, ?_⟩) hHeld ?_
              rotate_left 1
              · (intro w' hSw; (try dsimp only at hSw); go_simp) <;> with_reducible rfl
              simp only [Act.put]
              refine wpAnyG_take (i := 11) (v := ?_) rfl (by decide +kernel) (by kernel_rfl) (by decide) (by kernel_rfl) (by kernel_rfl) (fun _ _ _ h => h) (Or.inl ⟨by kernel_rfl, ?_⟩) hHeld ?_
              rotate_left 1
              · (intro w' hSw; (try dsimp only at hSw); go_simp) <;> with_reducible rfl
              simp only [Act.put]
              refine wpAnyG_take (i := 12) (v := ?_) rfl (by decide +kernel) (by kernel_rfl) (by decide) (by kernel_rfl) (by kernel_rfl) (fun _ _ _ h => h) (Or.inl ⟨by kernel_rfl, ?_⟩) hHeld ?_
              rotate_left 1
              · (intro w' hSw; (try dsimp only at hSw); go_simp) <;> with_reducible rfl
              simp only [Act.put]
              refine wpAnyG_take (i := 13) (v := ?_) rfl (by decide +kernel) (by kernel_rfl) (by decide) (by kernel_rfl) (by kernel_rfl) (fun _ _ _ h => h) (Or.inl ⟨by kernel_rfl, ?_⟩) hHeld ?_
              rotate_left 1
              · (intro w' hSw; (try dsimp only at hSw); go_simp) <;> with_reducible rfl
              simp only [Act.put]
              refine wpAnyG_take (i := 14) (v := ?_) rfl (by decide +kernel) (by kernel_rfl) (by decide) (by kernel_rfl) (by kernel_rfl) (fun _ _ _ h => h) (Or.inl ⟨by kernel_rfl, ?_⟩) hHeld ?_
              rotate_left 1
              · (intro w' hSw; (try dsimp only at hSw); go_simp) <;> with_reducible rfl
              simp only [Act.put]
              refine wpAnyG_take (i := 15) (v := ?_) rfl (by decide +kernel) (by kernel_rfl) (by decide) (by kernel_rfl) (by kernel_rfl) (fun _ _ _ h => h) (Or.inl ⟨by kernel_rfl, ?_⟩) hHeld ?_
              rotate_left 1
              · (intro w' hSw; (try dsimp only at hSw); go_simp) <;> with_reducible rfl
              simp only [Act.put]
              refine wpAnyG_take (i := 16) (v := ?_) rfl (by decide +kernel) (by kernel_rfl) (by decide) (by kernel_rfl) (by kernel_rfl) (fun _ _ _ h => h) (Or.inl ⟨by kernel_rfl, ?_⟩) hHeld ?_
              rotate_left 1
              · (intro w' hSw; (try dsimp only at hSw); go_simp) <;> with_reducible rfl
              simp only [Act.put]
              refine wpAnyG_take (i := 17) (v := undef) rfl (by decide +kernel) (by kernel_rfl) (by decide) (by kernel_rfl) (by kernel_rfl) (fun _ _ _ h => h) (Or.inr ⟨by kernel_rfl, rfl⟩) hHeld ?_
              simp only [Act.put]
              refine wpAnyG_take (i := 18) (v := undef) rfl (by decide +kernel) (by kernel_rfl) (by decide) (by kernel_rfl) (by kernel_rfl) (fun _ _ _ h => h) (Or.inr ⟨by kernel_rfl, rfl⟩) hHeld ?_
              simp only [Act.put]
              refine wpAnyG_take (i := 19) (v := undef) rfl (by decide +kernel) (by kernel_rfl) (by decide) (by kernel_rfl) (by kernel_rfl) (fun _ _ _ h => h) (Or.inr ⟨by kernel_rfl, rfl⟩) hHeld ?_
              simp only [Act.put]
              refine wpAnyG_take (i := 20) (v := undef) rfl (by decide +kernel) (by kernel_rfl) (by decide) (by kernel_rfl) (by kernel_rfl) (fun _ _ _ h => h) (Or.inr ⟨by kernel_rfl, rfl⟩) hHeld ?_
              simp only [Act.put]
              refine wpAnyG_take (i := 21) (v := undef) rfl (by decide +kernel) (by kernel_rfl) (by decide) (by kernel_rfl) (by kernel_rfl) (fun _ _ _ h => h) (Or.inr ⟨by kernel_rfl, rfl⟩) hHeld ?_
              simp only [Act.put]
              refine wpAnyG_take (i := 22) (v := undef) rfl (by decide +kernel) (by kernel_rfl) (by decide) (by kernel_rfl) (by kernel_rfl) (fun _ _ _ h => h) (Or.inr ⟨by kernel_rfl, rfl⟩) hHeld ?_
              simp only [Act.put]
              refine wpAnyG_take (i := 23) (v := undef) rfl (by decide +kernel) (by kernel_rfl) (by decide) (by kernel_rfl) (by kernel_rfl) (fun _ _ _ h => h) (Or.inr ⟨by kernel_rfl, rfl⟩) hHeld ?_
              simp only [Act.put]
              refine wpAnyG_take (i := 24) (v := undef) rfl (by decide +kernel) (by kernel_rfl) (by decide) (by kernel_rfl) (by kernel_rfl) (fun _ _ _ h => h) (Or.inr ⟨by kernel_rfl, rfl⟩) hHeld ?_
              simp only [Act.put]
              refine wpAnyG_take (i := 25) (v := undef) rfl (by decide +kernel) (by kernel_rfl) (by decide) (by kernel_rfl) (by kernel_rfl) (fun _ _ _ h => h) (Or.inr ⟨by kernel_rfl, rfl⟩) hHeld ?_
              simp only [Act.put]
              refine wpAnyG_one (i := 26) rfl (by kernel_rfl) rfl (fun K hK => ?_)
              go_simp
              refine hK.out _ _ (fun h => absurd rfl h) (fun _ => ?_)
              clear hK K
              refine wpAnyG_done (by kernel_rfl) ?_ _
              have HY2 := Lib.hid (Hs.out.1.drew')
              clear k0 k1 k2 k3 k4 k5 k6
              go_wp2
              go_roundg (kk - (s + 1))
              case measure => omega
              case rel => exact ⟨s + 1, by omega, rfl, by go_num, HY2.out, fun hst => (HNS.out hst).elim⟩
          · have c1 : (e0 == e2) = false := beq_eq_false_iff_ne.2 h1
            have HNS := Lib.hid (show ¬ StubE (gr E x) from fun h => h1 (HST.out.1 h).1)
            clear h1
            go_upto_region 11 with fail
            refine wp_region_gate (n := 26) (S := fun w' => w'.cell? ⟨fb, fo, none⟩ = some (.int .i64 e0) ∧ w'.cell? ⟨fb, fo + 1, none⟩ = some (.int .i64 e1) ∧ w'.cell? ⟨fb, fo + 2, none⟩ = some (.int .i64 e2) ∧ w'.cell? ⟨fb, fo + 3, none⟩ = some (.int .i64 e3)) (by kernel_rfl) ⟨(Ext.rfl' wr).drew'.cell' k0, (Ext.rfl' wr).drew'.cell' k1, (Ext.rfl' wr).drew'.cell' k2, (Ext.rfl' wr).drew'.cell' k3⟩ (fun hHeld => ?_)
            refine wpAnyG_take (i := 0) (v := ?_) rfl (by decide +kernel) (by kernel_rfl) (by decide) (by kernel_rfl) (by kernel_rfl) (fun _ _ _ h => h) (Or.inl ⟨by kernel_rfl, ?_⟩) hHeld ?_
            rotate_left 1
            · (intro w' hSw; (try dsimp only at hSw); go_simp) <;> with_reducible rfl
            simp only [Act.put]
            refine wpAnyG_take (i := 1) (v := ?_) rfl (by decide +kernel) (by kernel_rfl) (by decide) (by kernel_rfl) (by kernel_rfl) (fun _ _ _ h => h) (Or.inl ⟨by kernel_rfl, ?_⟩) hHeld ?_
            rotate_left 1
            · (intro w' hSw; (try dsimp only at hSw); go_simp) <;> with_reducible rfl
            simp only [Act.put]
            refine wpAnyG_take (i := 2) (v := ?_) rfl (by decide +kernel) (by kernel_rfl) (by decide) (by kernel_rfl) (by kernel_rfl) (fun _ _ _ h => h) (Or.inl ⟨by kernel_rfl, ?_⟩) hHeld ?_
            rotate_left 1
            · (intro w' hSw; (try dsimp only at hSw); go_simp) <;> with_reducible rfl
            simp only [Act.put]
            refine wpAnyG_take (i := 3) (v := ?_) rfl (by decide +kernel) (by kernel_rfl) (by decide) (by kernel_rfl) (by kernel_rfl) (fun _ _ _ h => h) (Or.inl ⟨by kernel_rfl, ?_⟩) hHeld ?_
            rotate_left 1
            · (intro w' hSw; (try dsimp only at hSw); go_simp) <;> with_reducible rfl
            simp only [Act.put]
            refine wpAnyG_take (i := 4) (v := ?_) rfl (by decide +kernel) (by kernel_rfl) (by decide) (by kernel_rfl) (by kernel_rfl) (fun _ _ _ h => h) (Or.inl ⟨by kernel_rfl, ?_⟩) hHeld ?_
            rotate_left 1
            · (intro w' hSw; (try dsimp only at hSw); go_simp) <;> with_reducible rfl
            simp only [Act.put]
            refine wpAnyG_take (i := 5) (v := ?_) rfl (by decide +kernel) (by kernel_rfl) (by decide) (by kernel_rfl) (by kernel_rfl) (fun _ _ _ h => h) (Or.inl ⟨by kernel_rfl, ?_⟩) hHeld ?_
            rotate_left 1
            · (intro w' hSw; (try dsimp only at hSw); go_simp) <;> with_reducible rfl
            simp only [Act.put]
            refine wpAnyG_take (i := 6) (v := ?_) rfl (by decide +kernel) (by kernel_rfl) (by decide) (by kernel_rfl) (by kernel_rfl) (fun _ _ _ h => h) (Or.inl ⟨by kernel_rfl, ?_⟩) hHeld ?_
            rotate_left 1
            · (intro w' hSw; (try dsimp only at hSw); go_simp) <;> with_reducible rfl
            simp only [Act.put]
            refine wpAnyG_take (i := 7) (v := ?_) rfl (by decide +kernel) (by kernel_rfl) (by decide) (by kernel_rfl) (by kernel_rfl) (fun _ _ _ h => h) (Or.inl ⟨by kernel_rfl, ?_⟩) hHeld ?_
            rotate_left 1
            · (intro w' hSw; (try dsimp only at hSw); go_simp) <;> with_reducible rfl
            simp only [Act.put]
            refine wpAnyG_take (i := 8) (v := undef) rfl (by decide +kernel) (by kernel_rfl) (by decide) (by kernel_rfl) (by kernel_rfl) (fun _ _ _ h => h) (Or.inr ⟨by kernel_rfl, rfl⟩) hHeld ?_
            simp only [Act.put]
            refine wpAnyG_take (i := 9) (v := undef) rfl (by decide +kernel) (by kernel_rfl) (by decide) (by kernel_rfl) (by kernel_rfl) (fun _ _ _ h => h) (Or.inr ⟨by kernel_rfl, rfl⟩) hHeld ?_
            simp only [Act.put]
            refine wpAnyG_take (i := 10) (v := undef) rfl (by decide +kernel) (by kernel_rfl) (by decide) (by kernel_rfl) (by kernel_rfl) (fun _ _ _ h => h) (Or.inr ⟨by kernel_rfl, rfl⟩) hHeld ?_
            simp only [Act.put]
            refine wpAnyG_take (i := 11) (v := undef) rfl (by decide +kernel) (by kernel_rfl) (by decide) (by kernel_rfl) (by kernel_rfl) (fun _ _ _ h => h) (Or.inr ⟨by kernel_rfl, rfl⟩) hHeld ?_
            simp only [Act.put]
            refine wpAnyG_take (i := 12) (v := undef) rfl (by decide +kernel) (by kernel_rfl) (by decide) (by kernel_rfl) (by kernel_rfl) (fun _ _ _ h => h) (Or.inr ⟨by kernel_rfl, rfl⟩) hHeld ?_
            simp only [Act.put]
            refine wpAnyG_take (i := 13) (v := undef) rfl (by decide +kernel) (by kernel_rfl) (by decide) (by kernel_rfl) (by kernel_rfl) (fun _ _ _ h => h) (Or.inr ⟨by kernel_rfl, rfl⟩) hHeld ?_
            simp only [Act.put]
            refine wpAnyG_take (i := 14) (v := undef) rfl (by decide +kernel) (by kernel_rfl) (by decide) (by kernel_rfl) (by kernel_rfl) (fun _ _ _ h => h) (Or.inr ⟨by kernel_rfl, rfl⟩) hHeld ?_
            simp only [Act.put]
            refine wpAnyG_take (i := 15) (v := ?_) rfl (by decide +kernel) (by kernel_rfl) (by decide) (by kernel_rfl) (by kernel_rfl) (fun _ _ _ h => h) (Or.inl ⟨by kernel_rfl, ?_⟩) hHeld ?_
            rotate_left 1
            · (intro w' hSw; (try dsimp only at hSw); go_simp) <;> with_reducible rfl
            simp only [Act.put]
            refine wpAnyG_take (i := 16) (v := ?_) rfl (by decide +kernel) (by kernel_rfl) (by decide) (by kernel_rfl) (by kernel_rfl) (fun _ _ _ h => h) (Or.inl ⟨by kernel_rfl, ?_⟩) hHeld ?_
            rotate_left 1
            · (intro w' hSw; (try dsimp only at hSw); go_simp) <;> with_reducible rfl
            simp only [Act.put]
            refine wpAnyG_take (i := 17) (v := undef) rfl (by decide +kernel) (by kernel_rfl) (by decide) (by kernel_rfl) (by kernel_rfl) (fun _ _ _ h => h) (Or.inr ⟨by kernel_rfl, rfl⟩) hHeld ?_
            simp only [Act.put]
            refine wpAnyG_take (i := 18) (v := undef) rfl (by decide +kernel) (by kernel_rfl) (by decide) (by kernel_rfl) (by kernel_rfl) (fun _ _ _ h => h) (Or.inr ⟨by kernel_rfl, rfl⟩) hHeld ?_
            simp only [Act.put]
            refine wpAnyG_take (i := 19) (v := undef) rfl (by decide +kernel) (by kernel_rfl) (by decide) (by kernel_rfl) (by kernel_rfl) (fun _ _ _ h => h) (Or.inr ⟨by kernel_rfl, rfl⟩) hHeld ?_
            simp only [Act.put]
            refine wpAnyG_take (i := 20) (v := undef) rfl (by decide +kernel) (by kernel_rfl) (by decide) (by kernel_rfl) (by kernel_rfl) (fun _ _ _ h => h) (Or.inr ⟨by kernel_rfl, rfl⟩) hHeld ?_
            simp only [Act.put]
            refine wpAnyG_take (i := 21) (v := undef) rfl (by decide +kernel) (by kernel_rfl) (by decide) (by kernel_rfl) (by kernel_rfl) (fun _ _ _ h => h) (Or.inr ⟨by kernel_rfl, rfl⟩) hHeld ?_
            simp only [Act.put]
            refine wpAnyG_take (i := 22) (v := undef) rfl (by decide +kernel) (by kernel_rfl) (by decide) (by kernel_rfl) (by kernel_rfl) (fun _ _ _ h => h) (Or.inr ⟨by kernel_rfl, rfl⟩) hHeld ?_
            simp only [Act.put]
            refine wpAnyG_take (i := 23) (v := undef) rfl (by decide +kernel) (by kernel_rfl) (by decide) (by kernel_rfl) (by kernel_rfl) (fun _ _ _ h => h) (Or.inr ⟨by kernel_rfl, rfl⟩) hHeld ?_
            simp only [Act.put]
            refine wpAnyG_take (i := 24) (v := undef) rfl (by decide +kernel) (by kernel_rfl) (by decide) (by kernel_rfl) (by kernel_rfl) (fun _ _ _ h => h) (Or.inr ⟨by kernel_rfl, rfl⟩) hHeld ?_
            simp only [Act.put]
            refine wpAnyG_take (i := 25) (v := undef) rfl (by decide +kernel) (by kernel_rfl) (by decide) (by kernel_rfl) (by kernel_rfl) (fun _ _ _ h => h) (Or.inr ⟨by kernel_rfl, rfl⟩) hHeld ?_
            simp only [Act.put]
            refine wpAnyG_one (i := 26) rfl (by kernel_rfl) rfl (fun K hK => ?_)
            go_simp
            refine hK.out _ _ (fun h => absurd rfl h) (fun _ => ?_)
            clear hK K
            refine wpAnyG_done (by kernel_rfl) ?_ _
            have HY2 := Lib.hid (Hs.out.1.drew')
            clear k0 k1 k2 k3 k4 k5 k6
            go_wp2
            go_roundg (kk - (s + 1))
            case measure => omega
            case rel => exact ⟨s + 1, by omega, rfl, by go_num, HY2.out, fun hst => (HNS.out hst).elim⟩
        · obtain rfl : s = kk := by omega
          go_wp2
          go_roundg (E.length - (x + 1))
          case measure => omega
          case rel =>
            refine ⟨x + 1, by omega, rfl, by go_num, Hr.out.1.trans' Hs.out.1, fun u hu => ?_⟩
            by_cases e : u = x
            · subst e; exact ⟨HQ.out, fun hst u' hu' => Hs.out.2 hst u' (by have := HQ.out.1; omega)⟩
            · exact Hr.out.2 u (by omega)
    · obtain rfl : x = E.length := by omega
      have HSO := Lib.hid (show SheetsOK (edgesTo N N.ends.length) P kk by rw [← HE.out]; exact ⟨HLEN.out, Hr.out.2⟩)
      have HLO := Lib.hid (show LiftOK N (kk : Int) P from ⟨⟨⟨GN.out, HK.out⟩, by rw [← Int.natCast_mul, ← HT.out]; have := HB.out; omega⟩, by rw [Int.toNat_natCast]; exact HSO.out⟩)
      have XR := Lib.hid (X3.out.trans' Hr.out.1)
      obtain ⟨p0, p1, p2, -, -, -⟩ := row3_facts (row_ext RN.out XR.out)
      go_wp2_with fail
      (with_reducible refine (coLift_any kk hk1 hk40 (HN.out.ext (EW.out.trans' XR.out)) GN.out (HP.out.ext (EW.out.trans' XR.out)) HSO.out (by rw [← HT.out]; exact HB.out)).mono ?_)
      rintro e w5 ⟨v5, bs5, rfl, hx, ho, hf⟩
      obtain ⟨u0, d0, u1, d1, u2, d2, rfl⟩ := ho.agg
      have X5 := Lib.hid (EW.out.trans' (XR.out.trans' hx))
      obtain ⟨q0, q1, q2, t0, t1, t2⟩ := row3_facts (row_ext RQ.out (XR.out.trans' hx))
      obtain ⟨n1, n2, n3⟩ := close_net X5.out ho hf.1 (fun b hb => by have := hf.2 b hb; have := XR.out.size; have := ZW.out; omega)
      have N1 := Lib.hid n1
      have N2 := Lib.hid n2
      have N3 := Lib.hid n3
      have R5 := Lib.hid (row3_set2 (row3_set1 (row3_set0 (row_ext RQ.out (XR.out.trans' hx)) (.slice u0 (liftNet N kk P).ends.length d0)) (.slice u1 (liftNet N kk P).ids.length d1)) (.slice u2 (liftNet N kk P).inputs.length d2))
      obtain ⟨s0, s1, s2, -, -, -⟩ := row3_facts R5.out
      clear hx ho hf p0 p1 p2 n1 n2 n3
      go_wp2
      refine bodyPost_ret (v := .tuple #[.agg #[.slice u0 (liftNet N kk P).ends.length d0, .slice u1 (liftNet N kk P).ids.length d1, .slice u2 (liftNet N kk P).inputs.length d2], .bool true]) (by simp [results, Try.results62, go_sem, s0, s1, s2]) rfl ⟨_, bs5, ret_net (dec_true HLO.out).symm, N1.out, by rw [liftAns_t HLO.out, Int.toNat_natCast]; exact N2.out, N3.out⟩
theorem liftOfS_any {w : World} {v vp : Value} {N : Net} {P : List (List Int)} (k : Int) (h : NetAt w v N) (hp : IntSS w vp P) (_ : IISmall P) :
    Calls Try.prog 63 #[v, .int .i64 k, vp] w fun e w' => ∃ v' bs, e = .returned (.tuple #[v', .bool (dec (LiftOK N k P))]) ∧ Ext w w' ∧ OwnNet w' v' (liftAns N k P) bs ∧ Fresh w bs := liftOf_any k h hp
end Go.Proofs.Ytdcgpodjoalokaa
