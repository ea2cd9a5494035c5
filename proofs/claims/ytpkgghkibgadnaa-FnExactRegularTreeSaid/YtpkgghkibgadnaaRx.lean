/- The contract of the model's RegularTree. -/
import Derived.Test.YtpkgghkibgadnaaRv
namespace Go.Proofs.Ytpkgghkibgadnaa
open Go.RowKit

theorem src_nilEnd (w : World) : SrcAt (w.alloc (.cells #[.slice none 0 0] 59)) (some ⟨w.heap.size, 0, none⟩) 1 1 [.slice none 0 0] := src_one w _ _ rfl
theorem src_int (w : World) (x : Int) : SrcAt (w.alloc (.cells #[.int .i64 x] 3)) (some ⟨w.heap.size, 0, none⟩) 1 1 [.int .i64 x] := src_one w _ _ rfl

set_option maxHeartbeats 12800000 in
set_option maxRecDepth 100000 in
theorem specTree_core {w : World} (d : Nat) (dep : Int) (hdep : 0 ≤ dep) (h6 : 0 < dep → d ≤ 6) :
    Calls Try.prog 17 #[.int .i64 d, .int .i64 dep] w fun e w' => ∃ v' bs, e = .returned (.tuple #[v', .bool (treeB (treeAt d dep 0))]) ∧ Ext w w' ∧ OwnNet w' v' (treeOr d (treeAt d dep 0)) bs ∧ Fresh w bs := by
  have HX := Lib.hid ((Ext.rfl' w).alloc' (.cells #[.slice none 0 0, .slice none 0 0, .slice none 0 0] 29))
  have HR := Lib.hid (And.intro (row3_made w (.slice none 0 0) (.slice none 0 0) (.slice none 0 0) 29) (show (w.alloc (.cells #[.slice none 0 0, .slice none 0 0, .slice none 0 0] 29)).heap.size = w.heap.size + 1 by simp))
  obtain ⟨i2, hi, hz0, hz1, hz2⟩ := info_parts Try.info70
  have I2 := Lib.hid (And.intro hi (And.intro hz0 (And.intro hz1 hz2)))
  obtain ⟨i3, hj, hy0, hy1, hy2⟩ := info_parts Try.info3
  have I3 := Lib.hid (And.intro hj (And.intro hy0 (And.intro hy1 hy2)))
  have H6 := Lib.hid h6
  clear hi hz0 hz1 hz2 hj hy0 hy1 hy2
  obtain ⟨res, hres⟩ : ∃ res, res = treeAt d dep 0 := ⟨_, rfl⟩
  rw [← hres]
  have HRES := Lib.hid hres
  clear hres
  have hd0 : ¬ (d : Int) < 0 := by omega
  have hp0 : ¬ dep < 0 := by omega
  go_enter Try.func17, Try.ntmps17
  by_cases hz : 0 < dep
  · have hd6 : ¬ 6 < (d : Int) := by have := h6 hz; omega
    go_wp2_with fail
    generalize w.alloc (.cells #[.slice none 0 0, .slice none 0 0, .slice none 0 0] 29) = W0 at *
    have NE := Lib.hid (show Calls Try.prog 36 #[.int .i64 1] W0 fun e w' => ∃ v' bs, e = .returned v' ∧ Ext W0 w' ∧ OwnNet w' v' (blank 1 0) bs ∧ Fresh W0 bs from neEmpty_any (w := W0) 1 (by omega))
    (with_reducible refine NE.out.mono ?_)
    rintro e w1 ⟨vn, bs, rfl, hx, ho, hf⟩
    obtain ⟨B0, D0, B1, D1, B2, D2, rfl⟩ := ho.agg
    have H1 := Lib.hid (HNet.made hx ho hf)
    have H1L := Lib.hid ho.lt
    have HS1 := Lib.hid hx.size
    clear hx ho hf
    have S0 := Lib.hid (show TreeSt W0 ((w1.alloc (.cells #[.slice B0 (blank 1 0).ends.length D0, .slice B1 (blank 1 0).ids.length D1, .slice B2 (blank 1 0).inputs.length D2] 29)).alloc (.cells #[.int .i64 0] 3)) (treeNet d (tcnt d 0)) w1.heap.size (.slice B0 (blank 1 0).ends.length D0) (.slice B1 (blank 1 0).ids.length D1) (.slice B2 (blank 1 0).inputs.length D2) (.slice none 0 0) (.slice (some ⟨w1.heap.size + 1, 0, none⟩) 1 1) [] (run 0 1) by
      obtain ⟨cs, hcs, -, hge⟩ := H1.out.net
      have hlt : ∀ b, (Value.slice B1 (blank 1 0).ids.length D1).ownBlock = some b ∨ (Value.slice B2 (blank 1 0).inputs.length D2).ownBlock = some b → b < w1.heap.size + 1 := fun b hb => by
        obtain ⟨z0, z1, z2, b0, b1, b2, e, k0, k1, k2, rfl⟩ := hcs
        simp only [Value.agg.injEq, Array.mk.injEq, List.cons.injEq, and_true] at e
        obtain ⟨rfl, rfl, rfl⟩ := e
        rcases hb with hb | hb
        · have := k1.1.lt b (k1.block_in b hb); simpa using this
        · have := k2.1.lt b (k2.block_in b hb); simpa using this
      have hl := World.ownsRow_lit (base := W0.heap.size) (e := 3) (size := 1) (w1.alloc (.cells #[.slice B0 (blank 1 0).ends.length D0, .slice B1 (blank 1 0).ids.length D1, .slice B2 (blank 1 0).inputs.length D2] 29)) #[.int .i64 0] 1 (by have := HS1.out; simp; omega) (by decide) (by simp)
      refine ⟨H1.out.mono ((Ext.rfl' _).alloc' _), GrowJ.nil _ _, ?_, fun b hb => by simp [Value.ownBlock] at hb, fun b hb => ?_, fun b hb => by simp [Value.ownBlock] at hb⟩
      · simpa [GrowJ, run, intCells] using hl
      · simp [Value.ownBlock] at hb
        subst hb
        exact ⟨fun e => by have := hlt _ (.inl e); omega, fun e => by have := hlt _ (.inr e); omega⟩)
    clear H1 H1L HS1 NE
    go_wp2_with fail
    go_loopg [7, 8] 41 (fun g lv kv wr => ∃ a b k : Nat, a ≤ b ∧ b ≤ 40 ∧ Hid (b = tcnt d a + 1 ∧ treeAt d dep a = res ∧ ∀ u, a ≤ u → u < b → dst d u = k) ∧ g = 41 - a ∧ kv = .int .i64 k ∧ Hid (∃ v0 v1 v2, TreeSt W0 wr (treeNet d (tcnt d a)) w1.heap.size v0 v1 v2 (.slice none 0 0) lv [] (run a b)))
    case atStart =>
      refine ⟨0, 1, 0, by omega, by omega, ⟨rfl, HRES.out.symm, fun u h1 h2 => ?_⟩, rfl, rfl, _, _, _, S0.out⟩
      obtain rfl : u = 0 := by omega
      rfl
    case round =>
      obtain ⟨a, b, k, hab, hb40, HB, rfl, rfl, Hr⟩ := hrel
      obtain ⟨v0, v1, v2, st⟩ := Hr.out
      obtain ⟨lA, lC, rfl⟩ : ∃ lA lC, u7 = .slice lA (b - a) lC := by
        obtain ⟨x, y, e⟩ := st.gl.slice
        rw [run_len] at e
        exact ⟨x, y, e⟩
      have ST1 := Lib.hid st
      clear st Hr
      by_cases hkd : (k : Int) < dep
      · by_cases hlt : a < b
        · have HD6 := Lib.hid (H6.out (by omega))
          obtain ⟨lg, lcap, e, hl1, hl2, -, -, -⟩ := ST1.out.gl.form (by rw [run_len]; omega)
          rw [run_len] at e hl1
          obtain ⟨rfl, rfl⟩ : lA = some ⟨lg, 0, none⟩ ∧ lC = lcap := by simpa using e
          unfold maxLen at hl2
          have hk40 : k ≤ 40 := by
            have h1 := HB.out.2.2 a (Nat.le_refl _) hlt
            have h2 := (treeD_bd d a a).2
            unfold dst at h1
            omega
          have hlen : 0 < b - a := by omega
          clear e
          go_wp2_with fail
          have hw0 : ∃ wo : World, wo = wr := ⟨_, rfl⟩
          obtain ⟨wo, hwo⟩ := hw0
          rw [← hwo] at ST1 ⊢
          clear hwo
          go_loopg [9, 42] (b - a) (fun g nx i wr => ∃ t : Nat, t ≤ b - a ∧ g = b - a - t ∧ i = .int .i64 t ∧ Hid (tcnt d (a + t) < 40 ∧ treeAt d dep (a + t) = res ∧ ∀ u, b ≤ u → u < tcnt d (a + t) + 1 → dst d u = k + 1) ∧ Hid (∃ v0 v1 v2, TreeSt W0 wr (treeNet d (tcnt d (a + t))) w1.heap.size v0 v1 v2 nx (.slice (some ⟨lg, 0, none⟩) (b - a) lC) (run b (tcnt d (a + t) + 1)) (run a b)))
          case atStart =>
            refine ⟨0, Nat.zero_le _, rfl, rfl, ⟨by have := HB.out.1; show tcnt d a < 40; omega, HB.out.2.1, fun u h1 h2 => by have := HB.out.1; have h3 : u < tcnt d a + 1 := h2; omega⟩, v0, v1, v2, ?_⟩
            show TreeSt W0 _ (treeNet d (tcnt d a)) w1.heap.size v0 v1 v2 _ _ (run b (tcnt d a + 1)) _
            rw [← HB.out.1, run_nil]
            exact ST1.out
          case round =>
            obtain ⟨t, ht, rfl, rfl, HT, Hs⟩ := hrel
            obtain ⟨v0, v1, v2, st⟩ := Hs.out
            obtain ⟨g', cap', e', -, -, -, -, hcell⟩ := st.gl.form (by rw [run_len]; omega)
            obtain ⟨rfl, rfl⟩ : lg = g' ∧ lC = cap' := by simpa [run_len] using e'
            have ST0 := Lib.hid st
            clear st Hs e'
            by_cases htl : t < b - a
            · obtain ⟨vv, hvv⟩ : ∃ vv, vv = a + t := ⟨_, rfl⟩
              have q0 := hcell t (by rw [run_len]; exact htl)
              rw [run_gi htl, ← hvv] at q0
              rw [← hvv] at HT ST0
              have HVV := Lib.hid hvv
              obtain ⟨c, hc⟩ : ∃ c, c = tcnt d vv := ⟨_, rfl⟩
              obtain ⟨kk, hkk⟩ : ∃ kk, kk = tkid d vv := ⟨_, rfl⟩
              rw [← hc] at HT ST0
              have hc40 := HT.out.1
              have hvb : vv < b := by omega
              have hva : a ≤ vv := by omega
              have hcb : b ≤ c + 1 := by rw [HB.out.1, hc]; have := tcnt_mono d hva; omega
              have HDV := Lib.hid (show 1 ≤ d ∨ vv = 0 by
                by_cases e : vv = 0
                · exact .inr e
                · refine .inl ?_
                  rcases Nat.eq_zero_or_pos d with h | h
                  · subst h; have := HB.out.1; simp [tcnt] at this; first | omega | (split at this <;> omega)
                  · exact h)
              have HDK2 := Lib.hid (HB.out.2.2 vv hva hvb)
              have HDK := Lib.hid (show dst d vv < dep by rw [HDK2.out]; exact hkd)
              have HTA := Lib.hid HT.out.2.1
              have HC := Lib.hid hc
              have HKK := Lib.hid hkk
              have hkk6 : kk ≤ 6 := by rw [hkk]; unfold tkid; have := HD6.out; split <;> omega
              clear hcell hc hkk hvv
              go_wp2_with fail
              clear q0
              go_loopg [9] kk (fun g nx wx => ∃ j : Nat, j ≤ kk ∧ g = kk - j ∧ Hid (c + j < 40 ∧ ∀ u, b ≤ u → u < c + j + 1 → dst d u = k + 1) ∧ Hid (∃ v0 v1 v2, TreeSt W0 wx (treeNet d (c + j)) w1.heap.size v0 v1 v2 nx (.slice (some ⟨lg, 0, none⟩) (b - a) lC) (run b (c + j + 1)) (run a b)))
              case atStart => exact ⟨0, Nat.zero_le _, rfl, ⟨hc40, HT.out.2.2⟩, v0, v1, v2, ST0.out⟩
              case round =>
                obtain ⟨j, hj, rfl, HJ, Hs⟩ := hrel
                obtain ⟨v0, v1, v2, st⟩ := Hs.out
                obtain ⟨M, hM⟩ : ∃ M, M = treeNet d (c + j) := ⟨_, rfl⟩
                have hL : M.ends.length = c + j + 1 := by rw [hM, treeNet_len]
                have hc40 := HJ.out.1
                have hT := degT_test (d := d) (v := vv) (j := j) HDV.out (by rw [← HC.out]; omega) (by rw [← HKK.out]; exact hj)
                rw [← HKK.out, ← HC.out] at hT
                have hT2 : (gr M.ends vv).length < d ↔ j < kk := by rw [hM]; exact hT
                have HGM := Lib.hid (show Good M by
                  rw [hM]
                  refine treeNet_good (fun h0 => ⟨HD6.out, ?_, fun e => ?_⟩) (by omega)
                  · rcases HDV.out with h | h
                    · exact h
                    · subst h
                      rcases Nat.eq_zero_or_pos d with e | e
                      · subst e; have := HC.out; have := HKK.out; simp [tcnt, tkid] at *; omega
                      · exact e
                  · have h1 := HC.out; have h2 := HKK.out
                    rw [e] at h1 h2
                    unfold tcnt at h1
                    unfold tkid at h2
                    by_cases e0 : vv = 0
                    · rw [if_pos e0] at h1 h2; omega
                    · rw [if_neg e0] at h1 h2; simp at h1 h2; omega)
                rw [← hM] at st
                have HM := Lib.hid hM
                have HL := Lib.hid hL
                obtain ⟨A0, C0, A1, C1, A2, C2, rfl, rfl, rfl⟩ := st.net.form
                have hvM : vv < M.ends.length := by omega
                have hML : M.ends.length ≤ 40 := by omega
                have hIL : M.inputs.length ≤ 40 := by have := HGM.out.2.2.2.1; have := HGM.out.1.2; omega
                have hXL : (run b (c + j + 1)).length ≤ 40 := by rw [run_len]; omega
                obtain ⟨eb, ec, ax, cx, e0, hrow, -, -, -, -, -⟩ := st.net.row hvM
                obtain ⟨rfl, rfl⟩ : A0 = some ⟨eb, 0, none⟩ ∧ C0 = ec := by simpa using e0
                obtain ⟨m0, m1, m2, -, -, -⟩ := row3_facts st.net.box
                have ST := Lib.hid st
                have HZ := Lib.hid st.net.ext.size
                clear st hM hT e0 Hs hL
                by_cases hjk : j < kk
                · have hdeg : (gr M.ends vv).length < d := hT2.2 hjk
                  clear hT2
                  by_cases h40 : M.ends.length = 40
                  · have hb40 : ((M.ends.length : Int) == 40) = true := by rw [h40]; rfl
                    have RN : Hid (res = none) := by
                      have e := treeAt_next (d := d) (v := vv) (dep := dep) (by omega) (by rw [← HC.out]; omega)
                      rw [if_pos HDK.out, if_pos (by rw [tcnt_succ, ← HC.out, ← HKK.out]; have := HL.out; omega), HTA.out] at e
                      exact e
                    have EX := Lib.hid (HX.out.trans' ST.out.net.ext)
                    obtain ⟨s0, s1, s2, t0, t1, t2⟩ := row3_facts (row_ext HR.out.1 ST.out.net.ext)
                    clear h40
                    go_wp2_with fail
                    refine bodyPost_ret (v := .tuple #[znet, .bool false]) (by simp [results, Try.results17, go_sem, s0, s1, s2, znet]) rfl ⟨_, [], by rw [RN.out]; rfl, store3_ext EX.out (Nat.le_refl _) _ _ _, by rw [RN.out]; exact own_zero _, Fresh.nil _⟩
                  · have hb40 : ((M.ends.length : Int) == 40) = false := by simp; omega
                    have H40 := Lib.hid h40
                    clear h40
                    obtain ⟨R, hro, hrb⟩ := ST.out.row
                    have HRO := Lib.hid hro
                    have HRB := Lib.hid hrb
                    clear hro hrb
                    go_upto_region 17 with (at_builtin; refine wpList_app rfl (.tmp 61) (.tmp 62) 27 rfl W0.heap.size 59 i2 (.slice none 0 0) 1 24 Try.underlying27 I2.out.1 I2.out.2.1 I2.out.2.2.1 I2.out.2.2.2 rfl (by decide) (.slice (some ⟨eb, 0, none⟩) M.ends.length C0) M.ends.length ((List.range M.ends.length).map R) rfl (owns_ext HRO.out ((Ext.rfl' _).alloc' _)) (some ⟨wr.heap.size, 0, none⟩) 1 1 [.slice none 0 0] rfl (src_nilEnd wr) (by unfold maxLen; omega) (by omega) (Nat.le_trans HZ.out ((Ext.rfl' wr).alloc' _).size) ?_; intro v' wA hg; obtain ⟨va, vc, rfl⟩ := owns_slice hg.1; have KA := Lib.hid (HRB.out _ wA _ ((Ext.rfl' wr).alloc' _) hg); obtain ⟨z0, z1, z2, y0, y1, y2⟩ := row3_facts KA.out.1; clear hg m0 m1 m2 hrow)
                    have S2 := Lib.hid KA.out.2
                    clear z0 z1 z2 y0 y1 y2 KA HRO HRB
                    generalize wA.setCell ⟨w1.heap.size, 0, none⟩ (.slice va (M.ends.length + 1) vc) = wB at *
                    obtain ⟨m0, m1, m2, -, -, -⟩ := row3_facts S2.out.net.box
                    have hZ2 := S2.out.net.ext.size
                    obtain ⟨hio, hib⟩ := S2.out.int
                    have HIO : Hid (wB.ownsRow W0.heap.size 3 1 (.slice A2 M.inputs.length C2) M.inputs.length (intCells M.inputs)) := hio
                    have HIB := Lib.hid hib
                    clear hio hib
                    go_upto_region 18 with (at_builtin; refine wpList_app2 rfl (.tmp 66) (.tmp 67) 23 rfl W0.heap.size 3 i3 (.int .i64 0) 1 8 Try.underlying23 I3.out.1 I3.out.2.1 I3.out.2.2.1 I3.out.2.2.2 rfl (by decide) (.slice A2 M.inputs.length C2) M.inputs.length (intCells M.inputs) rfl (owns_ext HIO.out ((Ext.rfl' _).alloc' _)) (some ⟨wB.heap.size, 0, none⟩) 1 1 [.int .i64 0] rfl (src_int wB 0) (by unfold maxLen; omega) (by omega) (Nat.le_trans hZ2 ((Ext.rfl' wB).alloc' _).size) ?_; intro v'' wC hg; obtain ⟨vb, vd, rfl⟩ := owns_slice hg.1.1; have KB := Lib.hid (HIB.out _ wC _ ((Ext.rfl' wB).alloc' _) hg); obtain ⟨z0, z1, z2, y0, y1, y2⟩ := row3_facts KB.out.1; clear hg m0 m1 m2 hZ2)
                    have S3 := Lib.hid KB.out.2
                    clear z0 z1 z2 y0 y1 y2 KB HIO HIB S2
                    generalize wC.setCell ⟨w1.heap.size, 2, none⟩ (.slice vb (M.inputs.length + 1) vd) = wD at *
                    obtain ⟨m0, m1, m2, -, -, -⟩ := row3_facts S3.out.net.box
                    obtain ⟨bN, hN, -, -⟩ := S3.out.net.net
                    have HN := Lib.hid hN.read
                    clear hN
                    have hl2 : (addIn (addRow M []) 0).ends.length = M.ends.length + 1 := addRow_len M []
                    have HJN := Lib.hid (neJoin_any (w := wD) vv M.ends.length (by rw [hl2]; omega) (by rw [hl2]; omega) HN.out (more_small HGM.out))
                    have HMN := Lib.hid (show joinNet (addIn (addRow M []) 0) vv M.ends.length = treeNet d (c + (j + 1)) by
                      rw [← Nat.add_assoc, treeNet_succ d (c + j) (by rcases HDV.out with h | h; exact h; subst h; have := hdeg; omega), ← HM.out, HL.out]
                      congr 1
                      rw [HC.out]
                      exact (tpar_at (by rw [← HKK.out]; exact hjk)).symm)
                    rw [HMN.out] at HJN
                    clear hl2
                    go_wp2_with fail
                    (with_reducible refine HJN.out.mono ?_)
                    rintro e wE ⟨vn, bs, rfl, hx, ho, hf⟩
                    obtain ⟨B0, D0, B1, D1, B2, D2, rfl⟩ := ho.agg
                    have S4 := Lib.hid (S3.out.over hx ho hf)
                    obtain ⟨z0, z1, z2, y0, y1, y2⟩ := row3_facts (row_ext S3.out.net.box hx)
                    clear hx ho hf m0 m1 m2 HJN HN S3
                    go_upto_region 19 with fail
                    clear z0 z1 z2 y0 y1 y2
                    generalize ((wE.setCell ⟨w1.heap.size, 0, none⟩ (.slice B0 (treeNet d (c + (j + 1))).ends.length D0)).setCell ⟨w1.heap.size, 1, none⟩ (.slice B1 (treeNet d (c + (j + 1))).ids.length D1)).setCell ⟨w1.heap.size, 2, none⟩ (.slice B2 (treeNet d (c + (j + 1))).inputs.length D2) = wF at *
                    have hZ4 := S4.out.net.ext.size
                    have HGX := Lib.hid S4.out.gx
                    go_wp2_with (at_builtin; refine wpList_app2 rfl (.tmp 74) (.tmp 76) 23 rfl W0.heap.size 3 i3 (.int .i64 0) 1 8 Try.underlying23 I3.out.1 I3.out.2.1 I3.out.2.2.1 I3.out.2.2.2 rfl (by decide) u9 (run b (c + j + 1)).length (intCells (run b (c + j + 1))) rfl (owns_ext HGX.out ((Ext.rfl' _).alloc' _)) (some ⟨wF.heap.size, 0, none⟩) 1 1 [.int .i64 (M.ends.length : Int)] rfl (src_int wF _) (by unfold maxLen; omega) (by omega) (Nat.le_trans hZ4 ((Ext.rfl' wF).alloc' _).size) ?_; intro vx wG hg; have S5 := Lib.hid (S4.out.next ((Ext.rfl' wF).alloc' _) hg); clear hg hZ4)
                    go_roundg (kk - (j + 1))
                    case measure => omega
                    case rel =>
                      have hc41 : c + (j + 1) < 40 := by have := HL.out; have := H40.out; omega
                      have S6 := S5.out
                      rw [show run b (c + j + 1) ++ [(M.ends.length : Int)] = run b (c + (j + 1) + 1) by rw [HL.out, run_snoc (by omega)]; rfl] at S6
                      refine ⟨j + 1, by omega, rfl, ⟨hc41, fun u hu1 hu2 => ?_⟩, _, _, _, S6⟩
                      by_cases e : u = c + j + 1
                      · subst e
                        have hpar : tpar d (c + j) = vv := by rw [HC.out]; exact tpar_at (by rw [← HKK.out]; exact hjk)
                        rw [dst_kid d (by rw [hpar]; omega), hpar, HDK2.out]
                      · exact HJ.out.2 u hu1 (by omega)
                · have hjk2 : j = kk := by omega
                  have hdeg : ¬ (gr M.ends vv).length < d := fun h => hjk (hT2.1 h)
                  clear hT2
                  have HNX := Lib.hid (show c + j = tcnt d (vv + 1) by rw [tcnt_succ, ← HC.out, ← HKK.out, hjk2])
                  have RN : Hid (treeAt d dep (vv + 1) = res) := by
                    have e := treeAt_next (d := d) (v := vv) (dep := dep) (by omega) (by rw [← HC.out]; omega)
                    rw [if_pos HDK.out, if_neg (by rw [← HNX.out]; omega), HTA.out] at e
                    exact e.symm
                  clear hjk2
                  go_wp2
                  go_roundg (b - a - (t + 1))
                  case measure => omega
                  case rel =>
                    have S7 := ST.out
                    have e : c + j = tcnt d (a + (t + 1)) := by rw [HNX.out, HVV.out]; rfl
                    rw [HM.out, e] at S7
                    refine ⟨t + 1, by omega, rfl, by go_num, ?_, _, _, _, S7⟩
                    have e2 : a + (t + 1) = vv + 1 := by rw [HVV.out]; rfl
                    rw [e2, ← HNX.out]
                    exact ⟨by omega, RN.out, HJ.out.2⟩
            · obtain rfl : t = b - a := by omega
              have eab : a + (b - a) = b := by omega
              rw [eab] at HT ST0
              clear hcell
              go_wp2
              go_roundg (41 - b)
              case measure => omega
              case rel =>
                refine ⟨b, tcnt d b + 1, k + 1, by have := tcnt_mono d (show a ≤ b by omega); have := HB.out.1; omega, by have := HT.out.1; omega, ⟨rfl, HT.out.2.1, fun u h1 h2 => by rw [HT.out.2.2 u h1 h2]; rfl⟩, rfl, by go_num, v0, v1, v2, ?_⟩
                exact ⟨ST0.out.net, GrowJ.nil _ _, ST0.out.gx, fun b' hb' => by simp [Value.ownBlock] at hb', ST0.out.ox, fun b' hb' => by simp [Value.ownBlock] at hb'⟩
        · obtain rfl : a = b := by omega
          have hlen : ¬ 0 < a - a := by omega
          have RN : Hid (res = some (tcnt d a)) := by rw [← HB.out.2.1]; exact treeAt_end (by omega) HB.out.1
          obtain ⟨A0, C0, A1, C1, A2, C2, rfl, rfl, rfl⟩ := ST1.out.net.form
          have ST := ST1
          clear ST1
          have EX := Lib.hid (HX.out.trans' ST.out.net.ext)
          have SB := Lib.hid (row_ext HR.out.1 ST.out.net.ext)
          obtain ⟨s0, s1, s2, t0, t1, t2⟩ := row3_facts SB.out
          obtain ⟨m0, m1, m2, -, -, -⟩ := row3_facts ST.out.net.box
          have OB := Lib.hid ST.out.net.net
          go_wp2_with fail
          obtain ⟨bs, hO, hN, hF⟩ := OB.out
          have hc := close_at EX.out (Nat.le_refl _) hO hN (fun b hb => by have := hF b hb; have := HR.out.2; omega)
          refine bodyPost_ret (v := .tuple #[.agg #[.slice A0 (treeNet d (tcnt d a)).ends.length C0, .slice A1 (treeNet d (tcnt d a)).ids.length C1, .slice A2 (treeNet d (tcnt d a)).inputs.length C2], .bool true]) (by simp [results, Try.results17, go_sem, s0, s1, s2]) rfl (by first | exact ⟨_, bs, by rw [RN.out]; rfl, hc.1, by rw [RN.out]; exact hc.2.1, hc.2.2⟩ | exact ⟨_, by rw [RN.out]; rfl, hc.1, bs, by rw [RN.out]; exact hc.2.1, hc.2.2⟩ | exact ⟨bs, by rw [RN.out]; rfl, hc.1, by rw [RN.out]; exact hc.2.1, hc.2.2⟩)
      · have RN : Hid (res = some (tcnt d a)) := by
          by_cases hlt : a < b
          · have e := treeAt_next (d := d) (v := a) (dep := dep) (by omega) (by have := HB.out.1; omega)
            rw [if_neg (by rw [HB.out.2.2 a (Nat.le_refl _) hlt]; exact hkd), HB.out.2.1] at e
            exact e
          · obtain rfl : a = b := by omega
            rw [← HB.out.2.1]; exact treeAt_end (by omega) HB.out.1
        obtain ⟨A0, C0, A1, C1, A2, C2, rfl, rfl, rfl⟩ := ST1.out.net.form
        have ST := ST1
        clear ST1
        have EX := Lib.hid (HX.out.trans' ST.out.net.ext)
        have SB := Lib.hid (row_ext HR.out.1 ST.out.net.ext)
        obtain ⟨s0, s1, s2, t0, t1, t2⟩ := row3_facts SB.out
        obtain ⟨m0, m1, m2, -, -, -⟩ := row3_facts ST.out.net.box
        have OB := Lib.hid ST.out.net.net
        go_wp2_with fail
        obtain ⟨bs, hO, hN, hF⟩ := OB.out
        have hc := close_at EX.out (Nat.le_refl _) hO hN (fun b hb => by have := hF b hb; have := HR.out.2; omega)
        refine bodyPost_ret (v := .tuple #[.agg #[.slice A0 (treeNet d (tcnt d a)).ends.length C0, .slice A1 (treeNet d (tcnt d a)).ids.length C1, .slice A2 (treeNet d (tcnt d a)).inputs.length C2], .bool true]) (by simp [results, Try.results17, go_sem, s0, s1, s2]) rfl (by first | exact ⟨_, bs, by rw [RN.out]; rfl, hc.1, by rw [RN.out]; exact hc.2.1, hc.2.2⟩ | exact ⟨_, by rw [RN.out]; rfl, hc.1, bs, by rw [RN.out]; exact hc.2.1, hc.2.2⟩ | exact ⟨bs, by rw [RN.out]; rfl, hc.1, by rw [RN.out]; exact hc.2.1, hc.2.2⟩)
  · obtain rfl : dep = 0 := by omega
    have RN : Hid (res = some (tcnt d 0)) := by
      have e := HRES.out
      rw [treeAt_step (by omega), if_neg (fun k => absurd k.2 (by show ¬ ((0 : Int) < 0); omega))] at e
      exact e
    clear hz
    go_wp2_with fail
    generalize w.alloc (.cells #[.slice none 0 0, .slice none 0 0, .slice none 0 0] 29) = W0 at *
    have NE := Lib.hid (show Calls Try.prog 36 #[.int .i64 1] W0 fun e w' => ∃ v' bs, e = .returned v' ∧ Ext W0 w' ∧ OwnNet w' v' (blank 1 0) bs ∧ Fresh W0 bs from neEmpty_any (w := W0) 1 (by omega))
    (with_reducible refine NE.out.mono ?_)
    rintro e w1 ⟨vn, bs, rfl, hx, ho, hf⟩
    obtain ⟨B0, D0, B1, D1, B2, D2, rfl⟩ := ho.agg
    have H1 := Lib.hid (HNet.made hx ho hf)
    have H1L := Lib.hid ho.lt
    have HS1 := Lib.hid hx.size
    clear hx ho hf
    have S0 := Lib.hid (show TreeSt W0 ((w1.alloc (.cells #[.slice B0 (blank 1 0).ends.length D0, .slice B1 (blank 1 0).ids.length D1, .slice B2 (blank 1 0).inputs.length D2] 29)).alloc (.cells #[.int .i64 0] 3)) (treeNet d (tcnt d 0)) w1.heap.size (.slice B0 (blank 1 0).ends.length D0) (.slice B1 (blank 1 0).ids.length D1) (.slice B2 (blank 1 0).inputs.length D2) (.slice none 0 0) (.slice (some ⟨w1.heap.size + 1, 0, none⟩) 1 1) [] (run 0 1) by
      obtain ⟨cs, hcs, -, hge⟩ := H1.out.net
      have hlt : ∀ b, (Value.slice B1 (blank 1 0).ids.length D1).ownBlock = some b ∨ (Value.slice B2 (blank 1 0).inputs.length D2).ownBlock = some b → b < w1.heap.size + 1 := fun b hb => by
        obtain ⟨z0, z1, z2, b0, b1, b2, e, k0, k1, k2, rfl⟩ := hcs
        simp only [Value.agg.injEq, Array.mk.injEq, List.cons.injEq, and_true] at e
        obtain ⟨rfl, rfl, rfl⟩ := e
        rcases hb with hb | hb
        · have := k1.1.lt b (k1.block_in b hb); simpa using this
        · have := k2.1.lt b (k2.block_in b hb); simpa using this
      have hl := World.ownsRow_lit (base := W0.heap.size) (e := 3) (size := 1) (w1.alloc (.cells #[.slice B0 (blank 1 0).ends.length D0, .slice B1 (blank 1 0).ids.length D1, .slice B2 (blank 1 0).inputs.length D2] 29)) #[.int .i64 0] 1 (by have := HS1.out; simp; omega) (by decide) (by simp)
      refine ⟨H1.out.mono ((Ext.rfl' _).alloc' _), GrowJ.nil _ _, ?_, fun b hb => by simp [Value.ownBlock] at hb, fun b hb => ?_, fun b hb => by simp [Value.ownBlock] at hb⟩
      · simpa [GrowJ, run, intCells] using hl
      · simp [Value.ownBlock] at hb
        subst hb
        exact ⟨fun e => by have := hlt _ (.inl e); omega, fun e => by have := hlt _ (.inr e); omega⟩)
    clear H1 H1L HS1 NE
    go_wp2_with fail
    go_loopg [7, 8] 0 (fun g lv kv wr => g = 0 ∧ kv = .int .i64 0 ∧ Hid (∃ v0 v1 v2, TreeSt W0 wr (treeNet d (tcnt d 0)) w1.heap.size v0 v1 v2 (.slice none 0 0) lv [] (run 0 1)))
    case atStart => exact ⟨rfl, rfl, _, _, _, S0.out⟩
    case round =>
      obtain ⟨rfl, rfl, Hr⟩ := hrel
      obtain ⟨v0, v1, v2, st⟩ := Hr.out
      have ST := Lib.hid st
      clear st Hr
      obtain ⟨A0, C0, A1, C1, A2, C2, rfl, rfl, rfl⟩ := ST.out.net.form
      have EX := Lib.hid (HX.out.trans' ST.out.net.ext)
      have SB := Lib.hid (row_ext HR.out.1 ST.out.net.ext)
      obtain ⟨s0, s1, s2, t0, t1, t2⟩ := row3_facts SB.out
      obtain ⟨m0, m1, m2, -, -, -⟩ := row3_facts ST.out.net.box
      have OB := Lib.hid ST.out.net.net
      go_wp2_with fail
      obtain ⟨bs, hO, hN, hF⟩ := OB.out
      have hc := close_at EX.out (Nat.le_refl _) hO hN (fun b hb => by have := hF b hb; have := HR.out.2; omega)
      refine bodyPost_ret (v := .tuple #[.agg #[.slice A0 (treeNet d (tcnt d 0)).ends.length C0, .slice A1 (treeNet d (tcnt d 0)).ids.length C1, .slice A2 (treeNet d (tcnt d 0)).inputs.length C2], .bool true]) (by simp [results, Try.results17, go_sem, s0, s1, s2]) rfl (by first | exact ⟨_, bs, by rw [RN.out]; rfl, hc.1, by rw [RN.out]; exact hc.2.1, hc.2.2⟩ | exact ⟨_, by rw [RN.out]; rfl, hc.1, bs, by rw [RN.out]; exact hc.2.1, hc.2.2⟩ | exact ⟨bs, by rw [RN.out]; rfl, hc.1, by rw [RN.out]; exact hc.2.1, hc.2.2⟩)

set_option maxHeartbeats 1600000 in
set_option maxRecDepth 100000 in
theorem specTree_any {w : World} (n dep : Int) :
    Calls Try.prog 17 #[.int .i64 n, .int .i64 dep] w fun e w' => ∃ v' bs, e = .returned (.tuple #[v', .bool (dec (TreeOK n dep))]) ∧ Ext w w' ∧ OwnNet w' v' (treeAns n dep) bs ∧ Fresh w bs := by
  by_cases h : 0 ≤ n ∧ 0 ≤ dep ∧ (0 < dep → n ≤ 6)
  · obtain ⟨h0, h1, h6⟩ := h
    obtain ⟨d, rfl⟩ := Int.eq_ofNat_of_zero_le h0
    obtain ⟨e1, e2⟩ := tree_ans (d := d) h1 h6
    rw [e1, e2]
    exact specTree_core d dep h1 (fun k => by have := h6 k; omega)
  · have D := Lib.hid (dec_false (show ¬ TreeOK n dep from fun k => h ⟨k.1, k.2.1, k.2.2.1⟩))
    have A := Lib.hid (treeAns_f (show ¬ TreeOK n dep from fun k => h ⟨k.1, k.2.1, k.2.2.1⟩))
    have HX := Lib.hid ((Ext.rfl' w).alloc' (.cells #[.slice none 0 0, .slice none 0 0, .slice none 0 0] 29))
    by_cases h0 : n < 0
    · clear h
      go_enter Try.func17, Try.ntmps17
      go_wp2_with fail
      refine bodyPost_ret (v := .tuple #[znet, .bool false]) (by simp [results, Try.results17, go_sem, znet]) rfl (by first | exact ⟨_, [], ret_net D.out.symm, HX.out, by rw [A.out]; exact own_zero _, Fresh.nil _⟩ | exact ⟨_, ret_net D.out.symm, HX.out, [], by rw [A.out]; exact own_zero _, Fresh.nil _⟩)
    · by_cases h1 : dep < 0
      · clear h
        go_enter Try.func17, Try.ntmps17
        go_wp2_with fail
        refine bodyPost_ret (v := .tuple #[znet, .bool false]) (by simp [results, Try.results17, go_sem, znet]) rfl (by first | exact ⟨_, [], ret_net D.out.symm, HX.out, by rw [A.out]; exact own_zero _, Fresh.nil _⟩ | exact ⟨_, ret_net D.out.symm, HX.out, [], by rw [A.out]; exact own_zero _, Fresh.nil _⟩)
      · have h2 : 0 < dep := by omega
        have h3 : 6 < n := by omega
        clear h
        go_enter Try.func17, Try.ntmps17
        go_wp2_with fail
        refine bodyPost_ret (v := .tuple #[znet, .bool false]) (by simp [results, Try.results17, go_sem, znet]) rfl (by first | exact ⟨_, [], ret_net D.out.symm, HX.out, by rw [A.out]; exact own_zero _, Fresh.nil _⟩ | exact ⟨_, ret_net D.out.symm, HX.out, [], by rw [A.out]; exact own_zero _, Fresh.nil _⟩)
theorem treeAns_small (n dep : Int) : (treeAns n dep).small := by
  by_cases h : TreeOK n dep
  · rw [treeAns_t h]
    obtain ⟨h0, h1, h6, hs⟩ := h
    obtain ⟨k, hk⟩ := Option.isSome_iff_exists.1 hs
    rw [hk]
    exact tree_small (fun k => by have := h6 k; omega) hk
  · rw [treeAns_f h]; exact zero_small
end Go.Proofs.Ytpkgghkibgadnaa
