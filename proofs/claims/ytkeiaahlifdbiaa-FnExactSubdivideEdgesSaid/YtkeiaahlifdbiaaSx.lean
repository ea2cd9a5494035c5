/- The contract of the model's SubdivideEdges. -/
import Derived.Test.YtkeiaahlifdbiaaSf
namespace Go.Proofs.Ytkeiaahlifdbiaa
open Go.RowKit

theorem Typed.ext1 {w wx : World} {t b : Nat} (h : Typed w t [b]) (hx : Ext w wx) : Typed wx t [b] := fun y hy => by
  obtain ⟨cur, hc⟩ := h y hy
  exact ⟨cur, by rw [hx.block y (Array.getElem?_eq_some_iff.1 hc).1]; exact hc⟩
theorem Typed.same {w wx : World} {t b : Nat} (h : Typed w t [b]) (hx : wx.heap[b]? = w.heap[b]?) : Typed wx t [b] := fun y hy => by
  obtain rfl := List.mem_singleton.1 hy
  obtain ⟨cur, hc⟩ := h y (by simp)
  exact ⟨cur, by rw [hx]; exact hc⟩
theorem sub_edge (M : Net) {e : List Int} {u p x q : Nat} (he : e = [(u : Int), (p : Int), (x : Int), (q : Int)]) :
    setEnd (setEnd (addIn (addRow M [((u : Int), (p : Int)), ((x : Int), (q : Int))]) 0) u p ((M.ends.length : Int), 0)) x q ((M.ends.length : Int), 1) = subEdge M e := by
  subst he
  simp [subEdge, gi]

set_option maxHeartbeats 12800000 in
set_option maxRecDepth 100000 in
theorem specSubdivide_any {w : World} {v : Value} {N : Net} (h : NetAt w v N) :
    Calls Try.prog 27 #[v] w fun e w' => ∃ v' bs, e = .returned (.tuple #[v', .bool (dec (SubOK N))]) ∧ Ext w w' ∧ OwnNet w' v' (subAns N) bs ∧ Fresh w bs := by
  have HN := Lib.hid h
  obtain ⟨a0, c0, a1, c1, a2, c2, rfl⟩ := h.form
  obtain ⟨W0, hW0⟩ : ∃ W0, W0 = (w.alloc (.cells #[.slice a0 N.ends.length c0, .slice a1 N.ids.length c1, .slice a2 N.inputs.length c2] 29)).alloc (.cells #[.slice none 0 0, .slice none 0 0, .slice none 0 0] 29) := ⟨_, rfl⟩
  have EW := Lib.hid (show Ext w W0 by rw [hW0]; exact ((Ext.rfl' w).alloc' _).alloc' _)
  have RN := Lib.hid (show W0.rowIs w.heap.size 29 3 (tri (.slice a0 N.ends.length c0) (.slice a1 N.ids.length c1) (.slice a2 N.inputs.length c2)) by rw [hW0]; exact row_ext (row3_made w _ _ _ _) ((Ext.rfl' _).alloc' _))
  have RQ := Lib.hid (show W0.rowIs (w.heap.size + 1) 29 3 (tri (.slice none 0 0) (.slice none 0 0) (.slice none 0 0)) by rw [hW0]; simpa using row3_made (w.alloc (.cells #[.slice a0 N.ends.length c0, .slice a1 N.ids.length c1, .slice a2 N.inputs.length c2] 29)) (.slice none 0 0) (.slice none 0 0) (.slice none 0 0) 29)
  have ZW := Lib.hid (show W0.heap.size = w.heap.size + 2 by rw [hW0]; simp)
  obtain ⟨p0, p1, p2, -, -, -⟩ := row3_facts RN.out
  obtain ⟨i0, hi, hz0, hz1, hz2⟩ := info_parts Try.infoSE
  have I0 := Lib.hid (And.intro hi (And.intro hz0 (And.intro hz1 hz2)))
  clear hi hz0 hz1 hz2
  obtain ⟨i3, hi, hz0, hz1, hz2⟩ := info_parts Try.info3
  have I3 := Lib.hid (And.intro hi (And.intro hz0 (And.intro hz1 hz2)))
  clear h hi hz0 hz1 hz2
  go_enter Try.func27, Try.ntmps27
  go_wp2_with fail
  rw [← hW0]
  clear hW0
  (with_reducible refine (neGood_any (HN.out.ext EW.out)).mono ?_)
  rintro e w1 ⟨rfl, hw⟩
  have X1 := Lib.hid (EW.out.trans' hw)
  have Y1 := Lib.hid hw
  obtain ⟨s0, s1, s2, -, -, -⟩ := row3_facts (row_ext RN.out hw)
  have RQ1 := Lib.hid (row_ext RQ.out hw)
  clear hw p0 p1 p2
  by_cases hg : Good N
  · have HG := Lib.hid hg
    rw [dec_true hg]
    have HA := Lib.hid (subAns_or hg)
    have HIN : N.inputs.length = N.ends.length := by have := hg.2.2.2.1; omega
    have HT := Lib.hid (subTo_at HIN (edgesTo N N.ends.length))
    have HED := Lib.hid (fun j hj => edge_at hg (j := j) hj)
    have h40 : N.ends.length ≤ 40 := hg.1.2
    have hL := (edgesTo_len N (good_rows hg) N.ends.length (Nat.le_refl _)).1
    obtain ⟨E, hE⟩ : ∃ E, E = edgesTo N N.ends.length := ⟨_, rfl⟩
    rw [← hE] at HA HT HED hL
    have hL2 : E.length ≤ 240 := by omega
    have HE := Lib.hid hE
    clear hg HIN hE hL
    go_wp2_with fail
    (with_reducible refine (neOwn_any (HN.out.ext X1.out) (good_small HG.out)).mono ?_)
    rintro e w2 ⟨v', bs, rfl, hw, ho, hf⟩
    obtain ⟨b0, d0, b1, d1, b2, d2, rfl⟩ := ho.agg
    have H0 := Lib.hid (HNet.made (Y1.out.trans' hw) ho ⟨hf.1, fun b hb => by have := hf.2 b hb; have := Y1.out.size; omega⟩)
    have hEq : (w2.alloc (.cells #[.slice b0 N.ends.length d0, .slice b1 N.ids.length d1, .slice b2 N.inputs.length d2] 29)).setCell ⟨w2.heap.size, 1, none⟩ (.slice none 0 0) = w2.alloc (.cells #[.slice b0 N.ends.length d0, .slice none 0 0, .slice b2 N.inputs.length d2] 29) := World.setCell_alloc_at _ _ _ _ _ rfl
    have H1 := Lib.hid (show HNet W0 (w2.alloc (.cells #[.slice b0 N.ends.length d0, .slice none 0 0, .slice b2 N.inputs.length d2] 29)) (noIds N) w2.heap.size _ _ _ by rw [← hEq]; exact H0.out.dropIds)
    clear hEq
    obtain ⟨m0, m1, m2, -, -, -⟩ := row3_facts H0.out.box
    obtain ⟨s0', s1', s2', -, -, -⟩ := row3_facts (row_ext RN.out H1.out.ext)
    clear hw ho hf s0 s1 s2
    go_wp2_with fail
    clear m0 m1 m2 s0' s1' s2' H0
    have HL1 := Lib.hid (show w2.heap.size < (w2.alloc (.cells #[.slice b0 N.ends.length d0, .slice none 0 0, .slice b2 N.inputs.length d2] 29)).heap.size by simp)
    generalize w2.alloc (.cells #[.slice b0 N.ends.length d0, .slice none 0 0, .slice b2 N.inputs.length d2] 29) = w3 at *
    (with_reducible refine (neEdges_any (HN.out.ext (EW.out.trans' H1.out.ext)) HG.out).mono ?_)
    rintro e w4 ⟨ve, es, rfl, hw, ho, hf⟩
    rw [← HE.out] at ho
    have H2 := Lib.hid (H1.out.mono hw)
    have hl4 := ho.lt
    have AP4 := Lib.hid (show Apart w4 w4 es (.slice b2 N.inputs.length d2) from ⟨fun _ _ => rfl, fun b hb hb' => by have := (H1.out.ints.1.lt b hb).2; have := hf.2 b hb'; omega⟩)
    have NP := Lib.hid (show ∀ b ∈ es, b ≠ w2.heap.size from fun b hb => by have := hf.2 b hb; have := HL1.out; omega)
    obtain ⟨ea, ec, rfl, hel, hem⟩ := ho.slice'
    unfold maxLen at hem
    have OE4 := Lib.hid ho
    have LT4 := Lib.hid hl4
    clear hw ho hf hl4
    go_wp2_with fail
    go_loopg [18] E.length (fun g i wr => ∃ j : Nat, j ≤ E.length ∧ g = E.length - j ∧ i = .int .i64 j ∧ Hid (∃ v0 v2, HNet W0 wr (subTo N E j) w2.heap.size v0 (.slice none 0 0) v2 ∧ Apart w4 wr es v2))
    case atStart => exact ⟨0, Nat.zero_le _, rfl, rfl, _, _, H2.out, AP4.out⟩
    case round =>
      obtain ⟨j, hj, rfl, rfl, Hr⟩ := hrel
      obtain ⟨v0, v2, hr, hap⟩ := Hr.out
      have HM := Lib.hid hr
      obtain ⟨A0, C0, _, _, A2, C2, rfl, hnil, rfl⟩ := hr.form
      have AP := Lib.hid hap
      clear Hr hr hnil hap
      by_cases hlt : j < E.length
      · obtain ⟨u, p, x, q, hq, hu, hp, hx, hqq⟩ := HED.out j hlt
        have OE := OE4.out.keep AP.out.keep
        have LTR := Lib.hid OE.lt
        have TYR := Lib.hid (ii_typed OE)
        obtain ⟨eb, ec', rb, rc, hve, hz, hrc, hrm, hrb, q1, q2, q3, q4⟩ := quad_cells OE hlt hq
        obtain ⟨rfl, rfl⟩ : ea = some ⟨eb, 0, none⟩ ∧ ec = ec' := by simp at hve; exact ⟨hve.1, hve.2⟩
        unfold maxLen at hrm
        have HQ := Lib.hid (show EdgeOf N (gr E j) u p x q from ⟨hq, hu, hp, hx, hqq⟩)
        have HRB := Lib.hid hrb
        have CE := Lib.hid (show ∀ wX : World, (∀ b ∈ es, wX.heap[b]? = w4.heap[b]?) → wX.cell? ⟨rb, 0, none⟩ = some (.int .i64 u) ∧ wX.cell? ⟨rb, 1, none⟩ = some (.int .i64 p) ∧ wX.cell? ⟨rb, 2, none⟩ = some (.int .i64 x) ∧ wX.cell? ⟨rb, 3, none⟩ = some (.int .i64 q) from fun wX hk => by
          have e : wX.heap[rb]? = wr.heap[rb]? := (hk rb hrb).trans (AP.out.keep rb hrb).symm
          exact ⟨(World.cell?_of_block (w := wr) e).trans q1, (World.cell?_of_block (w := wr) e).trans q2, (World.cell?_of_block (w := wr) e).trans q3, (World.cell?_of_block (w := wr) e).trans q4⟩)
        clear OE hve hrb hq hu hp hx hqq
        go_upto_region 8 with fail
        clear hz
        by_cases hs : u = x ∧ p = q
        · obtain ⟨rfl, rfl⟩ := hs
          have HS := Lib.hid (show subTo N E (j + 1) = subTo N E j by
            show subStep (subTo N E j) (gr E j) = _
            unfold subStep
            rw [if_pos (by rw [HQ.out.1]; exact ⟨rfl, rfl⟩)])
          go_quiet (fail)
          go_wp2
          go_roundg (E.length - (j + 1))
          case measure => omega
          case rel => exact ⟨j + 1, by omega, rfl, by go_num, _, _, by rw [HS.out]; exact HM.out.mono ((Ext.rfl' wr).drewN' _), AP.out.ext ((Ext.rfl' wr).drewN' _) LTR.out⟩
        · have HS := Lib.hid (show subTo N E (j + 1) = subEdge (subTo N E j) (gr E j) by
            show subStep (subTo N E j) (gr E j) = _
            unfold subStep
            rw [if_neg (by rw [HQ.out.1]; rintro ⟨k1, k2⟩; simp [gi] at k1 k2; omega)])
          have HNS := Lib.hid hs
          go_cut [37] from 22 to 38 (fun t37 wx => t37 = .bool false ∧ Hid (Ext wr wx))
          case first =>
            by_cases hux : u = x
            · subst hux
              have hpq : ((p : Int) == (q : Int)) = false := by have := HNS.out; simp; omega
              have hpq2 : ¬ p = q := by have := HNS.out; omega
              clear hs
              go_quiet (fail)
              go_wp2
              go_meet
              exact ⟨rfl, (Ext.rfl' wr).drewN' _⟩
            · have hux2 : ((u : Int) == (x : Int)) = false := by simp; omega
              clear hs
              go_quiet (fail)
              go_wp2
              go_meet
              exact ⟨rfl, (Ext.rfl' wr).drewN' _⟩
          obtain ⟨rfl, XC⟩ := hcut
          clear hs q1 q2 q3 q4
          have HE0 := Lib.hid (HM.out.mono XC.out)
          have APC := Lib.hid (AP.out.ext XC.out LTR.out)
          have XS := Lib.hid XC.out.size
          obtain ⟨m0, m1, m2, -, -, -⟩ := row3_facts HE0.out.box
          go_upto_region 10 with fail
          have hT := HT.out j
          have hLE : (subTo N E j).ends.length ≤ 280 := by have := hT.hi; omega
          obtain ⟨R, ho1, hback⟩ := HE0.out.rows
          have HO1 := Lib.hid ho1
          have HB1 := Lib.hid hback
          have mkS : ∀ w' : World, Ext wc w' → w'.cell? ⟨w2.heap.size, 0, none⟩ = some (.slice A0 (subTo N E j).ends.length C0) ∧ w'.cell? ⟨rb, 0, none⟩ = some (.int .i64 u) ∧ w'.cell? ⟨rb, 1, none⟩ = some (.int .i64 p) ∧ w'.cell? ⟨rb, 2, none⟩ = some (.int .i64 x) ∧ w'.cell? ⟨rb, 3, none⟩ = some (.int .i64 q) := fun w' h => ⟨h.cell' m0, CE.out w' (fun b hb => (h.block b (by have := LTR.out b hb; have := XS.out; omega)).trans (APC.out.keep b hb))⟩
          clear ho1 hback hT m1 m2
          refine wp_region_gate (n := 20) (S := fun w' => w'.cell? ⟨w2.heap.size, 0, none⟩ = some (.slice A0 (subTo N E j).ends.length C0) ∧ w'.cell? ⟨rb, 0, none⟩ = some (.int .i64 u) ∧ w'.cell? ⟨rb, 1, none⟩ = some (.int .i64 p) ∧ w'.cell? ⟨rb, 2, none⟩ = some (.int .i64 x) ∧ w'.cell? ⟨rb, 3, none⟩ = some (.int .i64 q)) (by kernel_rfl) (mkS _ (Ext.rfl' wc).drew') (fun hHeld => ?_)
          iterate 16 (
            (first
              | refine wpAnyG_take (i := 0) (v := ?_) rfl (by decide +kernel) (by kernel_rfl) (by decide) (by kernel_rfl) (by kernel_rfl) (fun _ _ _ h => h) (Or.inl ⟨by rfl, ?_⟩) hHeld ?_
              | refine wpAnyG_take (i := 1) (v := ?_) rfl (by decide +kernel) (by kernel_rfl) (by decide) (by kernel_rfl) (by kernel_rfl) (fun _ _ _ h => h) (Or.inl ⟨by rfl, ?_⟩) hHeld ?_
              | refine wpAnyG_take (i := 2) (v := ?_) rfl (by decide +kernel) (by kernel_rfl) (by decide) (by kernel_rfl) (by kernel_rfl) (fun _ _ _ h => h) (Or.inl ⟨by rfl, ?_⟩) hHeld ?_
              | refine wpAnyG_take (i := 3) (v := ?_) rfl (by decide +kernel) (by kernel_rfl) (by decide) (by kernel_rfl) (by kernel_rfl) (fun _ _ _ h => h) (Or.inl ⟨by rfl, ?_⟩) hHeld ?_
              | refine wpAnyG_take (i := 4) (v := ?_) rfl (by decide +kernel) (by kernel_rfl) (by decide) (by kernel_rfl) (by kernel_rfl) (fun _ _ _ h => h) (Or.inl ⟨by rfl, ?_⟩) hHeld ?_
              | refine wpAnyG_take (i := 5) (v := ?_) rfl (by decide +kernel) (by kernel_rfl) (by decide) (by kernel_rfl) (by kernel_rfl) (fun _ _ _ h => h) (Or.inl ⟨by rfl, ?_⟩) hHeld ?_
              | refine wpAnyG_take (i := 6) (v := ?_) rfl (by decide +kernel) (by kernel_rfl) (by decide) (by kernel_rfl) (by kernel_rfl) (fun _ _ _ h => h) (Or.inl ⟨by rfl, ?_⟩) hHeld ?_
              | refine wpAnyG_take (i := 7) (v := ?_) rfl (by decide +kernel) (by kernel_rfl) (by decide) (by kernel_rfl) (by kernel_rfl) (fun _ _ _ h => h) (Or.inl ⟨by rfl, ?_⟩) hHeld ?_
              | refine wpAnyG_take (i := 8) (v := ?_) rfl (by decide +kernel) (by kernel_rfl) (by decide) (by kernel_rfl) (by kernel_rfl) (fun _ _ _ h => h) (Or.inl ⟨by rfl, ?_⟩) hHeld ?_
              | refine wpAnyG_take (i := 9) (v := ?_) rfl (by decide +kernel) (by kernel_rfl) (by decide) (by kernel_rfl) (by kernel_rfl) (fun _ _ _ h => h) (Or.inl ⟨by rfl, ?_⟩) hHeld ?_
              | refine wpAnyG_take (i := 10) (v := ?_) rfl (by decide +kernel) (by kernel_rfl) (by decide) (by kernel_rfl) (by kernel_rfl) (fun _ _ _ h => h) (Or.inl ⟨by rfl, ?_⟩) hHeld ?_
              | refine wpAnyG_take (i := 11) (v := ?_) rfl (by decide +kernel) (by kernel_rfl) (by decide) (by kernel_rfl) (by kernel_rfl) (fun _ _ _ h => h) (Or.inl ⟨by rfl, ?_⟩) hHeld ?_
              | refine wpAnyG_take (i := 12) (v := ?_) rfl (by decide +kernel) (by kernel_rfl) (by decide) (by kernel_rfl) (by kernel_rfl) (fun _ _ _ h => h) (Or.inl ⟨by rfl, ?_⟩) hHeld ?_
              | refine wpAnyG_take (i := 13) (v := ?_) rfl (by decide +kernel) (by kernel_rfl) (by decide) (by kernel_rfl) (by kernel_rfl) (fun _ _ _ h => h) (Or.inl ⟨by rfl, ?_⟩) hHeld ?_
              | refine wpAnyG_take (i := 14) (v := ?_) rfl (by decide +kernel) (by kernel_rfl) (by decide) (by kernel_rfl) (by kernel_rfl) (fun _ _ _ h => h) (Or.inl ⟨by rfl, ?_⟩) hHeld ?_
              | refine wpAnyG_take (i := 15) (v := ?_) rfl (by decide +kernel) (by kernel_rfl) (by decide) (by kernel_rfl) (by kernel_rfl) (fun _ _ _ h => h) (Or.inl ⟨by rfl, ?_⟩) hHeld ?_
            )
            rotate_left 1
            · (intro w' hSw; (try dsimp only at hSw); go_simp) <;> with_reducible rfl
            simp only [Act.put, List.setIfInBounds_toArray])
          refine wpAnyG_one (i := 16) rfl (by kernel_rfl) rfl (fun K hK => ?_)
          go_simp
          refine hK.out _ _ (fun _ => mkS _ (by repeat (first | exact Ext.rfl' _ | refine Ext.alloc' ?_ _ | refine Ext.drew' ?_))) (fun _ => ?_)
          clear hK K
          refine wpAnyG_one (i := 17) rfl (by kernel_rfl) rfl (fun K hK => ?_)
          go_simp
          refine hK.out _ _ (fun _ => mkS _ (by repeat (first | exact Ext.rfl' _ | refine Ext.alloc' ?_ _ | refine Ext.drew' ?_))) (fun _ => ?_)
          clear hK K
          refine wpAnyG_one (i := 18) rfl (by kernel_rfl) rfl (fun K hK => ?_)
          have hex := HE0.out.ext.size
          have HXW := Lib.hid ((((Ext.rfl' wc).alloc' (.cells #[.int .i64 (u : Int), .int .i64 (p : Int), .int .i64 (x : Int), .int .i64 (q : Int)] 66)).alloc' (.cells #[.slice (some ⟨wc.heap.size, 0, none⟩) 2 2] 67)).drew')
          refine wp_app2 (.tmp 42) (.tmp 58) 27 rfl W0.heap.size 67 i0 (.slice none 0 0) 1 24 Try.underlying27 I0.out.1 I0.out.2.1 I0.out.2.2.1 I0.out.2.2.2 rfl (by decide) (.slice A0 (subTo N E j).ends.length C0) (subTo N E j).ends.length ((List.range (subTo N E j).ends.length).map R) rfl (owns_ext HO1.out HXW.out) (some ⟨wc.heap.size + 1, 0, none⟩) 1 1 [.slice (some ⟨wc.heap.size, 0, none⟩) 2 2] rfl (by have := src_drew (src_one (wc.alloc (.cells #[.int .i64 (u : Int), .int .i64 (p : Int), .int .i64 (x : Int), .int .i64 (q : Int)] 66)) (.slice (some ⟨wc.heap.size, 0, none⟩) 2 2) 67 rfl); simpa using this) (by unfold maxLen; omega) (by omega) (by simp; omega) ?_
          intro v' wA hg
          obtain ⟨hq, hu, hp, hx, hqq⟩ := HQ.out
          have hp6 := good_rows HG.out u hu
          have hq6 := good_rows HG.out x hx
          have HI := Lib.hid (show inI64 (u : Int) ∧ inI64 (p : Int) ∧ inI64 (x : Int) ∧ inI64 (q : Int) from ⟨by unfold inI64; omega, by unfold inI64; omega, by unfold inI64; omega, by unfold inI64; omega⟩)
          have HA1 := Lib.hid (HB1.out _ wA (.slice (some ⟨wc.heap.size, 0, none⟩) 2 2) v' [((u : Int), (p : Int)), ((x : Int), (q : Int))] [wc.heap.size] HXW.out ((own_twoEnds wc u p x q HI.out).ext ((Ext.rfl' _).alloc' _).drew') (by simp) hg.1)
          have kA : ∀ b ∈ es, wA.heap[b]? = w4.heap[b]? := fun b hb => by
            refine Eq.trans ?_ ((HXW.out.block b (by have := LTR.out b hb; have := XS.out; omega)).trans (APC.out.keep b hb))
            rcases TYR.out b hb with ht | ht
            · exact kept_grown (owns_ext HO1.out HXW.out) hg.1.2.1 ((ht.ext1 XC.out).ext1 HXW.out) (by decide) b (by simp)
            · exact kept_grown (owns_ext HO1.out HXW.out) hg.1.2.1 ((ht.ext1 XC.out).ext1 HXW.out) (by decide) b (by simp)
          have KA := Lib.hid kA
          obtain ⟨va, vc, rfl⟩ := owns_slice hg.1.1
          obtain ⟨cz, -, -, cf, -, -⟩ := row3_facts HA1.out.1
          have SA := And.intro cz (CE.out wA kA)
          clear hg hex hq hu hp hx hqq hp6 hq6 kA
          refine hK.out _ _ (fun _ => SA) (fun _ => ?_)
          clear hK K
          refine wpAnyG_one (i := 19) rfl (by kernel_rfl) rfl (fun K hK => ?_)
          go_simp
          refine hK.out _ _ (fun _ => SA) (fun _ => ?_)
          clear hK K
          refine wpAnyG_one (i := 20) rfl (by kernel_rfl) rfl (fun K hK => ?_)
          go_simp
          refine hK.out _ _ (fun h => absurd rfl h) (fun _ => ?_)
          clear hK K
          refine wpAnyG_done (by kernel_rfl) ?_ _
          have H3 := Lib.hid HA1.out.2
          have KB := Lib.hid (show ∀ b ∈ es, (wA.setCell ⟨w2.heap.size, 0, none⟩ (.slice va ((subTo N E j).ends.length + 1) vc)).heap[b]? = w4.heap[b]? from fun b hb => (Below.heap_setCell _ _ _ _ (NP.out b hb)).trans (KA.out b hb))
          clear hHeld mkS cz cf HA1 m0 HO1 HB1 SA KA HE0
          generalize wA.setCell ⟨w2.heap.size, 0, none⟩ (.slice va ((subTo N E j).ends.length + 1) vc) = wB at *
          obtain ⟨ho2, hb2⟩ := H3.out.ints
          have HO2 : Hid (wB.ownsRow W0.heap.size 3 1 (.slice A2 (subTo N E j).inputs.length C2) (subTo N E j).inputs.length (intCells (subTo N E j).inputs)) := ho2
          have HB2 := Lib.hid hb2
          have hle2 : (subTo N E j).inputs.length ≤ 280 := by have := (HT.out j).inp; omega
          have hex := H3.out.ext.size
          obtain ⟨m0, m1, m2, -, -, -⟩ := row3_facts H3.out.box
          have LTB := Lib.hid (show ∀ b ∈ es, b < wB.heap.size from fun b hb => by
            rcases TYR.out b hb with ht | ht
            · obtain ⟨cur, hc⟩ := ht b (by simp); rw [AP.out.keep b hb, ← KB.out b hb] at hc; exact (Array.getElem?_eq_some_iff.1 hc).1
            · obtain ⟨cur, hc⟩ := ht b (by simp); rw [AP.out.keep b hb, ← KB.out b hb] at hc; exact (Array.getElem?_eq_some_iff.1 hc).1)
          clear ho2 hb2
          go_upto_region 12 with (first
            | (at_builtin
               refine wpList_app2 rfl (.tmp 62) (.tmp 63) 23 rfl W0.heap.size 3 i3 (.int .i64 0) 1 8 Try.underlying23 I3.out.1 I3.out.2.1 I3.out.2.2.1 I3.out.2.2.2 rfl (by decide) (.slice A2 (subTo N E j).inputs.length C2) (subTo N E j).inputs.length (intCells (subTo N E j).inputs) rfl (owns_ext HO2.out ((Ext.rfl' wB).alloc' _)) (some ⟨wB.heap.size, 0, none⟩) 1 1 [.int .i64 0] rfl (src_one wB (.int .i64 0) 3 rfl) (by unfold maxLen; omega) (by omega) (by simp; omega) ?_
               intro v' wD hg
               have HA2 := Lib.hid (HB2.out _ wD v' 0 ((Ext.rfl' wB).alloc' _) (by unfold inI64; omega) hg)
               have KD := Lib.hid (show ∀ b ∈ es, wD.heap[b]? = w4.heap[b]? from fun b hb => (hg.1.2.1.block b (by have := LTB.out b hb; simp; omega) (fun e => AP.out.own b e.symm hb)).trans ((((Ext.rfl' wB).alloc' _).block b (LTB.out b hb)).trans (KB.out b hb)))
               have OD := Lib.hid (show ∀ b, v'.ownBlock = some b → b ∉ es from fun b hb hb' => (hg.2 b hb).elim (fun e => AP.out.own b e hb') (fun e => by have := LTB.out b hb'; simp at e; omega))
               obtain ⟨ya, yc, rfl⟩ := owns_slice hg.1.1
               obtain ⟨z0, z1, z2, z3, z4, z5⟩ := row3_facts HA2.out.1
               clear hg)
            | fail)
          have H4 := Lib.hid HA2.out.2
          have APD := Lib.hid (show Apart w4 (wD.setCell ⟨w2.heap.size, 2, none⟩ (.slice ya ((subTo N E j).inputs.length + 1) yc)) es (.slice ya ((subTo N E j).inputs.length + 1) yc) from ⟨fun b hb => (Below.heap_setCell _ _ _ _ (NP.out b hb)).trans (KD.out b hb), OD.out⟩)
          clear z0 z1 z2 z3 z4 z5 m0 m1 m2 HA2 HO2 HB2 hex KD OD KB LTB H3
          generalize wD.setCell ⟨w2.heap.size, 2, none⟩ (.slice ya ((subTo N E j).inputs.length + 1) yc) = wC at *
          obtain ⟨hq, hu, hp, hx, hqq⟩ := HQ.out
          have hT := HT.out j
          have hlo := hT.lo
          obtain ⟨M, hM⟩ : ∃ M, M = addIn (addRow (subTo N E j) [((u : Int), (p : Int)), ((x : Int), (q : Int))]) 0 := ⟨_, rfl⟩
          have hml : M.ends.length = (subTo N E j).ends.length + 1 := by rw [hM]; exact addRow_len _ _
          have hmr : ∀ y, y < (subTo N E j).ends.length → gr M.ends y = gr (subTo N E j).ends y := fun y hy => by rw [hM]; exact (gr_addRow _ _ _).trans (if_neg (by omega))
          have hpl : p < (gr M.ends u).length := by rw [hmr u (by omega), hT.row u hu]; exact hp
          have hql : q < (gr M.ends x).length := by rw [hmr x (by omega), hT.row x hx]; exact hqq
          have hu1 : u < (subTo N E j).ends.length + 1 := by omega
          have hx1 : x < (subTo N E j).ends.length + 1 := by omega
          have hu2 : (u : Int) < ((subTo N E j).ends.length : Int) + 1 := by omega
          have hx2 : (x : Int) < ((subTo N E j).ends.length : Int) + 1 := by omega
          have HSE := Lib.hid (sub_edge (subTo N E j) hq)
          rw [← hM] at HSE
          have H5 := Lib.hid (show HNet W0 wC M w2.heap.size (.slice va ((subTo N E j).ends.length + 1) vc) (.slice none 0 0) (.slice ya ((subTo N E j).inputs.length + 1) yc) by rw [hM]; exact H4.out)
          have HML := Lib.hid hml
          have HJ := Lib.hid (show inI64 ((subTo N E j).ends.length : Int) by unfold inI64; omega)
          clear hq hu hp hx hqq hT hlo hM hmr hml H4
          obtain ⟨b, c', r, d, hv, hrow, htwo, hty, hrp, hput⟩ := H5.out.endAt (u := u) (j := p) (by rw [HML.out]; exact hu1) hpl
          obtain ⟨rfl, rfl⟩ : va = some ⟨b, 0, none⟩ ∧ vc = c' := by simp at hv; exact ⟨hv.1, hv.2.2⟩
          have H6 := Lib.hid ((hput (((subTo N E j).ends.length : Int), 0) HJ.out (by unfold inI64; omega)).mono (Ext.rfl' _).drew')
          have K6 := Lib.hid (show ∀ y ∈ es, (set2 wC r p (((subTo N E j).ends.length : Int), 0)).drew.heap[y]? = w4.heap[y]? from fun y hy => by
            refine ((Ext.rfl' (set2 wC r p (((subTo N E j).ends.length : Int), 0))).drew'.block y ?_).trans ((set2_heap ?_).trans (APD.out.keep y hy))
            · have hne : y ≠ r := by
                rcases TYR.out y hy with ht | ht
                · exact hty y _ (ht.same ((APD.out.keep y hy).trans (AP.out.keep y hy).symm)) (by decide) (by decide)
                · exact hty y _ (ht.same ((APD.out.keep y hy).trans (AP.out.keep y hy).symm)) (by decide) (by decide)
              have hs2 := (set2_heap (w := wC) (j := p) (p := (((subTo N E j).ends.length : Int), 0)) hne).trans (APD.out.keep y hy)
              rw [show w4.heap[y]? = wr.heap[y]? from (AP.out.keep y hy).symm, Array.getElem?_eq_getElem (LTR.out y hy)] at hs2
              exact (Array.getElem?_eq_some_iff.1 hs2).1
            · rcases TYR.out y hy with ht | ht
              · exact hty y _ (ht.same ((APD.out.keep y hy).trans (AP.out.keep y hy).symm)) (by decide) (by decide)
              · exact hty y _ (ht.same ((APD.out.keep y hy).trans (AP.out.keep y hy).symm)) (by decide) (by decide))
          obtain ⟨m0, m1, m2, -, -, -⟩ := row3_facts H5.out.box
          obtain ⟨t0, t1, t2, t3⟩ := htwo
          obtain ⟨e0, e1, e2, e3⟩ := CE.out wC APD.out.keep
          clear hv hput hty e2 e3 m1 m2
          have mkS : ∀ w' : World, Ext wC w' → w'.cell? ⟨w2.heap.size, 0, none⟩ = some (.slice (some ⟨b, 0, none⟩) ((subTo N E j).ends.length + 1) vc) ∧ w'.cell? ⟨b, u, none⟩ = some (.slice (some ⟨r, 0, none⟩) (gr M.ends u).length d) ∧ w'.cell? ⟨rb, 0, none⟩ = some (.int .i64 u) ∧ w'.cell? ⟨rb, 1, none⟩ = some (.int .i64 p) := fun w' h => ⟨h.cell' m0, h.cell' hrow, h.cell' e0, h.cell' e1⟩
          refine wp_region_gate (n := 13) (S := fun w' => w'.cell? ⟨w2.heap.size, 0, none⟩ = some (.slice (some ⟨b, 0, none⟩) ((subTo N E j).ends.length + 1) vc) ∧ w'.cell? ⟨b, u, none⟩ = some (.slice (some ⟨r, 0, none⟩) (gr M.ends u).length d) ∧ w'.cell? ⟨rb, 0, none⟩ = some (.int .i64 u) ∧ w'.cell? ⟨rb, 1, none⟩ = some (.int .i64 p)) (by kernel_rfl) (mkS _ (Ext.rfl' wC).drew') (fun hHeld => ?_)
          iterate 13 (
            (first
              | refine wpAnyG_take (i := 0) (v := ?_) rfl (by decide +kernel) (by kernel_rfl) (by decide) (by kernel_rfl) (by kernel_rfl) (fun _ _ _ h => h) (Or.inl ⟨by rfl, ?_⟩) hHeld ?_
              | refine wpAnyG_take (i := 1) (v := ?_) rfl (by decide +kernel) (by kernel_rfl) (by decide) (by kernel_rfl) (by kernel_rfl) (fun _ _ _ h => h) (Or.inl ⟨by rfl, ?_⟩) hHeld ?_
              | refine wpAnyG_take (i := 2) (v := ?_) rfl (by decide +kernel) (by kernel_rfl) (by decide) (by kernel_rfl) (by kernel_rfl) (fun _ _ _ h => h) (Or.inl ⟨by rfl, ?_⟩) hHeld ?_
              | refine wpAnyG_take (i := 3) (v := ?_) rfl (by decide +kernel) (by kernel_rfl) (by decide) (by kernel_rfl) (by kernel_rfl) (fun _ _ _ h => h) (Or.inl ⟨by rfl, ?_⟩) hHeld ?_
              | refine wpAnyG_take (i := 4) (v := ?_) rfl (by decide +kernel) (by kernel_rfl) (by decide) (by kernel_rfl) (by kernel_rfl) (fun _ _ _ h => h) (Or.inl ⟨by rfl, ?_⟩) hHeld ?_
              | refine wpAnyG_take (i := 5) (v := ?_) rfl (by decide +kernel) (by kernel_rfl) (by decide) (by kernel_rfl) (by kernel_rfl) (fun _ _ _ h => h) (Or.inl ⟨by rfl, ?_⟩) hHeld ?_
              | refine wpAnyG_take (i := 6) (v := ?_) rfl (by decide +kernel) (by kernel_rfl) (by decide) (by kernel_rfl) (by kernel_rfl) (fun _ _ _ h => h) (Or.inl ⟨by rfl, ?_⟩) hHeld ?_
              | refine wpAnyG_take (i := 7) (v := ?_) rfl (by decide +kernel) (by kernel_rfl) (by decide) (by kernel_rfl) (by kernel_rfl) (fun _ _ _ h => h) (Or.inl ⟨by rfl, ?_⟩) hHeld ?_
              | refine wpAnyG_take (i := 8) (v := ?_) rfl (by decide +kernel) (by kernel_rfl) (by decide) (by kernel_rfl) (by kernel_rfl) (fun _ _ _ h => h) (Or.inl ⟨by rfl, ?_⟩) hHeld ?_
              | refine wpAnyG_take (i := 9) (v := ?_) rfl (by decide +kernel) (by kernel_rfl) (by decide) (by kernel_rfl) (by kernel_rfl) (fun _ _ _ h => h) (Or.inl ⟨by rfl, ?_⟩) hHeld ?_
              | refine wpAnyG_take (i := 10) (v := ?_) rfl (by decide +kernel) (by kernel_rfl) (by decide) (by kernel_rfl) (by kernel_rfl) (fun _ _ _ h => h) (Or.inl ⟨by rfl, ?_⟩) hHeld ?_
              | refine wpAnyG_take (i := 11) (v := ?_) rfl (by decide +kernel) (by kernel_rfl) (by decide) (by kernel_rfl) (by kernel_rfl) (fun _ _ _ h => h) (Or.inl ⟨by rfl, ?_⟩) hHeld ?_
              | refine wpAnyG_take (i := 12) (v := ?_) rfl (by decide +kernel) (by kernel_rfl) (by decide) (by kernel_rfl) (by kernel_rfl) (fun _ _ _ h => h) (Or.inl ⟨by rfl, ?_⟩) hHeld ?_
            )
            rotate_left 1
            · (intro w' hSw; (try dsimp only at hSw); go_simp) <;> with_reducible rfl
            simp only [Act.put, List.setIfInBounds_toArray])
          refine wpAnyG_one (i := 13) rfl (by kernel_rfl) rfl (fun K hK => ?_)
          go_simp
          refine hK.out _ _ (fun h => absurd rfl h) (fun _ => ?_)
          clear hK K
          refine wpAnyG_done (by kernel_rfl) ?_ _
          clear hHeld mkS
          clear m0 t0 t1 t2 t3 e0 e1 hrow
          revert H6 K6
          unfold set2
          generalize ((wC.setCell ⟨r, p * 2, none⟩ (.int .i64 ((subTo N E j).ends.length : Int))).setCell ⟨r, p * 2 + 1, none⟩ (.int .i64 0)).drew = W5
          intro H6 K6
          obtain ⟨b', c', r2, d2, hv, hrow, htwo, hty, hrp2, hput⟩ := H6.out.endAt (u := x) (j := q) (by rw [setEnd_len, HML.out]; exact hx1) (by rw [setEnd_row]; exact hql)
          obtain ⟨rfl, rfl⟩ : b = b' ∧ vc = c' := by simp at hv; exact ⟨hv.1, hv.2.2⟩
          rw [setEnd_row] at hrow
          have H7 := Lib.hid (show HNet W0 (set2 W5 r2 q (((subTo N E j).ends.length : Int), 1)).drew (subTo N E (j + 1)) w2.heap.size (.slice (some ⟨b, 0, none⟩) ((subTo N E j).ends.length + 1) vc) (.slice none 0 0) (.slice ya ((subTo N E j).inputs.length + 1) yc) by
            rw [HS.out, ← HSE.out]
            exact (hput (((subTo N E j).ends.length : Int), 1) HJ.out (by unfold inI64; omega)).mono (Ext.rfl' _).drew')
          have K7 := Lib.hid (show ∀ y ∈ es, (set2 W5 r2 q (((subTo N E j).ends.length : Int), 1)).drew.heap[y]? = w4.heap[y]? from fun y hy => by
            have hne : y ≠ r2 := by
              rcases TYR.out y hy with ht | ht
              · exact hty y _ (ht.same ((K6.out y hy).trans (AP.out.keep y hy).symm)) (by decide) (by decide)
              · exact hty y _ (ht.same ((K6.out y hy).trans (AP.out.keep y hy).symm)) (by decide) (by decide)
            have hs2 := (set2_heap (w := W5) (j := q) (p := (((subTo N E j).ends.length : Int), 1)) hne).trans (K6.out y hy)
            refine ((Ext.rfl' (set2 W5 r2 q (((subTo N E j).ends.length : Int), 1))).drew'.block y ?_).trans hs2
            rw [show w4.heap[y]? = wr.heap[y]? from (AP.out.keep y hy).symm, Array.getElem?_eq_getElem (LTR.out y hy)] at hs2
            exact (Array.getElem?_eq_some_iff.1 hs2).1)
          obtain ⟨m0, m1, m2, -, -, -⟩ := row3_facts H6.out.box
          obtain ⟨t0, t1, t2, t3⟩ := htwo
          obtain ⟨e0, e1, e2, e3⟩ := CE.out W5 K6.out
          clear hv hput hty e0 e1 m1 m2
          go_upto_region 13 with fail
          have mkS : ∀ w' : World, Ext W5 w' → w'.cell? ⟨w2.heap.size, 0, none⟩ = some (.slice (some ⟨b, 0, none⟩) ((subTo N E j).ends.length + 1) vc) ∧ w'.cell? ⟨b, x, none⟩ = some (.slice (some ⟨r2, 0, none⟩) (gr M.ends x).length d2) ∧ w'.cell? ⟨rb, 2, none⟩ = some (.int .i64 x) ∧ w'.cell? ⟨rb, 3, none⟩ = some (.int .i64 q) := fun w' h => ⟨h.cell' m0, h.cell' hrow, h.cell' e2, h.cell' e3⟩
          refine wp_region_gate (n := 13) (S := fun w' => w'.cell? ⟨w2.heap.size, 0, none⟩ = some (.slice (some ⟨b, 0, none⟩) ((subTo N E j).ends.length + 1) vc) ∧ w'.cell? ⟨b, x, none⟩ = some (.slice (some ⟨r2, 0, none⟩) (gr M.ends x).length d2) ∧ w'.cell? ⟨rb, 2, none⟩ = some (.int .i64 x) ∧ w'.cell? ⟨rb, 3, none⟩ = some (.int .i64 q)) (by kernel_rfl) (mkS _ (Ext.rfl' W5).drew') (fun hHeld => ?_)
          iterate 13 (
            (first
              | refine wpAnyG_take (i := 0) (v := ?_) rfl (by decide +kernel) (by kernel_rfl) (by decide) (by kernel_rfl) (by kernel_rfl) (fun _ _ _ h => h) (Or.inl ⟨by rfl, ?_⟩) hHeld ?_
              | refine wpAnyG_take (i := 1) (v := ?_) rfl (by decide +kernel) (by kernel_rfl) (by decide) (by kernel_rfl) (by kernel_rfl) (fun _ _ _ h => h) (Or.inl ⟨by rfl, ?_⟩) hHeld ?_
              | refine wpAnyG_take (i := 2) (v := ?_) rfl (by decide +kernel) (by kernel_rfl) (by decide) (by kernel_rfl) (by kernel_rfl) (fun _ _ _ h => h) (Or.inl ⟨by rfl, ?_⟩) hHeld ?_
              | refine wpAnyG_take (i := 3) (v := ?_) rfl (by decide +kernel) (by kernel_rfl) (by decide) (by kernel_rfl) (by kernel_rfl) (fun _ _ _ h => h) (Or.inl ⟨by rfl, ?_⟩) hHeld ?_
              | refine wpAnyG_take (i := 4) (v := ?_) rfl (by decide +kernel) (by kernel_rfl) (by decide) (by kernel_rfl) (by kernel_rfl) (fun _ _ _ h => h) (Or.inl ⟨by rfl, ?_⟩) hHeld ?_
              | refine wpAnyG_take (i := 5) (v := ?_) rfl (by decide +kernel) (by kernel_rfl) (by decide) (by kernel_rfl) (by kernel_rfl) (fun _ _ _ h => h) (Or.inl ⟨by rfl, ?_⟩) hHeld ?_
              | refine wpAnyG_take (i := 6) (v := ?_) rfl (by decide +kernel) (by kernel_rfl) (by decide) (by kernel_rfl) (by kernel_rfl) (fun _ _ _ h => h) (Or.inl ⟨by rfl, ?_⟩) hHeld ?_
              | refine wpAnyG_take (i := 7) (v := ?_) rfl (by decide +kernel) (by kernel_rfl) (by decide) (by kernel_rfl) (by kernel_rfl) (fun _ _ _ h => h) (Or.inl ⟨by rfl, ?_⟩) hHeld ?_
              | refine wpAnyG_take (i := 8) (v := ?_) rfl (by decide +kernel) (by kernel_rfl) (by decide) (by kernel_rfl) (by kernel_rfl) (fun _ _ _ h => h) (Or.inl ⟨by rfl, ?_⟩) hHeld ?_
              | refine wpAnyG_take (i := 9) (v := ?_) rfl (by decide +kernel) (by kernel_rfl) (by decide) (by kernel_rfl) (by kernel_rfl) (fun _ _ _ h => h) (Or.inl ⟨by rfl, ?_⟩) hHeld ?_
              | refine wpAnyG_take (i := 10) (v := ?_) rfl (by decide +kernel) (by kernel_rfl) (by decide) (by kernel_rfl) (by kernel_rfl) (fun _ _ _ h => h) (Or.inl ⟨by rfl, ?_⟩) hHeld ?_
              | refine wpAnyG_take (i := 11) (v := ?_) rfl (by decide +kernel) (by kernel_rfl) (by decide) (by kernel_rfl) (by kernel_rfl) (fun _ _ _ h => h) (Or.inl ⟨by rfl, ?_⟩) hHeld ?_
              | refine wpAnyG_take (i := 12) (v := ?_) rfl (by decide +kernel) (by kernel_rfl) (by decide) (by kernel_rfl) (by kernel_rfl) (fun _ _ _ h => h) (Or.inl ⟨by rfl, ?_⟩) hHeld ?_
            )
            rotate_left 1
            · (intro w' hSw; (try dsimp only at hSw); go_simp) <;> with_reducible rfl
            simp only [Act.put, List.setIfInBounds_toArray])
          refine wpAnyG_one (i := 13) rfl (by kernel_rfl) rfl (fun K hK => ?_)
          go_simp
          refine hK.out _ _ (fun h => absurd rfl h) (fun _ => ?_)
          clear hK K
          refine wpAnyG_done (by kernel_rfl) ?_ _
          clear hHeld mkS
          clear m0 t0 t1 t2 t3 e2 e3 hrow
          revert H7 K7
          unfold set2
          generalize ((W5.setCell ⟨r2, q * 2, none⟩ (.int .i64 ((subTo N E j).ends.length : Int))).setCell ⟨r2, q * 2 + 1, none⟩ (.int .i64 1)).drew = W6
          intro H7 K7
          go_wp2
          go_roundg (E.length - (j + 1))
          case measure => omega
          case rel => exact ⟨j + 1, by omega, rfl, by go_num, _, _, H7.out, K7.out, APD.out.own⟩
      · obtain rfl : j = E.length := by omega
        obtain ⟨bs4, ho, hnd, hge⟩ := HM.out.net
        have HO4 := Lib.hid ho
        have HND := Lib.hid hnd
        have HGE := Lib.hid hge
        have EX := Lib.hid (EW.out.trans' HM.out.ext)
        have RQ3 := Lib.hid (row_ext RQ.out HM.out.ext)
        obtain ⟨m0, m1, m2, -, -, -⟩ := row3_facts HM.out.box
        clear ho hnd hge
        go_wp2_with fail
        (with_reducible refine (neIfOr_any HO4.out HND.out).mono ?_)
        rintro e w5 ⟨y0, z0, y1, z1, y2, z2, cs, rfl, hw, ho, hnd, hsub⟩
        have O5 := Lib.hid ho
        have N5 := Lib.hid hnd
        have E5 := Lib.hid (EX.out.trans' hw)
        have hZW := ZW.out
        have S5 := Lib.hid (show ∀ b ∈ cs, w.heap.size ≤ b ∧ b ≠ w.heap.size + 1 from fun b hb => by have := (HGE.out b (hsub b hb)).1; omega)
        obtain ⟨s0, s1, s2, t0, t1, t2⟩ := row3_facts (row_ext RQ3.out hw)
        clear ho hnd hw hsub m0 m1 m2 hZW
        go_wp2
        have hc := close_at E5.out (show w.heap.size ≤ w.heap.size + 1 by omega) O5.out N5.out S5.out
        refine bodyPost_ret (v := .tuple #[.agg #[.slice y0 (goodOr (subTo N E E.length)).ends.length z0, .slice y1 (goodOr (subTo N E E.length)).ids.length z1, .slice y2 (goodOr (subTo N E E.length)).inputs.length z2], .bool (dec (Good (subTo N E E.length)))]) (by simp [results, Try.results27, go_sem, s0, s1, s2]) rfl ⟨_, cs, ret_net HA.out.2.symm, hc.1, by rw [HA.out.1]; exact hc.2.1, hc.2.2⟩
  · have D := Lib.hid (dec_false (show ¬ SubOK N from fun k => hg k.1))
    have A := Lib.hid (subAns_f (show ¬ SubOK N from fun k => hg k.1))
    rw [dec_false hg]
    obtain ⟨u0, u1, u2, v0, v1, v2⟩ := row3_facts RQ1.out
    clear hg
    go_wp2_with fail
    refine bodyPost_ret (v := .tuple #[znet, .bool false]) (by simp [results, Try.results27, go_sem, u0, u1, u2, znet]) rfl ⟨_, [], ret_net D.out.symm, store3_ext X1.out (by omega) _ _ _, by rw [A.out]; exact own_zero _, Fresh.nil _⟩
end Go.Proofs.Ytkeiaahlifdbiaa
