/- The contract of the program's SubdivideEdges. -/
import Derived.Test.YtkeiaahlifdbiaaSd
import Derived.Test.YtkeiaahlifdbiaaSj
namespace Go.Proofs.Ytkeiaahlifdbiaa
open Go.RowKit

theorem Try.infoSE : (Try.prog.info? 67).map (fun i => (i.zero, i.size, i.bytes)) = some (some (.slice none 0 0), 1, 24) := by kernel_rfl
def SubOK (N : Net) : Prop := Good N ∧ Good (subTo N (edgesTo N N.ends.length) (edgesTo N N.ends.length).length)
noncomputable def subAns (N : Net) : Net := if dec (SubOK N) = true then subTo N (edgesTo N N.ends.length) (edgesTo N N.ends.length).length else zeroNet
theorem subAns_t {N : Net} (h : SubOK N) : subAns N = subTo N (edgesTo N N.ends.length) (edgesTo N N.ends.length).length := by simp [subAns, dec_true h]
theorem subAns_f {N : Net} (h : ¬ SubOK N) : subAns N = zeroNet := by simp [subAns, dec_false h]
theorem subAns_small (N : Net) : (subAns N).small := by
  by_cases h : SubOK N
  · rw [subAns_t h]; exact good_small h.2
  · rw [subAns_f h]; exact zero_small
theorem subAns_or {N : Net} (h : Good N) : subAns N = goodOr (subTo N (edgesTo N N.ends.length) (edgesTo N N.ends.length).length) ∧ dec (SubOK N) = dec (Good (subTo N (edgesTo N N.ends.length) (edgesTo N N.ends.length).length)) := by
  by_cases k : Good (subTo N (edgesTo N N.ends.length) (edgesTo N N.ends.length).length)
  · exact ⟨by rw [subAns_t ⟨h, k⟩, goodOr_t k], by rw [dec_true k, dec_true (show SubOK N from ⟨h, k⟩)]⟩
  · exact ⟨by rw [subAns_f (fun x => k x.2), goodOr_f k], by rw [dec_false k, dec_false (show ¬ SubOK N from fun x => k x.2)]⟩

/-- Two ends in boxes of their own. -/
structure PP (w3 wx : World) (k i l j : Nat) (pb qb : Nat) : Prop where
  ext : Ext w3 wx
  pge : w3.heap.size ≤ pb
  qge : w3.heap.size ≤ qb
  p : wx.rowIs pb 66 2 (duo (.int .i64 k) (.int .i64 i))
  q : wx.rowIs qb 66 2 (duo (.int .i64 l) (.int .i64 j))
theorem pp_one (w3 : World) (k i l j : Nat) :
    PP w3 ((w3.alloc (.cells #[.int .i64 k, .int .i64 i] 66)).alloc (.cells #[.int .i64 l, .int .i64 j] 66)) k i l j w3.heap.size (w3.heap.size + 1) :=
  ⟨((Ext.rfl' w3).alloc' _).alloc' _, Nat.le_refl _, by omega, (duo_made w3 _ _ 66).alloc _, by simpa using duo_made (w3.alloc (.cells #[.int .i64 k, .int .i64 i] 66)) (.int .i64 l) (.int .i64 j) 66⟩
theorem pp_two (w3 : World) (k i l j : Nat) :
    PP w3 ((w3.alloc (.cells #[.int .i64 l, .int .i64 j] 66)).alloc (.cells #[.int .i64 k, .int .i64 i] 66)) k i l j (w3.heap.size + 1) w3.heap.size :=
  ⟨((Ext.rfl' w3).alloc' _).alloc' _, by omega, Nat.le_refl _, by simpa using duo_made (w3.alloc (.cells #[.int .i64 l, .int .i64 j] 66)) (.int .i64 k) (.int .i64 i) 66, (duo_made w3 _ _ 66).alloc _⟩
theorem PP.drew {w3 wx : World} {k i l j pb qb : Nat} (h : PP w3 wx k i l j pb qb) : PP w3 wx.drew k i l j pb qb := ⟨h.ext.drew', h.pge, h.qge, row_ext h.p (Ext.rfl' _).drew', row_ext h.q (Ext.rfl' _).drew'⟩

theorem PP.mono {w3 wx wy : World} {k i l j pb qb : Nat} (h : PP w3 wx k i l j pb qb) (he : Ext wx wy) : PP w3 wy k i l j pb qb := ⟨h.ext.trans' he, h.pge, h.qge, row_ext h.p he, row_ext h.q he⟩

set_option maxHeartbeats 3200000 in
set_option maxRecDepth 100000 in
theorem isStub_any {w : World} {v : Value} {u p x q : Int} (h : IntSl w v [u, p, x, q]) :
    Calls Try.prog 83 #[v] w fun e w' => e = .returned (.bool (decide (u = x ∧ p = q))) ∧ Ext w w' := by
  obtain ⟨a, b, o, c, rfl, ha, hl, hm, hc⟩ := h
  obtain rfl := ha (by simp)
  unfold maxLen at hm
  obtain ⟨_, c0, rfl, -⟩ := hc 0 (by simp)
  obtain ⟨_, c1, rfl, -⟩ := hc 1 (by simp)
  obtain ⟨_, c2, rfl, -⟩ := hc 2 (by simp)
  obtain ⟨_, c3, rfl, -⟩ := hc 3 (by simp)
  simp only [List.length_cons, List.length_nil, Nat.zero_add, Nat.add_zero] at hl c0 c1 c2 c3 ⊢
  have P0 : ∀ x' : Wx w, x'.w.cell? ⟨b, o, none⟩ = some (.int .i64 u) := fun x' => x'.ok.cell' c0
  have P1 : ∀ x' : Wx w, x'.w.cell? ⟨b, o + 1, none⟩ = some (.int .i64 p) := fun x' => x'.ok.cell' c1
  have P2 : ∀ x' : Wx w, x'.w.cell? ⟨b, o + 2, none⟩ = some (.int .i64 x) := fun x' => x'.ok.cell' c2
  have P3 : ∀ x' : Wx w, x'.w.cell? ⟨b, o + 3, none⟩ = some (.int .i64 q) := fun x' => x'.ok.cell' c3
  clear hc c0 c1 c2 c3 ha
  by_cases h1 : u = x
  · have b1 : (u == x) = true := by simpa using h1
    by_cases h2 : p = q
    · have b2 : (p == q) = true := by simpa using h2
      have E := Lib.hid (show decide (u = x ∧ p = q) = true from decide_eq_true ⟨h1, h2⟩)
      clear h1 h2
      go_enter Try.func83, Try.ntmps83
      go_wp2_with fail
      refine wp_region_ext (by kernel_rfl) (by kernel_rfl) ?_
      repeat (go_big_quiet_step (fail))
      refine wpQuiet_nil ?_
      rintro wq ⟨⟨_, hz2⟩, rfl⟩
      have E3 := Lib.hid hz2
      clear hz2 P0 P1 P2 P3
      go_wp2
      go_ret
      exact ⟨ret_bool E.out.symm, E3.out⟩
    · have b2 : (p == q) = false := beq_eq_false_iff_ne.2 h2
      have E := Lib.hid (show decide (u = x ∧ p = q) = false from decide_eq_false fun h => h2 h.2)
      clear h1 h2
      go_enter Try.func83, Try.ntmps83
      go_wp2_with fail
      refine wp_region_ext (by kernel_rfl) (by kernel_rfl) ?_
      repeat (go_big_quiet_step (fail))
      refine wpQuiet_nil ?_
      rintro wq ⟨⟨_, hz2⟩, rfl⟩
      have E3 := Lib.hid hz2
      clear hz2 P0 P1 P2 P3
      go_wp2
      go_ret
      exact ⟨ret_bool E.out.symm, E3.out⟩
  · have b1 : (u == x) = false := beq_eq_false_iff_ne.2 h1
    have E := Lib.hid (show decide (u = x ∧ p = q) = false from decide_eq_false fun h => h1 h.1)
    clear h1
    go_enter Try.func83, Try.ntmps83
    go_wp2_with fail
    refine wp_region_ext (by kernel_rfl) (by kernel_rfl) ?_
    repeat (go_big_quiet_step (fail))
    refine wpQuiet_nil ?_
    rintro wq ⟨⟨_, hz2⟩, rfl⟩
    have E3 := Lib.hid hz2
    clear hz2 P0 P1 P2 P3
    go_wp2
    go_ret
    exact ⟨ret_bool E.out.symm, E3.out⟩

set_option maxHeartbeats 12800000 in
set_option maxRecDepth 100000 in
theorem subdivide_any {w : World} {v : Value} {N : Net} (h : NetAt w v N) :
    Calls Try.prog 28 #[v] w fun e w' => ∃ v' bs, e = .returned (.tuple #[v', .bool (dec (SubOK N))]) ∧ Ext w w' ∧ OwnNet w' v' (subAns N) bs ∧ Fresh w bs := by
  have HN := Lib.hid h
  obtain ⟨a0, c0, a1, c1, a2, c2, rfl⟩ := h.form
  obtain ⟨W0, hW0⟩ : ∃ W0, W0 = (w.alloc (.cells #[.slice a0 N.ends.length c0, .slice a1 N.ids.length c1, .slice a2 N.inputs.length c2] 29)).alloc (.cells #[.slice none 0 0, .slice none 0 0, .slice none 0 0] 29) := ⟨_, rfl⟩
  have EW := Lib.hid (show Ext w W0 by rw [hW0]; exact ((Ext.rfl' w).alloc' _).alloc' _)
  have RN := Lib.hid (show W0.rowIs w.heap.size 29 3 (tri (.slice a0 N.ends.length c0) (.slice a1 N.ids.length c1) (.slice a2 N.inputs.length c2)) by rw [hW0]; exact row_ext (row3_made w _ _ _ _) ((Ext.rfl' _).alloc' _))
  have RQ := Lib.hid (show W0.rowIs (w.heap.size + 1) 29 3 (tri (.slice none 0 0) (.slice none 0 0) (.slice none 0 0)) by rw [hW0]; simpa using row3_made (w.alloc (.cells #[.slice a0 N.ends.length c0, .slice a1 N.ids.length c1, .slice a2 N.inputs.length c2] 29)) (.slice none 0 0) (.slice none 0 0) (.slice none 0 0) 29)
  have ZW := Lib.hid (show W0.heap.size = w.heap.size + 2 by rw [hW0]; simp)
  obtain ⟨p0, p1, p2, -, -, -⟩ := row3_facts RN.out
  obtain ⟨i0, hi, hz0, hz1, hz2⟩ := info_parts Try.infoSE
  have I0 := Lib.hid (And.intro hi (And.intro hz0 (And.intro hz1 hz2)))
  clear hi hz0 hz1 hz2
  obtain ⟨i3, hi, hz0, hz1, hz2⟩ := info_parts Try.info3
  have I3 := Lib.hid (And.intro hi (And.intro hz0 (And.intro hz1 hz2)))
  clear h hi hz0 hz1 hz2
  obtain ⟨i1, hi, hz0, hz1, hz2⟩ := info_parts Try.info44
  obtain ⟨CC, hCC⟩ : ∃ CC, CC = madeCells #[.int .i64 0, .int .i64 0] (2 * 2) := ⟨_, rfl⟩
  have HML := Lib.hid (show ∀ u : World, (Instr.makeSlice 67 (.int .i64 2) (.int .i64 2)).run Try.prog u =
      .ok (.slice (some ⟨u.heap.size, 0, none⟩) 2 2) (u.alloc (.cells CC 66)) from fun u => by
    have h := run_make (P := Try.prog) u 67 66 i1 _ Try.underlying67 hi hz0 .i64 .i64 2 2 (by omega) (Int.le_refl _) (by rw [hz2]; omega) (by omega)
    rw [hCC]
    simpa [hz1, Value.cells] using h)
  have HCC := Lib.hid hCC
  clear hi hz0 hz1 hz2 hCC
  go_enter Try.func28, Try.ntmps28
  go_wp2_with fail
  rw [← hW0]
  clear hW0
  (with_reducible refine (edgesOf_any (HN.out.ext EW.out)).mono ?_)
  rintro e w1 ⟨ve, es, rfl, hw, ho, hf⟩
  have X1 := Lib.hid (EW.out.trans' hw)
  have Y1 := Lib.hid hw
  obtain ⟨s0, s1, s2, -, -, -⟩ := row3_facts (row_ext RN.out hw)
  have RQ1 := Lib.hid (row_ext RQ.out hw)
  have HO := Lib.hid ho.read
  clear hw ho hf p0 p1 p2
  by_cases hg : Good N
  · have HG := Lib.hid hg
    rw [dec_true hg]
    have HE := HO.out
    rw [edAns_t hg] at HE
    have HA := Lib.hid (subAns_or hg)
    have HIN : N.inputs.length = N.ends.length := by have := hg.2.2.2.1; omega
    have HT := Lib.hid (subTo_at HIN (edgesTo N N.ends.length))
    have HED := Lib.hid (fun j hj => edge_at hg (j := j) hj)
    have h40 : N.ends.length ≤ 40 := hg.1.2
    have hL := (edgesTo_len N (good_rows hg) N.ends.length (Nat.le_refl _)).1
    have HH := Lib.hid HIN
    obtain ⟨E, hE⟩ : ∃ E, E = edgesTo N N.ends.length := ⟨_, rfl⟩
    rw [← hE] at HE HA HT HED hL
    have hL2 : E.length ≤ 240 := by omega
    obtain ⟨ea, eb, eo, ec, rfl, hea, hel, hem, hec⟩ := HE
    unfold maxLen at hem
    have Hea := Lib.hid hea
    have Hec := Lib.hid hec
    clear hea hec hg HIN hE hL
    go_wp2_with fail
    (with_reducible refine (copyNetwork_any (HN.out.ext X1.out) (good_small HG.out)).mono ?_)
    rintro e w2 ⟨v', bs, rfl, hw, ho, hf⟩
    obtain ⟨b0, d0, b1, d1, b2, d2, rfl⟩ := ho.agg
    have X2 := Lib.hid (Y1.out.trans' hw)
    have XE := Lib.hid hw
    have RQ2 := Lib.hid (row_ext RQ1.out hw)
    have H0 := Lib.hid (HNet.made hw ho hf)
    have hEq : (w2.alloc (.cells #[.slice b0 N.ends.length d0, .slice b1 N.ids.length d1, .slice b2 N.inputs.length d2] 29)).setCell ⟨w2.heap.size, 1, none⟩ (.slice none 0 0) = w2.alloc (.cells #[.slice b0 N.ends.length d0, .slice none 0 0, .slice b2 N.inputs.length d2] 29) := World.setCell_alloc_at _ _ _ _ _ rfl
    have H1 := Lib.hid (show HNet w1 (w2.alloc (.cells #[.slice b0 N.ends.length d0, .slice none 0 0, .slice b2 N.inputs.length d2] 29)) (noIds N) w2.heap.size _ _ _ by rw [← hEq]; exact H0.out.dropIds)
    clear hEq
    obtain ⟨m0, m1, m2, -, -, -⟩ := row3_facts H0.out.box
    have XB := Lib.hid (show Ext w1 (w2.alloc (.cells #[.slice b0 N.ends.length d0, .slice none 0 0, .slice b2 N.inputs.length d2] 29)) from hw.alloc' _)
    have RQ3 := Lib.hid (row_ext RQ1.out XB.out)
    clear hw ho hf s0 s1 s2
    go_wp2_with fail
    clear m0 m1 m2 H0
    generalize w2.alloc (.cells #[.slice b0 N.ends.length d0, .slice none 0 0, .slice b2 N.inputs.length d2] 29) = w3 at *
    go_loopg [25] E.length (fun g i wr => ∃ j : Nat, j ≤ E.length ∧ g = E.length - j ∧ i = .int .i64 j ∧ Hid (∃ v0 v2, HNet w1 wr (subTo N E j) w2.heap.size v0 (.slice none 0 0) v2))
    case atStart => exact ⟨0, Nat.zero_le _, rfl, rfl, _, _, H1.out⟩
    case round =>
      obtain ⟨j, hj, rfl, rfl, Hr⟩ := hrel
      obtain ⟨v0, v2, hr⟩ := Hr.out
      have HM := Lib.hid hr
      obtain ⟨A0, C0, _, _, A2, C2, rfl, hnil, rfl⟩ := hr.form
      clear Hr hr hnil
      by_cases hlt : j < E.length
      · obtain ⟨u, p, x, q, hq, hu, hp, hx, hqq⟩ := HED.out j hlt
        obtain ⟨z, hz, hrow⟩ := Hec.out j hlt
        have HRW := Lib.hid hrow
        obtain ⟨ra, rb, ro, rc, rfl, hra, hrl, hrm, hrc⟩ := hrow
        obtain rfl := Hea.out (by omega)
        rw [hq] at hra hrl hrc
        unfold maxLen at hrm
        have cell : ∀ (i : Nat) (y : Nat), i < 4 → gi [(u : Int), (p : Int), (x : Int), (q : Int)] i = (y : Int) → wr.cell? ⟨rb, ro + i, none⟩ = some (.int .i64 y) := fun i y hi hy => by
          obtain ⟨z1, k1, k2, _⟩ := hrc i hi
          rw [hy] at k2
          rw [← k2]
          exact HM.out.ext.cell' k1
        have q1 := cell 0 u (by omega) rfl
        have q2 := cell 1 p (by omega) rfl
        have q3 := cell 2 x (by omega) rfl
        have q4 := cell 3 q (by omega) rfl
        obtain rfl := hra (by simp)
        have hz' := HM.out.ext.cell' hz
        rw [hq] at hz' HRW
        simp only [List.length_cons, List.length_nil, Nat.zero_add, Nat.add_zero] at hz' q1 hrl HRW
        have HQ := Lib.hid (show EdgeOf N (gr E j) u p x q from ⟨hq, hu, hp, hx, hqq⟩)
        clear cell hra hrc hz hq hu hp hx hqq
        go_upto_region 9 with fail
        clear hz'
        go_cut [9, 10] from 29 to 43 (fun t9 t10 wx => ∃ pb qb : Nat, t9 = .pointer (some ⟨pb, 0, none⟩) ∧ t10 = .pointer (some ⟨qb, 0, none⟩) ∧ Hid (PP wr wx u p x q pb qb))
        case first =>
          have mkS : ∀ w' : World, Ext wr w' → w'.cell? ⟨rb, ro, none⟩ = some (.int .i64 u) ∧ w'.cell? ⟨rb, ro + 1, none⟩ = some (.int .i64 p) ∧ w'.cell? ⟨rb, ro + 2, none⟩ = some (.int .i64 x) ∧ w'.cell? ⟨rb, ro + 3, none⟩ = some (.int .i64 q) := fun w' h => ⟨h.cell' q1, h.cell' q2, h.cell' q3, h.cell' q4⟩
          go_region_held3 (fun w' => w'.cell? ⟨rb, ro, none⟩ = some (.int .i64 u) ∧ w'.cell? ⟨rb, ro + 1, none⟩ = some (.int .i64 p) ∧ w'.cell? ⟨rb, ro + 2, none⟩ = some (.int .i64 x) ∧ w'.cell? ⟨rb, ro + 3, none⟩ = some (.int .i64 q))
            (exact mkS _ (by repeat (first | exact Ext.rfl' _ | refine Ext.alloc' ?_ _ | refine Ext.drew' ?_ | refine Ext.store ?_ (by simp) _)))
            (first | fail)
          all_goals go_wp2
          all_goals go_meet
          case rel => exact ⟨_, _, rfl, rfl, (pp_one wr u p x q).drew⟩
          case rel => exact ⟨_, _, rfl, rfl, (pp_two wr u p x q).drew⟩
        case rest =>
          obtain ⟨pb, qb, rfl, rfl, HP⟩ := hcut
          clear q1 q2 q3 q4
          have HRC := Lib.hid (HRW.out.ext (HM.out.ext.trans' HP.out.ext))
          by_cases hs : u = x ∧ p = q
          · have HD := Lib.hid (show decide ((u : Int) = (x : Int) ∧ (p : Int) = (q : Int)) = true from decide_eq_true ⟨by omega, by omega⟩)
            have HS := Lib.hid (show subTo N E (j + 1) = subTo N E j by
              show subStep (subTo N E j) (gr E j) = _
              unfold subStep
              rw [if_pos (by rw [HQ.out.1]; obtain ⟨rfl, rfl⟩ := hs; exact ⟨rfl, rfl⟩)])
            clear hs
            go_wp2_with fail
            (with_reducible refine (isStub_any HRC.out).mono ?_)
            rintro e wd ⟨rfl, hxs⟩
            rw [HD.out]
            have HX := Lib.hid (HP.out.ext.trans' hxs)
            clear hxs
            go_wp2
            go_roundg (E.length - (j + 1))
            case measure => omega
            case rel => exact ⟨j + 1, by omega, rfl, by go_num, _, _, by rw [HS.out]; exact HM.out.mono HX.out⟩
          · have HD := Lib.hid (show decide ((u : Int) = (x : Int) ∧ (p : Int) = (q : Int)) = false from decide_eq_false fun h => hs ⟨by omega, by omega⟩)
            have HS := Lib.hid (show subTo N E (j + 1) = subEdge (subTo N E j) (gr E j) by
              show subStep (subTo N E j) (gr E j) = _
              unfold subStep
              rw [if_neg (by rw [HQ.out.1]; rintro ⟨k1, k2⟩; simp [gi] at k1 k2; omega)])
            clear hs
            go_wp2_with fail
            (with_reducible refine (isStub_any HRC.out).mono ?_)
            rintro e wd ⟨rfl, hxs⟩
            rw [HD.out]
            have HP2 := Lib.hid (HP.out.mono hxs)
            clear hxs HP
            obtain ⟨m0, m1, m2, -, -, -⟩ := row3_facts (row_ext HM.out.box HP2.out.ext)
            go_upto_region 12 with fail
            have hT := HT.out j
            have hLE : (subTo N E j).ends.length ≤ 280 := by have := hT.hi; omega
            have HE0 := Lib.hid (HM.out.mono HP2.out.ext)
            obtain ⟨R, ho1, hback⟩ := HE0.out.rows
            have HO1 := Lib.hid ho1
            have HB1 := Lib.hid hback
            have mkS : ∀ w' : World, Ext wd w' → w'.cell? ⟨w2.heap.size, 0, none⟩ = some (.slice A0 (subTo N E j).ends.length C0) := fun w' h => h.cell' m0
            clear ho1 hback hT m1 m2
            have hml := HML.out
            refine wp_region_gate (n := 6) (S := fun w' => w'.cell? ⟨w2.heap.size, 0, none⟩ = some (.slice A0 (subTo N E j).ends.length C0)) (by kernel_rfl) (mkS _ (Ext.rfl' wd).drew') (fun hHeld => ?_)
            iterate 2 (
              (first
                | refine wpAnyG_take (i := 0) (v := ?_) rfl (by decide +kernel) (by kernel_rfl) (by decide) (by kernel_rfl) (by kernel_rfl) (fun _ _ _ h => h) (Or.inl ⟨by rfl, ?_⟩) hHeld ?_
                | refine wpAnyG_take (i := 1) (v := ?_) rfl (by decide +kernel) (by kernel_rfl) (by decide) (by kernel_rfl) (by kernel_rfl) (fun _ _ _ h => h) (Or.inl ⟨by rfl, ?_⟩) hHeld ?_
              )
              rotate_left 1
              · (intro w' hSw; (try dsimp only at hSw); go_simp) <;> with_reducible rfl
              simp only [Act.put, List.setIfInBounds_toArray])
            refine wpAnyG_one (i := 2) rfl (by kernel_rfl) rfl (fun K hK => ?_)
            go_simp
            refine hK.out _ _ (fun _ => mkS _ (by repeat (first | exact Ext.rfl' _ | refine Ext.alloc' ?_ _ | refine Ext.drew' ?_))) (fun _ => ?_)
            clear hK K
            refine wpAnyG_one (i := 3) rfl (by kernel_rfl) rfl (fun K hK => ?_)
            go_simp
            refine hK.out _ _ (fun _ => mkS _ (by repeat (first | exact Ext.rfl' _ | refine Ext.alloc' ?_ _ | refine Ext.drew' ?_))) (fun _ => ?_)
            clear hK K
            refine wpAnyG_one (i := 4) rfl (by kernel_rfl) rfl (fun K hK => ?_)
            have hex := HE0.out.ext.size
            refine wp_app2 (.tmp 49) (.tmp 51) 27 rfl w1.heap.size 67 i0 (.slice none 0 0) 1 24 Try.underlying27 I0.out.1 I0.out.2.1 I0.out.2.2.1 I0.out.2.2.2 rfl (by decide) (.slice A0 (subTo N E j).ends.length C0) (subTo N E j).ends.length ((List.range (subTo N E j).ends.length).map R) rfl (owns_ext HO1.out (((Ext.rfl' wd).alloc' _).alloc' _).drew') (some ⟨wd.heap.size + 1, 0, none⟩) 1 1 [.slice (some ⟨wd.heap.size, 0, none⟩) 2 2] rfl (by first | (have := src_drew (src_one (wd.alloc (.cells CC 66)) (.slice (some ⟨wd.heap.size, 0, none⟩) 2 2) 67 rfl); simpa using this)) (by unfold maxLen; omega) (by omega) (by simp; omega) ?_
            intro v' wA hg
            have hcc := HCC.out
            have HA1 := Lib.hid (HB1.out _ wA (.slice (some ⟨wd.heap.size, 0, none⟩) 2 2) v' [(0, 0), (0, 0)] [wd.heap.size] (((Ext.rfl' wd).alloc' (.cells CC 66)).alloc' (.cells #[.slice (some ⟨wd.heap.size, 0, none⟩) 2 2] 67)).drew' (by rw [hcc]; exact (own_zeroEnds (emade wd 2) (by omega)).ext ((Ext.rfl' _).alloc' _).drew') (by simp) hg.1)
            have gp1 := row_grown (row_ext HP2.out.p (((Ext.rfl' wd).alloc' (.cells CC 66)).alloc' (.cells #[.slice (some ⟨wd.heap.size, 0, none⟩) 2 2] 67)).drew') (owns_ext HO1.out (((Ext.rfl' wd).alloc' _).alloc' _).drew') hg.1.2.1 (by decide)
            have gq1 := row_grown (row_ext HP2.out.q (((Ext.rfl' wd).alloc' (.cells CC 66)).alloc' (.cells #[.slice (some ⟨wd.heap.size, 0, none⟩) 2 2] 67)).drew') (owns_ext HO1.out (((Ext.rfl' wd).alloc' _).alloc' _).drew') hg.1.2.1 (by decide)
            obtain ⟨va, vc, rfl⟩ := owns_slice hg.1.1
            obtain ⟨cz, -, -, cf, -, -⟩ := row3_facts HA1.out.1
            clear hg hcc hex
            refine hK.out _ _ (fun _ => cz) (fun _ => ?_)
            clear hK K
            refine wpAnyG_one (i := 5) rfl (by kernel_rfl) rfl (fun K hK => ?_)
            go_simp
            refine hK.out _ _ (fun _ => cz) (fun _ => ?_)
            clear hK K
            refine wpAnyG_one (i := 6) rfl (by kernel_rfl) rfl (fun K hK => ?_)
            go_simp
            refine hK.out _ _ (fun h => absurd rfl h) (fun _ => ?_)
            clear hK K
            refine wpAnyG_done (by kernel_rfl) ?_ _
            have H3 := Lib.hid HA1.out.2
            have hbl := HM.out.box.lt
            have NP := Lib.hid (show w2.heap.size ≠ pb by have := HP2.out.pge; omega)
            have NQ := Lib.hid (show w2.heap.size ≠ qb by have := HP2.out.qge; omega)
            have PB := Lib.hid (gp1.of_block (w' := wA.setCell ⟨w2.heap.size, 0, none⟩ (.slice va ((subTo N E j).ends.length + 1) vc)) (Below.heap_setCell _ _ _ _ (fun e => NP.out e.symm)))
            have QB := Lib.hid (gq1.of_block (w' := wA.setCell ⟨w2.heap.size, 0, none⟩ (.slice va ((subTo N E j).ends.length + 1) vc)) (Below.heap_setCell _ _ _ _ (fun e => NQ.out e.symm)))
            clear hHeld mkS cz cf HA1 m0 hml gp1 gq1 hbl HO1 HB1
            generalize wA.setCell ⟨w2.heap.size, 0, none⟩ (.slice va ((subTo N E j).ends.length + 1) vc) = wB at *
            obtain ⟨ho2, hb2⟩ := H3.out.ints
            have HO2 : Hid (wB.ownsRow w1.heap.size 3 1 (.slice A2 (subTo N E j).inputs.length C2) (subTo N E j).inputs.length (intCells (subTo N E j).inputs)) := ho2
            have HB2 := Lib.hid hb2
            have hle2 : (subTo N E j).inputs.length ≤ 280 := by have := (HT.out j).inp; omega
            have hex := H3.out.ext.size
            obtain ⟨m0, m1, m2, -, -, -⟩ := row3_facts H3.out.box
            clear ho2 hb2
            go_upto_region 14 with (first
              | (at_builtin
                 refine wpList_app2 rfl (.tmp 55) (.tmp 56) 23 rfl w1.heap.size 3 i3 (.int .i64 0) 1 8 Try.underlying23 I3.out.1 I3.out.2.1 I3.out.2.2.1 I3.out.2.2.2 rfl (by decide) (.slice A2 (subTo N E j).inputs.length C2) (subTo N E j).inputs.length (intCells (subTo N E j).inputs) rfl (owns_ext HO2.out ((Ext.rfl' wB).alloc' _)) (some ⟨wB.heap.size, 0, none⟩) 1 1 [.int .i64 0] rfl (src_one wB (.int .i64 0) 3 rfl) (by unfold maxLen; omega) (by omega) (by simp; omega) ?_
                 intro v' w4 hg
                 have HA2 := Lib.hid (HB2.out _ w4 v' 0 ((Ext.rfl' wB).alloc' _) (by unfold inI64; omega) hg)
                 have gp2 := Lib.hid (row_grown (row_ext PB.out ((Ext.rfl' wB).alloc' (.cells #[.int .i64 0] 3))) (owns_ext HO2.out ((Ext.rfl' wB).alloc' _)) hg.1.2.1 (by decide))
                 have gq2 := Lib.hid (row_grown (row_ext QB.out ((Ext.rfl' wB).alloc' (.cells #[.int .i64 0] 3))) (owns_ext HO2.out ((Ext.rfl' wB).alloc' _)) hg.1.2.1 (by decide))
                 obtain ⟨ya, yc, rfl⟩ := owns_slice hg.1.1
                 obtain ⟨z0, z1, z2, z3, z4, z5⟩ := row3_facts HA2.out.1
                 clear hg)
              | fail)
            have H4 := Lib.hid HA2.out.2
            have PC := Lib.hid (gp2.out.of_block (w' := w4.setCell ⟨w2.heap.size, 2, none⟩ (.slice ya ((subTo N E j).inputs.length + 1) yc)) (Below.heap_setCell _ _ _ _ (fun e => NP.out e.symm)))
            have QC := Lib.hid (gq2.out.of_block (w' := w4.setCell ⟨w2.heap.size, 2, none⟩ (.slice ya ((subTo N E j).inputs.length + 1) yc)) (Below.heap_setCell _ _ _ _ (fun e => NQ.out e.symm)))
            clear z0 z1 z2 z3 z4 z5 m0 m1 m2 HA2 gp2 gq2 HO2 HB2 hex
            generalize w4.setCell ⟨w2.heap.size, 2, none⟩ (.slice ya ((subTo N E j).inputs.length + 1) yc) = wC at *
            obtain ⟨m0, m1, m2, -, -, -⟩ := row3_facts H4.out.box
            obtain ⟨g0, g1, -, -⟩ := duo_facts PC.out
            obtain ⟨g2, g3, -, -⟩ := duo_facts QC.out
            obtain ⟨bs4, ho, hnd, hge⟩ := H4.out.net
            have HO4 := Lib.hid ho
            have HND := Lib.hid hnd
            have HGE := Lib.hid hge
            clear ho hnd hge
            go_wp2_with fail
            clear m0 m1 m2 g0 g1 g2 g3
            obtain ⟨hq, hu, hp, hx, hqq⟩ := HQ.out
            have hT := HT.out j
            have hlo := hT.lo
            have hpl : p < (gr (subTo N E j).ends u).length := by rw [hT.row u hu]; exact hp
            have hql : q < (gr (subTo N E j).ends x).length := by rw [hT.row x hx]; exact hqq
            have hp6 := good_rows HG.out u hu
            have hq6 := good_rows HG.out x hx
            have HPO := Lib.hid (sub_ports (subTo N E j) (show u < (subTo N E j).ends.length by omega) hpl (show x < (subTo N E j).ends.length by omega) hql)
            have HLK := Lib.hid (sub_link (subTo N E j) hq (show u < (subTo N E j).ends.length by omega) (show x < (subTo N E j).ends.length by omega))
            have FL := Lib.hid (show FlatSl (wC.alloc (.cells #[.int .i64 (u : Int), .int .i64 (p : Int), .int .i64 ((subTo N E j).ends.length : Int), .int .i64 0, .int .i64 (x : Int), .int .i64 (q : Int), .int .i64 ((subTo N E j).ends.length : Int), .int .i64 1] 72)) (.slice (some ⟨wC.heap.size, 0, none⟩) 2 2) 2 [((u : Int), (p : Int)), (((subTo N E j).ends.length : Int), 0), ((x : Int), (q : Int)), (((subTo N E j).ends.length : Int), 1)] from by
              refine ⟨_, wC.heap.size, 0, 2, rfl, fun _ => rfl, Nat.le_refl _, by unfold maxLen; omega, fun i hi => ?_⟩
              match i, hi with
              | 0, _ => exact ⟨by simp [gn], by simp [gp], by simp [gn, inI64]; omega, by simp [gp, inI64]; omega⟩
              | 1, _ => exact ⟨by simp [gn], by simp [gp], by simp [gn, inI64]; omega, by simp [gp, inI64]⟩
              | 2, _ => exact ⟨by simp [gn], by simp [gp], by simp [gn, inI64]; omega, by simp [gp, inI64]; omega⟩
              | 3, _ => exact ⟨by simp [gn], by simp [gp], by simp [gn, inI64]; omega, by simp [gp, inI64]⟩)
            clear hq hu hp hx hqq hT hlo hpl hql hp6 hq6
            (with_reducible refine (join2_any 2 rfl (HO4.out.ext ((Ext.rfl' wC).alloc' _)) HND.out FL.out (fun b o n c e hb => by
              have hlt := HO4.out.lt b hb
              simp at e) HPO.out).mono ?_)
            rintro e w5 ⟨rfl, hc, ho5⟩
            have hbl := H4.out.box.lt
            have hpb : w2.heap.size ∉ bs4 := fun h => (HGE.out _ h).2 rfl
            have H5 := Lib.hid (show HNet w1 w5 (subTo N E (j + 1)) w2.heap.size (.slice va ((subTo N E j).ends.length + 1) vc) (.slice none 0 0) (.slice ya ((subTo N E j).inputs.length + 1) yc) from
              ⟨Chg.ext (H4.out.ext.alloc' _) hc (fun b hb => (HGE.out b hb).1), H4.out.hp, (row_ext H4.out.box ((Ext.rfl' wC).alloc' _)).of_block (hc.block _ (by simp; omega) hpb), bs4, by rw [HS.out, ← HLK.out]; exact ho5, HND.out, HGE.out⟩)
            clear hc ho5 hbl hpb
            go_wp2
            go_roundg (E.length - (j + 1))
            case measure => omega
            case rel => exact ⟨j + 1, by omega, rfl, by go_num, _, _, H5.out⟩
      · obtain rfl : j = E.length := by omega
        have hA := HA.out
        obtain ⟨bs4, ho, hnd, hge⟩ := HM.out.net
        have HO4 := Lib.hid ho
        have HND := Lib.hid hnd
        have HGE := Lib.hid hge
        have EX := Lib.hid (X1.out.trans' HM.out.ext)
        have RQ3 := Lib.hid (row_ext RQ1.out HM.out.ext)
        obtain ⟨m0, m1, m2, -, -, -⟩ := row3_facts HM.out.box
        clear ho hnd hge hA
        go_wp2_with fail
        (with_reducible refine (orNone_any HO4.out HND.out).mono ?_)
        rintro e w5 ⟨y0, z0, y1, z1, y2, z2, cs, rfl, hw, ho, hnd, hsub⟩
        have O5 := Lib.hid ho
        have N5 := Lib.hid hnd
        have E5 := Lib.hid (EX.out.trans' hw)
        have hX1 := X1.out.size
        have hZW := ZW.out
        have hY1 := Y1.out.size
        have S5 := Lib.hid (show ∀ b ∈ cs, w.heap.size ≤ b ∧ b ≠ w.heap.size + 1 from fun b hb => by have := (HGE.out b (hsub b hb)).1; omega)
        obtain ⟨s0, s1, s2, t0, t1, t2⟩ := row3_facts (row_ext RQ3.out hw)
        clear ho hnd hw hsub m0 m1 m2 hX1 hZW hY1
        go_wp2
        have hc := close_at E5.out (show w.heap.size ≤ w.heap.size + 1 by omega) O5.out N5.out S5.out
        refine bodyPost_ret (v := .tuple #[.agg #[.slice y0 (goodOr (subTo N E E.length)).ends.length z0, .slice y1 (goodOr (subTo N E E.length)).ids.length z1, .slice y2 (goodOr (subTo N E E.length)).inputs.length z2], .bool (dec (Good (subTo N E E.length)))]) (by simp [results, Try.results28, go_sem, s0, s1, s2]) rfl ⟨_, cs, ret_net HA.out.2.symm, hc.1, by rw [HA.out.1]; exact hc.2.1, hc.2.2⟩
  · have D := Lib.hid (dec_false (show ¬ SubOK N from fun k => hg k.1))
    have A := Lib.hid (subAns_f (show ¬ SubOK N from fun k => hg k.1))
    rw [dec_false hg]
    obtain ⟨u0, u1, u2, v0, v1, v2⟩ := row3_facts RQ1.out
    clear hg
    go_wp2_with fail
    refine bodyPost_ret (v := .tuple #[znet, .bool false]) (by simp [results, Try.results28, go_sem, u0, u1, u2, znet]) rfl ⟨_, [], ret_net D.out.symm, store3_ext X1.out (by omega) _ _ _, by rw [A.out]; exact own_zero _, Fresh.nil _⟩
end Go.Proofs.Ytkeiaahlifdbiaa
