/- The program's joinNear and PowerOf. -/
import Derived.Test.YtkeiaahlifdbiaaZra
namespace Go.Proofs.Ytkeiaahlifdbiaa
open Go.RowKit

theorem Try.infoNR : (Try.prog.info? 23).map (fun i => (i.zero, i.size, i.bytes)) = some (some (.slice none 0 0), 1, 24) := by kernel_rfl
/-- The lists of the first v nodes lie in a table. -/
structure NT (N : Net) (k : Int) (W wr : World) (nb v : Nat) (R : Nat → Value) (T : Nat → List Nat) : Prop where
  ext : Ext W wr
  row : wr.rowIs nb 23 N.ends.length (fun u => if u < v then R u else .slice none 0 0)
  ints : ∀ u, u < v → OwnI wr (R u) (near N k u) (T u)
  off : ∀ u, u < v → nb ∉ T u
theorem NT.step {N : Net} {k : Int} {W wr w2 : World} {nb v : Nat} {R : Nat → Value} {T : Nat → List Nat} {x : Value} {bs : List Nat} (h : NT N k W wr nb v R T) (hx : Ext wr w2) (ho : OwnI w2 x (near N k v) bs) (hb : ∀ b ∈ bs, wr.heap.size ≤ b) (hW : W.heap.size ≤ nb) :
    NT N k W (w2.setCell ⟨nb, v, none⟩ x) nb (v + 1) (fun u => if u = v then x else R u) (fun u => if u = v then bs else T u) := by
  have hl := h.row.lt
  have hnb : nb ∉ bs := fun k => by have := hb nb k; omega
  refine ⟨(h.ext.trans' hx).store hW _, ((row_ext h.row hx).set v x).congr fun u _ => ?_, fun u hu => ?_, fun u hu => ?_⟩
  · by_cases e : u = v
    · subst e; simp
    · by_cases e2 : u < v
      · simp [e, e2, show u < v + 1 by omega]
      · simp [e, e2, show ¬ u < v + 1 by omega]
  · by_cases e : u = v
    · subst e; simp only [if_true]; exact keep_off ho hnb
    · simp only [if_neg e]; exact keep_off ((h.ints u (by omega)).ext hx) (h.off u (by omega))
  · by_cases e : u = v
    · subst e; simp only [if_true]; exact hnb
    · simp only [if_neg e]; exact h.off u (by omega)
theorem NT.at {N : Net} {k : Int} {W wr : World} {nb : Nat} {R : Nat → Value} {T : Nat → List Nat} (h : NT N k W wr nb N.ends.length R T) {u : Nat} (hu : u < N.ends.length) :
    ∃ a c, wr.cell? ⟨nb, u, none⟩ = some (.slice a (near N k u).length c) ∧ IntSl wr (.slice a (near N k u).length c) (near N k u) := by
  have h1 := h.row.cell hu
  simp only [if_pos hu] at h1
  have h2 := h.ints u hu
  obtain ⟨a, c, e⟩ := h2.1.slice
  rw [e] at h1 h2
  exact ⟨a, c, h1, h2.read⟩
set_option maxHeartbeats 12800000 in
set_option maxRecDepth 100000 in
theorem joinNear_any {w : World} {vn : Value} {N : Net} (kk : Int) (h : NetAt w vn N) (hg : Good N) :
    Calls Try.prog 118 #[vn, .int .i64 kk] w fun e w' => ∃ v' bs, e = .returned v' ∧ Ext w w' ∧ OwnNet w' v' (pow N kk) bs ∧ Fresh w bs := by
  have HA := Lib.hid h
  have HG := Lib.hid hg
  have HGW := Lib.hid (good_w hg)
  have hA1 := HGW.out.one
  have hA40 := HGW.out.most
  obtain ⟨v0, v1, v2, rfl, hE, -, -⟩ := h
  obtain ⟨ea, eb, eo, ec, rfl, -, hel, hem, -⟩ := hE
  unfold maxLen at hem
  clear hg
  obtain ⟨W0, hW0⟩ : ∃ W0, W0 = (w.alloc (.cells #[.slice ea N.ends.length ec, v1, v2] 29)).alloc (.cells #[.slice none 0 0, .slice none 0 0, .slice none 0 0] 29) := ⟨_, rfl⟩
  have EW := Lib.hid (show Ext w W0 by rw [hW0]; exact ((Ext.rfl' w).alloc' _).alloc' _)
  have RN := Lib.hid (show W0.rowIs w.heap.size 29 3 (tri (.slice ea N.ends.length ec) v1 v2) by rw [hW0]; exact row_ext (row3_made w _ _ _ _) ((Ext.rfl' _).alloc' _))
  have RQ := Lib.hid (show W0.rowIs (w.heap.size + 1) 29 3 (tri (.slice none 0 0) (.slice none 0 0) (.slice none 0 0)) by rw [hW0]; simpa using row3_made (w.alloc (.cells #[.slice ea N.ends.length ec, v1, v2] 29)) (.slice none 0 0) (.slice none 0 0) (.slice none 0 0) 29)
  have ZW := Lib.hid (show W0.heap.size = w.heap.size + 2 by rw [hW0]; simp)
  obtain ⟨n0, n1, n2, -, -, -⟩ := row3_facts RN.out
  rw [hW0] at n0 n1 n2
  have hmk := run_make_row' (P := Try.prog) 36 23 (.slice none 0 0) 24 Try.underlying36 Try.infoNR rfl .i64 .i64 N.ends.length (by omega) (by omega)
  go_enter Try.func118, Try.ntmps118
  go_wp2_with fail
  rw [← hW0]
  clear hW0 n0 n1 n2 hmk
  obtain ⟨nb, hnb⟩ : ∃ nb, nb = w.heap.size + 2 := ⟨_, rfl⟩
  have HNB := Lib.hid (show nb = W0.heap.size by rw [ZW.out]; exact hnb)
  rw [← hnb]
  clear hnb
  go_loopg [18] N.ends.length (fun g i wr => ∃ v : Nat, v ≤ N.ends.length ∧ g = N.ends.length - v ∧ i = .int .i64 v ∧ Hid (∃ R T, NT N kk W0 wr nb v R T))
  case atStart => exact ⟨0, Nat.zero_le _, rfl, rfl, fun _ => .slice none 0 0, fun _ => [], (Ext.rfl' _).alloc' _, by rw [HNB.out]; exact (World.rowIs_made _ _ _ _).congr fun i _ => by simp, fun u hu => absurd hu (by omega), fun u hu => absurd hu (by omega)⟩
  case round =>
    obtain ⟨v, hk, rfl, rfl, Hr⟩ := hrel
    obtain ⟨R, T, hnt⟩ := Hr.out
    have HT := Lib.hid hnt
    clear Hr hnt
    have E0 := Lib.hid (EW.out.trans' HT.out.ext)
    by_cases hlt : v < N.ends.length
    case pos =>
      obtain ⟨p0, p1, p2, -, -, -⟩ := row3_facts (row_ext RN.out HT.out.ext)
      go_wp2_with fail
      clear p0 p1 p2
      (with_reducible refine (nodesAround_any v 1 kk hlt (HA.out.ext E0.out) HGW.out).mono ?_)
      rintro e w2 ⟨ud, bd, rfl, hx2, ho2, hf2⟩
      obtain ⟨la, lc, rfl⟩ := ho2.1.slice
      have ST := Lib.hid (HT.out.step hx2 ho2 hf2.2 (by rw [HNB.out]; exact Nat.le_refl _))
      have f1 : w2.cell? ⟨nb, v, none⟩ = some (.slice none 0 0) := by have := (row_ext HT.out.row hx2).cell hlt; simpa using this
      have f2 := (row_ext HT.out.row hx2).frozen v
      clear hx2 ho2 hf2
      go_wp2
      go_roundg (N.ends.length - (v + 1))
      case measure => omega
      case rel => exact ⟨v + 1, by omega, rfl, by go_num, _, _, ST.out⟩
    obtain rfl : v = N.ends.length := by omega
    obtain ⟨wo, hwo⟩ : ∃ wo : World, wo = wr := ⟨_, rfl⟩
    subst hwo
    have HAT := Lib.hid (fun (u : Nat) (hu : u < N.ends.length) => HT.out.at hu)
    obtain ⟨p0, p1, p2, -, -, -⟩ := row3_facts (row_ext RN.out HT.out.ext)
    go_wp2_with fail
    clear p0 p1 p2
    (with_reducible refine (copyNetwork_any (HA.out.ext E0.out) (good_small HG.out)).mono ?_)
    rintro e w5 ⟨v', bs, rfl, hw, ho, hf⟩
    obtain ⟨b0, d0, b1, d1, b2, d2, rfl⟩ := ho.agg
    have H0 := Lib.hid (show HNet wo (w5.alloc (.cells #[.slice b0 N.ends.length d0, .slice b1 N.ids.length d1, .slice b2 N.inputs.length d2] 29)) (jnK N kk 0) w5.heap.size (.slice b0 N.ends.length d0) (.slice b1 N.ids.length d1) (.slice b2 N.inputs.length d2) by rw [jnK_zero]; exact HNet.made hw ho hf)
    clear hw ho hf
    obtain ⟨p, hp⟩ : ∃ p, p = w5.heap.size := ⟨_, rfl⟩
    rw [← hp] at H0
    go_wp2_with fail
    rw [← hp]
    clear hp
    generalize w5.alloc (.cells #[.slice b0 N.ends.length d0, .slice b1 N.ids.length d1, .slice b2 N.inputs.length d2] 29) = w6 at *
    go_loopg [33] N.ends.length (fun g i wr => ∃ v : Nat, v ≤ N.ends.length ∧ g = N.ends.length - v ∧ i = .int .i64 v ∧ Hid (HNet wo wr (jnK N kk v) p (.slice b0 N.ends.length d0) (.slice b1 N.ids.length d1) (.slice b2 N.inputs.length d2)))
    case atStart => exact ⟨0, Nat.zero_le _, rfl, rfl, H0.out⟩
    case round =>
      obtain ⟨v, hk, rfl, rfl, HM⟩ := hrel
      by_cases hvn : v < N.ends.length
      case pos =>
        have hkM : v < (jnK N kk v).ends.length := by rw [jnK_len]; exact hvn
        obtain ⟨b, c, ax, cx, hv0, hcell, hfrz, hge, hnp, hltb, hback⟩ := HM.out.row hkM
        rw [jnK_len] at hv0
        obtain ⟨rfl, rfl⟩ : b0 = some ⟨b, 0, none⟩ ∧ d0 = c := by simpa using hv0
        have HBK := Lib.hid hback
        obtain ⟨la, lc, hl1, hl2⟩ := HAT.out v hvn
        have x1 := HM.out.ext.cell' hl1
        have HLV := Lib.hid (hl2.ext HM.out.ext)
        have hlen := near_len N kk v
        obtain ⟨m0, m1, m2, -, -, -⟩ := row3_facts HM.out.box
        obtain ⟨wv, hwv⟩ : ∃ wv : World, wv = wr := ⟨_, rfl⟩
        subst hwv
        obtain ⟨i1, hi, hz0, hz1, hz2⟩ := info_parts Try.info44
        obtain ⟨CC, hCC⟩ : ∃ CC, CC = madeCells #[.int .i64 0, .int .i64 0] ((near N kk v).length * 2) := ⟨_, rfl⟩
        have hml : ∀ u : World, (Instr.makeSlice 67 (.int .i64 (near N kk v).length) (.int .i64 (near N kk v).length)).run Try.prog u = .ok (.slice (some ⟨u.heap.size, 0, none⟩) (near N kk v).length (near N kk v).length) (u.alloc (.cells CC 66)) := fun u => by
          have h := run_make (P := Try.prog) u 67 66 i1 _ Try.underlying67 hi hz0 .i64 .i64 (near N kk v).length (near N kk v).length (by omega) (Int.le_refl _) (by rw [hz2]; omega) (by omega)
          rw [hCC]
          simpa [hz1, Value.cells] using h
        have hxa := (Ext.rfl' wv).alloc' (.cells CC 66)
        have hxa2 := hxa.cell' hcell
        have hfa : (wv.alloc (.cells CC 66)).frozen? ⟨b, v, none⟩ = false := by rw [World.frozen?_of_block (hxa.block b hltb)]; exact hfrz
        obtain ⟨q0, q1, q2, -, -, -⟩ := row3_facts (row_ext HM.out.box hxa)
        have hCE : OwnE (wv.alloc (.cells CC 66)) (.slice (some ⟨wv.heap.size, 0, none⟩) (near N kk v).length (near N kk v).length) (List.replicate (near N kk v).length (0, 0)) [wv.heap.size] := by rw [hCC]; exact own_zeroEnds (emade wv _) (by omega)
        have H2 := Lib.hid ((HBK.out _ (.slice (some ⟨wv.heap.size, 0, none⟩) (near N kk v).length (near N kk v).length) _ [wv.heap.size] hxa hCE (by simp)).mono (Ext.rfl' _).drew')
        rw [← rowTo_zero] at H2
        clear hi hz0 hz1 hz2 hCC hv0 hback hl1 hCE HBK hxa hltb
        go_upto_region 11 with fail
        clear x1
        go_region
        clear m0 m1 m2 q0 q1 q2 hcell hxa2 hfa hfrz hml
        have HLW := Lib.hid hl2
        clear hl2
        go_wp2_with fail
        go_loopg [47] (near N kk v).length (fun g i wx => ∃ t : Nat, t ≤ (near N kk v).length ∧ g = (near N kk v).length - t ∧ i = .int .i64 t ∧ Hid (HNet wo wx (setRow (jnK N kk v) v (rowTo N kk v t)) p (.slice (some ⟨b, 0, none⟩) N.ends.length d0) (.slice b1 N.ids.length d1) (.slice b2 N.inputs.length d2)))
        case atStart => exact ⟨0, Nat.zero_le _, rfl, rfl, H2.out⟩
        case round =>
          obtain ⟨t, ht, rfl, rfl, HI⟩ := hrel
          by_cases htl : t < (near N kk v).length
          case pos =>
            have hrt := rowTo_len (N := N) (k := kk) (v := v) (i := t) (by omega)
            have hgr : gr (setRow (jnK N kk v) v (rowTo N kk v t)).ends v = rowTo N kk v t := by rw [gr_setRow _ _ _ _ hkM, if_pos rfl]
            obtain ⟨b', c', q, d, hv1, hc1, ⟨t1, t2, t3, t4⟩, hput⟩ := HI.out.setE (u := v) (j := t) (by rw [setRow_len]; exact hkM) (by rw [hgr, hrt]; exact htl)
            rw [setRow_len, jnK_len] at hv1
            obtain ⟨rfl, rfl⟩ : b = b' ∧ d0 = c' := by simpa using hv1
            rw [hgr, hrt] at hc1
            have hnr := near_range N kk v t htl
            obtain ⟨x, hx⟩ := Int.eq_ofNat_of_zero_le hnr.1
            have hxn : x < N.ends.length := by omega
            have hxm : (x : Int) ∈ near N kk v := by rw [← hx]; exact gi_in htl
            have hvm := near_symm HG.out hvn hxm
            have hpr := pix_range hvm
            have hlx := near_len N kk x
            have HFP := Lib.hid (fun (r : Int) (h : FirstAt (near N kk x) (v : Int) r) => first_pix hvm h)
            obtain ⟨xa, xc, hx1, hx2⟩ := HAT.out x hxn
            have HLX := Lib.hid (hx2.ext HI.out.ext)
            have c3 := HI.out.ext.cell' hx1
            obtain ⟨la', lb, lo, lc', e, ha, hl, hm, hcn⟩ := HLW.out.ext HI.out.ext
            simp only [Value.slice.injEq] at e
            obtain ⟨rfl, -, rfl⟩ := e
            obtain rfl := ha (by omega)
            unfold maxLen at hm
            obtain ⟨_, s1, rfl, -⟩ := hcn t htl
            rw [hx] at s1
            obtain ⟨m0, m1, m2, -, -, -⟩ := row3_facts HI.out.box
            have H4 := Lib.hid (hput ((x : Int), pix N kk v x) (by unfold inI64; omega) (by unfold inI64; omega))
            have HNX := Lib.hid (show setEnd (setRow (jnK N kk v) v (rowTo N kk v t)) v t ((x : Int), pix N kk v x) = setRow (jnK N kk v) v (rowTo N kk v (t + 1)) by
              rw [setEnd_rowP hkM, ← rowTo_set htl, (powRow_at htl).1, (powRow_at htl).2, hx, Int.toNat_natCast])
            have mkS : ∀ w' : World, Ext wr w' → w'.cell? ⟨p, 0, none⟩ = some (.slice (some ⟨b, 0, none⟩) N.ends.length d0) ∧ w'.cell? ⟨b, v, none⟩ = some (.slice (some ⟨q, 0, none⟩) (near N kk v).length d) ∧ w'.cell? ⟨nb, x, none⟩ = some (.slice xa (near N kk x).length xc) := fun w' h => ⟨h.cell' m0, h.cell' hc1, h.cell' c3⟩
            clear hv1 hgr hput hx hx1 hx2 ha hcn hnr hxm hvm m1 m2
            obtain ⟨pv, hpv⟩ : ∃ pv, pv = pix N kk v x := ⟨_, rfl⟩
            rw [← hpv] at hpr HFP H4 HNX
            clear hpv
            go_wp2_with fail
            clear s1 m0 hc1 c3
            refine wp_region_gate (n := 15) (S := fun w' => w'.cell? ⟨p, 0, none⟩ = some (.slice (some ⟨b, 0, none⟩) N.ends.length d0) ∧ w'.cell? ⟨b, v, none⟩ = some (.slice (some ⟨q, 0, none⟩) (near N kk v).length d) ∧ w'.cell? ⟨nb, x, none⟩ = some (.slice xa (near N kk x).length xc)) (by kernel_rfl) (mkS _ (Ext.rfl' wr).drew') (fun hHeld => ?_)
            refine wpAnyG_take (i := 0) (v := ?_) rfl (by decide +kernel) (by kernel_rfl) (by decide) (by kernel_rfl) (by kernel_rfl) (fun _ _ _ h => h) (Or.inl ⟨by kernel_rfl, ?_⟩) hHeld ?_
            rotate_left 1
            · (intro w' hSw; (try dsimp only at hSw); go_simp) <;> with_reducible rfl
            simp only [Act.put]
            refine wpAnyG_take (i := 1) (v := ?_) rfl (by decide +kernel) (by kernel_rfl) (by decide) (by kernel_rfl) (by kernel_rfl) (fun _ _ _ h => h) (Or.inl ⟨by kernel_rfl, ?_⟩) hHeld ?_
            rotate_left 1
            · (intro w' hSw; (try dsimp only at hSw); go_simp) <;> with_reducible rfl
            simp only [Act.put]
            refine wpAnyG_take (i := 2) (v := ?_) rfl (by decide +kernel) (by kernel_rfl) (by decide) (by kernel_rfl) (by kernel_rfl) (fun _ _ _ h => h) (Or.inl ⟨by kernel_rfl, ?_⟩) hHeld ?_
            rotate_left 1
            · (intro w' hSw; (try dsimp only at hSw); go_simp) <;> with_reducible rfl
            simp only [Act.put]
            refine wpAnyG_take (i := 3) (v := ?_) rfl (by decide +kernel) (by kernel_rfl) (by decide) (by kernel_rfl) (by kernel_rfl) (fun _ _ _ h => h) (Or.inl ⟨by kernel_rfl, ?_⟩) hHeld ?_
            rotate_left 1
            · (intro w' hSw; (try dsimp only at hSw); go_simp) <;> with_reducible rfl
            simp only [Act.put]
            refine wpAnyG_take (i := 4) (v := ?_) rfl (by decide +kernel) (by kernel_rfl) (by decide) (by kernel_rfl) (by kernel_rfl) (fun _ _ _ h => h) (Or.inl ⟨by kernel_rfl, ?_⟩) hHeld ?_
            rotate_left 1
            · (intro w' hSw; (try dsimp only at hSw); go_simp) <;> with_reducible rfl
            simp only [Act.put]
            refine wpAnyG_take (i := 5) (v := ?_) rfl (by decide +kernel) (by kernel_rfl) (by decide) (by kernel_rfl) (by kernel_rfl) (fun _ _ _ h => h) (Or.inl ⟨by kernel_rfl, ?_⟩) hHeld ?_
            rotate_left 1
            · (intro w' hSw; (try dsimp only at hSw); go_simp) <;> with_reducible rfl
            simp only [Act.put]
            refine wpAnyG_take (i := 6) (v := ?_) rfl (by decide +kernel) (by kernel_rfl) (by decide) (by kernel_rfl) (by kernel_rfl) (fun _ _ _ h => h) (Or.inl ⟨by kernel_rfl, ?_⟩) hHeld ?_
            rotate_left 1
            · (intro w' hSw; (try dsimp only at hSw); go_simp) <;> with_reducible rfl
            simp only [Act.put]
            refine wpAnyG_take (i := 7) (v := ?_) rfl (by decide +kernel) (by kernel_rfl) (by decide) (by kernel_rfl) (by kernel_rfl) (fun _ _ _ h => h) (Or.inl ⟨by kernel_rfl, ?_⟩) hHeld ?_
            rotate_left 1
            · (intro w' hSw; (try dsimp only at hSw); go_simp) <;> with_reducible rfl
            simp only [Act.put]
            refine wpAnyG_take (i := 8) (v := ?_) rfl (by decide +kernel) (by kernel_rfl) (by decide) (by kernel_rfl) (by kernel_rfl) (fun _ _ _ h => h) (Or.inl ⟨by kernel_rfl, ?_⟩) hHeld ?_
            rotate_left 1
            · (intro w' hSw; (try dsimp only at hSw); go_simp) <;> with_reducible rfl
            simp only [Act.put]
            refine wpAnyG_take (i := 9) (v := ?_) rfl (by decide +kernel) (by kernel_rfl) (by decide) (by kernel_rfl) (by kernel_rfl) (fun _ _ _ h => h) (Or.inl ⟨by kernel_rfl, ?_⟩) hHeld ?_
            rotate_left 1
            · (intro w' hSw; (try dsimp only at hSw); go_simp) <;> with_reducible rfl
            simp only [Act.put]
            refine wpAnyG_take (i := 10) (v := ?_) rfl (by decide +kernel) (by kernel_rfl) (by decide) (by kernel_rfl) (by kernel_rfl) (fun _ _ _ h => h) (Or.inl ⟨by kernel_rfl, ?_⟩) hHeld ?_
            rotate_left 1
            · (intro w' hSw; (try dsimp only at hSw); go_simp) <;> with_reducible rfl
            simp only [Act.put]
            refine wpAnyG_take (i := 11) (v := ?_) rfl (by decide +kernel) (by kernel_rfl) (by decide) (by kernel_rfl) (by kernel_rfl) (fun _ _ _ h => h) (Or.inl ⟨by kernel_rfl, ?_⟩) hHeld ?_
            rotate_left 1
            · (intro w' hSw; (try dsimp only at hSw); go_simp) <;> with_reducible rfl
            simp only [Act.put]
            refine wpAnyG_one (i := 12) rfl (by kernel_rfl) rfl (fun K hK => ?_)
            go_simp
            (with_reducible refine (index_any (v : Int) (HLX.out.ext (Ext.rfl' wr).drew')).mono ?_)
            rintro e _ ⟨r, rfl, rfl, hfa⟩
            obtain rfl := HFP.out r hfa
            clear hfa
            refine hK.out _ _ (fun _ => hHeld) (fun _ => ?_)
            clear hK K
            refine wpAnyG_one (i := 13) rfl (by kernel_rfl) rfl (fun K hK => ?_)
            go_simp
            refine hK.out _ _ (fun _ => hHeld) (fun _ => ?_)
            clear hK K
            refine wpAnyG_one (i := 14) rfl (by kernel_rfl) rfl (fun K hK => ?_)
            go_simp
            refine hK.out _ _ (fun _ => hHeld) (fun _ => ?_)
            clear hK K
            refine wpAnyG_one (i := 15) rfl (by kernel_rfl) rfl (fun K hK => ?_)
            go_simp
            refine hK.out _ _ (fun h => absurd rfl h) (fun _ => ?_)
            clear hK K
            refine wpAnyG_done (by kernel_rfl) ?_ _
            clear hHeld mkS t1 t2 t3 t4
            go_wp2
            go_roundg ((near N kk v).length - (t + 1))
            case measure => omega
            case rel => exact ⟨t + 1, by omega, rfl, by go_num, by rw [← HNX.out]; first | exact H4.out | exact H4.out.mono (Ext.rfl' _).drew' | exact (H4.out.mono (Ext.rfl' _).drew').mono (Ext.rfl' _).drew'⟩
          obtain rfl : t = (near N kk v).length := by omega
          have HNV := Lib.hid (jnK_next (k := kk) hvn)
          have HI2 := Lib.hid (show HNet wo wr (jnK N kk (v + 1)) p (.slice (some ⟨b, 0, none⟩) N.ends.length d0) (.slice b1 N.ids.length d1) (.slice b2 N.inputs.length d2) by rw [← HNV.out, ← rowTo_all]; exact HI.out)
          go_wp2
          go_roundg (N.ends.length - (v + 1))
          case measure => omega
          case rel => exact ⟨v + 1, by omega, rfl, by go_num, HI2.out⟩
      obtain rfl : v = N.ends.length := by omega
      have HF := Lib.hid (show HNet wo wr (pow N kk) p (.slice b0 N.ends.length d0) (.slice b1 N.ids.length d1) (.slice b2 N.inputs.length d2) by rw [← jnK_all]; exact HM.out)
      obtain ⟨bs2, ho, hn2, hge⟩ := HF.out.net
      have O4 := Lib.hid ho
      have XQ := Lib.hid (HT.out.ext.trans' HF.out.ext)
      have E4 := Lib.hid (EW.out.trans' XQ.out)
      have S4 := Lib.hid (show ∀ y ∈ bs2, w.heap.size ≤ y ∧ y ≠ w.heap.size + 1 from fun y hy => by have := (hge y hy).1; have := ZW.out; have := HT.out.ext.size; omega)
      obtain ⟨r0, r1, r2, -, -, -⟩ := row3_facts HF.out.box
      obtain ⟨s0, s1, s2, t0, t1, t2⟩ := row3_facts (row_ext RQ.out XQ.out)
      clear ho hge
      go_wp2
      have hc := close_at E4.out (show w.heap.size ≤ w.heap.size + 1 by omega) O4.out hn2 S4.out
      refine bodyPost_ret (v := .agg #[.slice b0 N.ends.length d0, .slice b1 N.ids.length d1, .slice b2 N.inputs.length d2]) (by simp [results, Try.results118, go_sem, s0, s1, s2]) rfl ⟨_, bs2, rfl, hc.1, hc.2.1, hc.2.2⟩
end Go.Proofs.Ytkeiaahlifdbiaa
