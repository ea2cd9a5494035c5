/- The contract of neRenumber: a copy of the network whose rows, inputs and identifiers are written over. -/
import Derived.Test.YtndgbildkeglfaaMix
import Derived.Test.YtndgbildkeglfaaSnoc
import Derived.RegionTactic
namespace Go.Proofs.Ytndgbildkeglfaa
open Go.RowKit

theorem renRow_snoc {N : Net} {l : List Int} {k j en ep : Nat} (hj : j < (gr N.ends k).length) (hen : gn (gr N.ends k) j = en) (hep : gp (gr N.ends k) j = ep) :
    endCells ((renRow l (gr N.ends k)).take j) ++ [.int .i64 (gi l en), .int .i64 ep] = endCells ((renRow l (gr N.ends k)).take (j + 1)) := by
  have h := ends_snoc (renRow l (gr N.ends k)) j (by rw [length_renRow]; exact hj)
  rw [gn_renRow _ _ _ hj, gp_renRow _ _ _ hj, hen, hep, Int.toNat_natCast] at h
  exact h

set_option maxHeartbeats 3200000 in
set_option maxRecDepth 100000 in
theorem neRenumber_any {w : World} {v u : Value} {N : Net} {l : List Int} (h : NetAt w v N) (hL : IntSl w u l) (hg : Good N) (hp : PermOK l N.ends.length) :
    Calls Try.prog 97 #[v, u] w fun e w' => ∃ v' bs, e = .returned v' ∧ Ext w w' ∧ OwnNet w' v' (renNet N l) bs ∧ Fresh w bs := by
  have HN := Lib.hid h
  have HLr := Lib.hid hL.range
  have GG := Lib.hid hg
  have PP := Lib.hid hp
  have GS := Lib.hid (good_small hg)
  obtain ⟨v0, v1, v2, rfl, hE, hI, hP⟩ := h
  have HIr := Lib.hid hI.range
  have HPr := Lib.hid hP.range
  obtain ⟨da, db, dq, dc, rfl, hda, hdl, hdm, hdc⟩ := hI
  obtain ⟨ia, ib, iq, ic, rfl, hia, hil, him, hic⟩ := hP
  obtain ⟨ea, eb, eq, ec, rfl, hea, hel, hem, hec⟩ := hE
  obtain ⟨la, lb, lq, lc, rfl, hla, hll, hlm, hlc⟩ := hL
  unfold maxLen at hdm him hem hlm
  have h1 : 1 ≤ N.ends.length := hg.1.1
  have h40 : N.ends.length ≤ 40 := hg.1.2
  have HPL := Lib.hid hp.1
  have HIN : Hid (N.inputs.length = N.ends.length) := by have := hg.2.2.2.1; show N.inputs.length = N.ends.length; omega
  have hid : N.ids.length = 0 ∨ N.ids.length = N.ends.length := by have := hg.2.2.1.1; omega
  obtain rfl := hia (by have := HIN.out; omega)
  obtain rfl := hea (by omega)
  obtain rfl := hla (by have := HPL.out; omega)
  have Hdc := Lib.hid hdc
  have Hda := Lib.hid hda
  have Hic := Lib.hid hic
  have Hec := Lib.hid hec
  have Hlc := Lib.hid hlc
  have HID := Lib.hid hid
  clear hdc hda hic hec hlc hia hea hla hg hp hid
  obtain ⟨i44, hj, hy0, hy1, hy2⟩ := info_parts Try.info44
  have I44 := Lib.hid (And.intro hj (And.intro hy0 (And.intro hy1 hy2)))
  clear hj hy0 hy1 hy2
  have HX := Lib.hid (boxed2_ext w (.slice (some ⟨eb, eq, none⟩) N.ends.length ec) (.slice da N.ids.length dc) (.slice (some ⟨ib, iq, none⟩) N.inputs.length ic))
  have HR := Lib.hid (boxed2_row w (.slice (some ⟨eb, eq, none⟩) N.ends.length ec) (.slice da N.ids.length dc) (.slice (some ⟨ib, iq, none⟩) N.inputs.length ic))
  have HQ := Lib.hid (boxed2_res w (.slice (some ⟨eb, eq, none⟩) N.ends.length ec) (.slice da N.ids.length dc) (.slice (some ⟨ib, iq, none⟩) N.inputs.length ic))
  go_enter Try.func97, Try.ntmps97
  go_wp2_with fail
  (with_reducible refine (neOwn_any (HN.out.ext HX.out) GS.out).mono ?_)
  rintro e w1 ⟨y, bs, rfl, hw, ho, hf⟩
  generalize (boxed w (.slice (some ⟨eb, eq, none⟩) N.ends.length ec) (.slice da N.ids.length dc) (.slice (some ⟨ib, iq, none⟩) N.inputs.length ic) 30).alloc (.cells #[.slice none 0 0, .slice none 0 0, .slice none 0 0] 30) = W0 at HX HR HQ hw hf
  obtain ⟨a0, c0, a1, c1, a2, c2, rfl⟩ := ho.agg
  obtain ⟨b0, _, _, _, hv0, -⟩ := ho.focus hf.1 (k := 0) (by omega)
  obtain rfl : a0 = some ⟨b0, 0, none⟩ := by simp at hv0; exact hv0.1
  obtain ⟨b2, _, hv2, -⟩ := ho.putInput hf.1 (k := 0) (by have := HIN.out; omega)
  obtain rfl : a2 = some ⟨b2, 0, none⟩ := by simp at hv2; exact hv2.1
  have A1 : Hid (0 < N.ids.length → ∃ b, a1 = some ⟨b, 0, none⟩) := fun hd => by
    obtain ⟨b, _, hv1, -⟩ := ho.putId hf.1 (k := 0) hd
    exact ⟨b, by simp at hv1; exact hv1.1⟩
  have hXA := hw.trans' ((Ext.rfl' w1).alloc' (.cells #[.slice (some ⟨b0, 0, none⟩) N.ends.length c0, .slice a1 N.ids.length c1, .slice (some ⟨b2, 0, none⟩) N.inputs.length c2] 30))
  have M := Lib.hid (show Mixed W0 (w1.alloc (.cells #[.slice (some ⟨b0, 0, none⟩) N.ends.length c0, .slice a1 N.ids.length c1, .slice (some ⟨b2, 0, none⟩) N.inputs.length c2] 30)) N l 0 0 0 w1.heap.size (.slice (some ⟨b0, 0, none⟩) N.ends.length c0) (.slice a1 N.ids.length c1) (.slice (some ⟨b2, 0, none⟩) N.inputs.length c2) bs from
    ⟨hXA, hw.size, row3_made w1 _ _ _ _, by rw [mixNet_zero l HIN.out HID.out]; exact ho.ext ((Ext.rfl' _).alloc' _), hf.1, fun b hb => ⟨hf.2 b hb, by have := ho.lt b hb; omega⟩⟩)
  obtain ⟨q0, q1, q2, -, -, -⟩ := row3_facts (row_ext HR.out hXA)
  have hZ := HQ.out.lt
  clear hv0 hv2 hw ho hf hXA
  go_wp2_with fail
  clear q0 q1 q2
  go_loopg [16] N.ends.length (fun g i wr => ∃ k : Nat, k ≤ N.ends.length ∧ g = N.ends.length - k ∧ i = .int .i64 k ∧ Hid (∃ bs, Mixed W0 wr N l k k k w1.heap.size (.slice (some ⟨b0, 0, none⟩) N.ends.length c0) (.slice a1 N.ids.length c1) (.slice (some ⟨b2, 0, none⟩) N.inputs.length c2) bs))
  case atStart => exact ⟨0, Nat.zero_le _, rfl, rfl, bs, M.out⟩
  case round =>
    obtain ⟨k, hk, rfl, rfl, Hr⟩ := hrel
    by_cases hlt : k < N.ends.length
    · obtain ⟨x, hx, hrow⟩ := Hec.out k hlt
      obtain ⟨cs, hm0⟩ := Hr.out
      have M0 := Lib.hid hm0
      have EX := Lib.hid (HX.out.trans' hm0.ext)
      have hcell := EX.out.cell' hx
      obtain ⟨ax, bx, ox, cx, rfl, hax, hlx, hmx, hcx⟩ := hrow
      unfold maxLen at hmx
      have Hcx := Lib.hid hcx
      have Hax := Lib.hid hax
      have h6 := (GG.out.2.1 k hlt).1
      have hsl := Lib.hid (length_renRow l (gr N.ends k))
      obtain ⟨c, hc, hcn⟩ := perm_range PP.out hlt
      have HC := Lib.hid hc
      clear hx hm0 hcx hax hc
      go_wp2
      have hw0 : ∃ wo : World, wo = wr := ⟨_, rfl⟩
      obtain ⟨wo, rfl⟩ := hw0
      clear hcell
      go_loopg [8, 23] (gr N.ends k).length (fun g s i wx => ∃ j : Nat, j ≤ (gr N.ends k).length ∧ g = (gr N.ends k).length - j ∧ i = .int .i64 j ∧ Hid (Ext wo wx ∧ wx.ownsRow wo.heap.size 44 2 s j (endCells ((renRow l (gr N.ends k)).take j))))
      case atStart => exact ⟨0, Nat.zero_le _, rfl, rfl, Ext.rfl' _, by simpa [endCells] using World.ownsRow_nil wo wo.heap.size 44 2⟩
      case round =>
        obtain ⟨j, hj, rfl, rfl, Hs⟩ := hrel
        by_cases hjt : j < (gr N.ends k).length
        · obtain ⟨hq1, hq2, _⟩ := Hcx.out j hjt
          obtain rfl := Hax.out (by omega)
          obtain ⟨⟨g1, g2, g3, g4⟩, _⟩ := (GG.out.2.1 k hlt).2 j hjt
          obtain ⟨en, hen⟩ := Int.eq_ofNat_of_zero_le g1
          obtain ⟨ep, hep⟩ := Int.eq_ofNat_of_zero_le g3
          rw [hen] at hq1 g2 g4
          rw [hep] at hq2 g4
          have g2' : en < N.ends.length := by omega
          have q1 := Hs.out.1.cell' (EX.out.cell' hq1)
          have q2 := Hs.out.1.cell' (EX.out.cell' hq2)
          obtain ⟨_, hlq, rfl, _⟩ := Hlc.out en (by have := HPL.out; omega)
          have q3 := ((Hs.out.1.trans' ((Ext.rfl' wr).alloc' (.cells #[.int .i64 en, .int .i64 ep] 44)))).cell' (EX.out.cell' hlq)
          have HSN := Lib.hid (renRow_snoc (l := l) hjt hen hep)
          have hzo := Lib.hid Hs.out.1.size
          have hel : en < l.length := by have := HPL.out; omega
          have q4 : (wr.alloc (.cells #[.int .i64 en, .int .i64 ep] 44)).cell? ⟨wr.heap.size, 0, none⟩ = some (.int .i64 en) := by simp
          have q5 : (wr.alloc (.cells #[.int .i64 en, .int .i64 ep] 44)).cell? ⟨wr.heap.size, 1, none⟩ = some (.int .i64 ep) := by simp
          clear hq1 hq2 hlq g1 g2 g3 g4 hen hep
          go_wp2_with fail
          go_region_law (first
            | (refine step_app rfl (.tmp 27) (.tmp 36) 70 rfl wo.heap.size 44 i44 (.agg #[.int .i64 0, .int .i64 0]) 2 16 Try.underlying70 I44.out.1 I44.out.2.1 I44.out.2.2.1 I44.out.2.2.2 rfl (by decide) u8 j (endCells ((renRow l (gr N.ends k)).take j)) rfl (owns_ext Hs.out.2 (by first | exact ((Ext.rfl' wr).alloc' _).drew'.alloc' _ | exact (((Ext.rfl' wr).alloc' _).alloc' _).drew')) (some ⟨wr.heap.size + 1, 0, none⟩) 1 1 [.int .i64 (gi l en), .int .i64 ep] rfl (by first | exact (by simpa using src_two' (wr.alloc (.cells #[.int .i64 en, .int .i64 ep] 44)) (.int .i64 (gi l en)) (.int .i64 ep) 44 rfl rfl) | exact src_drew (by simpa using src_two' (wr.alloc (.cells #[.int .i64 en, .int .i64 ep] 44)) (.int .i64 (gi l en)) (.int .i64 ep) 44 rfl rfl) | exact (by simpa using src_two' (wr.alloc (.cells #[.int .i64 en, .int .i64 ep] 44)).drew (.int .i64 (gi l en)) (.int .i64 ep) 44 rfl rfl)) (by unfold maxLen; omega) (by omega) (by have := hzo.out; (try simp); omega) ?_
               intro v' w4 hg
               have G4 : Hid (Ext wo w4 ∧ w4.ownsRow wo.heap.size 44 2 v' (j + 1) (endCells ((renRow l (gr N.ends k)).take (j + 1)))) := ⟨hg.ext (by first | exact (Hs.out.1.alloc' _).drew'.alloc' _ | exact ((Hs.out.1.alloc' _).alloc' _).drew') (fun b hb => (Hs.out.2.lt b hb).1), by rw [← HSN.out]; exact hg.1⟩
               clear hg)
            | fail)
          all_goals clear q1 q2 q3 q4 q5
          all_goals go_wp2
          all_goals go_roundg ((gr N.ends k).length - (j + 1))
          all_goals first | omega | exact ⟨j + 1, by omega, rfl, by go_num, G4.out⟩
        · obtain rfl : j = (gr N.ends k).length := by omega
          have hown := Hs.out.2
          rw [List.take_of_length_le (by rw [hsl.out]; exact Nat.le_refl _)] at hown
          obtain ⟨fs, ho, hnd, hge⟩ := end_own_of_row (l := renRow l (gr N.ends k)) (by rw [hsl.out]; exact hown) (fun i hi => endCells_get _ i hi) (renRow_range GG.out hlt HPL.out HLr.out)
          obtain ⟨oa, oc, rfl⟩ := ho.1.slice
          obtain ⟨b, q, x, hv, hb1, hb2, hb3, hx, hf, hback⟩ := M0.out.stepE PP.out hlt HC.out
          simp only [Value.slice.injEq, Option.some.injEq, Addr.mk.injEq, true_and, and_true] at hv
          obtain ⟨rfl, rfl⟩ := hv
          obtain ⟨ds, hm1⟩ := hback wr _ fs Hs.out.1 ho hge
          have M1 := Lib.hid (hm1.mono (Ext.rfl' _).drew')
          obtain ⟨p0, p1, p2, -, -, -⟩ := row3_facts (row_ext M0.out.box Hs.out.1)
          obtain ⟨_, hlq, rfl, _⟩ := Hlc.out k (by have := HPL.out; omega)
          rw [HC.out] at hlq
          obtain ⟨_, hip, rfl, _⟩ := Hic.out k (by have := HIN.out; omega)
          have q3 := Hs.out.1.cell' (EX.out.cell' hlq)
          have q4 := Hs.out.1.cell' hx
          have q5 : wr.frozen? ⟨b0, c, none⟩ = false := by rw [World.frozen?_of_block (Hs.out.1.block b0 hb3)]; exact hf
          have hkl : k < l.length := by have := HPL.out; omega
          have hki : k < N.inputs.length := by have := HIN.out; omega
          have hci : c < N.inputs.length := by have := HIN.out; omega
          have HLQ := Lib.hid hlq
          have HIP := Lib.hid hip
          clear hown ho hnd hge hback hm1 hlq hip hx hf
          go_upto_region 11 with fail
          go_region
          clear p0 p1 p2 q3 q4 q5
          revert M1
          generalize (wr.setCell ⟨b0, c, none⟩ (.slice oa (renRow l (gr N.ends k)).length oc)).drew = W2
          intro M1
          obtain ⟨b, q, x, hv, hb4, hb5, q4, q5, hm2⟩ := M1.out.stepI PP.out hlt HC.out (HPr.out k hki)
          simp only [Value.slice.injEq, Option.some.injEq, Addr.mk.injEq, and_true] at hv
          obtain ⟨rfl, -, rfl⟩ := hv
          have M2 := Lib.hid (hm2.mono (Ext.rfl' _).drew')
          have q3 := (HX.out.trans' M1.out.ext).cell' HLQ.out
          have q6 := (HX.out.trans' M1.out.ext).cell' HIP.out
          obtain ⟨p0, p1, p2, -, -, -⟩ := row3_facts M1.out.box
          obtain ⟨s0, s1, s2, -, -, -⟩ := row3_facts (row_ext HR.out M1.out.ext)
          clear hm2
          go_upto_region 12 with fail
          go_region
          clear p0 p1 p2 q3 q4 q5 q6 s0 s1 s2
          revert M2
          generalize (W2.setCell ⟨b2, c, none⟩ (.int .i64 (gi N.inputs k))).drew = W3
          intro M2
          obtain ⟨s0, s1, s2, -, -, -⟩ := row3_facts (row_ext HR.out M2.out.ext)
          by_cases hd : N.ids.length = 0
          · have hdn : decide (0 < N.ids.length) = false := decide_eq_false (by omega)
            have M3 := Lib.hid (M2.out.skipD hd)
            clear hd
            go_wp2
            go_roundg (N.ends.length - (k + 1))
            case measure => omega
            case rel => exact ⟨k + 1, by omega, rfl, by go_num, _, M3.out⟩
          · have hdn : decide (0 < N.ids.length) = true := decide_eq_true (by omega)
            have hdl : N.ids.length = N.ends.length := HID.out.resolve_left hd
            have hkd : k < N.ids.length := by omega
            have hcd : c < N.ids.length := by omega
            obtain ⟨d, rfl⟩ := A1.out (by omega)
            obtain rfl := Hda.out (by omega)
            obtain ⟨_, hdp, rfl, _⟩ := Hdc.out k hkd
            obtain ⟨b, q, x, hv, hb6, hb7, q4, q5, hm3⟩ := M2.out.stepD PP.out hlt HC.out (by omega) (HIr.out k hkd)
            simp only [Value.slice.injEq, Option.some.injEq, Addr.mk.injEq, and_true] at hv
            obtain ⟨rfl, -, rfl⟩ := hv
            have M3 := Lib.hid (hm3.mono (Ext.rfl' _).drew')
            have q3 := (HX.out.trans' M2.out.ext).cell' HLQ.out
            have q6 := (HX.out.trans' M2.out.ext).cell' hdp
            obtain ⟨p0, p1, p2, -, -, -⟩ := row3_facts M2.out.box
            clear hm3 hdp hdl hd
            go_upto_region 14 with fail
            go_region
            clear p0 p1 p2 q3 q4 q5 q6 s0 s1 s2
            go_wp2
            go_roundg (N.ends.length - (k + 1))
            case measure => omega
            case rel => exact ⟨k + 1, by omega, rfl, by go_num, _, M3.out⟩
    · obtain rfl : k = N.ends.length := by omega
      obtain ⟨cs, hm⟩ := Hr.out
      have K := Lib.hid (HX.out.trans' hm.ext)
      have O := Lib.hid (show OwnNet _ _ (renNet N l) cs by rw [← mixNet_all PP.out]; exact hm.own)
      have HB := Lib.hid (show ∀ b ∈ cs, w.heap.size + 2 ≤ b from fun b hb => by have := (hm.ge b hb).1; omega)
      have HND := Lib.hid hm.nodup
      obtain ⟨p0, p1, p2, -, -, -⟩ := row3_facts hm.box
      obtain ⟨s0, s1, s2, t0, t1, t2⟩ := row3_facts (row_ext HQ.out hm.ext)
      clear hm
      go_wp2
      refine bodyPost_ret (v := .agg #[.slice (some ⟨b0, 0, none⟩) N.ends.length c0, .slice a1 N.ids.length c1, .slice (some ⟨b2, 0, none⟩) N.inputs.length c2]) (by simp [results, Try.results97, go_sem, s0, s1, s2]) rfl ?_
      have hc := close_net K.out O.out HND.out HB.out
      exact ⟨_, cs, rfl, hc.1, hc.2.1, hc.2.2⟩
end Go.Proofs.Ytndgbildkeglfaa
