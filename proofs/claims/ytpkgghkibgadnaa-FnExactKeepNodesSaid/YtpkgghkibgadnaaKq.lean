/- The contract of the model's neKeep. -/
import Derived.Test.YtpkgghkibgadnaaKt
import Derived.Test.YtpkgghkibgadnaaNeCut
namespace Go.Proofs.Ytpkgghkibgadnaa
open Go.RowKit

theorem own_nilE (w : World) : OwnE w (.slice none 0 0) [] [] := ⟨⟨0, by simp, by unfold maxLen; omega, .inl ⟨rfl, rfl, none, ⟨rfl, rfl⟩, rfl⟩⟩, fun i hi => by simp at hi⟩

set_option maxHeartbeats 6400000 in
set_option maxRecDepth 100000 in
theorem neKeep_any {w : World} {v vl : Value} {N : Net} {l : List Int} (h : NetAt w v N) (hl : IntSl w vl l) (hg : Good N) (hinc : Inc l 0 ((N.ends.length : Int) - 1)) :
    Calls Try.prog 27 #[v, vl] w fun e w' => ∃ v' bs, e = .returned v' ∧ Ext w w' ∧ OwnNet w' v' (keepNet N l) bs ∧ Fresh w bs := by
  have GG := Lib.hid hg
  have HINC := Lib.hid hinc
  have HN := Lib.hid h
  have HL := Lib.hid hl
  have h40 := hg.1.2
  have h01 := hg.1.1
  have hl40 := inc_len hinc
  clear hg hinc
  obtain ⟨v0, v1, v2, rfl, hE, hI, hP⟩ := h
  obtain ⟨ea, eb, eo, ec, rfl, hea, hel, hem, hec⟩ := hE
  obtain ⟨ia, ib, io, ic, rfl, hia, hil, him, hic⟩ := hI
  obtain ⟨pa, pb, po, pc, rfl, hpa, hpl, hpm, hpc⟩ := hP
  obtain ⟨la, lb, lo, lc, rfl, hla, hll, hlm, hlc⟩ := hl
  unfold maxLen at hem him hpm hlm
  obtain rfl := hea (by omega)
  have HEC := Lib.hid hec
  have HIA := Lib.hid hia
  have HIC := Lib.hid hic
  have HPA := Lib.hid hpa
  have HPC := Lib.hid hpc
  have HLA := Lib.hid hla
  have HLC := Lib.hid hlc
  clear hea hec hia hic hpa hpc hla hlc
  have HX := Lib.hid (boxed2_ext w (.slice (some ⟨eb, eo, none⟩) N.ends.length ec) (.slice ia N.ids.length ic) (.slice pa N.inputs.length pc))
  have HR := Lib.hid (boxed2_row w (.slice (some ⟨eb, eo, none⟩) N.ends.length ec) (.slice ia N.ids.length ic) (.slice pa N.inputs.length pc))
  have HQ := Lib.hid (boxed2_res w (.slice (some ⟨eb, eo, none⟩) N.ends.length ec) (.slice ia N.ids.length ic) (.slice pa N.inputs.length pc))
  obtain ⟨p0, p1, p2, -, -, -⟩ := row3_facts HR.out
  go_enter Try.func27, Try.ntmps27
  go_wp2_with fail
  (with_reducible refine (neAll_any (HN.out.ext HX.out) GG.out).mono ?_)
  rintro e w1 ⟨vk, q, rfl, hA⟩
  obtain ⟨W0, hW0⟩ : ∃ W0, W0 = (boxed w (.slice (some ⟨eb, eo, none⟩) N.ends.length ec) (.slice ia N.ids.length ic) (.slice pa N.inputs.length pc) 29).alloc (.cells #[.slice none 0 0, .slice none 0 0, .slice none 0 0] 29) := ⟨_, rfl⟩
  have hA' : AllAt W0 w1 N N.ends.length vk q := by rw [hW0]; exact hA
  rw [← hW0] at HX HR HQ
  clear hA hW0 p0 p1 p2
  have HGE := Lib.hid (show ∀ u, u < N.ends.length → W0.heap.size ≤ q u from hA'.ge)
  have KA := Lib.hid hA'.keeps
  have K1 := Lib.hid hA'.ext
  obtain ⟨kb, kc, rfl, hkl, hkm, -⟩ := hA'.keeps.form h01
  unfold maxLen at hkm
  obtain ⟨p0, p1, p2, -, -, -⟩ := row3_facts (row_ext HR.out K1.out)
  clear hA' p1 p2
  go_wp2_with fail
  clear p0
  go_loopg [25] N.ends.length (fun g i wr => ∃ k : Nat, k ≤ N.ends.length ∧ g = N.ends.length - k ∧ i = .int .i64 k ∧ Hid (Ext W0 wr ∧ KeepAt wr N W0.heap.size (.slice (some ⟨kb, 0, none⟩) N.ends.length kc) q (stTo N l k 0)))
  case atStart => exact ⟨0, Nat.zero_le _, rfl, rfl, K1.out, KA.out.congr fun u i _ _ => (stTo_start N l u i).symm⟩
  case round =>
    obtain ⟨k, hk, rfl, rfl, Hr⟩ := hrel
    by_cases hlt : k < N.ends.length
    · obtain ⟨_, hx, ra, rb, ro, rc, rfl, hra, hrl, hrm, hrc⟩ := HEC.out k hlt
      unfold maxLen at hrm
      have c0 := (HX.out.trans' Hr.out.1).cell' hx
      have HRA := Lib.hid hra
      have HRC := Lib.hid hrc
      have h6 := (GG.out.2.1 k hlt).1
      clear hx hra hrc
      go_wp2_with fail
      clear c0
      go_loopg [32] (gr N.ends k).length (fun g i wx => ∃ j : Nat, j ≤ (gr N.ends k).length ∧ g = (gr N.ends k).length - j ∧ i = .int .i64 j ∧ Hid (Ext W0 wx ∧ KeepAt wx N W0.heap.size (.slice (some ⟨kb, 0, none⟩) N.ends.length kc) q (stTo N l k j)))
      case atStart => exact ⟨0, Nat.zero_le _, rfl, rfl, Hr.out⟩
      case round =>
        obtain ⟨j, hj, rfl, rfl, Hs⟩ := hrel
        by_cases hjt : j < (gr N.ends k).length
        · obtain ⟨e1, e2, -⟩ := HRC.out j hjt
          obtain rfl := HRA.out (by omega)
          have EX := Lib.hid (HX.out.trans' Hs.out.1)
          have s1 := EX.out.cell' e1
          have s2 := EX.out.cell' e2
          obtain ⟨x, hxx⟩ : ∃ x, x = gn (gr N.ends k) j := ⟨_, rfl⟩
          obtain ⟨y, hyy⟩ : ∃ y, y = gp (gr N.ends k) j := ⟨_, rfl⟩
          rw [← hxx] at s1
          rw [← hyy] at s2
          have HXX := Lib.hid hxx
          clear e1 e2 hxx hyy
          obtain ⟨W2, hW2⟩ : ∃ W2, W2 = wr.alloc (.cells #[.int .i64 x, .int .i64 y] 52) := ⟨_, rfl⟩
          have E2 := Lib.hid (show Ext wr W2 by rw [hW2]; exact (Ext.rfl' _).alloc' _)
          have d0 : W2.cell? ⟨wr.heap.size, 0, none⟩ = some (.int .i64 x) := by rw [hW2]; simp
          have KS := Lib.hid (Hs.out.2.ext E2.out)
          obtain ⟨kb', kc', e', -, -, hkcell⟩ := KS.out.form h01
          obtain ⟨rfl, rfl⟩ : kb = kb' ∧ kc = kc' := by simpa using e'
          have d1 := hkcell k hlt
          have d2 := (KS.out.rows k hlt).cell hjt
          have d3 := (KS.out.rows k hlt).frozen j
          obtain ⟨b1, hb1⟩ : ∃ b, dec (Has l (k : Int)) = b := ⟨_, rfl⟩
          obtain ⟨b2, hb2⟩ : ∃ b, dec (Has l x) = b := ⟨_, rfl⟩
          obtain ⟨bb, hbb⟩ : ∃ b, b = (b1 && b2) := ⟨_, rfl⟩
          have HST := Lib.hid (show stK N l k j = bb by unfold stK; rw [hb1, ← HXX.out, hb2, hbb])
          have LR := Lib.hid (HL.out.ext (EX.out.trans' E2.out))
          have C1 := Lib.hid (hasStill (LR.out.ext (Ext.rfl' W2).drew') hb1)
          have C2 := Lib.hid (hasStill (LR.out.ext (Ext.rfl' W2).drew') hb2)
          have KP := Lib.hid (show KeepAt ((W2.drew).setCell ⟨q k, j, none⟩ (.bool bb)) N W0.heap.size (.slice (some ⟨kb, 0, none⟩) N.ends.length kc) q (stTo N l k (j + 1)) by
            refine ((KS.out.ext (Ext.rfl' W2).drew').put hlt (i := j) bb).congr fun u i hu hi => ?_
            rw [← HST.out]
            exact stTo_step N l k j u i)
          have EP := Lib.hid (show Ext W0 ((W2.drew).setCell ⟨q k, j, none⟩ (.bool bb)) from ((Hs.out.1.trans' E2.out).drew').store (HGE.out k hlt) _)
          clear hkcell e' hb1 hb2
          go_wp2_with fail
          rw [← hW2]
          clear hW2 s1 s2
          cases b1
          · obtain rfl : bb = false := by simpa using hbb
            clear hbb
            refine wp_region_still_tail 15 (by kernel_rfl) (by kernel_rfl) ?_
            simp only [List.take_succ_cons, List.take_zero, List.drop_succ_cons, List.drop_zero]
            iterate 7 still_step
            still_call C1.out
            iterate 7 still_step
            refine wpStill_nil ?_
            change wpList _ _ _ _ _ W2.drew
            have d2' := ((Ext.rfl' W2).drew').cell' d2
            have d3' : W2.drew.frozen? ⟨q k, j, none⟩ = false := by simpa using d3
            clear d0 d1 d2 d3 KS LR C1 C2 E2
            generalize W2.drew = W3 at *
            go_wp2
            go_roundg ((gr N.ends k).length - (j + 1))
            case measure => omega
            case rel => exact ⟨j + 1, by omega, rfl, by go_num, EP.out, KP.out⟩
          · obtain rfl : bb = b2 := by simpa using hbb
            clear hbb
            refine wp_region_still_tail 15 (by kernel_rfl) (by kernel_rfl) ?_
            simp only [List.take_succ_cons, List.take_zero, List.drop_succ_cons, List.drop_zero]
            iterate 7 still_step
            still_call C1.out
            iterate 4 still_step
            still_call C2.out
            iterate 2 still_step
            refine wpStill_nil ?_
            change wpList _ _ _ _ _ W2.drew
            have d2' := ((Ext.rfl' W2).drew').cell' d2
            have d3' : W2.drew.frozen? ⟨q k, j, none⟩ = false := by simpa using d3
            clear d0 d1 d2 d3 KS LR C1 C2 E2
            generalize W2.drew = W3 at *
            go_wp2
            go_roundg ((gr N.ends k).length - (j + 1))
            case measure => omega
            case rel => exact ⟨j + 1, by omega, rfl, by go_num, EP.out, KP.out⟩
        · obtain rfl : j = (gr N.ends k).length := by omega
          go_wp2
          go_roundg (N.ends.length - (k + 1))
          case measure => omega
          case rel => exact ⟨k + 1, by omega, rfl, by go_num, Hs.out.1, Hs.out.2.congr fun u i _ hi => stTo_row N l k hi⟩
    · obtain rfl : k = N.ends.length := by omega
      have HBS := Lib.hid ((Hr.out.2.reads GG.out).congr (g := stK N l) fun u i hu _ => stTo_end N l hu)
      obtain ⟨p0, p1, p2, -, -, -⟩ := row3_facts (row_ext HR.out Hr.out.1)
      go_wp2_with fail
      (with_reducible refine (neCut_any (HN.out.ext (HX.out.trans' Hr.out.1)) HBS.out GG.out).mono ?_)
      rintro e w2 ⟨vc, bc, rfl, hx, ho, -⟩
      obtain ⟨B0, D0, B1, D1, B2, D2, rfl⟩ := ho.agg
      have X2 := Lib.hid (Hr.out.1.trans' hx)
      have CN := Lib.hid ho.read
      clear hx ho p0 p1 p2
      obtain ⟨C, hC⟩ : ∃ C, C = cutNet N (stK N l) := ⟨_, rfl⟩
      rw [← hC] at CN ⊢
      have hCL : C.ends.length = N.ends.length := by rw [hC]; simp [cutNet]
      have HCL := Lib.hid hCL
      have HCR := Lib.hid (show ∀ v, v < N.ends.length → gr C.ends v = cutRow N (stK N l) v from fun v hv => by rw [hC]; simp [cutNet, gr, List.getD, hv])
      obtain ⟨_, _, _, e0, hCE, -, -⟩ := CN.out
      simp only [Value.agg.injEq, Array.mk.injEq, List.cons.injEq, and_true] at e0
      obtain ⟨rfl, rfl, rfl⟩ := e0
      obtain ⟨ca, cb, co, cd, e1, hca, hcl, hcm, hcc⟩ := hCE
      obtain ⟨rfl, rfl⟩ : B0 = ca ∧ D0 = cd := by simpa using e1
      unfold maxLen at hcm
      obtain rfl := hca (by omega)
      have HCC := Lib.hid hcc
      clear hCL hcc hca e1 hC
      have XA := Lib.hid ((Ext.rfl' w2).alloc' (.cells #[.slice (some ⟨cb, co, none⟩) C.ends.length D0, .slice B1 C.ids.length D1, .slice B2 C.inputs.length D2] 29))
      have RC := Lib.hid (row3_made w2 (.slice (some ⟨cb, co, none⟩) C.ends.length D0) (.slice B1 C.ids.length D1) (.slice B2 C.inputs.length D2) 29)
      obtain ⟨p0, p1, p2, -, -, -⟩ := row3_facts (row_ext HR.out (X2.out.trans' XA.out))
      have hmk := run_make_row' (P := Try.prog) 23 3 (.int .i64 0) 8 Try.underlying23 Try.info3 rfl .i64 .i64 N.ends.length (by omega) (by omega)
      have RT := Lib.hid (World.rowIs_made (w2.alloc (.cells #[.slice (some ⟨cb, co, none⟩) C.ends.length D0, .slice B1 C.ids.length D1, .slice B2 C.inputs.length D2] 29)) (.int .i64 0) N.ends.length 3)
      go_wp2_with fail
      clear p0 p1 p2 hmk
      go_loopg [63] l.length (fun g i wx => ∃ k : Nat, k ≤ l.length ∧ g = l.length - k ∧ i = .int .i64 k ∧ Hid (Ext w2 wx ∧ wx.rowIs w2.heap.size 29 3 (tri (.slice (some ⟨cb, co, none⟩) C.ends.length D0) (.slice B1 C.ids.length D1) (.slice B2 C.inputs.length D2)) ∧ wx.rowIs (w2.heap.size + 1) 3 N.ends.length (toRow l k)))
      case atStart =>
        refine ⟨0, Nat.zero_le _, rfl, rfl, XA.out.alloc' _, RC.out.alloc _, ?_⟩
        have e : (w2.alloc (.cells #[.slice (some ⟨cb, co, none⟩) C.ends.length D0, .slice B1 C.ids.length D1, .slice B2 C.inputs.length D2] 29)).heap.size = w2.heap.size + 1 := by simp
        rw [← e]
        exact RT.out.congr fun u _ => by unfold toRow; rw [toV_zero]
      case round =>
        obtain ⟨k, hk, rfl, rfl, Hr⟩ := hrel
        by_cases hlt : k < l.length
        · obtain ⟨v, hv, hvn⟩ : ∃ v : Nat, gi l k = v ∧ v < N.ends.length := by
            have := (HINC.out k hlt).1
            exact ⟨(gi l k).toNat, by have := this.1; omega, by have h1 := this.1; have h2 := this.2; omega⟩
          obtain ⟨_, hx, rfl, -⟩ := HLC.out k hlt
          rw [hv] at hx
          obtain rfl := HLA.out (by omega)
          have c1 := ((HX.out.trans' X2.out).trans' Hr.out.1).cell' hx
          have c2 := Hr.out.2.2.cell hvn
          have c3 := Hr.out.2.2.frozen v
          have HT := Lib.hid (toRow_step HINC.out hlt hv Hr.out.2.2)
          have HB := Lib.hid (row_far (p := ⟨w2.heap.size + 1, v, none⟩) (u := .int .i64 (k : Int)) Hr.out.2.1 Hr.out.2.2 (by decide))
          clear hx hv
          go_wp2
          go_roundg (l.length - (k + 1))
          case measure => omega
          case rel => exact ⟨k + 1, by omega, rfl, by go_num, Hr.out.1.store (by simp) _, HB.out, HT.out⟩
        · obtain rfl : k = l.length := by omega
          have H0 := Lib.hid (HNet.made (Ext.rfl' wr) (own_zero wr) (Fresh.nil wr))
          go_wp2_with fail
          have hw0 : ∃ W5 : World, W5 = wr := ⟨_, rfl⟩
          obtain ⟨W5, rfl⟩ := hw0
          have E5 := Lib.hid ((HX.out.trans' X2.out).trans' Hr.out.1)
          obtain ⟨i2, hi, hz0, hz1, hz2⟩ := info_parts Try.info70
          have I2 := Lib.hid (And.intro hi (And.intro hz0 (And.intro hz1 hz2)))
          obtain ⟨i3, hj, hy0, hy1, hy2⟩ := info_parts Try.info3
          have I3 := Lib.hid (And.intro hj (And.intro hy0 (And.intro hy1 hy2)))
          obtain ⟨i4, hj4, hx0, hx1, hx2⟩ := info_parts Try.info44
          have I4 := Lib.hid (And.intro hj4 (And.intro hx0 (And.intro hx1 hx2)))
          clear hi hz0 hz1 hz2 hj hy0 hy1 hy2 hj4 hx0 hx1 hx2
          go_loopg [76] l.length (fun g i wx => ∃ k : Nat, k ≤ l.length ∧ g = l.length - k ∧ i = .int .i64 k ∧ Hid (∃ x0 x1 x2, HNet W5 wx (kTo N l k) W5.heap.size x0 x1 x2))
          case atStart => exact ⟨0, Nat.zero_le _, rfl, rfl, _, _, _, by rw [kTo_zero]; exact H0.out⟩
          case round =>
            obtain ⟨k, hk, rfl, rfl, Hk⟩ := hrel
            by_cases hlt : k < l.length
            · obtain ⟨x0, x1, x2, hk'⟩ := Hk.out
              have HM := Lib.hid hk'
              obtain ⟨A0, C0, A1, C1, A2, C2, rfl, rfl, rfl⟩ := hk'.form
              clear hk' Hk
              obtain ⟨v, hv, hvn⟩ : ∃ v : Nat, gi l k = v ∧ v < N.ends.length := by
                have := (HINC.out k hlt).1
                exact ⟨(gi l k).toNat, by have := this.1; omega, by have h1 := this.1; have h2 := this.2; omega⟩
              obtain ⟨_, hx, rfl, -⟩ := HLC.out k hlt
              rw [hv] at hx
              have HV := Lib.hid hv
              clear hv
              obtain rfl := HLA.out (by omega)
              have EK := Lib.hid (E5.out.trans' HM.out.ext)
              have c1 := EK.out.cell' hx
              have hvC : v < C.ends.length := by have := HCL.out; omega
              obtain ⟨_, hy, ra, rb, ro, rc, rfl, hra, hrl, hrm, hrc⟩ := HCC.out v hvC
              unfold maxLen at hrm
              have E2 := Lib.hid (Hr.out.1.trans' HM.out.ext)
              have c2 := E2.out.cell' hy
              obtain ⟨q0, q1, q2, -, -, -⟩ := row3_facts (row_ext Hr.out.2.1 HM.out.ext)
              have HRA := Lib.hid hra
              have HRC := Lib.hid hrc
              have HRW := Lib.hid (HCR.out v hvn)
              have HKR := Lib.hid (keepRow_cut N l v)
              have hr6 : (gr C.ends v).length ≤ 6 := by
                rw [HRW.out]; unfold cutRow; rw [length_planRow]
                exact Nat.le_trans (cnt_le _ _) (GG.out.2.1 v hvn).1
              have HKL := Lib.hid (show (keepRow N l v).length = (gr C.ends v).length by rw [HKR.out.1, HRW.out])
              clear hx hy hra hrc q1 q2
              go_wp2_with fail
              clear c1 c2 q0
              have hw0 : ∃ wo : World, wo = wr := ⟨_, rfl⟩
              obtain ⟨wo, rfl⟩ := hw0
              go_loopg [17, 86] (gr C.ends v).length (fun g own i wx => ∃ (j : Nat) (cs : List Nat), j ≤ (gr C.ends v).length ∧ g = (gr C.ends v).length - j ∧ i = .int .i64 j ∧ Hid (Ext wo wx ∧ OwnE wx own ((keepRow N l v).take j) cs ∧ ∀ y ∈ cs, wo.heap.size ≤ y))
              case atStart => exact ⟨0, [], Nat.zero_le _, rfl, rfl, Ext.rfl' _, by simpa using own_nilE wo, by simp⟩
              case round =>
                obtain ⟨j, cs, hj, rfl, rfl, Hs⟩ := hrel
                have hjl : ((keepRow N l v).take j).length = j := by rw [List.length_take, HKL.out]; omega
                by_cases hjt : j < (gr C.ends v).length
                · obtain ⟨e1, e2, -, hyr⟩ := HRC.out j hjt
                  obtain rfl := HRA.out (by omega)
                  have EX := Lib.hid (E2.out.trans' Hs.out.1)
                  obtain ⟨hh, i, hi, hgi⟩ := cut_has (N := N) (l := l) (v := v) (j := j) (by rw [← HRW.out]; exact hjt)
                  obtain ⟨⟨g1, g2, -, -⟩, -⟩ := (GG.out.2.1 v hvn).2 i hi
                  rw [← hgi] at g1 g2
                  have hent := HKR.out.2 j (by rw [← HRW.out]; exact hjt)
                  rw [← HRW.out] at hh g1 g2 hent
                  obtain ⟨z, hz⟩ := Int.eq_ofNat_of_zero_le g1
                  obtain ⟨y, hyy⟩ : ∃ y, y = gp (gr C.ends v) j := ⟨_, rfl⟩
                  have hzn : z < N.ends.length := by omega
                  rw [hz] at e1 hh
                  rw [← hyy] at e2 hyr
                  have HXE := Lib.hid (show (keepRow N l v).take (j + 1) = (keepRow N l v).take j ++ [(ixK l (z : Int), y)] by
                    rw [List.take_succ_eq_append_getElem (by rw [HKL.out]; exact hjt)]
                    congr 2
                    have h1 := hent.1; have h2 := hent.2
                    rw [hz] at h1
                    rw [← hyy] at h2
                    simp only [gn, gp, List.getD, List.getElem?_eq_getElem (show j < (keepRow N l v).length by rw [HKL.out]; exact hjt), Option.getD_some] at h1 h2
                    exact Prod.ext h1 h2)
                  have hix : -1 ≤ ixK l (z : Int) ∧ ixK l (z : Int) ≤ 40 := by
                    rw [ixK_t hh]
                    have := List.idxOf_le_length (a := (z : Int)) (l := l)
                    omega
                  have HPR := Lib.hid (show inI64 (ixK l (z : Int)) ∧ inI64 y from ⟨by unfold inI64; omega, hyr⟩)
                  have s1 := EX.out.cell' e1
                  have s2 := EX.out.cell' e2
                  obtain ⟨W2, hW2⟩ : ∃ W2, W2 = wr.alloc (.cells #[.int .i64 z, .int .i64 y] 52) := ⟨_, rfl⟩
                  have XW := Lib.hid (show Ext wr W2 by rw [hW2]; exact (Ext.rfl' _).alloc' _)
                  have d0 : W2.cell? ⟨wr.heap.size, 0, none⟩ = some (.int .i64 z) := by rw [hW2]; simp
                  have d1 : W2.cell? ⟨wr.heap.size, 1, none⟩ = some (.int .i64 y) := by rw [hW2]; simp
                  have d2 := ((HM.out.ext.trans' Hs.out.1).trans' XW.out).cell' (Hr.out.2.2.cell hzn)
                  unfold toRow at d2
                  rw [toV_all hh] at d2
                  obtain ⟨a, ha⟩ : ∃ a, a = ixK l (z : Int) := ⟨_, rfl⟩
                  rw [← ha] at d2 HXE HPR
                  have HCS := Lib.hid Hs.out.2.2
                  have HLT := Lib.hid Hs.out.2.1.1.lt
                  have hj6 : ((keepRow N l v).take j).length ≤ 6 := by omega
                  have HBD := Lib.hid (show ((keepRow N l v).take j).length + 1 ≤ maxLen ∧ (((keepRow N l v).take j).length + 1) * 16 ≤ 140737488355328 from ⟨by unfold maxLen; omega, by omega⟩)
                  have XD := Lib.hid (XW.out.trans' (((Ext.rfl' W2).alloc' (.cells #[.int .i64 a, .int .i64 y] 52)).drew'))
                  have OW := Lib.hid (Hs.out.2.1.ext XD.out)
                  have HOWN := Lib.hid (OW.out.owns HCS.out)
                  have HSZ := Lib.hid (Hs.out.1.trans' XD.out).size
                  have HTW := Lib.hid (show w2.heap.size + 1 < wo.heap.size by have h1 := Hr.out.2.2.lt; have h2 := HM.out.ext.size; omega)
                  have mkS : ∀ w' : World, Ext W2 w' → w'.cell? ⟨wr.heap.size, 0, none⟩ = some (.int .i64 z) ∧ w'.cell? ⟨wr.heap.size, 1, none⟩ = some (.int .i64 y) ∧ w'.cell? ⟨w2.heap.size + 1, z, none⟩ = some (.int .i64 a) := fun w' h => ⟨h.cell' d0, h.cell' d1, h.cell' d2⟩
                  clear e1 e2 hh g1 g2 hent hz hgi hyr hyy hix ha hjl
                  go_wp2_with fail
                  rw [← hW2]
                  have HW2S := Lib.hid (show W2.heap.size = wr.heap.size + 1 by rw [hW2]; simp)
                  clear hW2 s1 s2
                  refine wp_region_gate (n := 11) (S := fun w' => w'.cell? ⟨wr.heap.size, 0, none⟩ = some (.int .i64 z) ∧ w'.cell? ⟨wr.heap.size, 1, none⟩ = some (.int .i64 y) ∧ w'.cell? ⟨w2.heap.size + 1, z, none⟩ = some (.int .i64 a)) (by kernel_rfl) (mkS _ (Ext.rfl' W2).drew') (fun hHeld => ?_)
                  iterate 9 (
                    (first
                      | refine wpAnyG_take (i := 0) (v := ?_) rfl (by decide +kernel) (by kernel_rfl) (by decide) (by kernel_rfl) (by kernel_rfl) (fun _ _ _ h => h) (Or.inl ⟨by rfl, ?_⟩) hHeld ?_
                      | refine wpAnyG_take (i := 1) (v := ?_) rfl (by decide +kernel) (by kernel_rfl) (by decide) (by kernel_rfl) (by kernel_rfl) (fun _ _ _ h => h) (Or.inl ⟨by rfl, ?_⟩) hHeld ?_
                      | refine wpAnyG_take (i := 2) (v := ?_) rfl (by decide +kernel) (by kernel_rfl) (by decide) (by kernel_rfl) (by kernel_rfl) (fun _ _ _ h => h) (Or.inl ⟨by rfl, ?_⟩) hHeld ?_
                      | refine wpAnyG_take (i := 3) (v := ?_) rfl (by decide +kernel) (by kernel_rfl) (by decide) (by kernel_rfl) (by kernel_rfl) (fun _ _ _ h => h) (Or.inl ⟨by rfl, ?_⟩) hHeld ?_
                      | refine wpAnyG_take (i := 4) (v := ?_) rfl (by decide +kernel) (by kernel_rfl) (by decide) (by kernel_rfl) (by kernel_rfl) (fun _ _ _ h => h) (Or.inl ⟨by rfl, ?_⟩) hHeld ?_
                      | refine wpAnyG_take (i := 5) (v := ?_) rfl (by decide +kernel) (by kernel_rfl) (by decide) (by kernel_rfl) (by kernel_rfl) (fun _ _ _ h => h) (Or.inl ⟨by rfl, ?_⟩) hHeld ?_
                      | refine wpAnyG_take (i := 6) (v := ?_) rfl (by decide +kernel) (by kernel_rfl) (by decide) (by kernel_rfl) (by kernel_rfl) (fun _ _ _ h => h) (Or.inl ⟨by rfl, ?_⟩) hHeld ?_
                      | refine wpAnyG_take (i := 7) (v := ?_) rfl (by decide +kernel) (by kernel_rfl) (by decide) (by kernel_rfl) (by kernel_rfl) (fun _ _ _ h => h) (Or.inl ⟨by rfl, ?_⟩) hHeld ?_
                      | refine wpAnyG_take (i := 8) (v := ?_) rfl (by decide +kernel) (by kernel_rfl) (by decide) (by kernel_rfl) (by kernel_rfl) (fun _ _ _ h => h) (Or.inl ⟨by rfl, ?_⟩) hHeld ?_
                    )
                    rotate_left 1
                    · (intro w' hSw; (try dsimp only at hSw); go_simp) <;> with_reducible rfl
                    simp only [Act.put, List.setIfInBounds_toArray])
                  refine wpAnyG_one (i := 9) rfl (by kernel_rfl) rfl (fun K hK => ?_)
                  go_simp
                  refine hK.out _ _ (fun _ => mkS _ (by repeat (first | exact Ext.rfl' _ | refine Ext.alloc' ?_ _ | refine Ext.drew' ?_))) (fun _ => ?_)
                  clear hK K
                  refine wpAnyG_one (i := 10) rfl (by kernel_rfl) rfl (fun K hK => ?_)
                  refine wp_app2 (.tmp 90) (.tmp 99) 59 rfl wo.heap.size 52 i4 (.agg #[.int .i64 0, .int .i64 0]) 2 16 Try.underlying59 I4.out.1 I4.out.2.1 I4.out.2.2.1 I4.out.2.2.2 rfl (by decide) u17 ((keepRow N l v).take j).length (endCells ((keepRow N l v).take j)) rfl HOWN.out (some ⟨W2.heap.size, 0, none⟩) 1 1 [.int .i64 a, .int .i64 y] rfl (src_drew (src_two W2 _ _ _ rfl rfl)) HBD.out.1 HBD.out.2 HSZ.out ?_
                  intro v' wG hg
                  obtain ⟨cs2, o1, o2, o3⟩ := end_grown (p := (a, y)) OW.out HPR.out hg
                  have EG := Lib.hid (hg.1.ext (Hs.out.1.trans' XD.out) fun b hb => (HOWN.out.lt b hb).1)
                  have O1 := Lib.hid o1
                  have O2 := Lib.hid (show ∀ y ∈ cs2, wo.heap.size ≤ y from fun y hy => (o2 y hy).elim (fun h => HCS.out y h) (fun h => Nat.le_trans HSZ.out h))
                  have keepB : ∀ b, b < W2.heap.size → b ∉ cs → wG.heap[b]? = W2.heap[b]? := fun b hb hc => (o3 b (Nat.lt_of_lt_of_le hb ((((Ext.rfl' W2).alloc' (.cells #[.int .i64 a, .int .i64 y] 52)).drew').size)) hc).trans ((((Ext.rfl' W2).alloc' (.cells #[.int .i64 a, .int .i64 y] 52)).drew').block b hb)
                  have kT := keepB wr.heap.size (by have := HW2S.out; omega) (fun h => by have := HLT.out _ h; omega)
                  have kO := keepB (w2.heap.size + 1) (by have := HW2S.out; have := HTW.out; have := Hs.out.1.size; omega) (fun h => by have := HCS.out _ h; have := HTW.out; omega)
                  have SA : wG.cell? ⟨wr.heap.size, 0, none⟩ = some (.int .i64 z) ∧ wG.cell? ⟨wr.heap.size, 1, none⟩ = some (.int .i64 y) ∧ wG.cell? ⟨w2.heap.size + 1, z, none⟩ = some (.int .i64 a) := ⟨(World.cell?_of_block (w := W2) kT).trans d0, (World.cell?_of_block (w := W2) kT).trans d1, (World.cell?_of_block (w := W2) kO).trans d2⟩
                  clear hg o1 o2 o3 keepB kT kO
                  refine hK.out _ _ (fun _ => SA) (fun _ => ?_)
                  clear hK K
                  refine wpAnyG_one (i := 11) rfl (by kernel_rfl) rfl (fun K hK => ?_)
                  go_simp
                  refine hK.out _ _ (fun h => absurd rfl h) (fun _ => ?_)
                  clear hK K
                  refine wpAnyG_done (by kernel_rfl) ?_ _
                  clear hHeld mkS SA d0 d1 d2
                  go_wp2
                  go_roundg ((gr C.ends v).length - (j + 1))
                  case measure => omega
                  case rel => exact ⟨j + 1, cs2, by omega, rfl, by go_num, EG.out, by rw [HXE.out]; exact O1.out, O2.out⟩
                · obtain rfl : j = (gr C.ends v).length := by omega
                  have hOW := Hs.out.2.1
                  rw [List.take_of_length_le (by rw [HKL.out]; exact Nat.le_refl _)] at hOW
                  obtain ⟨oa, oc, rfl⟩ := hOW.1.slice
                  have OW := Lib.hid hOW
                  have HCS := Lib.hid Hs.out.2.2
                  have EW := Lib.hid Hs.out.1
                  have hkl := kTo_len (N := N) (l := l) hk
                  have hk1 : (kTo N l k).ends.length ≤ 40 := by omega
                  have hk2 : (kTo N l k).inputs.length ≤ 40 := by omega
                  have hk3 : (kTo N l k).ids.length ≤ 40 := by omega
                  obtain ⟨R, hro, hrb⟩ := HM.out.rows
                  have HRO := Lib.hid hro
                  have HRB := Lib.hid hrb
                  have HZ := Lib.hid (HM.out.ext.trans' Hs.out.1).size
                  obtain ⟨m0, m1, m2, -, -, -⟩ := row3_facts (row_ext HM.out.box Hs.out.1)
                  clear hOW hro hrb hkl hjl
                  go_upto_region 29 with (at_builtin; refine wpList_app rfl (.tmp 103) (.tmp 105) 27 rfl W5.heap.size 59 i2 (.slice none 0 0) 1 24 Try.underlying27 I2.out.1 I2.out.2.1 I2.out.2.2.1 I2.out.2.2.2 rfl (by decide) (.slice A0 (kTo N l k).ends.length C0) (kTo N l k).ends.length ((List.range (kTo N l k).ends.length).map R) rfl (owns_ext HRO.out (EW.out.alloc' _)) (some ⟨wr.heap.size, 0, none⟩) 1 1 [.slice oa (keepRow N l v).length oc] rfl (src_one wr _ _ rfl) (by unfold maxLen; omega) (by omega) (Nat.le_trans HZ.out ((Ext.rfl' wr).alloc' _).size) ?_; intro v' wA hg; obtain ⟨va, vc, rfl⟩ := owns_slice hg.1; have KA := Lib.hid (HRB.out _ wA _ _ (keepRow N l v) cs (EW.out.alloc' _) (OW.out.ext ((Ext.rfl' _).alloc' _)) HCS.out hg); obtain ⟨z0, z1, z2, y0, y1, y2⟩ := row3_facts KA.out.1; clear hg m0 m1 m2)
                  have S2 := Lib.hid KA.out.2
                  clear z0 z1 z2 y0 y1 y2 KA HRO HRB HZ
                  generalize wA.setCell ⟨W5.heap.size, 0, none⟩ (.slice va ((kTo N l k).ends.length + 1) vc) = wB at *
                  have EB := Lib.hid (E5.out.trans' S2.out.ext)
                  obtain ⟨m0, m1, m2, -, -, -⟩ := row3_facts S2.out.box
                  obtain ⟨q0, q1, q2, -, -, -⟩ := row3_facts (row_ext HR.out ((X2.out.trans' Hr.out.1).trans' S2.out.ext))
                  have hvi : v < N.inputs.length := by have := GG.out.2.2.2.1; omega
                  obtain ⟨_, hpx, rfl, hpr⟩ := HPC.out v hvi
                  obtain rfl := HPA.out (by omega)
                  have c3 := EB.out.cell' hpx
                  obtain ⟨yy, hyy⟩ : ∃ y, y = gi N.inputs v := ⟨_, rfl⟩
                  rw [← hyy] at c3 hpr
                  have HYY := Lib.hid hyy
                  have HPI := Lib.hid hpr
                  obtain ⟨hio, hib⟩ := S2.out.ints
                  have HIO : Hid (wB.ownsRow W5.heap.size 3 1 (.slice A2 (kTo N l k).inputs.length C2) (kTo N l k).inputs.length (intCells (kTo N l k).inputs)) := hio
                  have HIB := Lib.hid hib
                  have HZ := Lib.hid S2.out.ext.size
                  have hpx0 := hpx
                  rw [← HYY.out] at hpx0
                  clear hio hib hpx hyy hpr
                  have mkS : ∀ w' : World, Ext wB w' → w'.cell? ⟨W5.heap.size, 2, none⟩ = some (.slice A2 (kTo N l k).inputs.length C2) ∧ w'.cell? ⟨w.heap.size, 2, none⟩ = some (.slice (some ⟨pb, po, none⟩) N.inputs.length pc) ∧ w'.cell? ⟨pb, po + v, none⟩ = some (.int .i64 yy) := fun w' h => ⟨h.cell' m2, h.cell' q2, h.cell' c3⟩
                  refine wp_region_gate (n := 10) (S := fun w' => w'.cell? ⟨W5.heap.size, 2, none⟩ = some (.slice A2 (kTo N l k).inputs.length C2) ∧ w'.cell? ⟨w.heap.size, 2, none⟩ = some (.slice (some ⟨pb, po, none⟩) N.inputs.length pc) ∧ w'.cell? ⟨pb, po + v, none⟩ = some (.int .i64 yy)) (by kernel_rfl) (mkS _ (Ext.rfl' wB).drew') (fun hHeld => ?_)
                  iterate 7 (
                    (first
                      | refine wpAnyG_take (i := 0) (v := ?_) rfl (by decide +kernel) (by kernel_rfl) (by decide) (by kernel_rfl) (by kernel_rfl) (fun _ _ _ h => h) (Or.inl ⟨by rfl, ?_⟩) hHeld ?_
                      | refine wpAnyG_take (i := 1) (v := ?_) rfl (by decide +kernel) (by kernel_rfl) (by decide) (by kernel_rfl) (by kernel_rfl) (fun _ _ _ h => h) (Or.inl ⟨by rfl, ?_⟩) hHeld ?_
                      | refine wpAnyG_take (i := 2) (v := ?_) rfl (by decide +kernel) (by kernel_rfl) (by decide) (by kernel_rfl) (by kernel_rfl) (fun _ _ _ h => h) (Or.inl ⟨by rfl, ?_⟩) hHeld ?_
                      | refine wpAnyG_take (i := 3) (v := ?_) rfl (by decide +kernel) (by kernel_rfl) (by decide) (by kernel_rfl) (by kernel_rfl) (fun _ _ _ h => h) (Or.inl ⟨by rfl, ?_⟩) hHeld ?_
                      | refine wpAnyG_take (i := 4) (v := ?_) rfl (by decide +kernel) (by kernel_rfl) (by decide) (by kernel_rfl) (by kernel_rfl) (fun _ _ _ h => h) (Or.inl ⟨by rfl, ?_⟩) hHeld ?_
                      | refine wpAnyG_take (i := 5) (v := ?_) rfl (by decide +kernel) (by kernel_rfl) (by decide) (by kernel_rfl) (by kernel_rfl) (fun _ _ _ h => h) (Or.inl ⟨by rfl, ?_⟩) hHeld ?_
                      | refine wpAnyG_take (i := 6) (v := ?_) rfl (by decide +kernel) (by kernel_rfl) (by decide) (by kernel_rfl) (by kernel_rfl) (fun _ _ _ h => h) (Or.inl ⟨by rfl, ?_⟩) hHeld ?_
                    )
                    rotate_left 1
                    · (intro w' hSw; (try dsimp only at hSw); go_simp) <;> with_reducible rfl
                    simp only [Act.put, List.setIfInBounds_toArray])
                  refine wpAnyG_one (i := 7) rfl (by kernel_rfl) rfl (fun K hK => ?_)
                  go_simp
                  refine hK.out _ _ (fun _ => mkS _ (by repeat (first | exact Ext.rfl' _ | refine Ext.alloc' ?_ _ | refine Ext.drew' ?_))) (fun _ => ?_)
                  clear hK K
                  refine wpAnyG_one (i := 8) rfl (by kernel_rfl) rfl (fun K hK => ?_)
                  have XD := Lib.hid (((Ext.rfl' wB).alloc' (.cells #[.int .i64 yy] 3)).drew')
                  refine wp_app2 (.tmp 109) (.tmp 115) 23 rfl W5.heap.size 3 i3 (.int .i64 0) 1 8 Try.underlying23 I3.out.1 I3.out.2.1 I3.out.2.2.1 I3.out.2.2.2 rfl (by decide) (.slice A2 (kTo N l k).inputs.length C2) (kTo N l k).inputs.length (intCells (kTo N l k).inputs) rfl (owns_ext HIO.out XD.out) (some ⟨wB.heap.size, 0, none⟩) 1 1 [.int .i64 yy] rfl (src_drew (src_one wB (.int .i64 yy) 3 rfl)) (by unfold maxLen; omega) (by omega) (Nat.le_trans HZ.out XD.out.size) ?_
                  intro v' wC hg
                  obtain ⟨vb, vd, rfl⟩ := owns_slice hg.1.1
                  have KB := Lib.hid (HIB.out _ wC _ yy XD.out HPI.out hg)
                  obtain ⟨z0, z1, z2, y0, y1, y2⟩ := row3_facts KB.out.1
                  have XE := Lib.hid (hg.1.ext (S2.out.ext.trans' XD.out) fun b hb => ((owns_ext HIO.out XD.out).lt b hb).1)
                  have SA : wC.cell? ⟨W5.heap.size, 2, none⟩ = some (.slice A2 (kTo N l k).inputs.length C2) ∧ wC.cell? ⟨w.heap.size, 2, none⟩ = some (.slice (some ⟨pb, po, none⟩) N.inputs.length pc) ∧ wC.cell? ⟨pb, po + v, none⟩ = some (.int .i64 yy) := ⟨z2, ((row3_facts (row_ext HR.out ((X2.out.trans' Hr.out.1).trans' XE.out))).2.2.1), ((E5.out.trans' XE.out).cell' hpx0)⟩
                  clear hg
                  refine hK.out _ _ (fun _ => SA) (fun _ => ?_)
                  clear hK K
                  refine wpAnyG_one (i := 9) rfl (by kernel_rfl) rfl (fun K hK => ?_)
                  go_simp
                  refine hK.out _ _ (fun _ => SA) (fun _ => ?_)
                  clear hK K
                  refine wpAnyG_one (i := 10) rfl (by kernel_rfl) rfl (fun K hK => ?_)
                  go_simp
                  refine hK.out _ _ (fun h => absurd rfl h) (fun _ => ?_)
                  clear hK K
                  refine wpAnyG_done (by kernel_rfl) ?_ _
                  clear hHeld mkS SA XE
                  have S3 := Lib.hid KB.out.2
                  clear z0 z1 z2 y0 y1 y2 KB HIO HIB HZ XD S2 EB m0 m1 m2 q0 q1 q2 c3 hpx0
                  generalize wC.setCell ⟨W5.heap.size, 2, none⟩ (.slice vb ((kTo N l k).inputs.length + 1) vd) = wD at *
                  have ED := Lib.hid (E5.out.trans' S3.out.ext)
                  obtain ⟨q0, q1, q2, -, -, -⟩ := row3_facts (row_ext HR.out ((X2.out.trans' Hr.out.1).trans' S3.out.ext))
                  by_cases hid0 : N.ids.length = 0
                  · have hcb : decide (0 < N.ids.length) = false := decide_eq_false (by omega)
                    have HKT := Lib.hid (kTo_noids (N := N) (l := l) hlt HV.out hid0)
                    rw [← HYY.out] at HKT
                    clear hid0 q0 q2
                    go_wp2
                    go_roundg (l.length - (k + 1))
                    case measure => omega
                    case rel => exact ⟨k + 1, by omega, rfl, by go_num, _, _, _, by rw [← HKT.out]; exact S3.out⟩
                  · have hcb : decide (0 < N.ids.length) = true := decide_eq_true (by omega)
                    have HKT := Lib.hid (kTo_ids (N := N) (l := l) hlt HV.out hid0)
                    rw [← HYY.out] at HKT
                    have hvd : v < N.ids.length := by have := GG.out.2.2.1.1; omega
                    obtain ⟨_, hdx, rfl, hdr⟩ := HIC.out v hvd
                    obtain rfl := HIA.out (by omega)
                    have c3 := ED.out.cell' hdx
                    obtain ⟨zz, hzz⟩ : ∃ y, y = gi N.ids v := ⟨_, rfl⟩
                    rw [← hzz] at c3 hdr
                    rw [← hzz] at HKT
                    have HPI2 := Lib.hid hdr
                    obtain ⟨m0, m1, m2, -, -, -⟩ := row3_facts S3.out.box
                    obtain ⟨hio, hib⟩ := S3.out.nums
                    have HIO : Hid (wD.ownsRow W5.heap.size 3 1 (.slice A1 (kTo N l k).ids.length C1) (kTo N l k).ids.length (intCells (kTo N l k).ids)) := hio
                    have HIB := Lib.hid hib
                    have HZ := Lib.hid S3.out.ext.size
                    have hdx0 := hdx
                    rw [← hzz] at hdx0
                    clear hio hib hdx hzz hdr hid0
                    go_upto_region 31 with fail
                    have mkS : ∀ w' : World, Ext wD w' → w'.cell? ⟨W5.heap.size, 1, none⟩ = some (.slice A1 (kTo N l k).ids.length C1) ∧ w'.cell? ⟨w.heap.size, 1, none⟩ = some (.slice (some ⟨ib, io, none⟩) N.ids.length ic) ∧ w'.cell? ⟨ib, io + v, none⟩ = some (.int .i64 zz) := fun w' h => ⟨h.cell' m1, h.cell' q1, h.cell' c3⟩
                    refine wp_region_gate (n := 10) (S := fun w' => w'.cell? ⟨W5.heap.size, 1, none⟩ = some (.slice A1 (kTo N l k).ids.length C1) ∧ w'.cell? ⟨w.heap.size, 1, none⟩ = some (.slice (some ⟨ib, io, none⟩) N.ids.length ic) ∧ w'.cell? ⟨ib, io + v, none⟩ = some (.int .i64 zz)) (by kernel_rfl) (mkS _ (Ext.rfl' wD).drew') (fun hHeld => ?_)
                    iterate 7 (
                      (first
                        | refine wpAnyG_take (i := 0) (v := ?_) rfl (by decide +kernel) (by kernel_rfl) (by decide) (by kernel_rfl) (by kernel_rfl) (fun _ _ _ h => h) (Or.inl ⟨by rfl, ?_⟩) hHeld ?_
                        | refine wpAnyG_take (i := 1) (v := ?_) rfl (by decide +kernel) (by kernel_rfl) (by decide) (by kernel_rfl) (by kernel_rfl) (fun _ _ _ h => h) (Or.inl ⟨by rfl, ?_⟩) hHeld ?_
                        | refine wpAnyG_take (i := 2) (v := ?_) rfl (by decide +kernel) (by kernel_rfl) (by decide) (by kernel_rfl) (by kernel_rfl) (fun _ _ _ h => h) (Or.inl ⟨by rfl, ?_⟩) hHeld ?_
                        | refine wpAnyG_take (i := 3) (v := ?_) rfl (by decide +kernel) (by kernel_rfl) (by decide) (by kernel_rfl) (by kernel_rfl) (fun _ _ _ h => h) (Or.inl ⟨by rfl, ?_⟩) hHeld ?_
                        | refine wpAnyG_take (i := 4) (v := ?_) rfl (by decide +kernel) (by kernel_rfl) (by decide) (by kernel_rfl) (by kernel_rfl) (fun _ _ _ h => h) (Or.inl ⟨by rfl, ?_⟩) hHeld ?_
                        | refine wpAnyG_take (i := 5) (v := ?_) rfl (by decide +kernel) (by kernel_rfl) (by decide) (by kernel_rfl) (by kernel_rfl) (fun _ _ _ h => h) (Or.inl ⟨by rfl, ?_⟩) hHeld ?_
                        | refine wpAnyG_take (i := 6) (v := ?_) rfl (by decide +kernel) (by kernel_rfl) (by decide) (by kernel_rfl) (by kernel_rfl) (fun _ _ _ h => h) (Or.inl ⟨by rfl, ?_⟩) hHeld ?_
                      )
                      rotate_left 1
                      · (intro w' hSw; (try dsimp only at hSw); go_simp) <;> with_reducible rfl
                      simp only [Act.put, List.setIfInBounds_toArray])
                    refine wpAnyG_one (i := 7) rfl (by kernel_rfl) rfl (fun K hK => ?_)
                    go_simp
                    refine hK.out _ _ (fun _ => mkS _ (by repeat (first | exact Ext.rfl' _ | refine Ext.alloc' ?_ _ | refine Ext.drew' ?_))) (fun _ => ?_)
                    clear hK K
                    refine wpAnyG_one (i := 8) rfl (by kernel_rfl) rfl (fun K hK => ?_)
                    have XD := Lib.hid (((Ext.rfl' wD).alloc' (.cells #[.int .i64 zz] 3)).drew')
                    refine wp_app2 (.tmp 123) (.tmp 129) 23 rfl W5.heap.size 3 i3 (.int .i64 0) 1 8 Try.underlying23 I3.out.1 I3.out.2.1 I3.out.2.2.1 I3.out.2.2.2 rfl (by decide) (.slice A1 (kTo N l k).ids.length C1) (kTo N l k).ids.length (intCells (kTo N l k).ids) rfl (owns_ext HIO.out XD.out) (some ⟨wD.heap.size, 0, none⟩) 1 1 [.int .i64 zz] rfl (src_drew (src_one wD (.int .i64 zz) 3 rfl)) (by unfold maxLen; omega) (by omega) (Nat.le_trans HZ.out XD.out.size) ?_
                    intro v' wE hg
                    obtain ⟨ve, vf, rfl⟩ := owns_slice hg.1.1
                    have KC := Lib.hid (HIB.out _ wE _ zz XD.out HPI2.out hg)
                    obtain ⟨z0, z1, z2, y0, y1, y2⟩ := row3_facts KC.out.1
                    have XE := Lib.hid (hg.1.ext (S3.out.ext.trans' XD.out) fun b hb => ((owns_ext HIO.out XD.out).lt b hb).1)
                    have SA : wE.cell? ⟨W5.heap.size, 1, none⟩ = some (.slice A1 (kTo N l k).ids.length C1) ∧ wE.cell? ⟨w.heap.size, 1, none⟩ = some (.slice (some ⟨ib, io, none⟩) N.ids.length ic) ∧ wE.cell? ⟨ib, io + v, none⟩ = some (.int .i64 zz) := ⟨z1, ((row3_facts (row_ext HR.out ((X2.out.trans' Hr.out.1).trans' XE.out))).2.1), ((E5.out.trans' XE.out).cell' hdx0)⟩
                    clear hg
                    refine hK.out _ _ (fun _ => SA) (fun _ => ?_)
                    clear hK K
                    refine wpAnyG_one (i := 9) rfl (by kernel_rfl) rfl (fun K hK => ?_)
                    go_simp
                    refine hK.out _ _ (fun _ => SA) (fun _ => ?_)
                    clear hK K
                    refine wpAnyG_one (i := 10) rfl (by kernel_rfl) rfl (fun K hK => ?_)
                    go_simp
                    refine hK.out _ _ (fun h => absurd rfl h) (fun _ => ?_)
                    clear hK K
                    refine wpAnyG_done (by kernel_rfl) ?_ _
                    clear hHeld mkS SA XE
                    go_wp2
                    go_roundg (l.length - (k + 1))
                    case measure => omega
                    case rel => exact ⟨k + 1, by omega, rfl, by go_num, _, _, _, by rw [← HKT.out]; exact KC.out.2⟩
            · obtain rfl : k = l.length := by omega
              obtain ⟨x0, x1, x2, hk'⟩ := Hk.out
              rw [kTo_all] at hk'
              have HM := Lib.hid hk'
              obtain ⟨A0, C0, A1, C1, A2, C2, rfl, rfl, rfl⟩ := hk'.form
              clear hk' Hk
              have EE := Lib.hid (E5.out.trans' HM.out.ext)
              obtain ⟨m0, m1, m2, -, -, -⟩ := row3_facts HM.out.box
              obtain ⟨u0, u1, u2, s0, s1, s2⟩ := row3_facts (row_ext HQ.out ((X2.out.trans' Hr.out.1).trans' HM.out.ext))
              have hqs := HQ.out.lt
              have hws := ((X2.out.trans' Hr.out.1)).size
              obtain ⟨bs, hO, hNd, hF⟩ := HM.out.net
              have hc := close_at EE.out (show w.heap.size ≤ w.heap.size + 1 by omega) hO hNd (fun b hb => by have := hF b hb; omega)
              have HCL2 := Lib.hid hc
              clear hc hO hNd hF hqs hws
              go_wp2
              refine bodyPost_ret (v := .agg #[.slice A0 (keepNet N l).ends.length C0, .slice A1 (keepNet N l).ids.length C1, .slice A2 (keepNet N l).inputs.length C2]) (by simp [results, Try.results27, go_sem, u0, u1, u2]) rfl ?_
              exact ⟨_, bs, rfl, HCL2.out.1, HCL2.out.2.1, HCL2.out.2.2⟩
end Go.Proofs.Ytpkgghkibgadnaa
