/- The contract of the program's walkFrom. -/
import Derived.Test.YtkpdbceglejbnaaJs
import Derived.Test.YtkpdbceglejbnaaJm
import Derived.Test.YtkpdbceglejbnaaJr
namespace Go.Proofs.Ytkpdbceglejbnaa
open Go.RowKit

theorem gn_prefix {P : List Int} {r : List (Int × Int)} {j m : Nat} (h : j + 1 ≤ m) : gn r j ∈ addTo P r m := (addTo_mem _ _ _ _).2 (.inr ⟨j, by omega, rfl⟩)

set_option maxHeartbeats 6400000 in
set_option maxRecDepth 100000 in
theorem walkFrom_any {w : World} {v : Value} {N : Net} (x : Nat) (hx : x < N.ends.length) (h : NetAt w v N) (hG : GoodW N) :
    Calls Try.prog 135 #[v, .int .i64 x] w fun e w' => ∃ vn vc bn bc, e = .returned (.agg #[vn, vc]) ∧ Ext w w' ∧ OwnI w' vn (wk N x) bn ∧ OwnI w' vc (code N x) bc ∧ Fresh w (bn ++ bc) := by
  have HN := Lib.hid h
  have HG := Lib.hid hG
  have h40 := hG.most
  clear hG
  obtain ⟨L, hL⟩ : ∃ L, L = wk N x := ⟨_, rfl⟩
  have HWK := Lib.hid (show WkOK N L by rw [hL]; exact wk_ok HG.out.leads (v := (x : Int)) (by omega))
  have HLE := Lib.hid hL
  have hll := HWK.out.len
  clear hL
  obtain ⟨v0, v1, v2, rfl, hE, hI, hP⟩ := h
  obtain ⟨ea, eb, eo, ec, rfl, hea, hel, hem, hec⟩ := hE
  clear hI hP
  unfold maxLen at hem
  obtain rfl := hea (by omega)
  have HEC := Lib.hid hec
  clear hec hea
  obtain ⟨i0, hi, hz0, hz1, hz2⟩ := info_parts Try.info3
  have I0 := Lib.hid (And.intro hi (And.intro hz0 (And.intro hz1 hz2)))
  clear hi hz0 hz1 hz2
  obtain ⟨WB, hWB⟩ : ∃ WB, WB = w.alloc (.cells #[.slice (some ⟨eb, eo, none⟩) N.ends.length ec, v1, v2] 34) := ⟨_, rfl⟩
  have EB := Lib.hid (show Ext w WB by rw [hWB]; exact boxed_ext _ _ _ _ _)
  have RB := Lib.hid (show WB.rowIs w.heap.size 34 3 (tri (.slice (some ⟨eb, eo, none⟩) N.ends.length ec) v1 v2) by rw [hWB]; exact boxed_row _ _ _ _ _)
  have ZB := Lib.hid (show WB.heap.size = w.heap.size + 1 by rw [hWB]; simp)
  obtain ⟨W1, hW1⟩ : ∃ W1, W1 = WB.alloc (.cells #[.slice none 0 0, .slice none 0 0] 139) := ⟨_, rfl⟩
  have Z1 := Lib.hid (show W1.heap.size = w.heap.size + 2 by rw [hW1]; have := ZB.out; simp; omega)
  have R1 := Lib.hid (show W1.rowIs (w.heap.size + 1) 139 2 (duo (.slice none 0 0) (.slice none 0 0)) by rw [hW1, ← ZB.out]; exact duo_made _ _ _ _)
  obtain ⟨W2, hW2⟩ : ∃ W2, W2 = W1.alloc (.cells #[.int .i64 x] 3) := ⟨_, rfl⟩
  have Z2 := Lib.hid (show W2.heap.size = w.heap.size + 3 by rw [hW2]; have := Z1.out; simp; omega)
  have G2 := Lib.hid (show GrowN (w.heap.size + 2) W2 (.slice (some ⟨w.heap.size + 2, 0, none⟩) 1 1) (wkTo N x 0) by
    have := World.ownsRow_lit (base := w.heap.size + 2) (e := 3) (size := 1) W1 #[.int .i64 x] 1 (by have := Z1.out; omega) (by decide) (by simp)
    rw [hW2, ← Z1.out]; rw [← Z1.out] at this
    simpa [GrowN, wkTo, intCells] using this)
  obtain ⟨W3, hW3⟩ : ∃ W3, W3 = W2.alloc (.cells #[.slice (some ⟨w.heap.size + 2, 0, none⟩) 1 1, .slice none 0 0] 139) := ⟨_, rfl⟩
  have Z3 := Lib.hid (show W3.heap.size = w.heap.size + 4 by rw [hW3]; have := Z2.out; simp; omega)
  have R3 := Lib.hid (show W3.rowIs (w.heap.size + 3) 139 2 (duo (.slice (some ⟨w.heap.size + 2, 0, none⟩) 1 1) (.slice none 0 0)) by rw [hW3, ← Z2.out]; exact duo_made _ _ _ _)
  obtain ⟨W4, hW4⟩ : ∃ W4, W4 = W3.alloc (.cells #[.int .i64 (-1)] 3) := ⟨_, rfl⟩
  have X14 := Lib.hid (show Ext W1 W4 by rw [hW4, hW3, hW2]; exact (((Ext.rfl' _).alloc' _).alloc' _).alloc' _)
  have X24 := Lib.hid (show Ext W2 W4 by rw [hW4, hW3]; exact ((Ext.rfl' _).alloc' _).alloc' _)
  have X34 := Lib.hid (show Ext W3 W4 by rw [hW4]; exact (Ext.rfl' _).alloc' _)
  have XB4 := Lib.hid (show Ext WB W4 by rw [hW4, hW3, hW2, hW1]; exact ((((Ext.rfl' _).alloc' _).alloc' _).alloc' _).alloc' _)
  have C4 := Lib.hid (show W4.cell? ⟨w.heap.size + 4, 0, none⟩ = some (.int .i64 (-1)) by rw [hW4, ← Z3.out]; simp)
  have Z4 := Lib.hid (show W4.heap.size = w.heap.size + 5 by rw [hW4]; have := Z3.out; simp; omega)
  obtain ⟨p0, p1, p2, -, -, -⟩ := row3_facts (row_ext RB.out XB4.out)
  rw [hW4, hW3, hW2, hW1, hWB] at p0 p1 p2
  go_enter Try.func135, Try.ntmps135
  go_wp2_with fail
  rw [← hWB, ← hW1, ← hW2, ← hW3, ← hW4]
  clear p0 p1 p2 hWB hW1 hW2 hW3 hW4
  (with_reducible refine (repeat_any (by have := HG.out.one; omega) h40 C4.out).mono ?_)
  rintro e w5 ⟨nb, rfl, hx5, hr5, hb5⟩
  have ST0 := Lib.hid (show WSt w WB w5 N.ends.length nb (.slice (some ⟨w.heap.size + 2, 0, none⟩) 1 1) (.slice none 0 0) (wkTo N x 0) [] (cdTo N L 0) from
    ⟨XB4.out.trans' hx5, ZB.out, row_ext R1.out (X14.out.trans' hx5), row_ext R3.out (X34.out.trans' hx5), hr5.congr fun i _ => by simp [numC], G2.out.ext (X24.out.trans' hx5), GrowN.nil _ _, by simp [Value.ownBlock], by simp only [Value.ownBlock, ne_eq, Option.some.injEq]; have := Z4.out; omega, by simp [Value.ownBlock], by have := Z4.out; omega⟩)
  have hcv := hr5.cell hx
  have hfr := hr5.frozen x
  clear hx5 hr5 hb5
  go_wp2
  clear hcv hfr
  go_loopg [7] N.ends.length (fun g kk wr => ∃ (k : Nat) (vn vc : Value), k ≤ N.ends.length ∧ k ≤ (wkTo N x k).length ∧ g = N.ends.length - k ∧ kk = .int .i64 k ∧ Hid (WSt w WB wr N.ends.length nb vn vc (wkTo N x k) (wkTo N x k) (cdTo N L k)))
  case atStart => exact ⟨0, _, _, Nat.zero_le _, Nat.zero_le _, rfl, rfl, ST0.out.num_step (z := x) (by simp)⟩
  case round =>
    obtain ⟨k, vn, vc, hk, hkl, rfl, rfl, Hr⟩ := hrel
    have hlen := wkTo_len HG.out.leads (v := (x : Int)) (by omega) k
    have hrange := wkTo_range HG.out.leads (v := (x : Int)) (by omega) k
    obtain ⟨ob, oc, rfl, ho1, ho2, ho3, ho4, hcell⟩ := Hr.out.nodes.form (wkTo_pos N x k)
    unfold maxLen at ho2
    obtain ⟨b0, b1, b2, b3⟩ := duo_facts Hr.out.box
    by_cases hlt : k < (wkTo N x k).length
    · have hc := hcell k hlt
      have hrg := hrange _ (gi_in hlt)
      obtain ⟨y, hy⟩ := Int.eq_ofNat_of_zero_le hrg.1
      have hyn : y < N.ends.length := by omega
      have hdeg := HG.out.deg y hyn
      have HBG := Lib.hid (show Begins (wkTo N x k) L by rw [HLE.out]; exact wk_begins hk)
      have HYL := Lib.hid (show gi L k = (y : Int) by rw [HBG.out.at hlt]; exact hy)
      have hkL : k < L.length := Nat.lt_of_lt_of_le hlt HBG.out.len
      have hcl := cdTo_len HG.out HWK.out k (by omega)
      have HLN := Lib.hid (show wkTo N x (k + 1) = addTo (wkTo N x k) (gr N.ends y) (gr N.ends y).length by rw [wkTo_go hlt]; unfold rw'; rw [hy, Int.toNat_natCast])
      rw [hy] at hc
      have HM := Lib.hid (show marksV N y = .agg #[.int .i64 (gr N.ends y).length, .int .i64 (gi N.inputs y), .int .i64 (idOf N y)] by unfold marksV rw'; rw [Int.toNat_natCast])
      have HH := Lib.hid (show headCd N (gi L k) = [((gr N.ends y).length : Int), gi N.inputs y, idOf N y] by rw [HYL.out]; unfold headCd rw'; rw [Int.toNat_natCast])
      obtain ⟨p0, p1, p2, -, -, -⟩ := row3_facts (row_ext RB.out Hr.out.ext)
      have HPOS := Lib.hid (wkTo_pos N x k)
      have HRG := Lib.hid hrange
      clear hcell hrg hy hrange
      go_wp2_with (first | (go_at_call 174; (with_reducible refine (marksOf_any y hyn (HN.out.ext (EB.out.trans' Hr.out.ext)) HG.out).mono ?_); rintro e w1 ⟨rfl, hx1⟩; rw [HM.out]; have X1 := Lib.hid hx1; clear hx1) | fail)
      clear p0 p1 p2 hc b0 b1 b2 b3
      obtain ⟨W2, hW2⟩ : ∃ W2, W2 = w1.alloc (.cells #[.int .i64 (gr N.ends y).length, .int .i64 (gi N.inputs y), .int .i64 (idOf N y)] 172) := ⟨_, rfl⟩
      have ST2 := Lib.hid (Hr.out.lift (show Ext wr W2 by rw [hW2]; exact X1.out.alloc' _))
      have SRC := Lib.hid (show SrcAt W2.drew (some ⟨w1.heap.size, 0, none⟩) 3 1 (intCells [((gr N.ends y).length : Int), gi N.inputs y, idOf N y]) by rw [hW2]; exact src_drew (src_lits w1 [((gr N.ends y).length : Int), gi N.inputs y, idOf N y] 3 rfl 172))
      have CL := Lib.hid (show (cdTo N L k).length ≤ 700 by omega)
      rw [← hW2]
      clear hW2
      refine wp_region_gate (n := 5) (S := fun w' => w'.cell? ⟨w.heap.size + 3, 1, none⟩ = some vc) (by kernel_rfl) (duo_facts (row_ext ST2.out.box (Ext.rfl' _).drew')).2.1 (fun hHeld => ?_)
      iterate 3 (
        (first
          | refine wpAnyG_take (i := 0) (v := ?_) rfl (by decide +kernel) (by kernel_rfl) (by decide) (by kernel_rfl) (by kernel_rfl) (fun _ _ _ h => h) (Or.inl ⟨by rfl, ?_⟩) hHeld ?_
          | refine wpAnyG_take (i := 1) (v := ?_) rfl (by decide +kernel) (by kernel_rfl) (by decide) (by kernel_rfl) (by kernel_rfl) (fun _ _ _ h => h) (Or.inl ⟨by rfl, ?_⟩) hHeld ?_
          | refine wpAnyG_take (i := 2) (v := ?_) rfl (by decide +kernel) (by kernel_rfl) (by decide) (by kernel_rfl) (by kernel_rfl) (fun _ _ _ h => h) (Or.inl ⟨by rfl, ?_⟩) hHeld ?_
        )
        rotate_left 1
        · (intro w' hSw; (try dsimp only at hSw); go_simp) <;> with_reducible rfl
        simp only [Act.put, List.setIfInBounds_toArray])
      refine wpAnyG_one (i := 3) rfl (by kernel_rfl) rfl (fun K hK => ?_)
      refine wp_app2 (.tmp 40) (.tmp 41) 26 rfl (w.heap.size + 2) 3 i0 (.int .i64 0) 1 8 Try.underlying26 I0.out.1 I0.out.2.1 I0.out.2.2.1 I0.out.2.2.2 rfl (by decide) vc (cdTo N L k).length (intCells (cdTo N L k)) rfl ((ST2.out.code).ext (Ext.rfl' _).drew') (some ⟨w1.heap.size, 0, none⟩) 3 3 (intCells [((gr N.ends y).length : Int), gi N.inputs y, idOf N y]) rfl SRC.out (by have := CL.out; unfold maxLen; omega) (by have := CL.out; omega) (by have := ST2.out.num.lt; have := ST2.out.nbl; simp; omega) ?_
      intro va w3a hg
      obtain ⟨hb1, hst, -⟩ := ST2.out.code_step (Ext.rfl' _).drew' hg rfl
      obtain ⟨aa, la, ca, rfl⟩ : ∃ a l c, va = .slice a l c := by obtain ⟨a, c, h⟩ := hst.code.slice; exact ⟨a, _, c, h⟩
      have STa := Lib.hid hst
      obtain ⟨-, b1, -, b3⟩ := duo_facts hb1
      clear hg hst
      refine hK.out _ _ (fun _ => b1) (fun hHeld' => ?_)
      have hHeld := hHeld' (by decide)
      clear hK K hHeld'
      (
        (first
          | refine wpAnyG_take (i := 4) (v := ?_) rfl (by decide +kernel) (by kernel_rfl) (by decide) (by kernel_rfl) (by kernel_rfl) (fun _ _ _ h => h) (Or.inl ⟨by rfl, ?_⟩) hHeld ?_
        )
        rotate_left 1
        · (intro w' hSw; (try dsimp only at hSw); go_simp) <;> with_reducible rfl
        simp only [Act.put])
      refine wpAnyG_one (i := 5) rfl (by kernel_rfl) rfl (fun K hK => ?_)
      go_simp
      refine hK.out _ _ (fun h => absurd rfl h) (fun _ => ?_)
      clear hK K
      refine wpAnyG_done (by kernel_rfl) ?_ _
      clear hHeld b1 b3 hb1
      obtain ⟨_, hey, hrow⟩ := HEC.out y hyn
      obtain ⟨ra, rb, ro, rc, rfl, hra, hrl, hrm, hrc⟩ := hrow
      have HRC := Lib.hid hrc
      have HRA := Lib.hid hra
      unfold maxLen at hrm
      clear hra hrc
      obtain ⟨W4, hW4⟩ : ∃ W4, W4 = w3a.setCell ⟨w.heap.size + 1 + 1 + 1, 1, none⟩ (.slice aa la ca) := ⟨_, rfl⟩
      have ST4 := Lib.hid (show WSt w WB W4 N.ends.length nb (.slice (some ⟨ob, 0, none⟩) (wkTo N x k).length oc) (.slice aa la ca) (wkTo N x k) (wkTo N x k) (cdTo N L k ++ headCd N (gi L k)) by rw [hW4, HH.out]; exact STa.out)
      obtain ⟨f0, f1, f2, -, -, -⟩ := row3_facts (row_ext RB.out ST4.out.ext)
      have f3 := (EB.out.trans' ST4.out.ext).cell' hey
      rw [← hW4]
      clear hW4 hey
      go_wp2
      clear f0 f1 f2 f3
      obtain ⟨wo, hwo⟩ : ∃ wo : World, wo = wr := ⟨_, rfl⟩
      subst hwo
      go_loopg [50] (gr N.ends y).length (fun g i wx => ∃ (j : Nat) (vn vc : Value), j ≤ (gr N.ends y).length ∧ g = (gr N.ends y).length - j ∧ i = .int .i64 j ∧ Hid (WSt w WB wx N.ends.length nb vn vc (addTo (wkTo N x k) (gr N.ends y) j) (addTo (wkTo N x k) (gr N.ends y) j) (cdTo N L k ++ headCd N (gi L k) ++ endCd L (gr N.ends y) j)))
      case atStart => exact ⟨0, _, _, Nat.zero_le _, rfl, rfl, Lib.hid (by simpa [addTo, endCd] using ST4.out)⟩
      case round =>
        obtain ⟨j, vn, vc, hj, rfl, rfl, Hs⟩ := hrel
        by_cases hj2 : j < (gr N.ends y).length
        · obtain ⟨c1, c2, _⟩ := HRC.out j hj2
          obtain rfl := HRA.out (by omega)
          have hgr := HG.out.leads.node y hyn j hj2
          obtain ⟨z, hz⟩ := Int.eq_ofNat_of_zero_le hgr.1
          have hzn : z < N.ends.length := by omega
          have HE := Lib.hid (show endCd L (gr N.ends y) (j + 1) = endCd L (gr N.ends y) j ++ [ixI L z, gp (gr N.ends y) j] by simp only [endCd]; rw [hz])
          have hbig : Begins (addTo (wkTo N x k) (gr N.ends y) (j + 1)) L := (addTo_begins _ _ _ _ (show j + 1 ≤ (gr N.ends y).length by omega)).trans' (by rw [← HLN.out, HLE.out]; exact wk_begins (by omega))
          have hzin : (z : Int) ∈ addTo (wkTo N x k) (gr N.ends y) (j + 1) := by rw [← hz]; exact gn_prefix (Nat.le_refl _)
          have HIX' := Lib.hid (show ixI (addTo (wkTo N x k) (gr N.ends y) (j + 1)) z = ixI L z by unfold ixI; rw [hbig.ix hzin])
          have HZ' := Lib.hid hzin
          have q1 := (EB.out.trans' Hs.out.ext).cell' c1
          have q2 := (EB.out.trans' Hs.out.ext).cell' c2
          rw [hz] at q1
          obtain ⟨W2, hW2⟩ : ∃ W2, W2 = wr.alloc (.cells #[.int .i64 z, .int .i64 (gp (gr N.ends y) j)] 95) := ⟨_, rfl⟩
          have X2 := Lib.hid (show Ext wr W2 by rw [hW2]; exact (Ext.rfl' _).alloc' _)
          have R2 := Lib.hid (show W2.rowIs wr.heap.size 95 2 (duo (.int .i64 z) (.int .i64 (gp (gr N.ends y) j))) by rw [hW2]; exact duo_made _ _ _ _)
          have ST2' := Lib.hid (Hs.out.lift X2.out)
          have hne : wr.heap.size ≠ w.heap.size + 3 := by have := Hs.out.box.lt; omega
          have HNE := Lib.hid hne
          clear hgr c1 c2 hbig hzin hne
          by_cases hmem : (z : Int) ∈ addTo (wkTo N x k) (gr N.ends y) j
          · have HA := Lib.hid (show addTo (wkTo N x k) (gr N.ends y) (j + 1) = addTo (wkTo N x k) (gr N.ends y) j from addOne_in (by rw [hz]; exact hmem))
            have HZ := Lib.hid hmem
            have HIX := Lib.hid (show ixI (addTo (wkTo N x k) (gr N.ends y) j) z = ixI L z by rw [← HA.out]; exact HIX'.out)
            have nz := ST2'.out.num.cell hzn
            rw [numC_in hmem] at nz
            have hix : (ixI (addTo (wkTo N x k) (gr N.ends y) j) z == -1) = false := by unfold ixI; simp
            obtain ⟨a0, a1, -, -⟩ := duo_facts R2.out
            rw [hW2] at nz a0 a1
            clear hmem hz
            go_upto_region 16 with fail
            rw [← hW2]
            clear nz a0 a1 hix q1 q2 hW2
            obtain ⟨W5, hW5⟩ : ∃ W5 : World, W5 = W2 := ⟨_, rfl⟩
            subst hW5
            have ST5 := ST2'
            have EB5 := R2
            have VN := vn
            obtain ⟨a0, a1, -, -⟩ := duo_facts EB5.out
            have nz := ST5.out.num.cell hzn
            rw [numC_in HZ.out, HIX.out] at nz
            have NZ := Lib.hid (show W5.cell? ⟨nb, 0 + z, none⟩ = some (.int .i64 (ixI L z)) by rw [Nat.zero_add]; exact nz)
            go_wp2_with (first | (go_at_call 175; (with_reducible refine (numberedEnd_any NZ.out hzn).mono ?_); rintro e w6 ⟨rfl, hx6⟩; have X6 := Lib.hid hx6; clear hx6) | fail)
            clear a0 a1 nz
            obtain ⟨W7, hW7⟩ : ∃ W7, W7 = w6.alloc (.cells #[.int .i64 (ixI L z), .int .i64 (gp (gr N.ends y) j)] 175) := ⟨_, rfl⟩
            have ST7 := Lib.hid (ST5.out.lift (show Ext W5 W7 by rw [hW7]; exact X6.out.alloc' _))
            have SRC := Lib.hid (show SrcAt W7.drew (some ⟨w6.heap.size, 0, none⟩) 2 1 (intCells [ixI L z, gp (gr N.ends y) j]) by rw [hW7]; exact src_drew (src_lits w6 [ixI L z, gp (gr N.ends y) j] 2 rfl 175))
            have CL := Lib.hid (show (cdTo N L k ++ headCd N (gi L k) ++ endCd L (gr N.ends y) j).length ≤ 700 by simp only [List.length_append, endCd_len, headCd, List.length_cons, List.length_nil]; omega)
            rw [← hW7]
            clear hW7
            refine wp_region_gate (n := 5) (S := fun w' => w'.cell? ⟨w.heap.size + 3, 1, none⟩ = some vc) (by kernel_rfl) (duo_facts (row_ext ST7.out.box (Ext.rfl' _).drew')).2.1 (fun hHeld => ?_)
            iterate 3 (
              (first
                | refine wpAnyG_take (i := 0) (v := ?_) rfl (by decide +kernel) (by kernel_rfl) (by decide) (by kernel_rfl) (by kernel_rfl) (fun _ _ _ h => h) (Or.inl ⟨by rfl, ?_⟩) hHeld ?_
                | refine wpAnyG_take (i := 1) (v := ?_) rfl (by decide +kernel) (by kernel_rfl) (by decide) (by kernel_rfl) (by kernel_rfl) (fun _ _ _ h => h) (Or.inl ⟨by rfl, ?_⟩) hHeld ?_
                | refine wpAnyG_take (i := 2) (v := ?_) rfl (by decide +kernel) (by kernel_rfl) (by decide) (by kernel_rfl) (by kernel_rfl) (fun _ _ _ h => h) (Or.inl ⟨by rfl, ?_⟩) hHeld ?_
              )
              rotate_left 1
              · (intro w' hSw; (try dsimp only at hSw); go_simp) <;> with_reducible rfl
              simp only [Act.put, List.setIfInBounds_toArray])
            refine wpAnyG_one (i := 3) rfl (by kernel_rfl) rfl (fun K hK => ?_)
            refine wp_app2 (.tmp 78) (.tmp 79) 26 rfl (w.heap.size + 2) 3 i0 (.int .i64 0) 1 8 Try.underlying26 I0.out.1 I0.out.2.1 I0.out.2.2.1 I0.out.2.2.2 rfl (by decide) vc (cdTo N L k ++ headCd N (gi L k) ++ endCd L (gr N.ends y) j).length (intCells (cdTo N L k ++ headCd N (gi L k) ++ endCd L (gr N.ends y) j)) rfl ((ST7.out.code).ext (Ext.rfl' _).drew') (some ⟨w6.heap.size, 0, none⟩) 2 2 (intCells [ixI L z, gp (gr N.ends y) j]) rfl SRC.out (by have := CL.out; unfold maxLen; omega) (by have := CL.out; omega) (by have := ST7.out.num.lt; have := ST7.out.nbl; simp; omega) ?_
            intro vb w3b hg
            obtain ⟨hb1, hst, -⟩ := ST7.out.code_step (Ext.rfl' _).drew' hg rfl
            obtain ⟨ab, lb, cb, rfl⟩ : ∃ a l c, vb = .slice a l c := by obtain ⟨a, c, h⟩ := hst.code.slice; exact ⟨a, _, c, h⟩
            have STb := Lib.hid hst
            obtain ⟨-, b1, -, b3⟩ := duo_facts hb1
            clear hg hst
            refine hK.out _ _ (fun _ => b1) (fun hHeld' => ?_)
            have hHeld := hHeld' (by decide)
            clear hK K hHeld'
            (
              (first
                | refine wpAnyG_take (i := 4) (v := ?_) rfl (by decide +kernel) (by kernel_rfl) (by decide) (by kernel_rfl) (by kernel_rfl) (fun _ _ _ h => h) (Or.inl ⟨by rfl, ?_⟩) hHeld ?_
              )
              rotate_left 1
              · (intro w' hSw; (try dsimp only at hSw); go_simp) <;> with_reducible rfl
              simp only [Act.put])
            refine wpAnyG_one (i := 5) rfl (by kernel_rfl) rfl (fun K hK => ?_)
            go_simp
            refine hK.out _ _ (fun h => absurd rfl h) (fun _ => ?_)
            clear hK K
            refine wpAnyG_done (by kernel_rfl) ?_ _
            clear hHeld b1 b3 hb1
            go_wp2
            go_roundg ((gr N.ends y).length - (j + 1))
            case measure => omega
            case rel => exact ⟨j + 1, vn, _, by omega, rfl, by go_num, by rw [HA.out, HE.out, ← List.append_assoc]; exact STb.out⟩
          · have HA := Lib.hid (show addTo (wkTo N x k) (gr N.ends y) (j + 1) = addTo (wkTo N x k) (gr N.ends y) j ++ [(z : Int)] from by have := addOne_new (l := addTo (wkTo N x k) (gr N.ends y) j) (x := gn (gr N.ends y) j) (by rw [hz]; exact hmem); rw [hz] at this; show addOne _ _ = _; rw [hz]; exact this)
            have HZ := Lib.hid (show (z : Int) ∈ addTo (wkTo N x k) (gr N.ends y) j ++ [(z : Int)] by simp)
            have HIX := Lib.hid (show ixI (addTo (wkTo N x k) (gr N.ends y) j ++ [(z : Int)]) z = ixI L z by rw [← HA.out]; exact HIX'.out)
            have nz := ST2'.out.num.cell hzn
            have nfz := ST2'.out.num.frozen z
            rw [numC_out hmem] at nz
            obtain ⟨a0, a1, -, -⟩ := duo_facts R2.out
            obtain ⟨n0, n1, -, -⟩ := duo_facts ST2'.out.box
            obtain ⟨sa, sc, hvn⟩ := Hs.out.nodes.slice
            have hlj : (addTo (wkTo N x k) (gr N.ends y) j).length ≤ N.ends.length := nodup_len _ _ (addTo_nodup (wkTo_nodup N x k) j) (addTo_range HRG.out fun t ht => HG.out.leads.node y hyn t (by omega))
            obtain rfl := hvn
            have STN := Lib.hid (ST2'.out.num_step hmem)
            rw [hW2] at nz nfz a0 a1 n0 n1
            clear hmem hz
            go_upto_region 15 with fail
            rw [← hW2]
            clear nz nfz a0 a1 n0 n1 q1 q2 hW2
            obtain ⟨W3, hW3⟩ : ∃ W3, W3 = W2.setCell ⟨nb, z, none⟩ (.int .i64 (addTo (wkTo N x k) (gr N.ends y) j).length) := ⟨_, rfl⟩
            rw [← hW3] at STN
            have R3 := Lib.hid (show W3.rowIs wr.heap.size 95 2 (duo (.int .i64 z) (.int .i64 (gp (gr N.ends y) j))) by rw [hW3]; exact R2.out.of_block (Below.heap_setCell _ _ _ _ (by have := Hs.out.num.lt; show wr.heap.size ≠ nb; omega)))
            rw [← hW3]
            clear hW3
            obtain ⟨a0, a1, -, -⟩ := duo_facts R3.out
            obtain ⟨n0, n1, n2, n3⟩ := duo_facts STN.out.box
            go_wp2_with (first | (at_builtin; refine wpList_app2 rfl (.tmp 68) (.tmp 71) 26 rfl (w.heap.size + 2) 3 i0 (.int .i64 0) 1 8 Try.underlying26 I0.out.1 I0.out.2.1 I0.out.2.2.1 I0.out.2.2.2 rfl (by decide) _ (addTo (wkTo N x k) (gr N.ends y) j).length (intCells (addTo (wkTo N x k) (gr N.ends y) j)) rfl (STN.out.nodes.ext ((Ext.rfl' _).alloc' _)) (some ⟨W3.heap.size, 0, none⟩) 1 1 (intCells [(z : Int)]) rfl (src_lits W3 [(z : Int)] 1 rfl 3) (by unfold maxLen; omega) (by omega) (by have := STN.out.num.lt; have := STN.out.nbl; simp; omega) ?_))
            intro vd w4 hg
            obtain ⟨hb1, hst, hkp⟩ := STN.out.node_step ((Ext.rfl' W3).alloc' (.cells #[.int .i64 z] 3)) hg rfl
            obtain ⟨b0, -, b2, -⟩ := duo_facts hb1
            obtain ⟨ad, ld, cd', rfl⟩ : ∃ a l c, vd = .slice a l c := by obtain ⟨a, c, h⟩ := hst.nodes.slice; exact ⟨a, _, c, h⟩
            have ST5' := Lib.hid hst
            have EB5' := Lib.hid (hkp (row_ext R3.out ((Ext.rfl' W3).alloc' (.cells #[.int .i64 z] 3))) (by decide) HNE.out)
            clear hg hst hkp hb1 a0 a1 n0 n1 n2 n3
            go_upto_region 16 with fail
            clear b0 b2
            obtain ⟨W5, hW5⟩ : ∃ W5 : World, W5 = w4.setCell ⟨w.heap.size + 1 + 1 + 1, 0, none⟩ (.slice ad ld cd') := ⟨_, rfl⟩
            have ST5 := Lib.hid (show WSt w WB W5 N.ends.length nb (.slice ad ld cd') vc (addTo (wkTo N x k) (gr N.ends y) j ++ [(z : Int)]) (addTo (wkTo N x k) (gr N.ends y) j ++ [(z : Int)]) (cdTo N L k ++ headCd N (gi L k) ++ endCd L (gr N.ends y) j) by rw [hW5]; exact ST5'.out)
            have EB5 := Lib.hid (show W5.rowIs wr.heap.size 95 2 (duo (.int .i64 z) (.int .i64 (gp (gr N.ends y) j))) by rw [hW5]; exact EB5'.out)
            rw [← hW5]
            clear hW5
            obtain ⟨a0, a1, -, -⟩ := duo_facts EB5.out
            have nz := ST5.out.num.cell hzn
            rw [numC_in HZ.out, HIX.out] at nz
            have NZ := Lib.hid (show W5.cell? ⟨nb, 0 + z, none⟩ = some (.int .i64 (ixI L z)) by rw [Nat.zero_add]; exact nz)
            go_wp2_with (first | (go_at_call 175; (with_reducible refine (numberedEnd_any NZ.out hzn).mono ?_); rintro e w6 ⟨rfl, hx6⟩; have X6 := Lib.hid hx6; clear hx6) | fail)
            clear a0 a1 nz
            obtain ⟨W7, hW7⟩ : ∃ W7, W7 = w6.alloc (.cells #[.int .i64 (ixI L z), .int .i64 (gp (gr N.ends y) j)] 175) := ⟨_, rfl⟩
            have ST7 := Lib.hid (ST5.out.lift (show Ext W5 W7 by rw [hW7]; exact X6.out.alloc' _))
            have SRC := Lib.hid (show SrcAt W7.drew (some ⟨w6.heap.size, 0, none⟩) 2 1 (intCells [ixI L z, gp (gr N.ends y) j]) by rw [hW7]; exact src_drew (src_lits w6 [ixI L z, gp (gr N.ends y) j] 2 rfl 175))
            have CL := Lib.hid (show (cdTo N L k ++ headCd N (gi L k) ++ endCd L (gr N.ends y) j).length ≤ 700 by simp only [List.length_append, endCd_len, headCd, List.length_cons, List.length_nil]; omega)
            rw [← hW7]
            clear hW7
            refine wp_region_gate (n := 5) (S := fun w' => w'.cell? ⟨w.heap.size + 3, 1, none⟩ = some vc) (by kernel_rfl) (duo_facts (row_ext ST7.out.box (Ext.rfl' _).drew')).2.1 (fun hHeld => ?_)
            iterate 3 (
              (first
                | refine wpAnyG_take (i := 0) (v := ?_) rfl (by decide +kernel) (by kernel_rfl) (by decide) (by kernel_rfl) (by kernel_rfl) (fun _ _ _ h => h) (Or.inl ⟨by rfl, ?_⟩) hHeld ?_
                | refine wpAnyG_take (i := 1) (v := ?_) rfl (by decide +kernel) (by kernel_rfl) (by decide) (by kernel_rfl) (by kernel_rfl) (fun _ _ _ h => h) (Or.inl ⟨by rfl, ?_⟩) hHeld ?_
                | refine wpAnyG_take (i := 2) (v := ?_) rfl (by decide +kernel) (by kernel_rfl) (by decide) (by kernel_rfl) (by kernel_rfl) (fun _ _ _ h => h) (Or.inl ⟨by rfl, ?_⟩) hHeld ?_
              )
              rotate_left 1
              · (intro w' hSw; (try dsimp only at hSw); go_simp) <;> with_reducible rfl
              simp only [Act.put, List.setIfInBounds_toArray])
            refine wpAnyG_one (i := 3) rfl (by kernel_rfl) rfl (fun K hK => ?_)
            refine wp_app2 (.tmp 78) (.tmp 79) 26 rfl (w.heap.size + 2) 3 i0 (.int .i64 0) 1 8 Try.underlying26 I0.out.1 I0.out.2.1 I0.out.2.2.1 I0.out.2.2.2 rfl (by decide) vc (cdTo N L k ++ headCd N (gi L k) ++ endCd L (gr N.ends y) j).length (intCells (cdTo N L k ++ headCd N (gi L k) ++ endCd L (gr N.ends y) j)) rfl ((ST7.out.code).ext (Ext.rfl' _).drew') (some ⟨w6.heap.size, 0, none⟩) 2 2 (intCells [ixI L z, gp (gr N.ends y) j]) rfl SRC.out (by have := CL.out; unfold maxLen; omega) (by have := CL.out; omega) (by have := ST7.out.num.lt; have := ST7.out.nbl; simp; omega) ?_
            intro vb w3b hg
            obtain ⟨hb1, hst, -⟩ := ST7.out.code_step (Ext.rfl' _).drew' hg rfl
            obtain ⟨ab, lb, cb, rfl⟩ : ∃ a l c, vb = .slice a l c := by obtain ⟨a, c, h⟩ := hst.code.slice; exact ⟨a, _, c, h⟩
            have STb := Lib.hid hst
            obtain ⟨-, b1, -, b3⟩ := duo_facts hb1
            clear hg hst
            refine hK.out _ _ (fun _ => b1) (fun hHeld' => ?_)
            have hHeld := hHeld' (by decide)
            clear hK K hHeld'
            (
              (first
                | refine wpAnyG_take (i := 4) (v := ?_) rfl (by decide +kernel) (by kernel_rfl) (by decide) (by kernel_rfl) (by kernel_rfl) (fun _ _ _ h => h) (Or.inl ⟨by rfl, ?_⟩) hHeld ?_
              )
              rotate_left 1
              · (intro w' hSw; (try dsimp only at hSw); go_simp) <;> with_reducible rfl
              simp only [Act.put])
            refine wpAnyG_one (i := 5) rfl (by kernel_rfl) rfl (fun K hK => ?_)
            go_simp
            refine hK.out _ _ (fun h => absurd rfl h) (fun _ => ?_)
            clear hK K
            refine wpAnyG_done (by kernel_rfl) ?_ _
            clear hHeld b1 b3 hb1
            go_wp2
            go_roundg ((gr N.ends y).length - (j + 1))
            case measure => omega
            case rel => exact ⟨j + 1, _, _, by omega, rfl, by go_num, by rw [HA.out, HE.out, ← List.append_assoc]; exact STb.out⟩
        · obtain ⟨n0, n1, n2, n3⟩ := duo_facts Hs.out.box
          go_wp2
          go_roundg (N.ends.length - (k + 1))
          case measure => omega
          case rel =>
            obtain rfl : j = (gr N.ends y).length := by omega
            refine ⟨k + 1, vn, vc, by omega, Nat.le_trans (show k + 1 ≤ (wkTo N x k).length by omega) (wkTo_begins N x k (k + 1) (by omega)).len, rfl, by go_num, ?_⟩
            have e : cdTo N L (k + 1) = cdTo N L k ++ headCd N (gi L k) ++ endCd L (gr N.ends y) (gr N.ends y).length := by
              show cdTo N L k ++ nodeCd N L (gi L k) = _
              unfold nodeCd rw'; rw [HYL.out, Int.toNat_natCast, List.append_assoc]
            rw [e, HLN.out]; exact Hs.out
    · obtain ⟨r0, r1, t0, t1⟩ := duo_facts Hr.out.res
      obtain ⟨ga, gl, gc, rfl⟩ : ∃ a l c, vc = .slice a l c := by obtain ⟨a, c, h⟩ := Hr.out.code.slice; exact ⟨a, _, c, h⟩
      have HLT := Lib.hid hlt
      clear hcell hlt
      go_wp2
      obtain ⟨g0, g1, -, -⟩ := duo_facts (duo_set1 (duo_set0 Hr.out.res (.slice (some ⟨ob, 0, none⟩) (wkTo N x k).length oc)) (.slice ga gl gc))
      refine bodyPost_ret (v := .agg #[.slice (some ⟨ob, 0, none⟩) (wkTo N x k).length oc, .slice ga gl gc]) (by simp [results, Try.results135, go_sem, g0, g1]) rfl ?_
      have hke : k = (wkTo N x k).length := by have := HLT.out; omega
      have hwk : wk N x = wkTo N x k := wk_done (by omega) hk
      have hcd : code N x = cdTo N L k := by unfold code cd; rw [← HLE.out]; rw [HLE.out, hwk, ← hke]
      have hkL : k ≤ L.length := by rw [HLE.out, hwk]; omega
      obtain ⟨bn, on, -, bb⟩ := Hr.out.nodes.own fun i hi => by have := hrange _ (gi_in hi); unfold inI64; omega
      obtain ⟨bc, on2, -, bb2⟩ := Hr.out.code.own fun i hi => by have := cdTo_range HG.out HWK.out k hkL _ (gi_in hi); unfold inI64; omega
      have oth : ∀ b, w.heap.size + 2 ≤ b → ((wr.setCell ⟨w.heap.size + 1, 0, none⟩ (.slice (some ⟨ob, 0, none⟩) (wkTo N x k).length oc)).setCell ⟨w.heap.size + 1, 1, none⟩ (.slice ga gl gc)).heap[b]? = wr.heap[b]? := fun b hb => (Below.heap_setCell _ _ _ _ (by show b ≠ w.heap.size + 1; omega)).trans (Below.heap_setCell _ _ _ _ (by show b ≠ w.heap.size + 1; omega))
      refine ⟨_, _, bn, bc, rfl, ((EB.out.trans' Hr.out.ext).store (by simp) _).store (by simp) _, by rw [hwk]; exact on.keep fun b hb => oth b (bb b hb), by rw [hcd]; exact on2.keep fun b hb => oth b (bb2 b hb), List.nodup_append.2 ⟨on.1.nodup, on2.1.nodup, fun a ha b hb e => ?_⟩, fun b hb => ?_⟩
      · subst e
        exact Hr.out.ap a ((on.1.block_mem a).2 ha) ((on2.1.block_mem a).2 hb)
      · rcases List.mem_append.1 hb with h1 | h1
        · have := bb b h1; omega
        · have := bb2 b h1; omega
end Go.Proofs.Ytkpdbceglejbnaa
