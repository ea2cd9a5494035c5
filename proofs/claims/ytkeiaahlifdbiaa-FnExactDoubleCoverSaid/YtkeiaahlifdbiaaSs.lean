/- The contract of sideBySide. -/
import Derived.Test.YtkeiaahlifdbiaaUn
namespace Go.Proofs.Ytkeiaahlifdbiaa
open Go.RowKit

def UnionB (A B : Net) : Prop := Good A ∧ Good B ∧ ((A.ids.length : Int) == 0) = ((B.ids.length : Int) == 0) ∧ Good (unionNet A B)
noncomputable def unionAns (A B : Net) : Net := if dec (UnionB A B) = true then unionNet A B else zeroNet
theorem unionAns_t {A B : Net} (h : UnionB A B) : unionAns A B = unionNet A B := by simp [unionAns, dec_true h]
theorem unionAns_f {A B : Net} (h : ¬ UnionB A B) : unionAns A B = zeroNet := by simp [unionAns, dec_false h]
theorem unionAns_small (A B : Net) : (unionAns A B).small := by
  by_cases h : UnionB A B
  · rw [unionAns_t h]; exact good_small h.2.2.2
  · rw [unionAns_f h]; exact zero_small
/-- A network in memory of its own is stored as the result, in a box ahead of its blocks. -/
theorem close_ge {w wk : World} {q : Nat} {x0 x1 x2 : Value} {M : Net} {ds : List Nat} (K : Ext w wk) (hq : w.heap.size ≤ q) (O : OwnNet wk (.agg #[x0, x1, x2]) M ds) (hn : ds.Nodup) (hb : ∀ b ∈ ds, q + 1 ≤ b) :
    Ext w (((wk.setCell ⟨q, 0, none⟩ x0).setCell ⟨q, 1, none⟩ x1).setCell ⟨q, 2, none⟩ x2) ∧
      OwnNet (((wk.setCell ⟨q, 0, none⟩ x0).setCell ⟨q, 1, none⟩ x1).setCell ⟨q, 2, none⟩ x2) (.agg #[x0, x1, x2]) M ds ∧ Fresh w ds := by
  have hst : ∀ (wx : World) (p : Addr) (z : Value), p.block = q → ∀ b ∈ ds, (wx.setCell p z).heap[b]? = wx.heap[b]? := fun wx p z hp b hb' => Below.heap_setCell _ _ _ _ (by have := hb b hb'; omega)
  exact ⟨store3_ext K hq _ _ _, ((O.keep (hst _ _ _ rfl)).keep (hst _ _ _ rfl)).keep (hst _ _ _ rfl), hn, fun b hb' => by have := hb b hb'; omega⟩

set_option maxHeartbeats 3200000 in
set_option maxRecDepth 100000 in
theorem sideBySide_any {w : World} {v u : Value} {A B : Net} (h : NetAt w v A) (k : NetAt w u B) (hA : Good A) (hB : Good B) :
    Calls Try.prog 126 #[v, u] w fun e w' => ∃ v' bs, e = .returned v' ∧ Ext w w' ∧ OwnNet w' v' (unionNet A B) bs ∧ Fresh w bs := by
  have HA := Lib.hid h
  have HB := Lib.hid k
  obtain ⟨v0, v1, v2, rfl, hE, hI, hP⟩ := h
  obtain ⟨av, _, _, cv, rfl, -, -, cvm, -⟩ := hE
  obtain ⟨ia, _, _, ic, rfl, -, -, icm, -⟩ := hI
  clear hP
  obtain ⟨u0, u1, u2, rfl, hE, hI, hP⟩ := k
  have HIB := Lib.hid hI
  have HPB := Lib.hid hP
  have HIr := Lib.hid hI.range
  have HPr := Lib.hid hP.range
  obtain ⟨bi, _, _, ci, rfl, -, -, cim, -⟩ := hI
  obtain ⟨bp, _, _, cp, rfl, -, -, cpm, -⟩ := hP
  obtain ⟨bu, eb, eo, cu, rfl, ha, hl, hm, hc⟩ := hE
  unfold maxLen at icm cvm cim cpm hm
  have Hc := Lib.hid hc
  have Ha := Lib.hid ha
  clear hc ha
  obtain ⟨i3, hi, hz0, hz1, hz2⟩ := info_parts Try.info3
  obtain ⟨i44, hj, hy0, hy1, hy2⟩ := info_parts Try.info44
  obtain ⟨i70, hk, hx0, hx1, hx2⟩ := info_parts Try.info70
  have I3 := Lib.hid (And.intro hi (And.intro hz0 (And.intro hz1 hz2)))
  have I44 := Lib.hid (And.intro hj (And.intro hy0 (And.intro hy1 hy2)))
  have I70 := Lib.hid (And.intro hk (And.intro hx0 (And.intro hx1 hx2)))
  clear hi hz0 hz1 hz2 hj hy0 hy1 hy2 hk hx0 hx1 hx2
  obtain ⟨W0, hW0⟩ : ∃ W0, W0 = (((boxed (boxed w (.slice av A.ends.length cv) (.slice ia A.ids.length ic) v2 29) (.slice bu B.ends.length cu) (.slice bi B.ids.length ci) (.slice bp B.inputs.length cp) 29).alloc (.cells #[.slice none 0 0, .slice none 0 0, .slice none 0 0] 29))) := ⟨_, rfl⟩
  have EW : Hid (Ext w W0) := by rw [hW0]; exact ((boxed_ext _ _ _ _ _).trans' (boxed_ext _ _ _ _ _)).alloc' _
  have RA : Hid (W0.rowIs w.heap.size 29 3 (tri (.slice av A.ends.length cv) (.slice ia A.ids.length ic) v2)) := by rw [hW0]; exact ((boxed_row _ _ _ _ _).alloc _).alloc _
  have RB : Hid (W0.rowIs (w.heap.size + 1) 29 3 (tri (.slice bu B.ends.length cu) (.slice bi B.ids.length ci) (.slice bp B.inputs.length cp))) := by rw [hW0]; exact (show World.rowIs _ _ _ _ _ by simpa using boxed_row (boxed w (.slice av A.ends.length cv) (.slice ia A.ids.length ic) v2 29) (.slice bu B.ends.length cu) (.slice bi B.ids.length ci) (.slice bp B.inputs.length cp) 29).alloc _
  have RQ := Lib.hid (show W0.rowIs (w.heap.size + 2) 29 3 (tri (.slice none 0 0) (.slice none 0 0) (.slice none 0 0)) from (show W0.rowIs (w.heap.size + 1 + 1) 29 3 (tri (.slice none 0 0) (.slice none 0 0) (.slice none 0 0)) by rw [hW0]; simpa using row3_made (boxed (boxed w (.slice av A.ends.length cv) (.slice ia A.ids.length ic) v2 29) (.slice bu B.ends.length cu) (.slice bi B.ids.length ci) (.slice bp B.inputs.length cp) 29) (.slice none 0 0) (.slice none 0 0) (.slice none 0 0) 29))
  have hW0s : w.heap.size + 3 = W0.heap.size := by rw [hW0]; simp
  have ZW := Lib.hid hW0s
  clear hW0s
  have GS := Lib.hid (good_small hA)
  have h40A : A.ends.length ≤ 40 := hA.1.2
  have h40B : B.ends.length ≤ 40 := hB.1.2
  have hiA := (good_small hA).2.2.1
  have hpA := (good_small hA).2.2.2
  have hiB := (good_small hB).2.2.1
  have hpB := (good_small hB).2.2.2
  have GB := Lib.hid hB
  clear hA hB
  go_enter Try.func126, Try.ntmps126
  obtain ⟨p0, p1, p2, _, _, _⟩ := row3_facts RA.out
  have X2 := Lib.hid (Ext.rfl' W0)
  go_wp2_with fail
  rw [← hW0]
  clear hW0
  (with_reducible refine (copyNetwork_any (HA.out.ext (EW.out.trans' X2.out)) GS.out).mono ?_)
  rintro e w3 ⟨y, bs, rfl, hw, ho, hf⟩
  clear p0 p1 p2
  obtain ⟨a0, c0, a1, c1, a2, c2, rfl⟩ := ho.agg
  obtain ⟨b1, b2, hb⟩ := und_copy (E := unionEnds A B) ho (X2.out.trans' hw) (hf.of X2.out.size) (gr_unionEnds_left A B)
  have B0 := Lib.hid hb.und
  have X3 := Lib.hid hb.ext
  obtain ⟨q0, q1, q2, _, _, _⟩ := row3_facts (row_ext RB.out hb.ext)
  clear hw ho hf hb
  go_wp2_with fail
  clear q0 q1 q2
  go_loopg [16] B.ends.length (fun g i wr => ∃ k : Nat, k ≤ B.ends.length ∧ g = B.ends.length - k ∧ i = .int .i64 k ∧ Hid (Und W0 ⟨unionEnds A B, A.ids, A.inputs⟩ w3.heap.size (A.ends.length + k) wr))
  case atStart => exact ⟨0, Nat.zero_le _, rfl, rfl, B0.out⟩
  case round =>
    obtain ⟨k, hk, rfl, rfl, Hr⟩ := hrel
    by_cases hlt : k < B.ends.length
    · obtain ⟨x, hx, hrow⟩ := Hc.out k hlt
      obtain rfl := Ha.out (by omega)
      obtain ⟨ya, yc, z1a, z1c, z2a, z2c, e1, e2, hb⟩ := Hr.out.build
      have BB := Lib.hid hb
      have EX := Lib.hid (EW.out.trans' hb.ext)
      have hcell := EX.out.cell' hx
      obtain ⟨ax, bx, ox, cx, rfl, hax, hlx, hmx, hcx⟩ := hrow
      unfold maxLen at hmx
      have Hcx := Lib.hid hcx
      have Hax := Lib.hid hax
      have h6 := (GB.out.2.1 k hlt).1
      have hsl := Lib.hid (length_shiftRow A.ends.length (gr B.ends k))
      have hmk : ∀ z : World, (Instr.makeSlice 67 (.int .i64 ((gr B.ends k).length : Int)) (.int .i64 ((gr B.ends k).length : Int))).run Try.prog z =
          .ok (.slice (some ⟨z.heap.size, 0, none⟩) (gr B.ends k).length (gr B.ends k).length) (z.alloc (.cells (madeCells #[.int .i64 0, .int .i64 0] ((gr B.ends k).length * 2)) 66)) := fun z => by
        have h := run_make (P := Try.prog) z 67 66 i44 _ Try.underlying67 I44.out.1 I44.out.2.1 .i64 .i64 (gr B.ends k).length (gr B.ends k).length (by omega) (Int.le_refl _) (by rw [I44.out.2.2.2]; omega) (by omega)
        simpa [I44.out.2.2.1, Value.cells] using h
      clear hx hb hcx hax
      go_wp2
      have hw0 : ∃ wo : World, wo = wr := ⟨_, rfl⟩
      obtain ⟨wo, rfl⟩ := hw0
      clear hcell hmk
      go_loopg [25] (gr B.ends k).length (fun g i wx => ∃ j : Nat, j ≤ (gr B.ends k).length ∧ g = (gr B.ends k).length - j ∧ i = .int .i64 j ∧ Hid (Ext wo wx ∧ wo.heap.size + 1 ≤ wx.heap.size ∧ wx.rowIs wo.heap.size 66 ((gr B.ends k).length * 2) (ecopied (shiftRow A.ends.length (gr B.ends k)) j)))
      case atStart => exact ⟨0, Nat.zero_le _, rfl, rfl, (Ext.rfl' _).alloc' _, by simp, (emade wo _).congr fun i _ => by simp [ecopied]⟩
      case round =>
        obtain ⟨j, hj, rfl, rfl, Hs⟩ := hrel
        by_cases hjt : j < (gr B.ends k).length
        · obtain ⟨hq1, hq2, _⟩ := Hcx.out j hjt
          obtain rfl := Hax.out (by omega)
          have q1 := Hs.out.1.cell' (EX.out.cell' hq1)
          have q2 := Hs.out.1.cell' (EX.out.cell' hq2)
          obtain ⟨g1, g2, g3, g4⟩ := good_port GB.out hlt hjt
          have hxa := (Ext.rfl' wr).alloc' (.cells #[.int .i64 (gn (gr B.ends k) j), .int .i64 (gp (gr B.ends k) j)] 66)
          obtain ⟨a0', a1', a2', _, _, _⟩ := row3_facts (row_ext RA.out ((BB.out.ext.trans' Hs.out.1).trans' hxa))
          obtain ⟨f1, f2, f3, f4⟩ := row_two (row_ext Hs.out.2.2 hxa) (show j * 2 + 1 < (gr B.ends k).length * 2 by omega)
          have hst := ecopied_step (row_ext Hs.out.2.2 hxa)
          rw [gn_shiftRow _ _ _ hjt, gp_shiftRow _ _ _ hjt, Int.add_comm] at hst
          have HST := Lib.hid hst
          have XST := Lib.hid (((Hs.out.1.trans' hxa).store (p := ⟨wo.heap.size, j * 2, none⟩) (Nat.le_refl _) (.int .i64 (A.ends.length + gn (gr B.ends k) j))).store (p := ⟨wo.heap.size, j * 2 + 1, none⟩) (Nat.le_refl _) (.int .i64 (gp (gr B.ends k) j)))
          have hzo := Lib.hid Hs.out.2.1
          clear hq1 hq2 hst hxa
          go_wp2
          go_roundg ((gr B.ends k).length - (j + 1))
          case measure => omega
          case rel => exact ⟨j + 1, by omega, rfl, by go_num, XST.out, by have := hzo.out; simp [World.setCell]; omega, HST.out⟩
        · obtain rfl : j = (gr B.ends k).length := by omega
          have HO : Hid (OwnE wr (.slice (some ⟨wo.heap.size, 0, none⟩) (gr B.ends k).length (gr B.ends k).length) (shiftRow A.ends.length (gr B.ends k)) [wo.heap.size]) :=
            ⟨by rw [hsl.out]; exact own_made Hs.out.2.2 (by unfold maxLen; omega) (fun i hi => by simp [ecopied]; omega), shift_range GB.out hlt _ h40A⟩
          obtain ⟨R, T, g1, g2, g3, g4⟩ := BB.out.rows
          have HG := Lib.hid (And.intro g1 (And.intro g2 (And.intro g3 g4)))
          obtain ⟨p0, p1, p2, _, _, _⟩ := row3_facts (row_ext BB.out.row (Hs.out.1.alloc' (.cells #[.slice (some ⟨wo.heap.size, 0, none⟩) (gr B.ends k).length (gr B.ends k).length] 67)))
          obtain ⟨r0, r1, r2, _, _, _⟩ := row3_facts (row_ext BB.out.row Hs.out.1)
          have hzo := Lib.hid (Nat.le_trans BB.out.ext.size Hs.out.1.size)
          clear g1 g2 g3 g4
          go_wp2_with (at_builtin; refine wpList_app rfl (.tmp 44) (.tmp 46) 27 rfl W0.heap.size 67 i70 (.slice none 0 0) 1 24 Try.underlying27 I70.out.1 I70.out.2.1 I70.out.2.2.1 I70.out.2.2.2 rfl (by decide) (.slice ya (A.ends.length + k) yc) (A.ends.length + k) ((List.range (A.ends.length + k)).map R) rfl (owns_ext HG.out.1 (Hs.out.1.alloc' _)) (some ⟨wr.heap.size, 0, none⟩) 1 1 [.slice (some ⟨wo.heap.size, 0, none⟩) (gr B.ends k).length (gr B.ends k).length] rfl (src_one wr _ 67 rfl) (by unfold maxLen; omega) (by omega) ?_ ?_)
          · have := hzo.out; (try simp); omega
          intro v' w4 hg
          have hrw := row_grown (row_ext BB.out.row (Hs.out.1.alloc' (.cells #[.slice (some ⟨wo.heap.size, 0, none⟩) (gr B.ends k).length (gr B.ends k).length] 67))) (owns_ext HG.out.1 (Hs.out.1.alloc' _)) hg.2.1 (by decide)
          obtain ⟨na, nc, rfl⟩ := owns_slice hg.1
          have HU := Lib.hid (und_step (N := ⟨unionEnds A B, A.ids, A.inputs⟩) ⟨BB.out.hp, BB.out.ext, BB.out.row, BB.out.ids, BB.out.inputs, BB.out.nodup, BB.out.ge⟩ HG.out Hs.out.1 (by show OwnE _ _ (gr (unionEnds A B) _) _; rw [gr_unionEnds_right _ _ _ hlt]; exact HO.out) (fun b hb => by simp at hb; omega) hg)
          clear hg p0 p1 p2 r0 r1 r2
          obtain ⟨p0, p1, p2, s0, s1, s2⟩ := row3_facts hrw
          clear hrw
          go_wp2
          go_roundg (B.ends.length - (k + 1))
          case measure => omega
          case rel => exact ⟨k + 1, by omega, rfl, by go_num, HU.out⟩
    · obtain rfl : k = B.ends.length := by omega
      obtain ⟨ya, yc, z1a, z1c, z2a, z2c, e1, e2, hb⟩ := Hr.out.build
      have BB := Lib.hid hb
      obtain ⟨p0, p1, p2, _, _, _⟩ := row3_facts hb.row
      obtain ⟨q0, q1, q2, _, _, _⟩ := row3_facts (row_ext RB.out hb.ext)
      clear hb
      go_wp2_with (at_builtin; refine wpList_app2 rfl (.tmp 51) (.tmp 53) 23 rfl W0.heap.size 3 i3 (.int .i64 0) 1 8 Try.underlying23 I3.out.1 I3.out.2.1 I3.out.2.2.1 I3.out.2.2.2 rfl (by decide) (.slice z1a A.ids.length z1c) A.ids.length (intCells A.ids) rfl (BB.out.ids.owns (fun b hb => BB.out.ge b (List.mem_append.2 (.inl hb)))) bi B.ids.length ci (intCells B.ids) rfl (((HIB.out.ext (EW.out.trans' BB.out.ext)).src fun p v hp => hp).2) (by unfold maxLen; omega) (by omega) ?_ ?_)
      · have := BB.out.ext.size; (try simp); omega
      intro v' w5 hg
      obtain ⟨⟨x1, y1, rfl⟩, hr2, cs, hb⟩ := BB.out.moreIds HIr.out hg
      have B1 := Lib.hid hb
      have X5 := Lib.hid hb.ext
      clear hg p0 p1 p2 q0 q1 q2
      obtain ⟨p0, p1, p2, s0, s1, s2⟩ := row3_facts hr2
      obtain ⟨r0, r1, r2, _, _, _⟩ := row3_facts hb.row
      obtain ⟨q0, q1, q2, _, _, _⟩ := row3_facts (row_ext RB.out hb.ext)
      clear hr2 hb
      go_wp2_with (at_builtin; refine wpList_app2 rfl (.tmp 57) (.tmp 59) 23 rfl W0.heap.size 3 i3 (.int .i64 0) 1 8 Try.underlying23 I3.out.1 I3.out.2.1 I3.out.2.2.1 I3.out.2.2.2 rfl (by decide) (.slice z2a A.inputs.length z2c) A.inputs.length (intCells A.inputs) rfl (B1.out.inputs.owns (fun b hb => B1.out.ge b (List.mem_append.2 (.inr hb)))) bp B.inputs.length cp (intCells B.inputs) rfl (((HPB.out.ext (EW.out.trans' X5.out)).src fun p v hp => hp).2) (by unfold maxLen; omega) (by omega) ?_ ?_)
      · have := X5.out.size; (try simp at this); (try simp); omega
      intro v' w6 hg
      obtain ⟨⟨x2, y2, rfl⟩, hr3, ds, hb⟩ := B1.out.moreInputs HPr.out hg
      have X6 := Lib.hid (EW.out.trans' hb.ext)
      have hrows : GrowL W0.heap.size (w6.setCell ⟨w3.heap.size, 2, none⟩ (.slice x2 (A.inputs.length + B.inputs.length) y2)) (.slice ya (A.ends.length + B.ends.length) yc) (unionEnds A B) (unionEnds A B).length := by rw [length_unionEnds]; exact hb.rows
      obtain ⟨fs, ho, hnd, hge⟩ := hrows.done
      have HN := Lib.hid (net_of_parts (W := W0) (N := unionNet A B) ho hb.ids hb.inputs hnd hb.nodup hge hb.ge)
      have RQ6 := Lib.hid (row_ext RQ.out hb.ext)
      have R6 := Lib.hid hb.row
      clear hg p0 p1 p2 s0 s1 s2 r0 r1 r2 q0 q1 q2 ho hnd hge hrows hb
      obtain ⟨p0, p1, p2, s0, s1, s2⟩ := row3_facts hr3
      obtain ⟨r0, r1, r2, _, _, _⟩ := row3_facts R6.out
      clear hr3
      obtain ⟨u0, u1, u2, v0, v1, v2⟩ := row3_facts RQ6.out
      go_wp2
      refine bodyPost_ret (v := .agg #[.slice ya (A.ends.length + B.ends.length) yc, .slice x1 (A.ids.length + B.ids.length) y1, .slice x2 (A.inputs.length + B.inputs.length) y2]) (by simp [results, Try.results126, go_sem, u0, u1, u2]) rfl ?_
      have hc := close_ge X6.out (by omega) HN.out.1 HN.out.2.1 (q := w.heap.size + 2) (fun b hb => by have := HN.out.2.2 b hb; have := ZW.out; omega)
      exact ⟨_, rfl, hc.1, _, hc.2.1, hc.2.2⟩
end Go.Proofs.Ytkeiaahlifdbiaa
