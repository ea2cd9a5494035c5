/- The contract of neUnion. -/
import Derived.Test.YtapkmhicajalaaaUn
namespace Go.Proofs.Ytapkmhicajalaaa
open Go.RowKit

set_option maxHeartbeats 3200000 in
set_option maxRecDepth 100000 in
theorem neUnion_any {w : World} {v u : Value} {A B : Net} (h : NetAt w v A) (k : NetAt w u B) (hA : Good A) (hB : Good B) :
    Calls Try.prog 83 #[v, u] w fun e w' => ∃ v' bs, e = .returned v' ∧ Ext w w' ∧ OwnNet w' v' (unionNet A B) bs ∧ Fresh w bs := by
  have HA := Lib.hid h
  have HB := Lib.hid k
  obtain ⟨v0, v1, v2, rfl, hE, hI, hP⟩ := h
  obtain ⟨av, _, _, cv, rfl, -, -, cvm, -⟩ := hE
  clear hI hP
  obtain ⟨u0, u1, u2, rfl, hE, hI, hP⟩ := k
  have HIB := Lib.hid hI
  have HPB := Lib.hid hP
  have HIr := Lib.hid hI.range
  have HPr := Lib.hid hP.range
  obtain ⟨bi, _, _, ci, rfl, -, -, cim, -⟩ := hI
  obtain ⟨bp, _, _, cp, rfl, -, -, cpm, -⟩ := hP
  obtain ⟨bu, eb, eo, cu, rfl, ha, hl, hm, hc⟩ := hE
  unfold maxLen at cvm cim cpm hm
  have Hc := Lib.hid hc
  have Ha := Lib.hid ha
  clear hc ha
  obtain ⟨i3, hi, hz0, hz1, hz2⟩ := info_parts Try.info3
  obtain ⟨i44, hj, hy0, hy1, hy2⟩ := info_parts Try.info44
  obtain ⟨i70, hk, hx0, hx1, hx2⟩ := info_parts Try.info70
  have I3 := Lib.hid (And.intro hi (And.intro hz0 (And.intro hz1 hz2)))
  have I44 := Lib.hid (And.intro hj (And.intro hy0 (And.intro hy1 hy2)))
  have I70 := Lib.hid (And.intro hk (And.intro hx0 (And.intro hx1 hx2)))
  clear hi hz0 hz1 hz2 hj hy0 hy1 hy2 hk hx0 hx1 hx2
  obtain ⟨W0, hW0⟩ : ∃ W0, W0 = (((boxed (boxed w (.slice av A.ends.length cv) v1 v2 31) (.slice bu B.ends.length cu) (.slice bi B.ids.length ci) (.slice bp B.inputs.length cp) 31).alloc (.cells #[.slice none 0 0, .slice none 0 0, .slice none 0 0] 31))) := ⟨_, rfl⟩
  have EW : Hid (Ext w W0) := by rw [hW0]; exact ((boxed_ext _ _ _ _ _).trans' (boxed_ext _ _ _ _ _)).alloc' _
  have RA : Hid (W0.rowIs w.heap.size 31 3 (tri (.slice av A.ends.length cv) v1 v2)) := by rw [hW0]; exact ((boxed_row _ _ _ _ _).alloc _).alloc _
  have RB : Hid (W0.rowIs (w.heap.size + 1) 31 3 (tri (.slice bu B.ends.length cu) (.slice bi B.ids.length ci) (.slice bp B.inputs.length cp))) := by rw [hW0]; exact (show World.rowIs _ _ _ _ _ by simpa using boxed_row (boxed w (.slice av A.ends.length cv) v1 v2 31) (.slice bu B.ends.length cu) (.slice bi B.ids.length ci) (.slice bp B.inputs.length cp) 31).alloc _
  have RQ := Lib.hid (show W0.rowIs (w.heap.size + 2) 31 3 (tri (.slice none 0 0) (.slice none 0 0) (.slice none 0 0)) from (show W0.rowIs (w.heap.size + 1 + 1) 31 3 (tri (.slice none 0 0) (.slice none 0 0) (.slice none 0 0)) by rw [hW0]; simpa using row3_made (boxed (boxed w (.slice av A.ends.length cv) v1 v2 31) (.slice bu B.ends.length cu) (.slice bi B.ids.length ci) (.slice bp B.inputs.length cp) 31) (.slice none 0 0) (.slice none 0 0) (.slice none 0 0) 31))
  have hW0s : w.heap.size + 3 = W0.heap.size := by rw [hW0]; simp
  have ZW := Lib.hid hW0s
  clear hW0s
  have GS := Lib.hid (good_small hA)
  have h40A : A.ends.length ≤ 40 := hA.1.2
  have h40B : B.ends.length ≤ 40 := hB.1.2
  have hiA := (good_small hA).2.2.1
  have hpA := (good_small hA).2.2.2
  have hiB := (good_small hB).2.2.1
  have hpB := (good_small hB).2.2.2
  have GB := Lib.hid hB
  clear hA hB
  go_enter Try.func83, Try.ntmps83
  go_wp2_with fail
  rw [← hW0]
  clear hW0
  (with_reducible refine (neOwn_any (HA.out.ext EW.out) GS.out).mono ?_)
  rintro e w1 ⟨y, bs, rfl, hw, ho, hf⟩
  obtain ⟨a0, c0, a1, c1, a2, c2, rfl⟩ := ho.agg
  obtain ⟨b1, b2, hb⟩ := und_copy (E := unionEnds A B) ho hw hf (gr_unionEnds_left A B)
  have B0 := Lib.hid hb
  have hX := hw.trans' ((Ext.rfl' w1).alloc' (.cells #[.slice a0 A.ends.length c0, .slice a1 A.ids.length c1, .slice a2 A.inputs.length c2] 31))
  have X0 := Lib.hid hX
  have hz1 := Lib.hid hw.size
  obtain ⟨p0, p1, p2, _, _, _⟩ := row3_facts hb.row
  obtain ⟨q0, q1, q2, _, _, _⟩ := row3_facts (row_ext RB.out hX)
  clear hw ho hf hb hX
  go_wp2_with (at_builtin; refine wpList_app2 rfl (.tmp 14) (.tmp 16) 23 rfl W0.heap.size 3 i3 (.int .i64 0) 1 8 Try.underlying23 I3.out.1 I3.out.2.1 I3.out.2.2.1 I3.out.2.2.2 rfl (by decide) (.slice a1 A.ids.length c1) A.ids.length (intCells A.ids) rfl (B0.out.ids.owns (fun b hb => B0.out.ge b (List.mem_append.2 (.inl hb)))) bi B.ids.length ci (intCells B.ids) rfl (((HIB.out.ext (EW.out.trans' X0.out)).src fun p v hp => hp).2) (by unfold maxLen; omega) (by omega) ?_ ?_)
  · have := hz1.out; (try simp); omega
  intro v' w2 hg
  obtain ⟨⟨x1, y1, rfl⟩, hr2, cs, hb⟩ := B0.out.moreIds HIr.out hg
  have B1 := Lib.hid hb
  have X1 := Lib.hid hb.ext
  clear hg p0 p1 p2 q0 q1 q2
  obtain ⟨p0, p1, p2, s0, s1, s2⟩ := row3_facts hr2
  obtain ⟨r0, r1, r2, _, _, _⟩ := row3_facts hb.row
  obtain ⟨q0, q1, q2, _, _, _⟩ := row3_facts (row_ext RB.out hb.ext)
  clear hr2 hb
  go_wp2_with (at_builtin; refine wpList_app2 rfl (.tmp 20) (.tmp 22) 23 rfl W0.heap.size 3 i3 (.int .i64 0) 1 8 Try.underlying23 I3.out.1 I3.out.2.1 I3.out.2.2.1 I3.out.2.2.2 rfl (by decide) (.slice a2 A.inputs.length c2) A.inputs.length (intCells A.inputs) rfl (B1.out.inputs.owns (fun b hb => B1.out.ge b (List.mem_append.2 (.inr hb)))) bp B.inputs.length cp (intCells B.inputs) rfl (((HPB.out.ext (EW.out.trans' X1.out)).src fun p v hp => hp).2) (by unfold maxLen; omega) (by omega) ?_ ?_)
  · have := X1.out.size; (try simp at this); (try simp); omega
  intro v' w3 hg
  obtain ⟨⟨x2, y2, rfl⟩, hr3, ds, hb⟩ := B1.out.moreInputs HPr.out hg
  have B2 : Hid (Und W0 (unionNet A B) w1.heap.size A.ends.length _) := hb.und
  have X2 := Lib.hid hb.ext
  clear hg p0 p1 p2 s0 s1 s2 r0 r1 r2 q0 q1 q2
  obtain ⟨p0, p1, p2, s0, s1, s2⟩ := row3_facts hr3
  obtain ⟨q0, q1, q2, _, _, _⟩ := row3_facts (row_ext RB.out hb.ext)
  clear hr3 hb
  go_wp2_with fail
  clear p0 p1 p2 s0 s1 s2 q0 q1 q2
  go_loopg [28] B.ends.length (fun g i wr => ∃ k : Nat, k ≤ B.ends.length ∧ g = B.ends.length - k ∧ i = .int .i64 k ∧ Hid (Und W0 (unionNet A B) w1.heap.size (A.ends.length + k) wr))
  case atStart => exact ⟨0, Nat.zero_le _, rfl, rfl, B2.out⟩
  case round =>
    obtain ⟨k, hk, rfl, rfl, Hr⟩ := hrel
    by_cases hlt : k < B.ends.length
    · obtain ⟨x, hx, hrow⟩ := Hc.out k hlt
      obtain rfl := Ha.out (by omega)
      obtain ⟨ya, yc, z1a, z1c, z2a, z2c, e1, e2, hb⟩ := Hr.out.build
      have BB := Lib.hid hb
      have EX := Lib.hid (EW.out.trans' hb.ext)
      have hcell := EX.out.cell' hx
      obtain ⟨ax, bx, ox, cx, rfl, hax, hlx, hmx, hcx⟩ := hrow
      unfold maxLen at hmx
      have Hcx := Lib.hid hcx
      have Hax := Lib.hid hax
      have h6 := (GB.out.2.1 k hlt).1
      have hsl := Lib.hid (length_shiftRow A.ends.length (gr B.ends k))
      clear hx hb hcx hax
      go_wp2
      have hw0 : ∃ wo : World, wo = wr := ⟨_, rfl⟩
      obtain ⟨wo, rfl⟩ := hw0
      clear hcell
      go_loopg [8, 34] (gr B.ends k).length (fun g s i wx => ∃ j : Nat, j ≤ (gr B.ends k).length ∧ g = (gr B.ends k).length - j ∧ i = .int .i64 j ∧ Hid (Ext wo wx ∧ wx.ownsRow wo.heap.size 79 2 s j (endCells ((shiftRow A.ends.length (gr B.ends k)).take j))))
      case atStart => exact ⟨0, Nat.zero_le _, rfl, rfl, Ext.rfl' _, by simpa [endCells] using World.ownsRow_nil wo wo.heap.size 79 2⟩
      case round =>
        obtain ⟨j, hj, rfl, rfl, Hs⟩ := hrel
        by_cases hjt : j < (gr B.ends k).length
        · obtain ⟨hq1, hq2, _⟩ := Hcx.out j hjt
          obtain rfl := Hax.out (by omega)
          have q1 := Hs.out.1.cell' (EX.out.cell' hq1)
          have q2 := Hs.out.1.cell' (EX.out.cell' hq2)
          obtain ⟨g1, g2, g3, g4⟩ := good_port GB.out hlt hjt
          have hxa := (Ext.rfl' wr).alloc' (.cells #[.int .i64 (gn (gr B.ends k) j), .int .i64 (gp (gr B.ends k) j)] 79)
          obtain ⟨a0', a1', a2', _, _, _⟩ := row3_facts (row_ext RA.out ((BB.out.ext.trans' Hs.out.1).trans' hxa))
          have HS2 : Hid (((wr.alloc (.cells #[.int .i64 (gn (gr B.ends k) j), .int .i64 (gp (gr B.ends k) j)] 79)).alloc (.cells #[.int .i64 (gn (gr B.ends k) j + A.ends.length), .int .i64 (gp (gr B.ends k) j)] 79)).ownsRow wo.heap.size 79 2 u8 j (endCells ((shiftRow A.ends.length (gr B.ends k)).take j))) := owns_ext Hs.out.2 (hxa.alloc' _)
          have hsn := ends_snoc (shiftRow A.ends.length (gr B.ends k)) j (by rw [hsl.out]; exact hjt)
          rw [gn_shiftRow _ _ _ hjt, gp_shiftRow _ _ _ hjt] at hsn
          have HSN := Lib.hid hsn
          have hzo := Lib.hid Hs.out.1.size
          clear hq1 hq2 hsn hxa
          go_wp2_with (at_builtin; refine wpList_app rfl (.tmp 38) (.tmp 48) 77 rfl wo.heap.size 79 i44 (.agg #[.int .i64 0, .int .i64 0]) 2 16 Try.underlying77 I44.out.1 I44.out.2.1 I44.out.2.2.1 I44.out.2.2.2 rfl (by decide) u8 j (endCells ((shiftRow A.ends.length (gr B.ends k)).take j)) rfl HS2.out (some ⟨wr.heap.size + 1, 0, none⟩) 1 1 [.int .i64 (gn (gr B.ends k) j + A.ends.length), .int .i64 (gp (gr B.ends k) j)] rfl (by simpa using src_two' (wr.alloc (.cells #[.int .i64 (gn (gr B.ends k) j), .int .i64 (gp (gr B.ends k) j)] 79)) (.int .i64 (gn (gr B.ends k) j + A.ends.length)) (.int .i64 (gp (gr B.ends k) j)) 79 rfl rfl) (by unfold maxLen; omega) (by omega) ?_ ?_)
          · have := hzo.out; (try simp); omega
          intro v' w4 hg
          have G4 : Hid (Ext wo w4 ∧ w4.ownsRow wo.heap.size 79 2 v' (j + 1) (endCells ((shiftRow A.ends.length (gr B.ends k)).take (j + 1)))) := ⟨hg.ext ((Hs.out.1.alloc' _).alloc' _) (fun b hb => (HS2.out.lt b hb).1), by rw [← HSN.out]; exact hg.1⟩
          clear hg a0' a1' a2' q1 q2
          go_wp2
          go_roundg ((gr B.ends k).length - (j + 1))
          case measure => omega
          case rel => exact ⟨j + 1, by omega, rfl, by go_num, G4.out⟩
        · obtain rfl : j = (gr B.ends k).length := by omega
          have hown := Hs.out.2
          rw [List.take_of_length_le (by rw [hsl.out]; exact Nat.le_refl _)] at hown
          obtain ⟨fs, ho, hnd, hge⟩ := end_own_of_row (l := shiftRow A.ends.length (gr B.ends k)) (by rw [hsl.out]; exact hown) (fun i hi => endCells_get _ i hi) (shift_range GB.out hlt _ h40A)
          obtain ⟨oa, oc, rfl⟩ := ho.1.slice
          have HO := Lib.hid (And.intro ho hge)
          obtain ⟨R, T, g1, g2, g3, g4⟩ := BB.out.rows
          have HG := Lib.hid (And.intro g1 (And.intro g2 (And.intro g3 g4)))
          obtain ⟨p0, p1, p2, _, _, _⟩ := row3_facts (row_ext BB.out.row (Hs.out.1.alloc' (.cells #[.slice oa (shiftRow A.ends.length (gr B.ends k)).length oc] 77)))
          obtain ⟨r0, r1, r2, _, _, _⟩ := row3_facts (row_ext BB.out.row Hs.out.1)
          have hzo := Lib.hid (Nat.le_trans BB.out.ext.size Hs.out.1.size)
          clear hown ho hnd hge g1 g2 g3 g4
          go_wp2_with (at_builtin; refine wpList_app rfl (.tmp 52) (.tmp 54) 29 rfl W0.heap.size 77 i70 (.slice none 0 0) 1 24 Try.underlying29 I70.out.1 I70.out.2.1 I70.out.2.2.1 I70.out.2.2.2 rfl (by decide) (.slice ya (A.ends.length + k) yc) (A.ends.length + k) ((List.range (A.ends.length + k)).map R) rfl (owns_ext HG.out.1 (Hs.out.1.alloc' _)) (some ⟨wr.heap.size, 0, none⟩) 1 1 [.slice oa (shiftRow A.ends.length (gr B.ends k)).length oc] rfl (src_one wr _ 77 rfl) (by unfold maxLen; omega) (by omega) ?_ ?_)
          · have := hzo.out; (try simp); omega
          intro v' w4 hg
          have hrw := row_grown (row_ext BB.out.row (Hs.out.1.alloc' (.cells #[.slice oa (shiftRow A.ends.length (gr B.ends k)).length oc] 77))) (owns_ext HG.out.1 (Hs.out.1.alloc' _)) hg.2.1 (by decide)
          obtain ⟨na, nc, rfl⟩ := owns_slice hg.1
          have HU := Lib.hid (und_step (N := unionNet A B) ⟨BB.out.hp, BB.out.ext, BB.out.row, BB.out.ids, BB.out.inputs, BB.out.nodup, BB.out.ge⟩ HG.out Hs.out.1 (by show OwnE _ _ (gr (unionEnds A B) _) _; rw [gr_unionEnds_right _ _ _ hlt]; exact HO.out.1) HO.out.2 hg)
          clear hg p0 p1 p2 r0 r1 r2
          obtain ⟨p0, p1, p2, s0, s1, s2⟩ := row3_facts hrw
          clear hrw
          go_wp2
          go_roundg (B.ends.length - (k + 1))
          case measure => omega
          case rel => exact ⟨k + 1, by omega, rfl, by go_num, HU.out⟩
    · obtain rfl : k = B.ends.length := by omega
      obtain ⟨ya, yc, z1a, z1c, z2a, z2c, e1, e2, hb⟩ := Hr.out.build
      have hrows : GrowL W0.heap.size wr (.slice ya (A.ends.length + B.ends.length) yc) (unionEnds A B) (unionEnds A B).length := by rw [length_unionEnds]; exact hb.rows
      obtain ⟨fs, ho, hnd, hge⟩ := hrows.done
      have HN := Lib.hid (net_of_parts (W := W0) (N := unionNet A B) ho hb.ids hb.inputs hnd hb.nodup hge hb.ge)
      have X9 := Lib.hid (EW.out.trans' hb.ext)
      obtain ⟨p0, p1, p2, _, _, _⟩ := row3_facts hb.row
      obtain ⟨q0, q1, q2, s0, s1, s2⟩ := row3_facts (row_ext RQ.out hb.ext)
      clear ho hnd hge hrows hb
      go_wp2
      refine bodyPost_ret (v := .agg #[.slice ya (A.ends.length + B.ends.length) yc, .slice z1a (unionNet A B).ids.length z1c, .slice z2a (unionNet A B).inputs.length z2c]) (by simp [results, Try.results83, go_sem, q0, q1, q2]) rfl ?_
      have hst : ∀ (wx : World) (p : Addr) (z : Value), p.block = w.heap.size + 2 → ∀ b ∈ fs ++ (e1 ++ e2), (wx.setCell p z).heap[b]? = wx.heap[b]? := fun wx p z hp b hb' => Below.heap_setCell _ _ _ _ (by have := HN.out.2.2 b hb'; have := ZW.out; omega)
      exact ⟨_, fs ++ (e1 ++ e2), rfl, store3_ext X9.out (by omega) _ _ _, ((HN.out.1.keep (hst _ _ _ rfl)).keep (hst _ _ _ rfl)).keep (hst _ _ _ rfl), HN.out.2.of (by have := ZW.out; omega)⟩
end Go.Proofs.Ytapkmhicajalaaa
