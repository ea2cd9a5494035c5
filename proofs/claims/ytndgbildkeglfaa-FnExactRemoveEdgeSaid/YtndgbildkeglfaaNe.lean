/- The contract of the model's neGood and IsNetwork. -/
import Derived.Test.YtndgbildkeglfaaGood
namespace Go.Proofs.Ytndgbildkeglfaa
open Go.RowKit

/-- The world with a new block of three cells. -/
abbrev boxed (w : World) (v0 v1 v2 : Value) (t : Nat) : World := w.alloc (.cells #[v0, v1, v2] t)
theorem boxed_ext (w : World) (v0 v1 v2 : Value) (t : Nat) : Ext w (boxed w v0 v1 v2 t) := (Ext.rfl' w).alloc' _
theorem boxed_row (w : World) (v0 v1 v2 : Value) (t : Nat) : (boxed w v0 v1 v2 t).rowIs w.heap.size t 3 (tri v0 v1 v2) := row3_made w v0 v1 v2 t

theorem join_in {l : List (List (Int × Int))} {k j : Nat} (h : JoinOK l k j) : InB (gn (gr l k) j) 0 (l.length - 1) ∧ InB (gp (gr l k) j) 0 ((gr l (gn (gr l k) j).toNat).length - 1) := by
  obtain ⟨⟨a, b, c, d⟩, _⟩ := h
  exact ⟨⟨a, by omega⟩, ⟨c, by omega⟩⟩

set_option maxHeartbeats 3200000 in
set_option maxRecDepth 100000 in
/-- The loops of neGood, for networks whose other parts are in order. -/
theorem neGood_loops {w : World} {v : Value} {N : Net} (h : NetAt w v N) (hb : InB N.ends.length 1 40) (h2 : IdsOK N.ids N.ends.length) (h3 : (N.inputs.length : Int) = N.ends.length) (h4 : AllIn N.inputs 0 9) :
    Calls Try.prog 66 #[v] w fun e w' => e = .returned (.bool (dec (Good N))) ∧ Ext w w' := by
  obtain ⟨v0, v1, v2, rfl, hE, hI, hP⟩ := h
  have HE := Lib.hid hE
  have HI := Lib.hid hI
  have HP := Lib.hid hP
  obtain ⟨a, b, o, c, rfl, ha, hl, hm, hc⟩ := hE
  obtain ⟨a1, b1, o1, c1, rfl, _, hl1, hm1, _⟩ := hI
  obtain ⟨a2, b2, o2, c2, rfl, _, hl2, hm2, _⟩ := hP
  unfold maxLen at hm hm1 hm2
  have Hc := Lib.hid hc
  have Ha := Lib.hid ha
  have HB := Lib.hid (dec_true hb)
  have H2 := Lib.hid (dec_true h2)
  have H4 := Lib.hid (dec_true h4)
  have HG := Lib.hid (And.intro hb (And.intro h2 (And.intro h3 h4)))
  have h3b : ((N.inputs.length : Int) != (N.ends.length : Int)) = false := by rw [bne_eq_false_iff_eq]; exact h3
  have HX := Lib.hid (boxed_ext w (.slice a N.ends.length c) (.slice a1 N.ids.length c1) (.slice a2 N.inputs.length c2) 30)
  clear hc ha hb h2 h3 h4
  go_enter Try.func66, Try.ntmps66
  go_wp2_with (first | (go_at_call 88; (with_reducible refine (l1In_any _ _ _ _).mono ?_); rintro e w1 ⟨rfl, rfl⟩; rw [HB.out]) | (go_at_call 104; (with_reducible refine (neIds_any _ (HI.out.ext HX.out)).mono ?_); rintro e w1 ⟨rfl, rfl⟩; rw [H2.out]) | (go_at_call 74; (with_reducible refine (l1All_any _ _ (HP.out.ext HX.out)).mono ?_); rintro e w1 ⟨rfl, rfl⟩; rw [H4.out]))
  go_loopg [39] N.ends.length (fun g i wr => ∃ k : Nat, k ≤ N.ends.length ∧ g = N.ends.length - k ∧ i = .int .i64 k ∧ Hid (Ext (boxed w (.slice a N.ends.length c) (.slice a1 N.ids.length c1) (.slice a2 N.inputs.length c2) 30) wr ∧ ∀ j, j < k → RowOK N.ends j))
  case atStart => exact ⟨0, Nat.zero_le _, rfl, rfl, Ext.rfl' _, fun j hj => absurd hj (by omega)⟩
  case round =>
    obtain ⟨k, hk, rfl, rfl, Hr⟩ := hrel
    by_cases hlt : k < N.ends.length
    · obtain ⟨z, hz, hrow⟩ := Hc.out k hlt
      obtain ⟨a3, b3, o3, c3, rfl, ha3, hl3, hm3, hc3⟩ := hrow
      unfold maxLen at hm3
      have Hc3 := Lib.hid hc3
      have Ha3 := Lib.hid ha3
      clear hc3 ha3
      obtain rfl := Ha.out (by omega)
      have m0 := Lib.hid (row3_facts (boxed_row w (.slice (some ⟨b, o, none⟩) N.ends.length c) (.slice a1 N.ids.length c1) (.slice a2 N.inputs.length c2) 30)).1
      have hz1 := Hr.out.1.cell' (HX.out.cell' hz)
      clear hz
      by_cases h6 : 6 < (gr N.ends k).length
      · have H6 := Lib.hid h6
        go_wp2
        go_ret
        exact ⟨ret_f (fun h => absurd (h.2.1 k hlt).1 (by have := H6.out; omega)), HX.out.trans' Hr.out.1⟩
      · go_wp2
        have hw0 : ∃ wo : World, wo = wr := ⟨_, rfl⟩
        obtain ⟨wo, rfl⟩ := hw0
        clear hz1
        go_loopg [49] (gr N.ends k).length (fun g i wx => ∃ j : Nat, j ≤ (gr N.ends k).length ∧ g = (gr N.ends k).length - j ∧ i = .int .i64 j ∧ Hid (Ext (boxed w (.slice (some ⟨b, o, none⟩) N.ends.length c) (.slice a1 N.ids.length c1) (.slice a2 N.inputs.length c2) 30) wx ∧ ∀ i, i < j → JoinOK N.ends k i))
        case atStart => exact ⟨0, Nat.zero_le _, rfl, rfl, Hr.out.1, fun j hj => absurd hj (by omega)⟩
        case round =>
          obtain ⟨j, hj, rfl, rfl, Hs⟩ := hrel
          by_cases hjt : j < (gr N.ends k).length
          · obtain ⟨hq1, hq2, _⟩ := Hc3.out j hjt
            obtain rfl := Ha3.out (by omega)
            have q1 := Hs.out.1.cell' (HX.out.cell' hq1)
            have q2 := Hs.out.1.cell' (HX.out.cell' hq2)
            clear hq1 hq2
            by_cases n1 : InB (gn (gr N.ends k) j) 0 (N.ends.length - 1)
            · obtain ⟨xx, hxx⟩ := Int.eq_ofNat_of_zero_le n1.1
              have Hb1 := Lib.hid (dec_true n1)
              have hxl : xx < N.ends.length := by have := n1.2; omega
              rw [hxx] at q1 Hb1
              obtain ⟨z2, hz2, hrow2⟩ := Hc.out xx hxl
              obtain ⟨a4, b4, o4, c4, rfl, ha4, hl4, hm4, hc4⟩ := hrow2
              unfold maxLen at hm4
              have hz2' := HX.out.cell' hz2
              have Hc4 := Lib.hid hc4
              have Ha4 := Lib.hid ha4
              have Hxx := Lib.hid hxx
              clear hz2 hc4 ha4 hxx n1
              by_cases n2 : InB (gp (gr N.ends k) j) 0 ((gr N.ends xx).length - 1)
              · obtain ⟨yy, hyy⟩ := Int.eq_ofNat_of_zero_le n2.1
                have Hb2 := Lib.hid (dec_true n2)
                have hyl : yy < (gr N.ends xx).length := by have := n2.2; omega
                rw [hyy] at q2 Hb2
                have Hyy := Lib.hid hyy
                obtain ⟨r1, r2, _⟩ := Hc4.out yy hyl
                obtain rfl := Ha4.out (by omega)
                clear hyy n2
                have HW := Lib.hid (Hs.out.1.alloc' (.cells #[.int .i64 (xx : Int), .int .i64 (yy : Int)] 44))
                have s0 : ∀ x : Wx (wr.alloc (.cells #[.int .i64 (xx : Int), .int .i64 (yy : Int)] 44)), x.w.cell? ⟨wr.heap.size, 0, none⟩ = some (.int .i64 (xx : Int)) := fun x => x.ok.cell' (by simp)
                have s1 : ∀ x : Wx (wr.alloc (.cells #[.int .i64 (xx : Int), .int .i64 (yy : Int)] 44)), x.w.cell? ⟨wr.heap.size, 1, none⟩ = some (.int .i64 (yy : Int)) := fun x => x.ok.cell' (by simp)
                have n0 : ∀ x : Wx (wr.alloc (.cells #[.int .i64 (xx : Int), .int .i64 (yy : Int)] 44)), x.w.cell? ⟨w.heap.size, 0, none⟩ = some (.slice (some ⟨b, o, none⟩) N.ends.length c) := fun x => x.ok.cell' (HW.out.cell' m0.out)
                have t0 : ∀ x : Wx (wr.alloc (.cells #[.int .i64 (xx : Int), .int .i64 (yy : Int)] 44)), x.w.cell? ⟨b, o + xx, none⟩ = _ := fun x => x.ok.cell' (HW.out.cell' hz2')
                have t1 : ∀ x : Wx (wr.alloc (.cells #[.int .i64 (xx : Int), .int .i64 (yy : Int)] 44)), x.w.cell? ⟨b4, o4 + yy * 2, none⟩ = _ := fun x => x.ok.cell' (HW.out.cell' (HX.out.cell' r1))
                have t2 : ∀ x : Wx (wr.alloc (.cells #[.int .i64 (xx : Int), .int .i64 (yy : Int)] 44)), x.w.cell? ⟨b4, o4 + yy * 2 + 1, none⟩ = _ := fun x => x.ok.cell' (HW.out.cell' (HX.out.cell' r2))
                clear hz2' r1 r2
                by_cases hv : gn (gr N.ends xx) yy = k ∧ gp (gr N.ends xx) yy = j
                · obtain ⟨hv1, hv2⟩ := hv
                  have Hv := Lib.hid (And.intro hv1 hv2)
                  rw [hv1] at t1
                  rw [hv2] at t2
                  clear hv1 hv2
                  go_wp2
                  refine wp_region_ext (by kernel_rfl) (by kernel_rfl) ?_
                  repeat (go_big_quiet_step ((first | (go_at_call 88; first | exact in_same_bool (l1In_any _ _ _ _) Hb1.out | exact in_same_bool (l1In_any _ _ _ _) Hb2.out))))
                  refine wpQuiet_nil ?_
                  rintro _ ⟨⟨wq, hq⟩, rfl⟩
                  have HY := Lib.hid (HW.out.trans' hq)
                  clear hq HW
                  go_wp2
                  go_roundg ((gr N.ends k).length - (j + 1))
                  case measure => omega
                  case rel =>
                    refine ⟨j + 1, by omega, rfl, by go_num, HY.out, fun i hi => ?_⟩
                    by_cases e : i = j
                    · subst e
                      refine ⟨?_, by rw [Hxx.out, Hyy.out]; exact Hv.out⟩
                      rw [Hxx.out, Hyy.out]
                      exact ⟨by omega, by omega, by omega, by simpa using hyl⟩
                    · exact Hs.out.2 i (by omega)
                · have Hv := Lib.hid hv
                  by_cases hv1 : gn (gr N.ends xx) yy = k
                  · have hv2 : gp (gr N.ends xx) yy ≠ j := fun e => hv ⟨hv1, e⟩
                    have hvb : (gp (gr N.ends xx) yy == (j : Int)) = false := beq_eq_false_iff_ne.2 hv2
                    rw [hv1] at t1
                    clear hv hv1 hv2
                    go_wp2
                    refine wp_region_ext (by kernel_rfl) (by kernel_rfl) ?_
                    repeat (go_big_quiet_step ((first | (go_at_call 88; first | exact in_same_bool (l1In_any _ _ _ _) Hb1.out | exact in_same_bool (l1In_any _ _ _ _) Hb2.out))))
                    refine wpQuiet_nil ?_
                    rintro _ ⟨⟨wq, hq⟩, rfl⟩
                    have HY := Lib.hid (HW.out.trans' hq)
                    clear hq HW
                    go_wp2
                    go_ret
                    exact ⟨ret_f (fun h => Hv.out (by have := ((h.2.1 k hlt).2 j hjt).2; rw [Hxx.out, Hyy.out] at this; exact this)), HX.out.trans' HY.out⟩
                  · have hvb : (gn (gr N.ends xx) yy == (k : Int)) = false := beq_eq_false_iff_ne.2 hv1
                    clear hv hv1
                    go_wp2
                    refine wp_region_ext (by kernel_rfl) (by kernel_rfl) ?_
                    repeat (go_big_quiet_step ((first | (go_at_call 88; first | exact in_same_bool (l1In_any _ _ _ _) Hb1.out | exact in_same_bool (l1In_any _ _ _ _) Hb2.out))))
                    refine wpQuiet_nil ?_
                    rintro _ ⟨⟨wq, hq⟩, rfl⟩
                    have HY := Lib.hid (HW.out.trans' hq)
                    clear hq HW
                    go_wp2
                    go_ret
                    exact ⟨ret_f (fun h => Hv.out (by have := ((h.2.1 k hlt).2 j hjt).2; rw [Hxx.out, Hyy.out] at this; exact this)), HX.out.trans' HY.out⟩
              · have Hn2 := Lib.hid n2
                have Hb2 := Lib.hid (dec_false n2)
                clear n2
                have HW := Lib.hid (Hs.out.1.alloc' (.cells #[.int .i64 (xx : Int), .int .i64 (gp (gr N.ends k) j)] 44))
                have s0 : ∀ x : Wx (wr.alloc (.cells #[.int .i64 (xx : Int), .int .i64 (gp (gr N.ends k) j)] 44)), x.w.cell? ⟨wr.heap.size, 0, none⟩ = some (.int .i64 (xx : Int)) := fun x => x.ok.cell' (by simp)
                have s1 : ∀ x : Wx (wr.alloc (.cells #[.int .i64 (xx : Int), .int .i64 (gp (gr N.ends k) j)] 44)), x.w.cell? ⟨wr.heap.size, 1, none⟩ = some (.int .i64 (gp (gr N.ends k) j)) := fun x => x.ok.cell' (by simp)
                have n0 : ∀ x : Wx (wr.alloc (.cells #[.int .i64 (xx : Int), .int .i64 (gp (gr N.ends k) j)] 44)), x.w.cell? ⟨w.heap.size, 0, none⟩ = some (.slice (some ⟨b, o, none⟩) N.ends.length c) := fun x => x.ok.cell' (HW.out.cell' m0.out)
                have t0 : ∀ x : Wx (wr.alloc (.cells #[.int .i64 (xx : Int), .int .i64 (gp (gr N.ends k) j)] 44)), x.w.cell? ⟨b, o + xx, none⟩ = _ := fun x => x.ok.cell' (HW.out.cell' hz2')
                clear hz2'
                go_wp2
                refine wp_region_ext (by kernel_rfl) (by kernel_rfl) ?_
                repeat (go_big_quiet_step ((first | (go_at_call 88; first | exact in_same_bool (l1In_any _ _ _ _) Hb1.out | exact in_same_bool (l1In_any _ _ _ _) Hb2.out))))
                refine wpQuiet_nil ?_
                rintro _ ⟨⟨wq, hq⟩, rfl⟩
                have HY := Lib.hid (HW.out.trans' hq)
                clear hq HW
                go_wp2
                go_ret
                exact ⟨ret_f (fun h => Hn2.out (by have := (join_in ((h.2.1 k hlt).2 j hjt)).2; rw [Hxx.out] at this; exact this)), HX.out.trans' HY.out⟩
            · have Hn1 := Lib.hid n1
              have Hb1 := Lib.hid (dec_false n1)
              clear n1
              have HW := Lib.hid (Hs.out.1.alloc' (.cells #[.int .i64 (gn (gr N.ends k) j), .int .i64 (gp (gr N.ends k) j)] 44))
              have s0 : ∀ x : Wx (wr.alloc (.cells #[.int .i64 (gn (gr N.ends k) j), .int .i64 (gp (gr N.ends k) j)] 44)), x.w.cell? ⟨wr.heap.size, 0, none⟩ = some (.int .i64 (gn (gr N.ends k) j)) := fun x => x.ok.cell' (by simp)
              have s1 : ∀ x : Wx (wr.alloc (.cells #[.int .i64 (gn (gr N.ends k) j), .int .i64 (gp (gr N.ends k) j)] 44)), x.w.cell? ⟨wr.heap.size, 1, none⟩ = some (.int .i64 (gp (gr N.ends k) j)) := fun x => x.ok.cell' (by simp)
              have n0 : ∀ x : Wx (wr.alloc (.cells #[.int .i64 (gn (gr N.ends k) j), .int .i64 (gp (gr N.ends k) j)] 44)), x.w.cell? ⟨w.heap.size, 0, none⟩ = some (.slice (some ⟨b, o, none⟩) N.ends.length c) := fun x => x.ok.cell' (HW.out.cell' m0.out)
              go_wp2
              refine wp_region_ext (by kernel_rfl) (by kernel_rfl) ?_
              repeat (go_big_quiet_step ((first | (go_at_call 88; first | exact in_same_bool (l1In_any _ _ _ _) Hb1.out | exact in_same_bool (l1In_any _ _ _ _) Hb2.out))))
              refine wpQuiet_nil ?_
              rintro _ ⟨⟨wq, hq⟩, rfl⟩
              have HY := Lib.hid (HW.out.trans' hq)
              clear hq HW
              go_wp2
              go_ret
              exact ⟨ret_f (fun h => Hn1.out (join_in ((h.2.1 k hlt).2 j hjt)).1), HX.out.trans' HY.out⟩
          · obtain rfl : j = (gr N.ends k).length := by omega
            have hjz : ¬ (((gr N.ends k).length : Int) < ((gr N.ends k).length : Int)) := by omega
            go_wp2
            go_roundg (N.ends.length - (k + 1))
            case measure => omega
            case rel =>
              refine ⟨k + 1, by omega, rfl, by go_num, Hs.out.1, fun i hi => ?_⟩
              by_cases e : i = k
              · subst e; exact ⟨by omega, Hs.out.2⟩
              · exact Hr.out.2 i (by omega)
    · go_wp2
      go_ret
      obtain rfl : k = N.ends.length := by omega
      obtain ⟨g1, g2, g3, g4⟩ := HG.out
      exact ⟨ret_t ⟨⟨by have := g1.1; omega, by have := g1.2; omega⟩, Hr.out.2, g2, g3, g4⟩, HX.out.trans' Hr.out.1⟩
end Go.Proofs.Ytndgbildkeglfaa
