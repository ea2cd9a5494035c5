/- The contract of the program's own IsSimple. -/
import Derived.Test.YtndgbildkeglfaaSimple
namespace Go.Proofs.Ytndgbildkeglfaa
open Go.RowKit

set_option maxHeartbeats 3200000 in
set_option maxRecDepth 100000 in
theorem isSimple_any {w : World} {v : Value} {N : Net} (h : NetAt w v N) :
    Calls Try.prog 25 #[v] w fun e w' => e = .returned (.tuple #[.bool (dec (SimpleAns N)), .bool (dec (Good N))]) ∧ Ext w w' := by
  have HN := Lib.hid h
  obtain ⟨v0, v1, v2, rfl, hE, hI, hP⟩ := h
  clear hI hP
  obtain ⟨a, b, o, c, rfl, ha, hl, hm, hc⟩ := hE
  unfold maxLen at hm
  have Hc := Lib.hid hc
  have Ha := Lib.hid ha
  clear hc ha
  have HX := Lib.hid (boxed_ext w (.slice a N.ends.length c) v1 v2 30)
  have HR := Lib.hid (boxed_row w (.slice a N.ends.length c) v1 v2 30)
  by_cases hg : Good N
  · have G := Lib.hid (dec_true hg)
    have HG := Lib.hid hg
    clear hg
    go_enter Try.func25, Try.ntmps25
    go_wp2_with (first | (go_at_call 22; (with_reducible refine (isNetwork_any (HN.out.ext HX.out)).mono ?_); rintro e w1 ⟨rfl, hw⟩; rw [G.out]; have K1 := Lib.hid (HX.out.trans' hw); obtain ⟨p0, p1, p2, _, _, _⟩ := row3_facts (row_ext HR.out hw); clear hw))
    clear p0 p1 p2
    go_loopg [14] N.ends.length (fun g i wr => ∃ k : Nat, k ≤ N.ends.length ∧ g = N.ends.length - k ∧ i = .int .i64 k ∧ Hid (Ext w wr ∧ ∀ j, j < k → ∀ i, i < (gr N.ends j).length → PortSimple N j i))
    case atStart => exact ⟨0, Nat.zero_le _, rfl, rfl, K1.out, fun j hj => absurd hj (by omega)⟩
    case round =>
      obtain ⟨k, hk, rfl, rfl, Hr⟩ := hrel
      by_cases hlt : k < N.ends.length
      · obtain ⟨z, hz, hrow⟩ := Hc.out k hlt
        have HRw := Lib.hid hrow
        obtain ⟨a3, b3, o3, c3, rfl, ha3, hl3, hm3, hc3⟩ := hrow
        unfold maxLen at hm3
        have Hc3 := Lib.hid hc3
        have Ha3 := Lib.hid ha3
        obtain rfl := Ha.out (by omega)
        have hz1 := Hr.out.1.cell' hz
        clear hz hc3 ha3
        go_wp2
        have hw0 : ∃ wo : World, wo = wr := ⟨_, rfl⟩
        obtain ⟨wo, rfl⟩ := hw0
        clear hz1
        go_loopg [21] (gr N.ends k).length (fun g i wx => ∃ j : Nat, j ≤ (gr N.ends k).length ∧ g = (gr N.ends k).length - j ∧ i = .int .i64 j ∧ Hid (Ext w wx ∧ ∀ i, i < j → PortSimple N k i))
        case atStart => exact ⟨0, Nat.zero_le _, rfl, rfl, Hr.out.1, fun j hj => absurd hj (by omega)⟩
        case round =>
          obtain ⟨j, hj, rfl, rfl, Hs⟩ := hrel
          by_cases hjt : j < (gr N.ends k).length
          · obtain ⟨hq1, hq2, _⟩ := Hc3.out j hjt
            obtain rfl := Ha3.out (by omega)
            have q1 := Hs.out.1.cell' hq1
            have q2 := Hs.out.1.cell' hq2
            clear hq1 hq2
            have HW := Lib.hid (Hs.out.1.alloc' (.cells #[.int .i64 (gn (gr N.ends k) j), .int .i64 (gp (gr N.ends k) j)] 44))
            have s0 : ∀ x : Wx (wr.alloc (.cells #[.int .i64 (gn (gr N.ends k) j), .int .i64 (gp (gr N.ends k) j)] 44)), x.w.cell? ⟨wr.heap.size, 0, none⟩ = some (.int .i64 (gn (gr N.ends k) j)) := fun x => x.ok.cell' (by simp)
            by_cases e1 : gn (gr N.ends k) j = k
            · have e1b : (gn (gr N.ends k) j == (k : Int)) = true := beq_iff_eq.2 e1
              have E1 := Lib.hid e1
              clear e1
              go_wp2
              refine wp_region_ext (by kernel_rfl) (by kernel_rfl) ?_
              repeat (go_big_quiet_step (fail))
              refine wpQuiet_nil ?_
              rintro _ ⟨⟨wq, hq⟩, rfl⟩
              have HY := Lib.hid (HW.out.trans' hq)
              clear hq HW
              go_wp2
              go_ret2
              exact ⟨ret2_bool (dec_false fun h => (h.2 k hlt j hjt).1 E1.out).symm G.out.symm, HY.out⟩
            · have e1b : (gn (gr N.ends k) j == (k : Int)) = false := beq_eq_false_iff_ne.2 e1
              have E1 := Lib.hid e1
              clear e1
              have hj0 : (0 : Int) ≤ (j : Int) := by omega
              have hjc : (j : Int) ≤ (c3 : Int) := by omega
              by_cases e2 : Leads ((gr N.ends k).take j) (gn (gr N.ends k) j)
              · have Hb := Lib.hid (dec_true e2)
                have E2 := Lib.hid e2
                clear e2
                go_wp2
                refine wp_region_ext (by kernel_rfl) (by kernel_rfl) ?_
                repeat (go_big_quiet_step ((go_at_call 73; exact in_ext_bool (leadsTo_any _ ((HRw.out.take hj).ext (HW.out.trans' (Wx.ok _)))) Hb.out)))
                refine wpQuiet_nil ?_
                rintro _ ⟨⟨wq, hq⟩, rfl⟩
                have HY := Lib.hid (HW.out.trans' hq)
                clear hq HW
                go_wp2
                go_ret2
                exact ⟨ret2_bool (dec_false fun h => (h.2 k hlt j hjt).2 E2.out).symm G.out.symm, HY.out⟩
              · have Hb := Lib.hid (dec_false e2)
                have E2 := Lib.hid e2
                clear e2
                go_wp2
                refine wp_region_ext (by kernel_rfl) (by kernel_rfl) ?_
                repeat (go_big_quiet_step ((go_at_call 73; exact in_ext_bool (leadsTo_any _ ((HRw.out.take hj).ext (HW.out.trans' (Wx.ok _)))) Hb.out)))
                refine wpQuiet_nil ?_
                rintro _ ⟨⟨wq, hq⟩, rfl⟩
                have HY := Lib.hid (HW.out.trans' hq)
                clear hq HW
                go_wp2
                go_roundg ((gr N.ends k).length - (j + 1))
                case measure => omega
                case rel =>
                  refine ⟨j + 1, by omega, rfl, by go_num, HY.out, fun i hi => ?_⟩
                  by_cases e : i = j
                  · subst e; exact ⟨E1.out, E2.out⟩
                  · exact Hs.out.2 i (by omega)
          · obtain rfl : j = (gr N.ends k).length := by omega
            have hjz : ¬ (((gr N.ends k).length : Int) < ((gr N.ends k).length : Int)) := by omega
            go_wp2
            go_roundg (N.ends.length - (k + 1))
            case measure => omega
            case rel =>
              refine ⟨k + 1, by omega, rfl, by go_num, Hs.out.1, fun i hi => ?_⟩
              by_cases e : i = k
              · subst e; exact Hs.out.2
              · exact Hr.out.2 i (by omega)
      · obtain rfl : k = N.ends.length := by omega
        go_wp2
        go_ret2
        exact ⟨ret2_bool (dec_true ⟨HG.out, Hr.out.2⟩).symm G.out.symm, Hr.out.1⟩
  · have G := Lib.hid (dec_false hg)
    have HF := Lib.hid (dec_false (p := SimpleAns N) fun h => hg h.1)
    clear hg
    go_enter Try.func25, Try.ntmps25
    go_wp2_with (first | (go_at_call 22; (with_reducible refine (isNetwork_any (HN.out.ext HX.out)).mono ?_); rintro e w1 ⟨rfl, hw⟩; rw [G.out]; have K1 := Lib.hid (HX.out.trans' hw); clear hw))
    go_ret2
    exact ⟨ret2_bool HF.out.symm G.out.symm, K1.out⟩
end Go.Proofs.Ytndgbildkeglfaa
