/- The contract of neEdges. -/
import Derived.Test.YtndgbildkeglfaaEd
namespace Go.Proofs.Ytndgbildkeglfaa
open Go.RowKit

set_option maxHeartbeats 3200000 in
set_option maxRecDepth 100000 in
theorem neEdges_any {w : World} {v : Value} {N : Net} (h : NetAt w v N) (hg : Good N) :
    Calls Try.prog 82 #[v] w fun e w' => ∃ v' bs, e = .returned v' ∧ Ext w w' ∧ OwnII w' v' (edgesTo N N.ends.length) bs ∧ Fresh w bs := by
  have HN := Lib.hid h
  obtain ⟨v0, v1, v2, rfl, hE, hI, hP⟩ := h
  clear hI hP
  obtain ⟨a, b, o, c, rfl, ha, hl, hm, hc⟩ := hE
  unfold maxLen at hm
  have Hc := Lib.hid hc
  have Ha := Lib.hid ha
  have HS := Lib.hid (good_rows hg)
  have h40 : N.ends.length ≤ 40 := hg.1.2
  obtain ⟨i0, hi, hz0, hz1, hz2⟩ := info_parts Try.info23
  have I0 := Lib.hid (And.intro hi (And.intro hz0 (And.intro hz1 hz2)))
  have HX := Lib.hid (boxed_ext w (.slice a N.ends.length c) v1 v2 30)
  clear hi hz0 hz1 hz2 hc ha hg
  go_enter Try.func82, Try.ntmps82
  go_wp2
  go_loopg [3, 11] N.ends.length (fun g s i wr => ∃ k : Nat, k ≤ N.ends.length ∧ g = N.ends.length - k ∧ i = .int .i64 k ∧ Hid (Ext (boxed w (.slice a N.ends.length c) v1 v2 30) wr ∧ GrowI (w.heap.size + 1) wr s (edgesTo N k) (edgesTo N k).length))
  case atStart => exact ⟨0, Nat.zero_le _, rfl, rfl, Ext.rfl' _, GrowI.nil _ _ _⟩
  case round =>
    obtain ⟨k, hk, rfl, rfl, Hr⟩ := hrel
    by_cases hlt : k < N.ends.length
    · obtain ⟨z, hz, hrow⟩ := Hc.out k hlt
      obtain ⟨a3, b3, o3, c3, rfl, ha3, hl3, hm3, hc3⟩ := hrow
      unfold maxLen at hm3
      have Hc3 := Lib.hid hc3
      have Ha3 := Lib.hid ha3
      have h6 := HS.out k hlt
      have hT := (edgesTo_len N HS.out k (by omega)).1
      clear hc3 ha3
      obtain rfl := Ha.out (by omega)
      have hz1 := Hr.out.1.cell' (HX.out.cell' hz)
      clear hz
      go_wp2
      have hw0 : ∃ wo : World, wo = wr := ⟨_, rfl⟩
      obtain ⟨wo, rfl⟩ := hw0
      clear hz1
      go_loopg [3, 18] (gr N.ends k).length (fun g s i wx => ∃ j : Nat, j ≤ (gr N.ends k).length ∧ g = (gr N.ends k).length - j ∧ i = .int .i64 j ∧ Hid (Ext (boxed w (.slice (some ⟨b, o, none⟩) N.ends.length c) v1 v2 30) wx ∧ GrowI (w.heap.size + 1) wx s (someEdges N k j) (someEdges N k j).length))
      case atStart => exact ⟨0, Nat.zero_le _, rfl, rfl, Hr.out.1, by rw [someEdges_zero]; exact Hr.out.2⟩
      case round =>
        obtain ⟨j, hj, rfl, rfl, Hs⟩ := hrel
        by_cases hjt : j < (gr N.ends k).length
        · obtain ⟨hq1, hq2, hq3, hq4⟩ := Hc3.out j hjt
          obtain rfl := Ha3.out (by omega)
          have q1 := Hs.out.1.cell' (HX.out.cell' hq1)
          have q2 := Hs.out.1.cell' (HX.out.cell' hq2)
          have HI4 := Lib.hid (show inI64 (k : Int) ∧ inI64 (j : Int) ∧ inI64 (gn (gr N.ends k) j) ∧ inI64 (gp (gr N.ends k) j) from ⟨by unfold inI64; omega, by unfold inI64; omega, hq3, hq4⟩)
          have hLen : (someEdges N k j).length ≤ 6 * k + j := by have := (rowEdges_len N k j).1; simp only [someEdges, List.length_append]; omega
          clear hq1 hq2 hq3 hq4
          by_cases hf : First N k j
          · have F := Lib.hid hf
            have FB := Lib.hid (dec_true hf)
            clear hf
            obtain ⟨p0, p1, p2, _, _, _⟩ := row3_facts (row_ext (boxed_row w (.slice (some ⟨b, o, none⟩) N.ends.length c) v1 v2 30) (Hs.out.1.alloc' (.cells #[.int .i64 (gn (gr N.ends k) j), .int .i64 (gp (gr N.ends k) j)] 44)))
            go_wp2_with fail
            (with_reducible refine (neFirst_any k j hlt hjt (by omega) (by omega) (HN.out.ext ((HX.out.trans' Hs.out.1).alloc' _))).mono ?_)
            rintro e w2 ⟨rfl, hw⟩
            rw [FB.out]
            have X2 : Hid (Ext (boxed w (.slice (some ⟨b, o, none⟩) N.ends.length c) v1 v2 30) w2) := (Hs.out.1.alloc' _).trans' hw
            have G2 : Hid (GrowI (w.heap.size + 1) w2 u3 (someEdges N k j) (someEdges N k j).length) := (Hs.out.2.ext ((Ext.rfl' _).alloc' _)).ext hw
            obtain ⟨e0, e1, _, _⟩ := duo_facts (row_ext (duo_made wr (.int .i64 (gn (gr N.ends k) j)) (.int .i64 (gp (gr N.ends k) j)) 44) hw)
            clear hw p0 p1 p2
            obtain ⟨R, T, g1, g2, g3, g4⟩ := G2.out.parts (quad N k j)
            have G1 := Lib.hid g1
            have G3 := Lib.hid (And.intro g2 (And.intro g3 g4))
            have hB2 := Lib.hid (show w.heap.size + 1 ≤ w2.heap.size by have := X2.out.size; simpa using this)
            clear g1 g2 g3 g4
            go_wp2_with (at_builtin; refine wpList_app rfl (.tmp 27) (.tmp 35) 50 rfl (w.heap.size + 1) 23 i0 (.slice none 0 0) 1 24 Try.underlying50 I0.out.1 I0.out.2.1 I0.out.2.2.1 I0.out.2.2.2 rfl (by decide) u3 (someEdges N k j).length ((List.range (someEdges N k j).length).map R) rfl (owns_ext G1.out (((Ext.rfl' w2).alloc' _).alloc' _)) (some ⟨w2.heap.size + 1, 0, none⟩) 1 1 [.slice (some ⟨w2.heap.size, 0, none⟩) 4 4] rfl (by simpa using src_one (w2.alloc (.cells #[.int .i64 (k : Int), .int .i64 (j : Int), .int .i64 (gn (gr N.ends k) j), .int .i64 (gp (gr N.ends k) j)] 3)) (.slice (some ⟨w2.heap.size, 0, none⟩) 4 4) 23 rfl) (by unfold maxLen; omega) (by omega) ?_ ?_)
            · simp; have := hB2.out; omega
            intro v' w3 hg
            obtain ⟨g5, g6⟩ := edge_step HI4.out hB2.out G1.out G3.out.1 G3.out.2.1 G3.out.2.2 hg
            have G5 := Lib.hid g5
            have G6 := Lib.hid (g6 _ X2.out (by simp))
            clear hg g5 g6 e0 e1
            go_wp2
            go_roundg ((gr N.ends k).length - (j + 1))
            case measure => omega
            case rel => exact ⟨j + 1, by omega, rfl, by go_num, G6.out, by rw [someEdges_yes F.out]; exact G5.out⟩
          · have F := Lib.hid hf
            have FB := Lib.hid (dec_false hf)
            clear hf
            obtain ⟨p0, p1, p2, _, _, _⟩ := row3_facts (row_ext (boxed_row w (.slice (some ⟨b, o, none⟩) N.ends.length c) v1 v2 30) (Hs.out.1.alloc' (.cells #[.int .i64 (gn (gr N.ends k) j), .int .i64 (gp (gr N.ends k) j)] 44)))
            go_wp2_with fail
            (with_reducible refine (neFirst_any k j hlt hjt (by omega) (by omega) (HN.out.ext ((HX.out.trans' Hs.out.1).alloc' _))).mono ?_)
            rintro e w2 ⟨rfl, hw⟩
            rw [FB.out]
            have X2 : Hid (Ext (boxed w (.slice (some ⟨b, o, none⟩) N.ends.length c) v1 v2 30) w2) := (Hs.out.1.alloc' _).trans' hw
            have G2 : Hid (GrowI (w.heap.size + 1) w2 u3 (someEdges N k j) (someEdges N k j).length) := (Hs.out.2.ext ((Ext.rfl' _).alloc' _)).ext hw
            obtain ⟨-, -, -, -⟩ := duo_facts (row_ext (duo_made wr (.int .i64 (gn (gr N.ends k) j)) (.int .i64 (gp (gr N.ends k) j)) 44) hw)
            clear hw p0 p1 p2
            go_wp2
            go_roundg ((gr N.ends k).length - (j + 1))
            case measure => omega
            case rel => exact ⟨j + 1, by omega, rfl, by go_num, X2.out, by rw [someEdges_no F.out]; exact G2.out⟩
        · obtain rfl : j = (gr N.ends k).length := by omega
          go_wp2
          go_roundg (N.ends.length - (k + 1))
          case measure => omega
          case rel => exact ⟨k + 1, by omega, rfl, by go_num, Hs.out.1, by rw [← someEdges_all]; exact Hs.out.2⟩
    · obtain rfl : k = N.ends.length := by omega
      obtain ⟨bs, ho, hnd, hge⟩ := Hr.out.2.done
      have HO := Lib.hid ho
      have HF := Lib.hid (show Fresh w bs from ⟨hnd, fun y hy => by have := hge y hy; omega⟩)
      clear ho hnd hge
      go_wp2
      go_ret
      exact ⟨_, bs, rfl, HX.out.trans' Hr.out.1, HO.out, HF.out⟩
end Go.Proofs.Ytndgbildkeglfaa
