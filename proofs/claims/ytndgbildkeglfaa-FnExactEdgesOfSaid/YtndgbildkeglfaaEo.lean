/- The contracts of both EdgesOf. -/
import Derived.Test.YtndgbildkeglfaaNeEd
namespace Go.Proofs.Ytndgbildkeglfaa
open Go.RowKit

theorem own_nilII (w : World) : OwnII w (.slice none 0 0) [] [] := ⟨fun _ => undef, [], fun _ => [], ⟨0, Nat.le_refl _, by unfold maxLen; omega, .inl ⟨rfl, rfl, none, ⟨rfl, rfl⟩, rfl⟩⟩, fun i hi => absurd hi (by simp), rfl⟩

set_option maxHeartbeats 1600000 in
set_option maxRecDepth 100000 in
theorem specEdgesOf_any {w : World} {v : Value} {N : Net} (h : NetAt w v N) :
    Calls Try.prog 39 #[v] w fun e w' => ∃ v' bs, e = .returned (.tuple #[v', .bool (dec (Good N))]) ∧ Ext w w' ∧ OwnII w' v' (edAns N) bs ∧ Fresh w bs := by
  have HN := Lib.hid h
  obtain ⟨v0, v1, v2, rfl, hE, hI, hP⟩ := h
  clear hE hI hP
  have HX := Lib.hid (boxed_ext w v0 v1 v2 30)
  have HR := Lib.hid (boxed_row w v0 v1 v2 30)
  by_cases hg : Good N
  · have G := Lib.hid (dec_true hg)
    have HG := Lib.hid hg
    have A := Lib.hid (edAns_t hg)
    clear hg
    go_enter Try.func39, Try.ntmps39
    go_wp2_with (first | (go_at_call 66; (with_reducible refine (neGood_any (HN.out.ext HX.out)).mono ?_); rintro e w1 ⟨rfl, hw⟩; rw [G.out]; have K1 := Lib.hid (HX.out.trans' hw); obtain ⟨p0, p1, p2, _, _, _⟩ := row3_facts (row_ext HR.out hw); clear hw) | (go_at_call 82; (with_reducible refine (neEdges_any (HN.out.ext K1.out) HG.out).mono ?_); rintro e w2 ⟨z, bs, rfl, hw, ho, hf⟩; have K2 := Lib.hid (K1.out.trans' hw); have O2 := Lib.hid ho; have F2 := Lib.hid (hf.of K1.out.size); clear hw ho hf))
    go_ret2
    exact ⟨_, bs, ret_sl G.out.symm, K2.out, by rw [A.out]; exact O2.out, F2.out⟩
  · have G := Lib.hid (dec_false hg)
    have A := Lib.hid (edAns_f hg)
    clear hg
    go_enter Try.func39, Try.ntmps39
    go_wp2_with (first | (go_at_call 66; (with_reducible refine (neGood_any (HN.out.ext HX.out)).mono ?_); rintro e w1 ⟨rfl, hw⟩; rw [G.out]; have K1 := Lib.hid (HX.out.trans' hw); clear hw))
    go_ret2
    exact ⟨_, [], ret_sl G.out.symm, K1.out, by rw [A.out]; exact own_nilII _, Fresh.nil _⟩

set_option maxHeartbeats 3200000 in
set_option maxRecDepth 100000 in
theorem edgesOf_any {w : World} {v : Value} {N : Net} (h : NetAt w v N) :
    Calls Try.prog 40 #[v] w fun e w' => ∃ v' bs, e = .returned (.tuple #[v', .bool (dec (Good N))]) ∧ Ext w w' ∧ OwnII w' v' (edAns N) bs ∧ Fresh w bs := by
  have HN := Lib.hid h
  obtain ⟨v0, v1, v2, rfl, hE, hI, hP⟩ := h
  clear hI hP
  obtain ⟨a, b, o, c, rfl, ha, hl, hm, hc⟩ := hE
  unfold maxLen at hm
  have Hc := Lib.hid hc
  have Ha := Lib.hid ha
  clear hc ha
  have HX := Lib.hid (boxed_ext w (.slice a N.ends.length c) v1 v2 30)
  have HR := Lib.hid (boxed_row w (.slice a N.ends.length c) v1 v2 30)
  by_cases hg : Good N
  case neg =>
    have G := Lib.hid (dec_false hg)
    have A := Lib.hid (edAns_f hg)
    clear hg
    go_enter Try.func40, Try.ntmps40
    go_wp2_with (first | (go_at_call 22; (with_reducible refine (isNetwork_any (HN.out.ext HX.out)).mono ?_); rintro e w1 ⟨rfl, hw⟩; rw [G.out]; have K1 := Lib.hid (HX.out.trans' hw); clear hw))
    go_ret2
    exact ⟨_, [], ret_sl G.out.symm, K1.out, by rw [A.out]; exact own_nilII _, Fresh.nil _⟩
  have G := Lib.hid (dec_true hg)
  have A := Lib.hid (edAns_t hg)
  have HS := Lib.hid (good_rows hg)
  have h40 : N.ends.length ≤ 40 := hg.1.2
  obtain ⟨i0, hi, hz0, hz1, hz2⟩ := info_parts Try.info23
  have I0 := Lib.hid (And.intro hi (And.intro hz0 (And.intro hz1 hz2)))
  clear hi hz0 hz1 hz2 hg
  go_enter Try.func40, Try.ntmps40
  go_wp2_with fail
  (with_reducible refine (isNetwork_any (HN.out.ext HX.out)).mono ?_)
  rintro e w1 ⟨rfl, hw⟩
  rw [G.out]
  have K1 := Lib.hid (HX.out.trans' hw)
  have K1X := Lib.hid (HX.out.trans' hw)
  obtain ⟨p0, p1, p2, _, _, _⟩ := row3_facts ((row_ext HR.out hw).alloc (.cells #[] 23))
  clear hw
  go_wp2_with fail
  clear p0 p1 p2
  go_loopg [4, 16] N.ends.length (fun g s i wr => ∃ k : Nat, k ≤ N.ends.length ∧ g = N.ends.length - k ∧ i = .int .i64 k ∧ Hid (Ext w1 wr ∧ GrowI (w1.heap.size) wr s (edgesTo N k) (edgesTo N k).length))
  case atStart => exact ⟨0, Nat.zero_le _, rfl, rfl, (Ext.rfl' _).alloc' _, fun _ => undef, fun _ => [], World.ownsRow_lit w1 #[] 0 (Nat.le_refl _) (by decide) rfl, fun i hi => absurd hi (by simp [edgesTo]), by simp [edgesTo], by simp [edgesTo]⟩
  case round =>
    obtain ⟨k, hk, rfl, rfl, Hr⟩ := hrel
    by_cases hlt : k < N.ends.length
    · obtain ⟨z, hz, hrow⟩ := Hc.out k hlt
      obtain ⟨a3, b3, o3, c3, rfl, ha3, hl3, hm3, hc3⟩ := hrow
      unfold maxLen at hm3
      have Hc3 := Lib.hid hc3
      have Ha3 := Lib.hid ha3
      have h6 := HS.out k hlt
      have hT := (edgesTo_len N HS.out k (by omega)).1
      clear hc3 ha3
      obtain rfl := Ha.out (by omega)
      have hz1 := Hr.out.1.cell' (K1X.out.cell' hz)
      clear hz
      go_wp2
      have hw0 : ∃ wo : World, wo = wr := ⟨_, rfl⟩
      obtain ⟨wo, rfl⟩ := hw0
      clear hz1
      go_loopg [4, 23] (gr N.ends k).length (fun g s i wx => ∃ j : Nat, j ≤ (gr N.ends k).length ∧ g = (gr N.ends k).length - j ∧ i = .int .i64 j ∧ Hid (Ext w1 wx ∧ GrowI (w1.heap.size) wx s (someEdges N k j) (someEdges N k j).length))
      case atStart => exact ⟨0, Nat.zero_le _, rfl, rfl, Hr.out.1, by rw [someEdges_zero]; exact Hr.out.2⟩
      case round =>
        obtain ⟨j, hj, rfl, rfl, Hs⟩ := hrel
        by_cases hjt : j < (gr N.ends k).length
        · obtain ⟨hq1, hq2, hq3, hq4⟩ := Hc3.out j hjt
          obtain rfl := Ha3.out (by omega)
          have q1 := Hs.out.1.cell' (K1X.out.cell' hq1)
          have q2 := Hs.out.1.cell' (K1X.out.cell' hq2)
          have HI4 := Lib.hid (show inI64 (k : Int) ∧ inI64 (j : Int) ∧ inI64 (gn (gr N.ends k) j) ∧ inI64 (gp (gr N.ends k) j) from ⟨by unfold inI64; omega, by unfold inI64; omega, hq3, hq4⟩)
          have hLen : (someEdges N k j).length ≤ 6 * k + j := by have := (rowEdges_len N k j).1; simp only [someEdges, List.length_append]; omega
          clear hq1 hq2 hq3 hq4
          by_cases h1 : (k : Int) < gn (gr N.ends k) j
          · have F := Lib.hid (show First N k j from .inl h1)
            have X2 : Hid (Ext w1 (wr.alloc (.cells #[.int .i64 (gn (gr N.ends k) j), .int .i64 (gp (gr N.ends k) j)] 44))) := Hs.out.1.alloc' _
            have G2 : Hid (GrowI (w1.heap.size) (wr.alloc (.cells #[.int .i64 (gn (gr N.ends k) j), .int .i64 (gp (gr N.ends k) j)] 44)) u4 (someEdges N k j) (someEdges N k j).length) := Hs.out.2.ext ((Ext.rfl' _).alloc' _)
            obtain ⟨R, T, g1, g2, g3, g4⟩ := G2.out.parts (quad N k j)
            have G1 := Lib.hid g1
            have G3 := Lib.hid (And.intro g2 (And.intro g3 g4))
            have hB2 := Lib.hid (show w1.heap.size ≤ (wr.alloc (.cells #[.int .i64 (gn (gr N.ends k) j), .int .i64 (gp (gr N.ends k) j)] 44)).heap.size by have := X2.out.size; simp at this ⊢; omega)
            clear g1 g2 g3 g4
            go_wp2_with (at_builtin; refine wpList_app rfl (.tmp 44) (.tmp 52) 50 rfl (w1.heap.size) 23 i0 (.slice none 0 0) 1 24 Try.underlying50 I0.out.1 I0.out.2.1 I0.out.2.2.1 I0.out.2.2.2 rfl (by decide) u4 (someEdges N k j).length ((List.range (someEdges N k j).length).map R) rfl (owns_ext G1.out (((Ext.rfl' _).alloc' _).alloc' _)) (some ⟨wr.heap.size + 1 + 1, 0, none⟩) 1 1 [.slice (some ⟨wr.heap.size + 1, 0, none⟩) 4 4] rfl (by simpa using src_one ((wr.alloc (.cells #[.int .i64 (gn (gr N.ends k) j), .int .i64 (gp (gr N.ends k) j)] 44)).alloc (.cells #[.int .i64 (k : Int), .int .i64 (j : Int), .int .i64 (gn (gr N.ends k) j), .int .i64 (gp (gr N.ends k) j)] 3)) (.slice (some ⟨wr.heap.size + 1, 0, none⟩) 4 4) 23 rfl) (by unfold maxLen; omega) (by omega) ?_ ?_)
            · have := hB2.out; (try simp at this); (try simp); omega
            intro v' w3 hg
            obtain ⟨g5, g6⟩ := edge_step (w2 := (wr.alloc (.cells #[.int .i64 (gn (gr N.ends k) j), .int .i64 (gp (gr N.ends k) j)] 44))) HI4.out hB2.out G1.out G3.out.1 G3.out.2.1 G3.out.2.2 (by simpa using hg)
            have G5 := Lib.hid g5
            have G6 := Lib.hid (g6 _ X2.out (by simp))
            clear hg g5 g6
            go_wp2
            go_roundg ((gr N.ends k).length - (j + 1))
            case measure => omega
            case rel => exact ⟨j + 1, by omega, rfl, by go_num, G6.out, by rw [someEdges_yes F.out]; exact G5.out⟩
          · by_cases h2 : (k : Int) = gn (gr N.ends k) j
            · have hb : ((k : Int) == gn (gr N.ends k) j) = true := by simpa using h2
              have H2 := Lib.hid h2
              clear h2
              by_cases h3 : (j : Int) ≤ gp (gr N.ends k) j
              · have F := Lib.hid (show First N k j from .inr ⟨H2.out, h3⟩)
                have X2 : Hid (Ext w1 (wr.alloc (.cells #[.int .i64 (gn (gr N.ends k) j), .int .i64 (gp (gr N.ends k) j)] 44))) := Hs.out.1.alloc' _
                have G2 : Hid (GrowI (w1.heap.size) (wr.alloc (.cells #[.int .i64 (gn (gr N.ends k) j), .int .i64 (gp (gr N.ends k) j)] 44)) u4 (someEdges N k j) (someEdges N k j).length) := Hs.out.2.ext ((Ext.rfl' _).alloc' _)
                obtain ⟨R, T, g1, g2, g3, g4⟩ := G2.out.parts (quad N k j)
                have G1 := Lib.hid g1
                have G3 := Lib.hid (And.intro g2 (And.intro g3 g4))
                have hB2 := Lib.hid (show w1.heap.size ≤ (wr.alloc (.cells #[.int .i64 (gn (gr N.ends k) j), .int .i64 (gp (gr N.ends k) j)] 44)).heap.size by have := X2.out.size; simp at this ⊢; omega)
                clear g1 g2 g3 g4
                go_wp2_with (at_builtin; refine wpList_app rfl (.tmp 44) (.tmp 52) 50 rfl (w1.heap.size) 23 i0 (.slice none 0 0) 1 24 Try.underlying50 I0.out.1 I0.out.2.1 I0.out.2.2.1 I0.out.2.2.2 rfl (by decide) u4 (someEdges N k j).length ((List.range (someEdges N k j).length).map R) rfl (owns_ext G1.out (((Ext.rfl' _).alloc' _).alloc' _)) (some ⟨wr.heap.size + 1 + 1, 0, none⟩) 1 1 [.slice (some ⟨wr.heap.size + 1, 0, none⟩) 4 4] rfl (by simpa using src_one ((wr.alloc (.cells #[.int .i64 (gn (gr N.ends k) j), .int .i64 (gp (gr N.ends k) j)] 44)).alloc (.cells #[.int .i64 (k : Int), .int .i64 (j : Int), .int .i64 (gn (gr N.ends k) j), .int .i64 (gp (gr N.ends k) j)] 3)) (.slice (some ⟨wr.heap.size + 1, 0, none⟩) 4 4) 23 rfl) (by unfold maxLen; omega) (by omega) ?_ ?_)
                · have := hB2.out; (try simp at this); (try simp); omega
                intro v' w3 hg
                obtain ⟨g5, g6⟩ := edge_step (w2 := (wr.alloc (.cells #[.int .i64 (gn (gr N.ends k) j), .int .i64 (gp (gr N.ends k) j)] 44))) HI4.out hB2.out G1.out G3.out.1 G3.out.2.1 G3.out.2.2 (by simpa using hg)
                have G5 := Lib.hid g5
                have G6 := Lib.hid (g6 _ X2.out (by simp))
                clear hg g5 g6
                go_wp2
                go_roundg ((gr N.ends k).length - (j + 1))
                case measure => omega
                case rel => exact ⟨j + 1, by omega, rfl, by go_num, G6.out, by rw [someEdges_yes F.out]; exact G5.out⟩
              · have F := Lib.hid (show ¬ First N k j from fun f => f.elim (fun f => absurd f h1) fun f => h3 f.2)
                have X2 : Hid (Ext w1 (wr.alloc (.cells #[.int .i64 (gn (gr N.ends k) j), .int .i64 (gp (gr N.ends k) j)] 44))) := Hs.out.1.alloc' _
                have G2 : Hid (GrowI (w1.heap.size) (wr.alloc (.cells #[.int .i64 (gn (gr N.ends k) j), .int .i64 (gp (gr N.ends k) j)] 44)) u4 (someEdges N k j) (someEdges N k j).length) := Hs.out.2.ext ((Ext.rfl' _).alloc' _)
                go_wp2
                go_roundg ((gr N.ends k).length - (j + 1))
                case measure => omega
                case rel => exact ⟨j + 1, by omega, rfl, by go_num, X2.out, by rw [someEdges_no F.out]; exact G2.out⟩
            · have hb : ((k : Int) == gn (gr N.ends k) j) = false := by simpa using h2
              have F := Lib.hid (show ¬ First N k j from fun f => f.elim (fun f => absurd f h1) fun f => h2 f.1)
              clear h2
              have X2 : Hid (Ext w1 (wr.alloc (.cells #[.int .i64 (gn (gr N.ends k) j), .int .i64 (gp (gr N.ends k) j)] 44))) := Hs.out.1.alloc' _
              have G2 : Hid (GrowI (w1.heap.size) (wr.alloc (.cells #[.int .i64 (gn (gr N.ends k) j), .int .i64 (gp (gr N.ends k) j)] 44)) u4 (someEdges N k j) (someEdges N k j).length) := Hs.out.2.ext ((Ext.rfl' _).alloc' _)
              go_wp2
              go_roundg ((gr N.ends k).length - (j + 1))
              case measure => omega
              case rel => exact ⟨j + 1, by omega, rfl, by go_num, X2.out, by rw [someEdges_no F.out]; exact G2.out⟩
        · obtain rfl : j = (gr N.ends k).length := by omega
          go_wp2
          go_roundg (N.ends.length - (k + 1))
          case measure => omega
          case rel => exact ⟨k + 1, by omega, rfl, by go_num, Hs.out.1, by rw [← someEdges_all]; exact Hs.out.2⟩
    · obtain rfl : k = N.ends.length := by omega
      obtain ⟨bs, ho, hnd, hge⟩ := Hr.out.2.done
      have HO := Lib.hid ho
      have HF := Lib.hid (show Fresh w bs from ⟨hnd, fun y hy => by have := hge y hy; have := K1.out.size; omega⟩)
      clear ho hnd hge
      go_wp2
      go_ret2
      exact ⟨_, bs, ret_sl G.out.symm, K1X.out.trans' Hr.out.1, by rw [A.out]; exact HO.out, HF.out⟩
end Go.Proofs.Ytndgbildkeglfaa
