/- The edges of a network as plain data; the contract of neFirst; a list of lists that grows by one row. -/
import Derived.Test.YtdcgpodjoalokaaIi
import Derived.Test.YtdcgpodjoalokaaKf
namespace Go.Proofs.Ytdcgpodjoalokaa
open Go.RowKit

theorem Try.info23 : (Try.prog.info? 24).map (fun i => (i.zero, i.size, i.bytes)) = some (some (.slice none 0 0), 1, 24) := by kernel_rfl

def First (N : Net) (v i : Nat) : Prop := (v : Int) < gn (gr N.ends v) i ∨ ((v : Int) = gn (gr N.ends v) i ∧ (i : Int) ≤ gp (gr N.ends v) i)
def quad (N : Net) (v i : Nat) : List Int := [(v : Int), (i : Int), gn (gr N.ends v) i, gp (gr N.ends v) i]
noncomputable def portEdge (N : Net) (v i : Nat) : List (List Int) := if dec (First N v i) = true then [quad N v i] else []
theorem portEdge_t {N : Net} {v i : Nat} (h : First N v i) : portEdge N v i = [quad N v i] := by simp [portEdge, dec_true h]
theorem portEdge_f {N : Net} {v i : Nat} (h : ¬ First N v i) : portEdge N v i = [] := by simp [portEdge, dec_false h]
/-- The edges that begin at the first k ports of node v. -/
noncomputable def rowEdges (N : Net) (v : Nat) : Nat → List (List Int)
  | 0 => []
  | k + 1 => rowEdges N v k ++ portEdge N v k
/-- The edges that begin at the first v nodes. -/
noncomputable def edgesTo (N : Net) : Nat → List (List Int)
  | 0 => []
  | v + 1 => edgesTo N v ++ rowEdges N v (gr N.ends v).length
noncomputable def someEdges (N : Net) (v k : Nat) : List (List Int) := edgesTo N v ++ rowEdges N v k
theorem someEdges_zero (N : Net) (v : Nat) : someEdges N v 0 = edgesTo N v := by simp [someEdges, rowEdges]
theorem someEdges_all (N : Net) (v : Nat) : someEdges N v (gr N.ends v).length = edgesTo N (v + 1) := rfl
theorem someEdges_yes {N : Net} {v k : Nat} (h : First N v k) : someEdges N v (k + 1) = someEdges N v k ++ [quad N v k] := by simp [someEdges, rowEdges, portEdge_t h]
theorem someEdges_no {N : Net} {v k : Nat} (h : ¬ First N v k) : someEdges N v (k + 1) = someEdges N v k := by simp [someEdges, rowEdges, portEdge_f h]
theorem rowEdges_len (N : Net) (v : Nat) : ∀ k, (rowEdges N v k).length ≤ k ∧ ∀ r ∈ rowEdges N v k, r.length = 4
  | 0 => by simp [rowEdges]
  | k + 1 => by
    have h := rowEdges_len N v k
    by_cases hf : First N v k
    · simp only [rowEdges, portEdge_t hf, List.length_append, List.length_singleton, List.mem_append, List.mem_singleton]
      refine ⟨by omega, fun r hr => ?_⟩
      rcases hr with hr | rfl
      · exact h.2 r hr
      · rfl
    · simp only [rowEdges, portEdge_f hf, List.append_nil]
      exact ⟨by omega, h.2⟩
theorem edgesTo_len (N : Net) (hs : ∀ v, v < N.ends.length → (gr N.ends v).length ≤ 6) : ∀ k, k ≤ N.ends.length → (edgesTo N k).length ≤ 6 * k ∧ ∀ r ∈ edgesTo N k, r.length = 4
  | 0, _ => by simp [edgesTo]
  | k + 1, hk => by
    have h := edgesTo_len N hs k (by omega)
    have h1 := rowEdges_len N k (gr N.ends k).length
    have h2 := hs k (by omega)
    simp only [edgesTo, List.length_append, List.mem_append]
    refine ⟨by omega, fun r hr => ?_⟩
    rcases hr with hr | hr
    · exact h.2 r hr
    · exact h1.2 r hr
noncomputable def edAns (N : Net) : List (List Int) := if dec (Good N) = true then edgesTo N N.ends.length else []
theorem edAns_t {N : Net} (h : Good N) : edAns N = edgesTo N N.ends.length := by simp [edAns, dec_true h]
theorem edAns_f {N : Net} (h : ¬ Good N) : edAns N = [] := by simp [edAns, dec_false h]
theorem good_rows {N : Net} (h : Good N) : ∀ v, v < N.ends.length → (gr N.ends v).length ≤ 6 := fun v hv => (h.2.1 v hv).1
theorem edAns_small (N : Net) : IISmall (edAns N) := by
  by_cases h : Good N
  · rw [edAns_t h]
    have h1 := edgesTo_len N (good_rows h) N.ends.length (Nat.le_refl _)
    have h2 := h.1.2
    refine ⟨by omega, fun i => ?_⟩
    by_cases hi : i < (edgesTo N N.ends.length).length
    · have : gr (edgesTo N N.ends.length) i = (edgesTo N N.ends.length)[i] := by simp [gr, hi]
      rw [this, h1.2 _ (List.getElem_mem hi)]
      omega
    · rw [gr_out _ _ (by omega)]; simp
  · rw [edAns_f h]
    exact ⟨by simp, fun i => by simp [gr]⟩

theorem gr_snoc (l : List (List Int)) (r : List Int) (i : Nat) : gr (l ++ [r]) i = if i = l.length then r else gr l i := by
  unfold gr
  by_cases e : i = l.length
  · subst e; simp
  · rw [if_neg e]
    by_cases h : i < l.length
    · simp [List.getD, List.getElem?_append_left h]
    · simp [List.getD, List.getElem?_eq_none (show l.length ≤ i by omega), List.getElem?_eq_none (show (l ++ [r]).length ≤ i by simp; omega)]
/-- The parts of a grown list, read as the beginning of one with a further row. -/
theorem GrowI.parts {B : Nat} {w : World} {v : Value} {l : List (List Int)} (h : GrowI B w v l l.length) (r : List Int) :
    ∃ (R : Nat → Value) (T : Nat → List Nat), w.ownsRow B 24 1 v l.length ((List.range l.length).map R) ∧ (∀ i, i < l.length → OwnI w (R i) (gr (l ++ [r]) i) (T i)) ∧ ((List.range l.length).flatMap T).Nodup ∧ ∀ b ∈ (List.range l.length).flatMap T, B ≤ b ∧ b < w.heap.size := by
  obtain ⟨R, T, h1, h2, h3, h4⟩ := h
  refine ⟨R, T, h1, fun i hi => by rw [gr_snoc, if_neg (by omega)]; exact h2 i hi, h3, fun b hb => ⟨h4 b hb, ?_⟩⟩
  obtain ⟨i, hi, hbi⟩ := List.mem_flatMap.1 hb
  exact (h2 i (List.mem_range.1 hi)).1.lt b hbi

theorem own_quad (w : World) (N : Net) (v i : Nat) (h : inI64 v ∧ inI64 i ∧ inI64 (gn (gr N.ends v) i) ∧ inI64 (gp (gr N.ends v) i)) :
    OwnI (w.alloc (.cells #[.int .i64 v, .int .i64 i, .int .i64 (gn (gr N.ends v) i), .int .i64 (gp (gr N.ends v) i)] 3)) (.slice (some ⟨w.heap.size, 0, none⟩) 4 4) (quad N v i) [w.heap.size] := by
  refine ⟨⟨4, by simp [quad], by unfold maxLen; omega, .inr ⟨w.heap.size, 4, fun j => .int .i64 (gi (quad N v i) j), rfl, rfl, by simp [quad], World.rowIs_alloc w _ 3 _ fun j hj => ?_, fun j hj => rfl⟩⟩, fun j hj => ?_⟩
  · have h : j < 4 := hj
    match j, h with
    | 0, _ => rfl
    | 1, _ => rfl
    | 2, _ => rfl
    | 3, _ => rfl
  · have h' : j < 4 := hj
    match j, h' with
    | 0, _ => exact h.1
    | 1, _ => exact h.2.1
    | 2, _ => exact h.2.2.1
    | 3, _ => exact h.2.2.2

/-- A further edge: w2: the world ahead of it; w3: the one behind append. -/
theorem edge_step {B : Nat} {w2 w3 : World} {s v' : Value} {N : Net} {v i : Nat} {l : List (List Int)} {R : Nat → Value} {T : Nat → List Nat}
    (h : inI64 v ∧ inI64 i ∧ inI64 (gn (gr N.ends v) i) ∧ inI64 (gp (gr N.ends v) i)) (hB : B ≤ w2.heap.size)
    (h1 : w2.ownsRow B 24 1 s l.length ((List.range l.length).map R)) (h2 : ∀ j, j < l.length → OwnI w2 (R j) (gr (l ++ [quad N v i]) j) (T j)) (h3 : ((List.range l.length).flatMap T).Nodup) (h4 : ∀ b ∈ (List.range l.length).flatMap T, B ≤ b ∧ b < w2.heap.size)
    (hg : Grew ((w2.alloc (.cells #[.int .i64 v, .int .i64 i, .int .i64 (gn (gr N.ends v) i), .int .i64 (gp (gr N.ends v) i)] 3)).alloc (.cells #[.slice (some ⟨w2.heap.size, 0, none⟩) 4 4] 24)) w3 B 24 1 s v' (l.length + 1) ((List.range l.length).map R ++ [.slice (some ⟨w2.heap.size, 0, none⟩) 4 4])) :
    GrowI B w3 v' (l ++ [quad N v i]) (l ++ [quad N v i]).length ∧ ∀ W : World, Ext W w2 → W.heap.size ≤ B → Ext W w3 := by
  have hx : Ext w2 ((w2.alloc (.cells #[.int .i64 v, .int .i64 i, .int .i64 (gn (gr N.ends v) i), .int .i64 (gp (gr N.ends v) i)] 3)).alloc (.cells #[.slice (some ⟨w2.heap.size, 0, none⟩) 4 4] 24)) := ((Ext.rfl' w2).alloc' _).alloc' _
  have hq := (own_quad w2 N v i h).ext ((Ext.rfl' _).alloc' (.cells #[.slice (some ⟨w2.heap.size, 0, none⟩) 4 4] 24))
  have hl : (l ++ [quad N v i]).length = l.length + 1 := by simp
  refine ⟨?_, fun W hW hWB => hg.ext (hW.trans' hx) fun b hb => Nat.le_trans hWB (h1.lt b hb).1⟩
  rw [hl]
  refine GrowI.step (owns_ext h1 hx) (fun j hj => (h2 j hj).ext hx) h3 (fun b hb => (h4 b hb).1) (bs := [w2.heap.size]) (x := .slice (some ⟨w2.heap.size, 0, none⟩) 4 4) ?_ (fun b hb => ?_) hg
  · rw [gr_snoc, if_pos rfl]; exact hq
  · obtain rfl := List.mem_singleton.1 hb
    exact ⟨hB, fun hb' => by have := (h4 _ hb').2; omega⟩

set_option maxHeartbeats 1600000 in
set_option maxRecDepth 100000 in
theorem neFirst_any {w : World} {v : Value} {N : Net} (k j : Nat) (hk : k < N.ends.length) (hj : j < (gr N.ends k).length) (h40 : N.ends.length ≤ 1048576) (hrow : (gr N.ends k).length ≤ 1048576) (h : NetAt w v N) :
    Calls Try.prog 155 #[v, .int .i64 k, .int .i64 j] w fun e w' => e = .returned (.bool (dec (First N k j))) ∧ Ext w w' := by
  obtain ⟨v0, v1, v2, rfl, hE, hI, hP⟩ := h
  obtain ⟨a, b, o, c, rfl, ha, hl, hm, hc⟩ := hE
  obtain ⟨x, hx, hr⟩ := hc k hk
  obtain ⟨ax, bx, ox, cx, rfl, hax, hlx, hmx, hcx⟩ := hr
  obtain ⟨c1, c2, _, _⟩ := hcx j hj
  obtain rfl := ha (by omega)
  obtain rfl := hax (by omega)
  have HX := boxed_ext w (.slice (some ⟨b, o, none⟩) N.ends.length c) v1 v2 43
  obtain ⟨p0, p1, p2, _, _, _⟩ := row3_facts (boxed_row w (.slice (some ⟨b, o, none⟩) N.ends.length c) v1 v2 43)
  have d0 := HX.cell' hx
  have d1 := HX.cell' c1
  have d2 := HX.cell' c2
  have HY := Lib.hid (HX.alloc' (.cells #[.int .i64 (gn (gr N.ends k) j), .int .i64 (gp (gr N.ends k) j)] 123))
  clear hI hP ha hc hax hcx c1 c2 hx HX
  by_cases h1 : (k : Int) < gn (gr N.ends k) j
  · have F := Lib.hid (dec_true (p := First N k j) (.inl h1))
    go_enter Try.func155, Try.ntmps155
    go_wp2
    go_ret
    exact ⟨ret_bool F.out.symm, HY.out⟩
  · by_cases h2 : (k : Int) = gn (gr N.ends k) j
    · have hb : ((k : Int) == gn (gr N.ends k) j) = true := by simpa using h2
      have H2 := Lib.hid h2
      clear h2
      by_cases h3 : (j : Int) ≤ gp (gr N.ends k) j
      · have F := Lib.hid (dec_true (p := First N k j) (.inr ⟨H2.out, h3⟩))
        go_enter Try.func155, Try.ntmps155
        go_wp2
        go_ret
        exact ⟨ret_bool F.out.symm, HY.out⟩
      · have F := Lib.hid (dec_false (p := First N k j) (fun f => f.elim (fun f => absurd f h1) fun f => h3 f.2))
        go_enter Try.func155, Try.ntmps155
        go_wp2
        go_ret
        exact ⟨ret_bool F.out.symm, HY.out⟩
    · have hb : ((k : Int) == gn (gr N.ends k) j) = false := by simpa using h2
      have F := Lib.hid (dec_false (p := First N k j) (fun f => f.elim (fun f => absurd f h1) fun f => h2 f.1))
      clear h2
      go_enter Try.func155, Try.ntmps155
      go_wp2
      go_ret
      exact ⟨ret_bool F.out.symm, HY.out⟩
end Go.Proofs.Ytdcgpodjoalokaa

/- The contract of neEdges. -/
namespace Go.Proofs.Ytdcgpodjoalokaa
open Go.RowKit

set_option maxHeartbeats 3200000 in
set_option maxRecDepth 100000 in
theorem neEdges_any {w : World} {v : Value} {N : Net} (h : NetAt w v N) (hg : Good N) :
    Calls Try.prog 113 #[v] w fun e w' => ∃ v' bs, e = .returned v' ∧ Ext w w' ∧ OwnII w' v' (edgesTo N N.ends.length) bs ∧ Fresh w bs := by
  have HN := Lib.hid h
  obtain ⟨v0, v1, v2, rfl, hE, hI, hP⟩ := h
  clear hI hP
  obtain ⟨a, b, o, c, rfl, ha, hl, hm, hc⟩ := hE
  unfold maxLen at hm
  have Hc := Lib.hid hc
  have Ha := Lib.hid ha
  have HS := Lib.hid (good_rows hg)
  have h40 : N.ends.length ≤ 40 := hg.1.2
  obtain ⟨i0, hi, hz0, hz1, hz2⟩ := info_parts Try.info23
  have I0 := Lib.hid (And.intro hi (And.intro hz0 (And.intro hz1 hz2)))
  have HX := Lib.hid (boxed_ext w (.slice a N.ends.length c) v1 v2 43)
  clear hi hz0 hz1 hz2 hc ha hg
  go_enter Try.func113, Try.ntmps113
  go_wp2
  go_loopg [3, 11] N.ends.length (fun g s i wr => ∃ k : Nat, k ≤ N.ends.length ∧ g = N.ends.length - k ∧ i = .int .i64 k ∧ Hid (Ext (boxed w (.slice a N.ends.length c) v1 v2 43) wr ∧ GrowI (w.heap.size + 1) wr s (edgesTo N k) (edgesTo N k).length))
  case atStart => exact ⟨0, Nat.zero_le _, rfl, rfl, Ext.rfl' _, GrowI.nil _ _ _⟩
  case round =>
    obtain ⟨k, hk, rfl, rfl, Hr⟩ := hrel
    by_cases hlt : k < N.ends.length
    · obtain ⟨z, hz, hrow⟩ := Hc.out k hlt
      obtain ⟨a3, b3, o3, c3, rfl, ha3, hl3, hm3, hc3⟩ := hrow
      unfold maxLen at hm3
      have Hc3 := Lib.hid hc3
      have Ha3 := Lib.hid ha3
      have h6 := HS.out k hlt
      have hT := (edgesTo_len N HS.out k (by omega)).1
      clear hc3 ha3
      obtain rfl := Ha.out (by omega)
      have hz1 := Hr.out.1.cell' (HX.out.cell' hz)
      clear hz
      go_wp2
      have hw0 : ∃ wo : World, wo = wr := ⟨_, rfl⟩
      obtain ⟨wo, rfl⟩ := hw0
      clear hz1
      go_loopg [3, 18] (gr N.ends k).length (fun g s i wx => ∃ j : Nat, j ≤ (gr N.ends k).length ∧ g = (gr N.ends k).length - j ∧ i = .int .i64 j ∧ Hid (Ext (boxed w (.slice (some ⟨b, o, none⟩) N.ends.length c) v1 v2 43) wx ∧ GrowI (w.heap.size + 1) wx s (someEdges N k j) (someEdges N k j).length))
      case atStart => exact ⟨0, Nat.zero_le _, rfl, rfl, Hr.out.1, by rw [someEdges_zero]; exact Hr.out.2⟩
      case round =>
        obtain ⟨j, hj, rfl, rfl, Hs⟩ := hrel
        by_cases hjt : j < (gr N.ends k).length
        · obtain ⟨hq1, hq2, hq3, hq4⟩ := Hc3.out j hjt
          obtain rfl := Ha3.out (by omega)
          have q1 := Hs.out.1.cell' (HX.out.cell' hq1)
          have q2 := Hs.out.1.cell' (HX.out.cell' hq2)
          have HI4 := Lib.hid (show inI64 (k : Int) ∧ inI64 (j : Int) ∧ inI64 (gn (gr N.ends k) j) ∧ inI64 (gp (gr N.ends k) j) from ⟨by unfold inI64; omega, by unfold inI64; omega, hq3, hq4⟩)
          have hLen : (someEdges N k j).length ≤ 6 * k + j := by have := (rowEdges_len N k j).1; simp only [someEdges, List.length_append]; omega
          clear hq1 hq2 hq3 hq4
          by_cases hf : First N k j
          · have F := Lib.hid hf
            have FB := Lib.hid (dec_true hf)
            clear hf
            obtain ⟨p0, p1, p2, _, _, _⟩ := row3_facts (row_ext (boxed_row w (.slice (some ⟨b, o, none⟩) N.ends.length c) v1 v2 43) (Hs.out.1.alloc' (.cells #[.int .i64 (gn (gr N.ends k) j), .int .i64 (gp (gr N.ends k) j)] 123)))
            go_wp2_with fail
            (with_reducible refine (neFirst_any k j hlt hjt (by omega) (by omega) (HN.out.ext ((HX.out.trans' Hs.out.1).alloc' _))).mono ?_)
            rintro e w2 ⟨rfl, hw⟩
            rw [FB.out]
            have X2 : Hid (Ext (boxed w (.slice (some ⟨b, o, none⟩) N.ends.length c) v1 v2 43) w2) := (Hs.out.1.alloc' _).trans' hw
            have G2 : Hid (GrowI (w.heap.size + 1) w2 u3 (someEdges N k j) (someEdges N k j).length) := (Hs.out.2.ext ((Ext.rfl' _).alloc' _)).ext hw
            obtain ⟨e0, e1, _, _⟩ := duo_facts (row_ext (duo_made wr (.int .i64 (gn (gr N.ends k) j)) (.int .i64 (gp (gr N.ends k) j)) 123) hw)
            clear hw p0 p1 p2
            obtain ⟨R, T, g1, g2, g3, g4⟩ := G2.out.parts (quad N k j)
            have G1 := Lib.hid g1
            have G3 := Lib.hid (And.intro g2 (And.intro g3 g4))
            have hB2 := Lib.hid (show w.heap.size + 1 ≤ w2.heap.size by have := X2.out.size; simpa using this)
            clear g1 g2 g3 g4
            go_wp2_with (at_builtin; refine wpList_app rfl (.tmp 27) (.tmp 35) 22 rfl (w.heap.size + 1) 24 i0 (.slice none 0 0) 1 24 Try.underlying22 I0.out.1 I0.out.2.1 I0.out.2.2.1 I0.out.2.2.2 rfl (by decide) u3 (someEdges N k j).length ((List.range (someEdges N k j).length).map R) rfl (owns_ext G1.out (((Ext.rfl' w2).alloc' _).alloc' _)) (some ⟨w2.heap.size + 1, 0, none⟩) 1 1 [.slice (some ⟨w2.heap.size, 0, none⟩) 4 4] rfl (by simpa using src_one (w2.alloc (.cells #[.int .i64 (k : Int), .int .i64 (j : Int), .int .i64 (gn (gr N.ends k) j), .int .i64 (gp (gr N.ends k) j)] 3)) (.slice (some ⟨w2.heap.size, 0, none⟩) 4 4) 24 rfl) (by unfold maxLen; omega) (by omega) ?_ ?_)
            · simp; have := hB2.out; omega
            intro v' w3 hg
            obtain ⟨g5, g6⟩ := edge_step HI4.out hB2.out G1.out G3.out.1 G3.out.2.1 G3.out.2.2 hg
            have G5 := Lib.hid g5
            have G6 := Lib.hid (g6 _ X2.out (by simp))
            clear hg g5 g6 e0 e1
            go_wp2
            go_roundg ((gr N.ends k).length - (j + 1))
            case measure => omega
            case rel => exact ⟨j + 1, by omega, rfl, by go_num, G6.out, by rw [someEdges_yes F.out]; exact G5.out⟩
          · have F := Lib.hid hf
            have FB := Lib.hid (dec_false hf)
            clear hf
            obtain ⟨p0, p1, p2, _, _, _⟩ := row3_facts (row_ext (boxed_row w (.slice (some ⟨b, o, none⟩) N.ends.length c) v1 v2 43) (Hs.out.1.alloc' (.cells #[.int .i64 (gn (gr N.ends k) j), .int .i64 (gp (gr N.ends k) j)] 123)))
            go_wp2_with fail
            (with_reducible refine (neFirst_any k j hlt hjt (by omega) (by omega) (HN.out.ext ((HX.out.trans' Hs.out.1).alloc' _))).mono ?_)
            rintro e w2 ⟨rfl, hw⟩
            rw [FB.out]
            have X2 : Hid (Ext (boxed w (.slice (some ⟨b, o, none⟩) N.ends.length c) v1 v2 43) w2) := (Hs.out.1.alloc' _).trans' hw
            have G2 : Hid (GrowI (w.heap.size + 1) w2 u3 (someEdges N k j) (someEdges N k j).length) := (Hs.out.2.ext ((Ext.rfl' _).alloc' _)).ext hw
            obtain ⟨-, -, -, -⟩ := duo_facts (row_ext (duo_made wr (.int .i64 (gn (gr N.ends k) j)) (.int .i64 (gp (gr N.ends k) j)) 123) hw)
            clear hw p0 p1 p2
            go_wp2
            go_roundg ((gr N.ends k).length - (j + 1))
            case measure => omega
            case rel => exact ⟨j + 1, by omega, rfl, by go_num, X2.out, by rw [someEdges_no F.out]; exact G2.out⟩
        · obtain rfl : j = (gr N.ends k).length := by omega
          go_wp2
          go_roundg (N.ends.length - (k + 1))
          case measure => omega
          case rel => exact ⟨k + 1, by omega, rfl, by go_num, Hs.out.1, by rw [← someEdges_all]; exact Hs.out.2⟩
    · obtain rfl : k = N.ends.length := by omega
      obtain ⟨bs, ho, hnd, hge⟩ := Hr.out.2.done
      have HO := Lib.hid ho
      have HF := Lib.hid (show Fresh w bs from ⟨hnd, fun y hy => by have := hge y hy; omega⟩)
      clear ho hnd hge
      go_wp2
      go_ret
      exact ⟨_, bs, rfl, HX.out.trans' Hr.out.1, HO.out, HF.out⟩
end Go.Proofs.Ytdcgpodjoalokaa

/- The contracts of both EdgesOf. -/
namespace Go.Proofs.Ytdcgpodjoalokaa
open Go.RowKit

theorem own_nilII (w : World) : OwnII w (.slice none 0 0) [] [] := ⟨fun _ => undef, [], fun _ => [], ⟨0, Nat.le_refl _, by unfold maxLen; omega, .inl ⟨rfl, rfl, none, ⟨rfl, rfl⟩, rfl⟩⟩, fun i hi => absurd hi (by simp), rfl⟩

set_option maxHeartbeats 3200000 in
set_option maxRecDepth 100000 in
theorem edgesOf_any {w : World} {v : Value} {N : Net} (h : NetAt w v N) :
    Calls Try.prog 116 #[v] w fun e w' => ∃ v' bs, e = .returned (.tuple #[v', .bool (dec (Good N))]) ∧ Ext w w' ∧ OwnII w' v' (edAns N) bs ∧ Fresh w bs := by
  have HN := Lib.hid h
  obtain ⟨v0, v1, v2, rfl, hE, hI, hP⟩ := h
  clear hI hP
  obtain ⟨a, b, o, c, rfl, ha, hl, hm, hc⟩ := hE
  unfold maxLen at hm
  have Hc := Lib.hid hc
  have Ha := Lib.hid ha
  clear hc ha
  have HX := Lib.hid (boxed_ext w (.slice a N.ends.length c) v1 v2 43)
  have HR := Lib.hid (boxed_row w (.slice a N.ends.length c) v1 v2 43)
  by_cases hg : Good N
  case neg =>
    have G := Lib.hid (dec_false hg)
    have A := Lib.hid (edAns_f hg)
    clear hg
    go_enter Try.func116, Try.ntmps116
    go_wp2_with (first | (go_at_call 83; (with_reducible refine (isNetwork_any (HN.out.ext HX.out)).mono ?_); rintro e w1 ⟨rfl, hw⟩; rw [G.out]; have K1 := Lib.hid (HX.out.trans' hw); clear hw))
    go_ret2
    exact ⟨_, [], ret_sl G.out.symm, K1.out, by rw [A.out]; exact own_nilII _, Fresh.nil _⟩
  have G := Lib.hid (dec_true hg)
  have A := Lib.hid (edAns_t hg)
  have HS := Lib.hid (good_rows hg)
  have h40 : N.ends.length ≤ 40 := hg.1.2
  obtain ⟨i0, hi, hz0, hz1, hz2⟩ := info_parts Try.info23
  have I0 := Lib.hid (And.intro hi (And.intro hz0 (And.intro hz1 hz2)))
  clear hi hz0 hz1 hz2 hg
  go_enter Try.func116, Try.ntmps116
  go_wp2_with fail
  (with_reducible refine (isNetwork_any (HN.out.ext HX.out)).mono ?_)
  rintro e w1 ⟨rfl, hw⟩
  rw [G.out]
  have K1 := Lib.hid (HX.out.trans' hw)
  have K1X := Lib.hid (HX.out.trans' hw)
  obtain ⟨p0, p1, p2, _, _, _⟩ := row3_facts ((row_ext HR.out hw).alloc (.cells #[] 24))
  clear hw
  go_wp2_with fail
  clear p0 p1 p2
  go_loopg [4, 16] N.ends.length (fun g s i wr => ∃ k : Nat, k ≤ N.ends.length ∧ g = N.ends.length - k ∧ i = .int .i64 k ∧ Hid (Ext w1 wr ∧ GrowI (w1.heap.size) wr s (edgesTo N k) (edgesTo N k).length))
  case atStart => exact ⟨0, Nat.zero_le _, rfl, rfl, (Ext.rfl' _).alloc' _, fun _ => undef, fun _ => [], World.ownsRow_lit w1 #[] 0 (Nat.le_refl _) (by decide) rfl, fun i hi => absurd hi (by simp [edgesTo]), by simp [edgesTo], by simp [edgesTo]⟩
  case round =>
    obtain ⟨k, hk, rfl, rfl, Hr⟩ := hrel
    by_cases hlt : k < N.ends.length
    · obtain ⟨z, hz, hrow⟩ := Hc.out k hlt
      obtain ⟨a3, b3, o3, c3, rfl, ha3, hl3, hm3, hc3⟩ := hrow
      unfold maxLen at hm3
      have Hc3 := Lib.hid hc3
      have Ha3 := Lib.hid ha3
      have h6 := HS.out k hlt
      have hT := (edgesTo_len N HS.out k (by omega)).1
      clear hc3 ha3
      obtain rfl := Ha.out (by omega)
      have hz1 := Hr.out.1.cell' (K1X.out.cell' hz)
      clear hz
      go_wp2
      have hw0 : ∃ wo : World, wo = wr := ⟨_, rfl⟩
      obtain ⟨wo, rfl⟩ := hw0
      clear hz1
      go_loopg [4, 23] (gr N.ends k).length (fun g s i wx => ∃ j : Nat, j ≤ (gr N.ends k).length ∧ g = (gr N.ends k).length - j ∧ i = .int .i64 j ∧ Hid (Ext w1 wx ∧ GrowI (w1.heap.size) wx s (someEdges N k j) (someEdges N k j).length))
      case atStart => exact ⟨0, Nat.zero_le _, rfl, rfl, Hr.out.1, by rw [someEdges_zero]; exact Hr.out.2⟩
      case round =>
        obtain ⟨j, hj, rfl, rfl, Hs⟩ := hrel
        by_cases hjt : j < (gr N.ends k).length
        · obtain ⟨hq1, hq2, hq3, hq4⟩ := Hc3.out j hjt
          obtain rfl := Ha3.out (by omega)
          have q1 := Hs.out.1.cell' (K1X.out.cell' hq1)
          have q2 := Hs.out.1.cell' (K1X.out.cell' hq2)
          have HI4 := Lib.hid (show inI64 (k : Int) ∧ inI64 (j : Int) ∧ inI64 (gn (gr N.ends k) j) ∧ inI64 (gp (gr N.ends k) j) from ⟨by unfold inI64; omega, by unfold inI64; omega, hq3, hq4⟩)
          have hLen : (someEdges N k j).length ≤ 6 * k + j := by have := (rowEdges_len N k j).1; simp only [someEdges, List.length_append]; omega
          clear hq1 hq2 hq3 hq4
          by_cases h1 : (k : Int) < gn (gr N.ends k) j
          · have F := Lib.hid (show First N k j from .inl h1)
            have X2 : Hid (Ext w1 (wr.alloc (.cells #[.int .i64 (gn (gr N.ends k) j), .int .i64 (gp (gr N.ends k) j)] 123))) := Hs.out.1.alloc' _
            have G2 : Hid (GrowI (w1.heap.size) (wr.alloc (.cells #[.int .i64 (gn (gr N.ends k) j), .int .i64 (gp (gr N.ends k) j)] 123)) u4 (someEdges N k j) (someEdges N k j).length) := Hs.out.2.ext ((Ext.rfl' _).alloc' _)
            obtain ⟨R, T, g1, g2, g3, g4⟩ := G2.out.parts (quad N k j)
            have G1 := Lib.hid g1
            have G3 := Lib.hid (And.intro g2 (And.intro g3 g4))
            have hB2 := Lib.hid (show w1.heap.size ≤ (wr.alloc (.cells #[.int .i64 (gn (gr N.ends k) j), .int .i64 (gp (gr N.ends k) j)] 123)).heap.size by have := X2.out.size; simp at this ⊢; omega)
            clear g1 g2 g3 g4
            go_wp2_with (at_builtin; refine wpList_app rfl (.tmp 44) (.tmp 52) 22 rfl (w1.heap.size) 24 i0 (.slice none 0 0) 1 24 Try.underlying22 I0.out.1 I0.out.2.1 I0.out.2.2.1 I0.out.2.2.2 rfl (by decide) u4 (someEdges N k j).length ((List.range (someEdges N k j).length).map R) rfl (owns_ext G1.out (((Ext.rfl' _).alloc' _).alloc' _)) (some ⟨wr.heap.size + 1 + 1, 0, none⟩) 1 1 [.slice (some ⟨wr.heap.size + 1, 0, none⟩) 4 4] rfl (by simpa using src_one ((wr.alloc (.cells #[.int .i64 (gn (gr N.ends k) j), .int .i64 (gp (gr N.ends k) j)] 123)).alloc (.cells #[.int .i64 (k : Int), .int .i64 (j : Int), .int .i64 (gn (gr N.ends k) j), .int .i64 (gp (gr N.ends k) j)] 3)) (.slice (some ⟨wr.heap.size + 1, 0, none⟩) 4 4) 24 rfl) (by unfold maxLen; omega) (by omega) ?_ ?_)
            · have := hB2.out; (try simp at this); (try simp); omega
            intro v' w3 hg
            obtain ⟨g5, g6⟩ := edge_step (w2 := (wr.alloc (.cells #[.int .i64 (gn (gr N.ends k) j), .int .i64 (gp (gr N.ends k) j)] 123))) HI4.out hB2.out G1.out G3.out.1 G3.out.2.1 G3.out.2.2 (by simpa using hg)
            have G5 := Lib.hid g5
            have G6 := Lib.hid (g6 _ X2.out (by simp))
            clear hg g5 g6
            go_wp2
            go_roundg ((gr N.ends k).length - (j + 1))
            case measure => omega
            case rel => exact ⟨j + 1, by omega, rfl, by go_num, G6.out, by rw [someEdges_yes F.out]; exact G5.out⟩
          · by_cases h2 : (k : Int) = gn (gr N.ends k) j
            · have hb : ((k : Int) == gn (gr N.ends k) j) = true := by simpa using h2
              have H2 := Lib.hid h2
              clear h2
              by_cases h3 : (j : Int) ≤ gp (gr N.ends k) j
              · have F := Lib.hid (show First N k j from .inr ⟨H2.out, h3⟩)
                have X2 : Hid (Ext w1 (wr.alloc (.cells #[.int .i64 (gn (gr N.ends k) j), .int .i64 (gp (gr N.ends k) j)] 123))) := Hs.out.1.alloc' _
                have G2 : Hid (GrowI (w1.heap.size) (wr.alloc (.cells #[.int .i64 (gn (gr N.ends k) j), .int .i64 (gp (gr N.ends k) j)] 123)) u4 (someEdges N k j) (someEdges N k j).length) := Hs.out.2.ext ((Ext.rfl' _).alloc' _)
                obtain ⟨R, T, g1, g2, g3, g4⟩ := G2.out.parts (quad N k j)
                have G1 := Lib.hid g1
                have G3 := Lib.hid (And.intro g2 (And.intro g3 g4))
                have hB2 := Lib.hid (show w1.heap.size ≤ (wr.alloc (.cells #[.int .i64 (gn (gr N.ends k) j), .int .i64 (gp (gr N.ends k) j)] 123)).heap.size by have := X2.out.size; simp at this ⊢; omega)
                clear g1 g2 g3 g4
                go_wp2_with (at_builtin; refine wpList_app rfl (.tmp 44) (.tmp 52) 22 rfl (w1.heap.size) 24 i0 (.slice none 0 0) 1 24 Try.underlying22 I0.out.1 I0.out.2.1 I0.out.2.2.1 I0.out.2.2.2 rfl (by decide) u4 (someEdges N k j).length ((List.range (someEdges N k j).length).map R) rfl (owns_ext G1.out (((Ext.rfl' _).alloc' _).alloc' _)) (some ⟨wr.heap.size + 1 + 1, 0, none⟩) 1 1 [.slice (some ⟨wr.heap.size + 1, 0, none⟩) 4 4] rfl (by simpa using src_one ((wr.alloc (.cells #[.int .i64 (gn (gr N.ends k) j), .int .i64 (gp (gr N.ends k) j)] 123)).alloc (.cells #[.int .i64 (k : Int), .int .i64 (j : Int), .int .i64 (gn (gr N.ends k) j), .int .i64 (gp (gr N.ends k) j)] 3)) (.slice (some ⟨wr.heap.size + 1, 0, none⟩) 4 4) 24 rfl) (by unfold maxLen; omega) (by omega) ?_ ?_)
                · have := hB2.out; (try simp at this); (try simp); omega
                intro v' w3 hg
                obtain ⟨g5, g6⟩ := edge_step (w2 := (wr.alloc (.cells #[.int .i64 (gn (gr N.ends k) j), .int .i64 (gp (gr N.ends k) j)] 123))) HI4.out hB2.out G1.out G3.out.1 G3.out.2.1 G3.out.2.2 (by simpa using hg)
                have G5 := Lib.hid g5
                have G6 := Lib.hid (g6 _ X2.out (by simp))
                clear hg g5 g6
                go_wp2
                go_roundg ((gr N.ends k).length - (j + 1))
                case measure => omega
                case rel => exact ⟨j + 1, by omega, rfl, by go_num, G6.out, by rw [someEdges_yes F.out]; exact G5.out⟩
              · have F := Lib.hid (show ¬ First N k j from fun f => f.elim (fun f => absurd f h1) fun f => h3 f.2)
                have X2 : Hid (Ext w1 (wr.alloc (.cells #[.int .i64 (gn (gr N.ends k) j), .int .i64 (gp (gr N.ends k) j)] 123))) := Hs.out.1.alloc' _
                have G2 : Hid (GrowI (w1.heap.size) (wr.alloc (.cells #[.int .i64 (gn (gr N.ends k) j), .int .i64 (gp (gr N.ends k) j)] 123)) u4 (someEdges N k j) (someEdges N k j).length) := Hs.out.2.ext ((Ext.rfl' _).alloc' _)
                go_wp2
                go_roundg ((gr N.ends k).length - (j + 1))
                case measure => omega
                case rel => exact ⟨j + 1, by omega, rfl, by go_num, X2.out, by rw [someEdges_no F.out]; exact G2.out⟩
            · have hb : ((k : Int) == gn (gr N.ends k) j) = false := by simpa using h2
              have F := Lib.hid (show ¬ First N k j from fun f => f.elim (fun f => absurd f h1) fun f => h2 f.1)
              clear h2
              have X2 : Hid (Ext w1 (wr.alloc (.cells #[.int .i64 (gn (gr N.ends k) j), .int .i64 (gp (gr N.ends k) j)] 123))) := Hs.out.1.alloc' _
              have G2 : Hid (GrowI (w1.heap.size) (wr.alloc (.cells #[.int .i64 (gn (gr N.ends k) j), .int .i64 (gp (gr N.ends k) j)] 123)) u4 (someEdges N k j) (someEdges N k j).length) := Hs.out.2.ext ((Ext.rfl' _).alloc' _)
              go_wp2
              go_roundg ((gr N.ends k).length - (j + 1))
              case measure => omega
              case rel => exact ⟨j + 1, by omega, rfl, by go_num, X2.out, by rw [someEdges_no F.out]; exact G2.out⟩
        · obtain rfl : j = (gr N.ends k).length := by omega
          go_wp2
          go_roundg (N.ends.length - (k + 1))
          case measure => omega
          case rel => exact ⟨k + 1, by omega, rfl, by go_num, Hs.out.1, by rw [← someEdges_all]; exact Hs.out.2⟩
    · obtain rfl : k = N.ends.length := by omega
      obtain ⟨bs, ho, hnd, hge⟩ := Hr.out.2.done
      have HO := Lib.hid ho
      have HF := Lib.hid (show Fresh w bs from ⟨hnd, fun y hy => by have := hge y hy; have := K1.out.size; omega⟩)
      clear ho hnd hge
      go_wp2
      go_ret2
      exact ⟨_, bs, ret_sl G.out.symm, K1X.out.trans' Hr.out.1, by rw [A.out]; exact HO.out, HF.out⟩
end Go.Proofs.Ytdcgpodjoalokaa
