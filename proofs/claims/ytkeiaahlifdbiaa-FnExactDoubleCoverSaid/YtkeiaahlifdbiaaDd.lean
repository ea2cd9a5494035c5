/- The node of one end of a network in memory of its own is written over; the contract of the program's DoubleCover. -/
import Derived.Test.YtkeiaahlifdbiaaDc
import Derived.Test.YtkeiaahlifdbiaaSs
import Derived.Test.YtkeiaahlifdbiaaKh
import Derived.Test.YtkeiaahlifdbiaaGa
namespace Go.Proofs.Ytkeiaahlifdbiaa
open Go.RowKit

theorem ecell_node {l : List (Int × Int)} {j i : Nat} {x : Int} (hj : j < l.length) : ecell (l.set j (x, gp l j)) i = if i = j * 2 then .int .i64 x else ecell l i := by
  rw [ecell_set hj]
  by_cases e : i = j * 2 + 1
  · subst e
    rw [if_pos rfl, if_neg (by omega)]
    unfold ecell
    rw [if_neg (by omega), show (j * 2 + 1) / 2 = j by omega]
  · rw [if_neg e]
theorem OwnE.putNode {w : World} {v : Value} {l : List (Int × Int)} {bs : List Nat} (h : OwnE w v l bs) {j : Nat} (hj : j < l.length) :
    ∃ b c, v = .slice (some ⟨b, 0, none⟩) l.length c ∧ bs = [b] ∧ (w.cell? ⟨b, j * 2, none⟩ = some (.int .i64 (gn l j)) ∧ w.cell? ⟨b, j * 2 + 1, none⟩ = some (.int .i64 (gp l j)) ∧ w.frozen? ⟨b, j * 2, none⟩ = false) ∧
      ∀ x : Int, inI64 x → OwnE (w.setCell ⟨b, j * 2, none⟩ (.int .i64 x)) v (l.set j (x, gp l j)) [b] := by
  obtain ⟨⟨c, hc1, hc2, ho⟩, hr⟩ := h
  rcases ho with ⟨hn, _⟩ | ⟨b, m, g, rfl, rfl, ⟨hm, hmc⟩, hrow, hg⟩
  · omega
  · have e0 : g (j * 2) = .int .i64 (gn l j) := by rw [hg _ (by omega)]; unfold ecell; rw [if_pos (by omega)]; congr 2; omega
    have e1 : g (j * 2 + 1) = .int .i64 (gp l j) := by rw [hg _ (by omega)]; unfold ecell; rw [if_neg (by omega)]; congr 2; omega
    refine ⟨b, c, rfl, rfl, ⟨by rw [hrow.cell (by omega), e0], by rw [hrow.cell (by omega), e1], hrow.frozen _⟩, fun x hx => ⟨⟨c, by simpa using hc1, hc2, .inr ⟨b, m, _, rfl, by simp, ⟨by simpa using hm, hmc⟩, hrow.set (j * 2) (.int .i64 x), fun i hi => ?_⟩⟩, fun i hi => ?_⟩⟩
    · rw [ecell_node hj]
      by_cases e2 : i = j * 2
      · simp [e2]
      · simp only [if_neg e2]; exact hg i (by simpa using hi)
    · rw [gn_set _ _ _ _ hj, gp_set _ _ _ _ hj]
      by_cases e : i = j
      · rw [if_pos e, if_pos e]; exact ⟨hx, (hr j hj).2⟩
      · rw [if_neg e, if_neg e]; exact hr i (by simpa using hi)
theorem OwnSS.putNode {w : World} {v : Value} {l : List (List (Int × Int))} {bs : List Nat} (h : OwnSS w v l bs) (hnd : bs.Nodup) {u j : Nat} (hu : u < l.length) (hj : j < (gr l u).length) :
    ∃ b c q d, v = .slice (some ⟨b, 0, none⟩) l.length c ∧ (q ∈ bs ∧ b ≠ q) ∧ w.cell? ⟨b, u, none⟩ = some (.slice (some ⟨q, 0, none⟩) (gr l u).length d) ∧ (w.cell? ⟨q, j * 2, none⟩ = some (.int .i64 (gn (gr l u) j)) ∧ w.cell? ⟨q, j * 2 + 1, none⟩ = some (.int .i64 (gp (gr l u) j)) ∧ w.frozen? ⟨q, j * 2, none⟩ = false) ∧
      ∀ x : Int, inI64 x → OwnSS (w.setCell ⟨q, j * 2, none⟩ (.int .i64 x)) v (l.set u ((gr l u).set j (x, gp (gr l u) j))) bs := by
  obtain ⟨R, b0, T, ⟨c, hc1, hc2, ho⟩, hrows, rfl⟩ := h
  rcases ho with ⟨hn, _⟩ | ⟨b, m, g, rfl, rfl, ⟨hm, hmc⟩, hrow, hg⟩
  · omega
  · obtain ⟨hd1, hd2⟩ := nodup_rows hnd
    obtain ⟨q, d, hRu, hTu, htwo, hput⟩ := (hrows u hu).putNode hj
    have hqb : b ≠ q := fun e => hd1 u hu b (by simp) (by rw [hTu]; simp [e])
    have hqT : ∀ i, i < l.length → i ≠ u → ∀ y ∈ T i, y ≠ q := fun i hi hiu y hy e => hd2 i u hi hu hiu y hy (by rw [hTu]; simp [e])
    refine ⟨b, c, q, d, rfl, ⟨List.mem_append.2 (.inr (List.mem_flatMap.2 ⟨u, List.mem_range.2 hu, by rw [hTu]; simp⟩)), hqb⟩, by rw [hrow.cell (by omega), hg u (by omega), hRu], htwo, fun x hx => ⟨R, [b], T, ⟨c, by simpa using hc1, hc2, .inr ⟨b, m, g, rfl, by simp, ⟨by simpa using hm, hmc⟩, hrow.of_block (Below.heap_setCell _ _ _ _ hqb), fun i hi => hg i (by simpa using hi)⟩⟩, fun i hi => ?_, by simp⟩⟩
    have hi : i < l.length := by simpa using hi
    rw [gr_set _ _ _ _ hu]
    by_cases e : i = u
    · subst e
      rw [if_pos rfl, hTu]
      exact hput x hx
    · rw [if_neg e]
      exact (hrows i hi).keep fun y hy => Below.heap_setCell _ _ _ _ (hqT i hi e y hy)
/-- .. of a network in a box of its own. -/
theorem HNet.putNode {W0 wr : World} {M : Net} {p : Nat} {v0 v1 v2 : Value} (h : HNet W0 wr M p v0 v1 v2) {u j : Nat} (hu : u < M.ends.length) (hj : j < (gr M.ends u).length) :
    ∃ b c q d, (v0 = .slice (some ⟨b, 0, none⟩) M.ends.length c ∧ b ≠ q) ∧ wr.cell? ⟨b, u, none⟩ = some (.slice (some ⟨q, 0, none⟩) (gr M.ends u).length d) ∧ (wr.cell? ⟨q, j * 2, none⟩ = some (.int .i64 (gn (gr M.ends u) j)) ∧ wr.cell? ⟨q, j * 2 + 1, none⟩ = some (.int .i64 (gp (gr M.ends u) j)) ∧ wr.frozen? ⟨q, j * 2, none⟩ = false) ∧
      ∀ (w' : World) (x : Int), Ext wr w' → inI64 x → HNet W0 (w'.setCell ⟨q, j * 2, none⟩ (.int .i64 x)) (setEnd M u j (x, gp (gr M.ends u) j)) p v0 v1 v2 := by
  obtain ⟨bs, ⟨y0, y1, y2, b0, b1, b2, e, h0, k1, k2, rfl⟩, hnd, hge⟩ := h.net
  simp only [Value.agg.injEq, Array.mk.injEq, List.cons.injEq, and_true] at e
  obtain ⟨rfl, rfl, rfl⟩ := e
  obtain ⟨n0, n12, n3⟩ := List.nodup_append.1 hnd
  obtain ⟨b, c, q, d, hv, ⟨hq, hbq⟩, hx, hcells, -⟩ := h0.putNode n0 hu hj
  refine ⟨b, c, q, d, ⟨hv, hbq⟩, hx, hcells, fun w' x he hxx => ?_⟩
  obtain ⟨b', c', q', d', hv', -, hx', -, hput⟩ := (h0.ext he).putNode n0 hu hj
  obtain ⟨rfl, rfl⟩ : b = b' ∧ c = c' := by rw [hv] at hv'; simpa using hv'
  rw [he.cell' hx] at hx'
  obtain ⟨rfl, rfl⟩ : q = q' ∧ d = d' := by simpa using hx'
  have hqge := hge q (by simp [hq])
  refine ⟨(h.ext.trans' he).store hqge.1 _, h.hp, (row_ext h.box he).of_block (Below.heap_setCell _ _ _ _ (fun e => hqge.2 e.symm)), b0 ++ (b1 ++ b2), ⟨_, _, _, b0, b1, b2, rfl, hput x hxx, (k1.ext he).keep fun y hy => Below.heap_setCell _ _ _ _ (fun e => n3 q hq y (by simp [hy]) e.symm), (k2.ext he).keep fun y hy => Below.heap_setCell _ _ _ _ (fun e => n3 q hq y (by simp [hy]) e.symm), rfl⟩, hnd, hge⟩

theorem not_good_zero : ¬ Good zeroNet := fun h => absurd h.1.1 (by simp [zeroNet])
theorem nil_sl (w : World) : IntSl w (.slice none 0 0) [] := ⟨none, 0, 0, 0, rfl, fun h => absurd h (by simp), Nat.le_refl _, by unfold maxLen; omega, fun i hi => absurd hi (by simp)⟩
theorem dc_good_iff {N : Net} (h : Good N) : Good (dcNet N) ↔ DCOK N := ⟨fun k => ⟨h, Classical.byContradiction fun h40 => dc_bad h40 k⟩, fun k => dc_good h k.2⟩

set_option maxHeartbeats 6400000 in
set_option maxRecDepth 100000 in
theorem crossed_any {w : World} {v : Value} {N : Net} (h : NetAt w v N) (hG : Good N) :
    Calls Try.prog 75 #[v] w fun e w' => ∃ v' bs, e = .returned v' ∧ Ext w w' ∧ OwnNet w' v' (dcNet N) bs ∧ Fresh w bs := by
  have HN := Lib.hid h
  have GN := Lib.hid hG
  obtain ⟨v0, v1, v2, rfl, hE, -, hP⟩ := h
  have HB := Lib.hid (show NetAt w (.agg #[v0, .slice none 0 0, v2]) (bare N) from ⟨v0, _, v2, rfl, hE, nil_sl _, hP⟩)
  obtain ⟨a, b1, o, d, rfl, -, hnd, hm, -⟩ := hE
  unfold maxLen at hm
  clear hP
  obtain ⟨WA, hWA⟩ : ∃ WA, WA = (w.alloc (.cells #[.slice a N.ends.length d, v1, v2] 29)).alloc (.cells #[.slice none 0 0, .slice none 0 0, .slice none 0 0] 29) := ⟨_, rfl⟩
  have EA := Lib.hid (show Ext w WA by rw [hWA]; exact ((Ext.rfl' w).alloc' _).alloc' _)
  have RA := Lib.hid (show WA.rowIs w.heap.size 29 3 (tri (.slice a N.ends.length d) v1 v2) by rw [hWA]; exact row_ext (row3_made w _ _ _ _) ((Ext.rfl' _).alloc' _))
  have RB := Lib.hid (show WA.rowIs (w.heap.size + 1) 29 3 (tri (.slice none 0 0) (.slice none 0 0) (.slice none 0 0)) by rw [hWA]; simpa using row3_made (w.alloc (.cells #[.slice a N.ends.length d, v1, v2] 29)) (.slice none 0 0) (.slice none 0 0) (.slice none 0 0) 29)
  have ZA := Lib.hid (show WA.heap.size = w.heap.size + 2 by rw [hWA]; simp)
  obtain ⟨p0, p1, p2, p3, p4, p5⟩ := row3_facts RA.out
  rw [hWA] at p0 p1 p2 p3 p4 p5
  obtain ⟨W0, hW0⟩ : ∃ W0, W0 = (w.alloc (.cells #[.slice a N.ends.length d, .slice none 0 0, v2] 29)).alloc (.cells #[.slice none 0 0, .slice none 0 0, .slice none 0 0] 29) := ⟨_, rfl⟩
  have EW := Lib.hid (show Ext w W0 by rw [hW0]; exact ((Ext.rfl' w).alloc' _).alloc' _)
  have RN := Lib.hid (show W0.rowIs w.heap.size 29 3 (tri (.slice a N.ends.length d) (.slice none 0 0) v2) by rw [hW0]; exact row_ext (row3_made w _ _ _ _) ((Ext.rfl' _).alloc' _))
  have RQ := Lib.hid (show W0.rowIs (w.heap.size + 1) 29 3 (tri (.slice none 0 0) (.slice none 0 0) (.slice none 0 0)) by rw [hW0]; simpa using row3_made (w.alloc (.cells #[.slice a N.ends.length d, .slice none 0 0, v2] 29)) (.slice none 0 0) (.slice none 0 0) (.slice none 0 0) 29)
  have ZW := Lib.hid (show W0.heap.size = w.heap.size + 2 by rw [hW0]; simp)
  obtain ⟨n0, n1, n2, -, -, -⟩ := row3_facts RN.out
  rw [hW0] at n0 n1 n2
  go_enter Try.func75, Try.ntmps75
  go_wp2_with fail
  rw [← hW0]
  clear hW0 hWA p0 p1 p2 p3 p4 p5 n0 n1 n2
  (with_reducible refine (sideBySide_any (HB.out.ext EW.out) (HB.out.ext EW.out) (bare_good GN.out) (bare_good GN.out)).mono ?_)
  rintro e w2 ⟨x2, bs2, rfl, hw, ho, hf⟩
  obtain ⟨a0', c0', a1', c1', a2', c2', rfl⟩ := ho.agg
  have hU := Lib.hid (HNet.made hw ho hf)
  have hb := GN.out
  have A := Lib.hid (dc_all hb)
  have hlU := length_unionEnds (bare N) (bare N)
  have hn40 : N.ends.length ≤ 40 := hb.1.2
  have hn1 : 1 ≤ N.ends.length := hb.1.1
  have UIN := Lib.hid (show ∀ v, v < (unionNet (bare N) (bare N)).ends.length → ∀ i, i < (gr (unionNet (bare N) (bare N)).ends v).length → 0 ≤ gn (gr (unionNet (bare N) (bare N)).ends v) i ∧ gn (gr (unionNet (bare N) (bare N)).ends v) i ≤ 80 from fun v hv i hi => by
    rw [show (unionNet (bare N) (bare N)).ends = unionEnds (bare N) (bare N) from rfl] at hv hi ⊢
    rw [hlU, show (bare N).ends.length = N.ends.length from rfl] at hv
    by_cases hvn : v < N.ends.length
    · rw [two_l N hvn] at hi ⊢
      have := ((hb.2.1 v hvn).2 i hi).1
      exact ⟨this.1, by have := this.2.1; omega⟩
    · obtain ⟨u, rfl⟩ : ∃ u, v = N.ends.length + u := ⟨v - N.ends.length, by omega⟩
      have hun : u < N.ends.length := by omega
      rw [two_r N hun] at hi ⊢
      rw [length_shiftRow] at hi
      rw [gn_shiftRow _ _ _ hi]
      have := ((hb.2.1 u hun).2 i hi).1
      exact ⟨by have := this.1; omega, by have := this.2.1; omega⟩)
  have UDG := Lib.hid (show ∀ v, v < (unionNet (bare N) (bare N)).ends.length → (gr (unionNet (bare N) (bare N)).ends v).length ≤ 6 from fun v hv => by
    rw [show (unionNet (bare N) (bare N)).ends = unionEnds (bare N) (bare N) from rfl] at hv ⊢
    rw [hlU, show (bare N).ends.length = N.ends.length from rfl] at hv
    by_cases hvn : v < N.ends.length
    · rw [two_l N hvn]; exact (hb.2.1 v hvn).1
    · obtain ⟨u, rfl⟩ : ∃ u, v = N.ends.length + u := ⟨v - N.ends.length, by omega⟩
      rw [two_r N (by omega), length_shiftRow]; exact (hb.2.1 u (by omega)).1)
  obtain ⟨U, hUU⟩ : ∃ U, U = unionNet (bare N) (bare N) := ⟨_, rfl⟩
  rw [show (unionEnds (bare N) (bare N)).length = (unionNet (bare N) (bare N)).ends.length from rfl] at hlU
  rw [← hUU] at hU A UIN UDG hlU ⊢
  obtain ⟨n, hn⟩ : ∃ n, n = N.ends.length := ⟨_, rfl⟩
  rw [show (bare N).ends.length = N.ends.length from rfl] at hlU
  rw [← hn] at hlU hn40 hn1 A RN hnd
  obtain ⟨L, hL⟩ : ∃ L, L = U.ends.length := ⟨_, rfl⟩
  rw [← hL] at hU UIN UDG hlU ⊢
  have HL := Lib.hid hL
  have H0 := Lib.hid (show HNet W0 (w2.alloc (.cells #[.slice a0' L c0', .slice a1' U.ids.length c1', .slice a2' U.inputs.length c2'] 29)) (mapTo (dcF n) U 0 0) w2.heap.size (.slice a0' L c0') (.slice a1' U.ids.length c1') (.slice a2' U.inputs.length c2') by rw [mapTo_zero]; exact hU.out)
  obtain ⟨s0, s1, s2, -, -, -⟩ := row3_facts hU.out.box
  obtain ⟨n0, n1, n2, -, -, -⟩ := row3_facts (row_ext RN.out hU.out.ext)
  have HLU := Lib.hid hlU
  have hL40 : L ≤ 80 := by omega
  have hnL : n < L := by omega
  clear ho hb hL hn hUU hU hlU hn40 hn1 hw hf
  go_wp2_with fail
  clear s0 s1 s2 n0 n1 n2
  go_loopg [15] L (fun g i wr => ∃ k : Nat, k ≤ L ∧ g = L - k ∧ i = .int .i64 k ∧ Hid (HNet W0 wr (mapTo (dcF n) U k 0) w2.heap.size (.slice a0' L c0') (.slice a1' U.ids.length c1') (.slice a2' U.inputs.length c2')))
  case atStart => exact ⟨0, Nat.zero_le _, rfl, rfl, H0.out⟩
  case round =>
    obtain ⟨k, hk, rfl, rfl, Hr⟩ := hrel
    by_cases hlt : k < L
    · have hkU : k < U.ends.length := by have := HL.out; omega
      have hkM : k < (mapTo (dcF n) U k 0).ends.length := by rw [mapTo_len]; exact hkU
      obtain ⟨b, c, ax, cx, hv, hcell, -⟩ := Hr.out.row hkM
      obtain ⟨rfl, -, rfl⟩ : a0' = some ⟨b, 0, none⟩ ∧ L = (mapTo (dcF n) U k 0).ends.length ∧ c0' = c := by simpa using hv
      rw [gr_mapTo _ _ _ _ hkU, if_neg (by omega), if_pos rfl, mrow_zero] at hcell
      have hd6 := UDG.out k hlt
      have HCELL := Lib.hid hcell
      clear hv
      go_wp2
      have hw0 : ∃ wo : World, wo = wr := ⟨_, rfl⟩
      obtain ⟨wo, rfl⟩ := hw0
      clear hcell
      go_loopg [21] (gr U.ends k).length (fun g i wx => ∃ j : Nat, j ≤ (gr U.ends k).length ∧ g = (gr U.ends k).length - j ∧ i = .int .i64 j ∧ Hid (HNet W0 wx (mapTo (dcF n) U k j) w2.heap.size (.slice (some ⟨b, 0, none⟩) L c0') (.slice a1' U.ids.length c1') (.slice a2' U.inputs.length c2') ∧ wx.cell? ⟨b, k, none⟩ = some (.slice ax (gr U.ends k).length cx)))
      case atStart => exact ⟨0, Nat.zero_le _, rfl, rfl, Hr.out, HCELL.out⟩
      case round =>
        obtain ⟨j, hj, rfl, rfl, Hs⟩ := hrel
        by_cases hjt : j < (gr U.ends k).length
        · have hrow : gr (mapTo (dcF n) U k j).ends k = mrow (dcF n) (gr U.ends k) j := by rw [gr_mapTo _ _ _ _ hkU, if_neg (by omega), if_pos rfl]
          obtain ⟨b', c', q, d', ⟨hv, hbq⟩, hx, ⟨q1, q2, q3⟩, hput⟩ := Hs.out.1.putNode (u := k) (j := j) (by rw [mapTo_len]; exact hkU) (by rw [hrow, mrow_len]; exact hjt)
          obtain ⟨rfl, -, rfl⟩ : b = b' ∧ L = (mapTo (dcF n) U k j).ends.length ∧ c0' = c' := by simpa using hv
          rw [Hs.out.2] at hx
          rw [hrow, mrow_len] at hx
          obtain ⟨rfl, rfl⟩ : ax = some ⟨q, 0, none⟩ ∧ cx = d' := by simpa using hx
          rw [hrow, (mrow_at (dcF n) (gr U.ends k) hjt).1] at q1
          rw [hrow, (mrow_at (dcF n) (gr U.ends k) hjt).2] at q2 hput
          obtain ⟨hx0, hx40⟩ := UIN.out k hlt j hjt
          obtain ⟨x, hxx⟩ := Int.eq_ofNat_of_zero_le hx0
          obtain ⟨y, hy⟩ : ∃ y : Int, y = ((x : Int) + (n : Int)) % (L : Int) := ⟨_, rfl⟩
          have hy0 : 0 ≤ y ∧ y < (L : Int) := by rw [hy]; exact ⟨Int.emod_nonneg _ (by omega), Int.emod_lt_of_pos _ (by omega)⟩
          have HF := Lib.hid (show setEnd (mapTo (dcF n) U k j) k j (y, gp (gr U.ends k) j) = mapTo (dcF n) U k (j + 1) by
            rw [← mapTo_set (dcF n) U hkU hjt]
            unfold dcF
            rw [hxx, hy, HLU.out])
          have hmod : ((x : Int) + (n : Int)) % (L : Int) = y := hy.symm
          have htm : Int.tmod ((x : Int) + (n : Int)) (L : Int) = y := by rw [Int.tmod_eq_emod_of_nonneg (by omega)]; exact hy.symm
          have hL0 : (L : Int) ≠ 0 := by omega
          rw [hxx] at q1 hx40
          have HX := Lib.hid ((Ext.rfl' wr).alloc' (.cells #[.int .i64 (x : Int), .int .i64 (gp (gr U.ends k) j)] 66))
          have q3' : (wr.alloc (.cells #[.int .i64 (x : Int), .int .i64 (gp (gr U.ends k) j)] 66)).frozen? ⟨q, j * 2, none⟩ = false := by rw [World.frozen?_of_block (HX.out.block q (World.block_lt_of_cell? _ _ q1))]; exact q3
          have q1' := HX.out.cell' q1
          obtain ⟨s0, s1, s2, -, -, -⟩ := row3_facts (row_ext Hs.out.1.box HX.out)
          obtain ⟨n0, n1, n2, -, -, -⟩ := row3_facts (row_ext RN.out (Hs.out.1.ext.trans' HX.out))
          have H2 := Lib.hid (show HNet W0 ((wr.alloc (.cells #[.int .i64 (x : Int), .int .i64 (gp (gr U.ends k) j)] 66)).setCell ⟨q, j * 2, none⟩ (.int .i64 y)) (mapTo (dcF n) U k (j + 1)) w2.heap.size (.slice (some ⟨b, 0, none⟩) L c0') (.slice a1' U.ids.length c1') (.slice a2' U.inputs.length c2') by rw [← HF.out]; exact hput _ y HX.out (by unfold inI64; omega))
          have HC2 := Lib.hid (show ((wr.alloc (.cells #[.int .i64 (x : Int), .int .i64 (gp (gr U.ends k) j)] 66)).setCell ⟨q, j * 2, none⟩ (.int .i64 y)).cell? ⟨b, k, none⟩ = some (.slice (some ⟨q, 0, none⟩) (gr U.ends k).length cx) from (World.cell?_setCell_other _ _ _ _ (by simp)).trans (HX.out.cell' Hs.out.2))
          clear hput hv hx hrow hxx hy q3
          go_wp2
          go_roundg ((gr U.ends k).length - (j + 1))
          case measure => omega
          case rel => exact ⟨j + 1, by omega, rfl, by go_num, H2.out, HC2.out⟩
        · obtain rfl : j = (gr U.ends k).length := by omega
          have HNX := Lib.hid (mapTo_next (dcF n) U (k := k))
          go_wp2
          go_roundg (L - (k + 1))
          case measure => omega
          case rel => exact ⟨k + 1, by omega, rfl, by go_num, by rw [← HNX.out]; exact Hs.out.1⟩
    · obtain rfl : k = L := by omega
      rw [← HLU.out] at A
      obtain ⟨bs, ho, hn2, hge⟩ := Hr.out.net
      have O4 := Lib.hid ho
      have E4 := Lib.hid (EW.out.trans' Hr.out.ext)
      have S4 := Lib.hid (show ∀ b ∈ bs, w.heap.size ≤ b ∧ b ≠ w.heap.size + 1 from fun b hb => by have := (hge b hb).1; have := ZW.out; omega)
      obtain ⟨r0, r1, r2, -, -, -⟩ := row3_facts Hr.out.box
      obtain ⟨s0, s1, s2, t0, t1, t2⟩ := row3_facts (row_ext RQ.out Hr.out.ext)
      clear ho hge
      go_wp2
      have hc := close_at E4.out (show w.heap.size ≤ w.heap.size + 1 by omega) O4.out hn2 S4.out
      refine bodyPost_ret (v := .agg #[.slice a0' k c0', .slice a1' U.ids.length c1', .slice a2' U.inputs.length c2']) (by simp [results, Try.results75, go_sem, s0, s1, s2]) rfl ⟨_, bs, rfl, hc.1, by rw [← A.out]; exact hc.2.1, hc.2.2⟩

set_option maxHeartbeats 3200000 in
set_option maxRecDepth 100000 in
theorem doubleCover_any {w : World} {v : Value} {N : Net} (h : NetAt w v N) :
    Calls Try.prog 23 #[v] w fun e w' => ∃ v' bs, e = .returned (.tuple #[v', .bool (dec (DCOK N))]) ∧ Ext w w' ∧ OwnNet w' v' (dcAns N) bs ∧ Fresh w bs := by
  have HN := Lib.hid h
  obtain ⟨v0, v1, v2, rfl, hE, -, -⟩ := h
  clear hE
  obtain ⟨W0, hW0⟩ : ∃ W0, W0 = (w.alloc (.cells #[v0, v1, v2] 29)).alloc (.cells #[.slice none 0 0, .slice none 0 0, .slice none 0 0] 29) := ⟨_, rfl⟩
  have EW := Lib.hid (show Ext w W0 by rw [hW0]; exact ((Ext.rfl' w).alloc' _).alloc' _)
  have RN := Lib.hid (show W0.rowIs w.heap.size 29 3 (tri v0 v1 v2) by rw [hW0]; exact row_ext (row3_made w _ _ _ _) ((Ext.rfl' _).alloc' _))
  have RQ := Lib.hid (show W0.rowIs (w.heap.size + 1) 29 3 (tri (.slice none 0 0) (.slice none 0 0) (.slice none 0 0)) by rw [hW0]; simpa using row3_made (w.alloc (.cells #[v0, v1, v2] 29)) (.slice none 0 0) (.slice none 0 0) (.slice none 0 0) 29)
  have ZW := Lib.hid (show W0.heap.size = w.heap.size + 2 by rw [hW0]; simp)
  obtain ⟨p0, p1, p2, -, -, -⟩ := row3_facts RN.out
  rw [hW0] at p0 p1 p2
  by_cases hg : Good N
  case neg =>
    have G := Lib.hid (dec_false hg)
    have D := Lib.hid (dec_false (show ¬ DCOK N from fun k => hg k.1))
    have A := Lib.hid (dcAns_f (show ¬ DCOK N from fun k => hg k.1))
    clear hg
    go_enter Try.func23, Try.ntmps23
    go_wp2_with fail
    rw [← hW0]
    clear hW0 p0 p1 p2
    (with_reducible refine (isNetwork_any (HN.out.ext EW.out)).mono ?_)
    rintro e w1 ⟨rfl, hw⟩
    rw [G.out]
    have X1 := Lib.hid hw
    obtain ⟨q0, q1, q2, t0, t1, t2⟩ := row3_facts (row_ext RQ.out hw)
    clear hw
    go_wp2
    refine bodyPost_ret (v := .tuple #[znet, .bool false]) (by simp [results, Try.results23, go_sem, q0, q1, q2, znet]) rfl ⟨_, [], ret_net D.out.symm, store3_ext (EW.out.trans' X1.out) (by omega) _ _ _, by rw [A.out]; exact own_zero _, Fresh.nil _⟩
  have G := Lib.hid (dec_true hg)
  have GN := Lib.hid hg
  clear hg
  go_enter Try.func23, Try.ntmps23
  go_wp2_with fail
  rw [← hW0]
  clear hW0 p0 p1 p2
  (with_reducible refine (isNetwork_any (HN.out.ext EW.out)).mono ?_)
  rintro e w1 ⟨rfl, hw⟩
  rw [G.out]
  have X1 := Lib.hid hw
  obtain ⟨p0, p1, p2, -, -, -⟩ := row3_facts (row_ext RN.out hw)
  clear hw
  go_wp2_with fail
  clear p0 p1 p2
  (with_reducible refine (crossed_any (HN.out.ext (EW.out.trans' X1.out)) GN.out).mono ?_)
  rintro e w6 ⟨y, bs, rfl, hw, ho, hf⟩
  obtain ⟨a0, c0, a1, c1, a2, c2, rfl⟩ := ho.agg
  have X6 := Lib.hid (EW.out.trans' (X1.out.trans' hw))
  have HM := Lib.hid (show OwnNet w6 _ (dcNet N) bs ∧ bs.Nodup ∧ ∀ b ∈ bs, W0.heap.size ≤ b from ⟨ho, hf.1, fun b hb => Nat.le_trans X1.out.size (hf.2 b hb)⟩)
  have RQ6 := Lib.hid (row_ext RQ.out (X1.out.trans' hw))
  clear hw ho hf
  by_cases hb : DCOK N
  case pos =>
    have Bt := Lib.hid hb
    clear hb
    go_wp2_with fail
    (with_reducible refine (networkOrNone_t HM.out.1.read ((dc_good_iff GN.out).2 Bt.out)).mono ?_)
    rintro e w7 ⟨rfl, hw⟩
    have K7 := Lib.hid (X6.out.trans' hw)
    obtain ⟨u0, u1, u2, v0, v1, v2⟩ := row3_facts (row_ext RQ6.out hw)
    have O7 := Lib.hid (HM.out.1.ext hw)
    have D := Lib.hid (dec_true Bt.out)
    have E := Lib.hid (dcAns_t Bt.out)
    clear hw
    go_wp2
    refine bodyPost_ret (v := .tuple #[.agg #[.slice a0 (dcNet N).ends.length c0, .slice a1 (dcNet N).ids.length c1, .slice a2 (dcNet N).inputs.length c2], .bool true]) (by simp [results, Try.results23, go_sem, u0, u1, u2]) rfl ?_
    have hc := close_at K7.out (show w.heap.size ≤ w.heap.size + 1 by omega) O7.out HM.out.2.1 (q := w.heap.size + 1) (fun b hb => by have := HM.out.2.2 b hb; have := ZW.out; omega)
    exact ⟨_, _, ret_net D.out.symm, hc.1, by rw [E.out]; exact hc.2.1, hc.2.2⟩
  case neg =>
    have Bt := Lib.hid hb
    clear hb
    go_wp2_with fail
    (with_reducible refine (networkOrNone_f HM.out.1.read (fun j => absurd ((dc_good_iff GN.out).1 j) Bt.out)).mono ?_)
    rintro e w7 ⟨rfl, hw⟩
    unfold znet
    have K7 := Lib.hid (X6.out.trans' hw)
    obtain ⟨u0, u1, u2, v0, v1, v2⟩ := row3_facts (row_ext RQ6.out hw)
    have D := Lib.hid (dec_false Bt.out)
    have E := Lib.hid (dcAns_f Bt.out)
    clear hw
    go_wp2
    refine bodyPost_ret (v := .tuple #[znet, .bool false]) (by simp [results, Try.results23, go_sem, u0, u1, u2, znet]) rfl ⟨_, [], ret_net D.out.symm, store3_ext K7.out (by omega) _ _ _, by rw [E.out]; exact own_zero _, Fresh.nil _⟩
end Go.Proofs.Ytkeiaahlifdbiaa
