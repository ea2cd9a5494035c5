/- The model's mePower. -/
import Derived.Test.YtkeiaahlifdbiaaZrb
import Derived.Test.YtkeiaahlifdbiaaIi
import Derived.Deep.RegionHeld3
import Derived.Deep.RegionLaw
import Derived.Deep.CutRange
namespace Go.Proofs.Ytkeiaahlifdbiaa
open Go.RowKit

/-- The network once the rows of the first v nodes, and j ends of node v, are there. -/
def spN (N : Net) (k : Int) (v j : Nat) : Net := ⟨(List.range N.ends.length).map fun u => if u < v then powRow N k u else if u = v then (powRow N k u).take j else [], N.ids, N.inputs⟩
theorem spN_len (N : Net) (k : Int) (v j : Nat) : (spN N k v j).ends.length = N.ends.length := by simp [spN]
theorem gr_spN {N : Net} {k : Int} {v j u : Nat} (h : u < N.ends.length) : gr (spN N k v j).ends u = if u < v then powRow N k u else if u = v then (powRow N k u).take j else [] := by simp [gr, spN, h]
theorem spN_ext {N : Net} {k : Int} {M : Net} {v j : Nat} (h1 : M.ids = N.ids) (h2 : M.inputs = N.inputs) (h0 : M.ends.length = N.ends.length) (h : ∀ u, u < N.ends.length → gr M.ends u = gr (spN N k v j).ends u) : M = spN N k v j := by
  have := rows_ext (h0.trans (spN_len N k v j).symm) (fun u hu => h u (by omega))
  cases M
  simp only at h1 h2 this
  rw [this, h1, h2]; rfl
theorem spN_zero (N : Net) (k : Int) : (⟨List.replicate N.ends.length [], N.ids, N.inputs⟩ : Net) = spN N k 0 0 :=
  spN_ext rfl rfl (by simp) fun u hu => by
    rw [gr_spN hu, gr_replicate _ _ _ hu, if_neg (by omega)]
    split
    · simp
    · rfl
theorem spN_add {N : Net} {k : Int} {v j : Nat} (hv : v < N.ends.length) (hj : j < (near N k v).length) : addEnd (spN N k v j) v (gn (powRow N k v) j, gp (powRow N k v) j) = spN N k v (j + 1) :=
  spN_ext rfl rfl (by simp [addEnd, spN_len]) fun u hu => by
    show gr ((spN N k v j).ends.set v _) u = _
    rw [gr_set _ _ _ _ (by rw [spN_len]; exact hv), gr_spN hu, gr_spN hu, gr_spN hv]
    have hl := powRow_len N k v
    have hi : j < (powRow N k v).length := by omega
    have e : (gn (powRow N k v) j, gp (powRow N k v) j) = (powRow N k v)[j] := by simp [gn, gp, List.getD, hi]
    by_cases q : u = v
    · subst q
      rw [if_pos rfl, if_neg (by omega), if_pos rfl, if_neg (by omega), if_pos rfl, e, List.take_append_getElem]
    · rw [if_neg q, if_neg q, if_neg q]
theorem spN_next (N : Net) (k : Int) (v : Nat) : spN N k v (near N k v).length = spN N k (v + 1) 0 :=
  spN_ext rfl rfl (spN_len _ _ _ _) fun u hu => by
    rw [gr_spN hu, gr_spN hu]
    by_cases q : u < v
    · rw [if_pos q, if_pos (by omega)]
    · by_cases r : u = v
      · subst r; rw [if_neg q, if_pos rfl, if_pos (by omega), ← powRow_len, List.take_length]
      · rw [if_neg q, if_neg r, if_neg (by omega)]; split <;> simp
theorem spN_all (N : Net) (k : Int) : spN N k N.ends.length 0 = pow N k := by
  unfold spN pow
  have : ((List.range N.ends.length).map fun u => if u < N.ends.length then powRow N k u else if u = N.ends.length then (powRow N k u).take 0 else []) = (List.range N.ends.length).map (powRow N k) := List.map_congr_left fun u hu => by rw [if_pos (List.mem_range.1 hu)]
  rw [this]
theorem spN_row {N : Net} {k : Int} {v j : Nat} (hv : v < N.ends.length) (hj : j ≤ (near N k v).length) : (gr (spN N k v j).ends v).length = j := by
  rw [gr_spN hv, if_neg (by omega), if_pos rfl, List.length_take, powRow_len]; omega
def nearL (N : Net) (k : Int) : List (List Int) := (List.range N.ends.length).map (near N k)
theorem nearL_len (N : Net) (k : Int) : (nearL N k).length = N.ends.length := by simp [nearL]
theorem gr_nearL {N : Net} {k : Int} {v : Nat} (h : v < N.ends.length) : gr (nearL N k) v = near N k v := by simp [gr, nearL, h]

/-- A network in a box of its own that lies apart from the blocks Z. -/
structure HZ (W0 WL wr : World) (M : Net) (p : Nat) (v0 v1 v2 : Value) (Z : List Nat) : Prop where
  ext : Ext W0 wr
  hp : W0.heap.size ≤ p
  box : wr.rowIs p 29 3 (tri v0 v1 v2)
  keep : ∀ b ∈ Z, wr.heap[b]? = WL.heap[b]?
  zlt : ∀ b ∈ Z, b < wr.heap.size
  net : ∃ bs, OwnNet wr (.agg #[v0, v1, v2]) M bs ∧ bs.Nodup ∧ ∀ b ∈ bs, W0.heap.size ≤ b ∧ b ≠ p ∧ b ∉ Z
theorem HNet.z {W0 wr WL : World} {M : Net} {p : Nat} {v0 v1 v2 : Value} {Z : List Nat} (h : HNet W0 wr M p v0 v1 v2) (hx : Ext wr WL) (hz : ∀ b ∈ Z, wr.heap.size ≤ b ∧ b < WL.heap.size) : HZ W0 WL WL M p v0 v1 v2 Z := by
  obtain ⟨bs, ho, hnd, hge⟩ := h.net
  exact ⟨h.ext.trans' hx, h.hp, row_ext h.box hx, fun _ _ => rfl, fun b hb => (hz b hb).2, bs, ho.ext hx, hnd, fun b hb => ⟨(hge b hb).1, (hge b hb).2, fun hb' => by have := ho.lt b hb; have := (hz b hb').1; omega⟩⟩
theorem HZ.mono {W0 WL wr w' : World} {M : Net} {p : Nat} {v0 v1 v2 : Value} {Z : List Nat} (h : HZ W0 WL wr M p v0 v1 v2 Z) (hx : Ext wr w') : HZ W0 WL w' M p v0 v1 v2 Z := by
  obtain ⟨bs, ho, hnd, hge⟩ := h.net
  exact ⟨h.ext.trans' hx, h.hp, row_ext h.box hx, fun b hb => (hx.block b (h.zlt b hb)).trans (h.keep b hb), fun b hb => by have := h.zlt b hb; have := hx.size; omega, bs, ho.ext hx, hnd, hge⟩
theorem HZ.h {W0 WL wr : World} {M : Net} {p : Nat} {v0 v1 v2 : Value} {Z : List Nat} (h : HZ W0 WL wr M p v0 v1 v2 Z) : HNet W0 wr M p v0 v1 v2 := by
  obtain ⟨bs, ho, hnd, hge⟩ := h.net
  exact ⟨h.ext, h.hp, h.box, bs, ho, hnd, fun b hb => ⟨(hge b hb).1, (hge b hb).2.1⟩⟩
theorem HZ.at {W0 WL wr : World} {M : Net} {p : Nat} {v0 v1 v2 : Value} {Z : List Nat} (h : HZ W0 WL wr M p v0 v1 v2 Z) {k : Nat} (hk : k < M.ends.length) :
    ∃ bs b c ax cx t, v0 = .slice (some ⟨b, 0, none⟩) M.ends.length c ∧ At wr M v0 v1 v2 bs b k (.slice ax (gr M.ends k).length cx) t ∧ p ∉ bs ∧ ∀ y ∈ bs, W0.heap.size ≤ y ∧ y ≠ p ∧ y ∉ Z := by
  obtain ⟨bs, ho, hnd, hge⟩ := h.net
  obtain ⟨b, c, ax, cx, t, hv, hat⟩ := own_at ho hnd hk
  exact ⟨bs, b, c, ax, cx, t, hv, hat, fun hb => (hge p hb).2.1 rfl, hge⟩
theorem HZ.put {W0 WL wr w1 : World} {M : Net} {p : Nat} {v0 v1 v2 v' : Value} {Z bs : List Nat} {b k : Nat} {x : Value} {e : Int × Int} (h : HZ W0 WL wr M p v0 v1 v2 Z) (hp : p ∉ bs) (hge : ∀ y ∈ bs, W0.heap.size ≤ y ∧ y ≠ p ∧ y ∉ Z) (P : Put wr w1 M v0 v1 v2 v' bs b k x e) :
    HZ W0 WL (w1.setCell ⟨b, k, none⟩ v') (addEnd M k e) p v0 v1 v2 Z := by
  obtain ⟨ds, g1, g2, g3⟩ := P.net
  have hpw := h.box.lt
  have hex := h.ext.size
  have hs := P.size
  refine ⟨P.ext W0 h.ext (fun y hy => (hge y hy).1), h.hp, (P.row hp h.box).2, fun y hy => ((P.keep y (h.zlt y hy) fun hb => (hge y hb).2.2 hy).2).trans (h.keep y hy), fun y hy => by have := h.zlt y hy; omega, ds, g1, g2, fun y hy => ?_⟩
  rcases g3 y hy with h1 | h1
  · exact hge y h1
  · exact ⟨by omega, by omega, fun hz => by have := h.zlt y hz; omega⟩

theorem spec_box {W0 wF : World} {N : Net} {p eb : Nat} {x1 x2 : Value} {b1 b2 : List Nat} (K : Ext W0 wF) (hp : W0.heap.size ≤ p) (R : wF.rowIs p 29 3 (tri (.slice (some ⟨eb, 0, none⟩) N.ends.length N.ends.length) x1 x2)) (E : wF.rowIs eb 67 N.ends.length (fun _ => .slice none 0 0)) (he : W0.heap.size ≤ eb)
    (O1 : OwnI wF x1 N.ids b1) (O2 : OwnI wF x2 N.inputs b2) (hn : (b1 ++ b2).Nodup) (hge : ∀ b ∈ b1 ++ b2, W0.heap.size ≤ b) (hl : N.ends.length ≤ 1048576) (k : Int) :
    HNet W0 wF (spN N k 0 0) p (.slice (some ⟨eb, 0, none⟩) N.ends.length N.ends.length) x1 x2 := by
  have o0 := own_rows_nil E hl
  obtain ⟨m1, m2⟩ := net_of_parts (W := W0) (N := ⟨List.replicate N.ends.length [], N.ids, N.inputs⟩) o0 O1 O2 (by simp) hn (fun b hb => by simp at hb; omega) hge
  rw [spN_zero N k] at m1
  refine ⟨K, hp, R, _, m1, m2.1, fun b hb => ⟨m2.2 b hb, fun e => ?_⟩⟩
  subst e
  obtain ⟨cR, hR⟩ := rowIs.blk R
  simp only [List.mem_append] at hb
  rcases hb with hb | hb | hb
  · obtain rfl := List.mem_singleton.1 hb
    obtain ⟨cE, hE⟩ := rowIs.blk E
    exact type_ne hE hR (by decide) rfl
  · obtain ⟨cE, hE⟩ := O1.1.typed _ hb
    exact type_ne hE hR (by decide) rfl
  · obtain ⟨cE, hE⟩ := O2.1.typed _ hb
    exact type_ne hE hR (by decide) rfl
/-- The parts lie ready; the box's cells are stored. -/
theorem spec_store {W0 w1 w2 : World} {N : Net} {p eb : Nat} {y0 y1 y2 x1 x2 : Value} {b1 b2 : List Nat} (R : w2.rowIs p 29 3 (tri y0 y1 y2)) (hp : W0.heap.size ≤ p) (E : w2.rowIs eb 67 N.ends.length (fun _ => .slice none 0 0)) (he : W0.heap.size ≤ eb) (X2 : Ext W0 w2) (F1 : Fresh W0 b1) (X1 : Ext W0 w1) (O1 : OwnI w1 x1 N.ids b1) (h12 : Ext w1 w2) (F2 : Fresh w1 b2) (O2 : OwnI w2 x2 N.inputs b2) (hl : N.ends.length ≤ 1048576) (k : Int) :
    HNet W0 (((w2.setCell ⟨p, 0, none⟩ (.slice (some ⟨eb, 0, none⟩) N.ends.length N.ends.length)).setCell ⟨p, 1, none⟩ x1).setCell ⟨p, 2, none⟩ x2) (spN N k 0 0) p (.slice (some ⟨eb, 0, none⟩) N.ends.length N.ends.length) x1 x2 := by
  obtain ⟨h1, h2, h3, h4⟩ := own_two X1 F1 O1 h12 F2 O2
  have tE : Typed w2 67 [eb] := fun y hy => by obtain rfl := List.mem_singleton.1 hy; exact rowIs.blk E
  exact spec_box (((X2.store hp _).store hp _).store hp _) hp (row3_set2 (row3_set1 (row3_set0 R _) _) _) (E.of_block (own_tri R 67 [eb] (by decide) tE _ (List.mem_singleton.2 rfl))) he (h1.keep (own_tri R 3 b1 (by decide) h1.1.typed)) (h2.keep (own_tri R 3 b2 (by decide) h2.1.typed)) h3 h4 hl k
theorem spec_alloc {W0 w1 w2 : World} {N : Net} {p eb : Nat} {x1 x2 : Value} {b1 b2 : List Nat} (hp : w2.heap.size = p) (E : w2.rowIs eb 67 N.ends.length (fun _ => .slice none 0 0)) (he : W0.heap.size ≤ eb) (X2 : Ext W0 w2) (F1 : Fresh W0 b1) (X1 : Ext W0 w1) (O1 : OwnI w1 x1 N.ids b1) (h12 : Ext w1 w2) (F2 : Fresh w1 b2) (O2 : OwnI w2 x2 N.inputs b2) (hl : N.ends.length ≤ 1048576) (k : Int) :
    HNet W0 (w2.alloc (.cells #[.slice (some ⟨eb, 0, none⟩) N.ends.length N.ends.length, x1, x2] 29)) (spN N k 0 0) p (.slice (some ⟨eb, 0, none⟩) N.ends.length N.ends.length) x1 x2 := by
  obtain ⟨h1, h2, h3, h4⟩ := own_two X1 F1 O1 h12 F2 O2
  subst hp
  have hx := (Ext.rfl' w2).alloc' (.cells #[.slice (some ⟨eb, 0, none⟩) N.ends.length N.ends.length, x1, x2] 29)
  exact spec_box (X2.trans' hx) X2.size (row3_made _ _ _ _ _) (row_ext E hx) he (h1.ext hx) (h2.ext hx) h3 h4 hl k
theorem nils_made (u : World) (n : Nat) : (u.alloc (.cells (madeCells #[.slice none 0 0] n) 67)).rowIs u.heap.size 67 n (fun _ => .slice none 0 0) := row_nils (Go.Deep.blk_alloc_new _ _)
theorem spec_alloc2 {W0 w1 w2 : World} {N : Net} {x1 x2 : Value} {b1 b2 : List Nat} (X2 : Ext W0 w2) (F1 : Fresh W0 b1) (X1 : Ext W0 w1) (O1 : OwnI w1 x1 N.ids b1) (h12 : Ext w1 w2) (F2 : Fresh w1 b2) (O2 : OwnI w2 x2 N.inputs b2) (hl : N.ends.length ≤ 1048576) (k : Int) :
    HNet W0 ((w2.alloc (.cells #[.slice (some ⟨w2.heap.size + 1, 0, none⟩) N.ends.length N.ends.length, x1, x2] 29)).alloc (.cells (madeCells #[.slice none 0 0] N.ends.length) 67)) (spN N k 0 0) w2.heap.size (.slice (some ⟨w2.heap.size + 1, 0, none⟩) N.ends.length N.ends.length) x1 x2 := by
  obtain ⟨h1, h2, h3, h4⟩ := own_two X1 F1 O1 h12 F2 O2
  have hx := ((Ext.rfl' w2).alloc' (.cells #[.slice (some ⟨w2.heap.size + 1, 0, none⟩) N.ends.length N.ends.length, x1, x2] 29)).alloc' (.cells (madeCells #[.slice none 0 0] N.ends.length) 67)
  have hE := nils_made (w2.alloc (.cells #[.slice (some ⟨w2.heap.size + 1, 0, none⟩) N.ends.length N.ends.length, x1, x2] 29)) N.ends.length
  rw [World.size_alloc] at hE
  have := X2.size
  exact spec_box (X2.trans' hx) X2.size (row_ext (row3_made _ _ _ _ _) ((Ext.rfl' _).alloc' _)) hE (by omega) (h1.ext hx) (h2.ext hx) h3 h4 hl k
/-- The rows of a list of lists, in any world that keeps its blocks. -/
theorem OwnII.rowsK {WL : World} {s : Value} {l : List (List Int)} {Z : List Nat} (h : OwnII WL s l Z) (hl : 0 < l.length) : ∃ b c, s = .slice (some ⟨b, 0, none⟩) l.length c ∧ ∀ v, v < l.length → ∃ la lc, ∀ w' : World, (∀ y ∈ Z, w'.heap[y]? = WL.heap[y]?) →
    w'.cell? ⟨b, v, none⟩ = some (.slice la (gr l v).length lc) ∧ IntSl w' (.slice la (gr l v).length lc) (gr l v) := by
  obtain ⟨R, b0, T, ⟨c, h1, h2, h3⟩, h4, rfl⟩ := h
  rcases h3 with ⟨hn, _⟩ | ⟨b, m, g, rfl, rfl, hm, hr, hf⟩
  · omega
  refine ⟨b, c, rfl, fun v hv => ?_⟩
  obtain ⟨la, lc, e⟩ := (h4 v hv).1.slice
  refine ⟨la, lc, fun w' hk => ⟨?_, ?_⟩⟩
  · have hr' := hr.of_block (hk b (by simp))
    rw [hr'.cell (by omega), hf v (by omega), e]
  · have := ((h4 v hv).keep fun y hy => hk y (List.mem_append.2 (.inr (List.mem_flatMap.2 ⟨v, List.mem_range.2 hv, hy⟩)))).read
    rwa [e] at this
set_option maxHeartbeats 12800000 in
set_option maxRecDepth 100000 in
theorem mePower_any {w : World} {vn : Value} {N : Net} (kk : Int) (h : NetAt w vn N) (hg : Good N) :
    Calls Try.prog 117 #[vn, .int .i64 kk] w fun e w' => ∃ v' bs, e = .returned v' ∧ Ext w w' ∧ OwnNet w' v' (pow N kk) bs ∧ Fresh w bs := by
  have HA := Lib.hid h
  have HG := Lib.hid hg
  have HGW := Lib.hid (good_w hg)
  obtain ⟨s1, s2, s3, s4⟩ := good_small hg
  have hA1 := HGW.out.one
  have hA40 := HGW.out.most
  obtain ⟨v0, v1, v2, rfl, hE, hI, hP⟩ := h
  have HI := Lib.hid hI
  have HP := Lib.hid hP
  obtain ⟨ea, eb0, eo, ec, rfl, -, hel, hem, -⟩ := hE
  unfold maxLen at hem
  clear hg hI hP
  obtain ⟨W0, hW0⟩ : ∃ W0, W0 = (w.alloc (.cells #[.slice ea N.ends.length ec, v1, v2] 29)).alloc (.cells #[.slice none 0 0, .slice none 0 0, .slice none 0 0] 29) := ⟨_, rfl⟩
  have EW := Lib.hid (show Ext w W0 by rw [hW0]; exact ((Ext.rfl' w).alloc' _).alloc' _)
  have RN := Lib.hid (And.intro (show W0.rowIs w.heap.size 29 3 (tri (.slice ea N.ends.length ec) v1 v2) by rw [hW0]; exact row_ext (row3_made w _ _ _ _) ((Ext.rfl' _).alloc' _)) trivial)
  have RQ := Lib.hid (And.intro (show W0.rowIs (w.heap.size + 1) 29 3 (tri (.slice none 0 0) (.slice none 0 0) (.slice none 0 0)) by rw [hW0]; simpa using row3_made (w.alloc (.cells #[.slice ea N.ends.length ec, v1, v2] 29)) (.slice none 0 0) (.slice none 0 0) (.slice none 0 0) 29) trivial)
  have ZW := Lib.hid (show W0.heap.size = w.heap.size + 2 by rw [hW0]; simp)
  obtain ⟨n0, n1, n2, -, -, -⟩ := row3_facts RN.out.1
  have mkS : ∀ w', Ext W0 w' → w'.cell? ⟨w.heap.size, 0, none⟩ = some (.slice ea N.ends.length ec) ∧ w'.cell? ⟨w.heap.size, 1, none⟩ = some v1 ∧ w'.cell? ⟨w.heap.size, 2, none⟩ = some v2 ∧ Hid (Ext W0 w') := fun w' h => ⟨h.cell' n0, h.cell' n1, h.cell' n2, h⟩
  have hmk := run_make_row' (P := Try.prog) 27 67 (.slice none 0 0) 24 Try.underlying27 Try.info70 rfl .i64 .i64 N.ends.length (by omega) (by omega)
  clear n0 n1 n2
  have hl0 : N.ends.length ≤ 1048576 := by omega
  go_enter Try.func117, Try.ntmps117
  go_wp2_with fail
  rw [← hW0]
  clear hW0
  go_cut [5] from 16 to 27 (fun t5 wx => ∃ p eb x1 x2, t5 = .pointer (some ⟨p, 0, none⟩) ∧ Hid (HNet W0 wx (spN N kk 0 0) p (.slice (some ⟨eb, 0, none⟩) N.ends.length N.ends.length) x1 x2))
  case first =>
    go_region_held3 (fun w' => w'.cell? ⟨w.heap.size, 0, none⟩ = some (.slice ea N.ends.length ec) ∧ w'.cell? ⟨w.heap.size, 1, none⟩ = some v1 ∧ w'.cell? ⟨w.heap.size, 2, none⟩ = some v2 ∧ Hid (Ext W0 w'))
      (first | exact mkS _ (Ext.rfl' W0).drew' | exact mkS _ ((Ext.rfl' W0).alloc' _).drew' | exact mkS _ (Ext.trans' (‹_ ∧ _ ∧ _ ∧ Hid (Ext W0 _)›).2.2.2.out hx) | exact mkS _ (Ext.alloc' (‹_ ∧ _ ∧ _ ∧ Hid (Ext W0 _)›).2.2.2.out _) | exact mkS _ (Ext.alloc' X2.out _) | exact mkS _ (Ext.alloc' (Ext.alloc' X2.out _) _) | (refine mkS _ ?_; (repeat (first | exact Ext.rfl' W0 | refine Ext.drew' ?_ | exact X2.out | exact X1.out | refine Ext.alloc' ?_ _)); done) | exact mkS _ (store3_ext X2.out (by have := X1.out.size; have := X2.out.size; first | omega | (simp; omega)) _ _ _) | exact mkS _ (store3_ext (X2.out.alloc' _) (by have := X1.out.size; have := X2.out.size; first | omega | (simp; omega)) _ _ _) | exact mkS _ ((store3_ext X2.out (by have := X1.out.size; have := X2.out.size; first | omega | (simp; omega)) _ _ _).alloc' _) | fail)
      (first | (go_at_call 130; (with_reducible refine (l1Own_any (HI.out.ext (EW.out.trans' (‹_ ∧ _ ∧ _ ∧ Hid (Ext W0 _)›).2.2.2.out)) s3).mono ?_); rintro e w1 ⟨a1, c1, b1, rfl, hx, ho, hf⟩; have X1 := Lib.hid (Ext.trans' (‹_ ∧ _ ∧ _ ∧ Hid (Ext W0 _)›).2.2.2.out hx); have O1 := Lib.hid ho; have F1 : Hid (Fresh W0 b1) := Fresh.of hf (‹_ ∧ _ ∧ _ ∧ Hid (Ext W0 _)›).2.2.2.out.size; have H01 := Lib.hid hx; (try (first | (have R := row_ext (Hid.out ‹Hid (World.rowIs _ _ 29 3 _)›) hx; (try simp only [World.size_alloc] at R); have R := Lib.hid R; obtain ⟨p0, p1, p2, q0, q1, q2⟩ := row3_facts R.out) | (have R := row_ext (row_ext (Hid.out ‹Hid (World.rowIs _ _ 29 3 _)›) ((Ext.rfl' _).alloc' _)) hx; (try simp only [World.size_alloc] at R); have R := Lib.hid R; obtain ⟨p0, p1, p2, q0, q1, q2⟩ := row3_facts R.out) | (have R := row_ext (row3_made _ _ _ _ _) hx; (try simp only [World.size_alloc] at R); have R := Lib.hid R; obtain ⟨p0, p1, p2, q0, q1, q2⟩ := row3_facts R.out) | (have R := row_ext (row_ext (row3_made _ _ _ _ _) ((Ext.rfl' _).drew')) hx; (try simp only [World.size_alloc] at R); have R := Lib.hid R; obtain ⟨p0, p1, p2, q0, q1, q2⟩ := row3_facts R.out) | (have R := row_ext (row_ext (row3_made _ _ _ _ _) ((Ext.rfl' _).alloc' _)) hx; (try simp only [World.size_alloc] at R); have R := Lib.hid R; obtain ⟨p0, p1, p2, q0, q1, q2⟩ := row3_facts R.out) | (have R := row_ext (row_ext (row3_made _ _ _ _ _) (((Ext.rfl' _).alloc' _).drew')) hx; (try simp only [World.size_alloc] at R); have R := Lib.hid R; obtain ⟨p0, p1, p2, q0, q1, q2⟩ := row3_facts R.out))); (try (first | (have E := row_ext (Hid.out ‹Hid (World.rowIs _ _ 67 _ _)›) hx; (try simp only [World.size_alloc] at E); have E := Lib.hid E) | (have E := row_ext (row_ext (Hid.out ‹Hid (World.rowIs _ _ 67 _ _)›) ((Ext.rfl' _).alloc' _)) hx; (try simp only [World.size_alloc] at E); have E := Lib.hid E) | (have E := row_ext (nils_made _ _) hx; (try simp only [World.size_alloc] at E); have E := Lib.hid E) | (have E := row_ext (row_ext (nils_made _ _) ((Ext.rfl' _).drew')) hx; (try simp only [World.size_alloc] at E); have E := Lib.hid E) | (have E := row_ext (row_ext (nils_made _ _) ((Ext.rfl' _).alloc' _)) hx; (try simp only [World.size_alloc] at E); have E := Lib.hid E) | (have E := row_ext (row_ext (nils_made _ _) (((Ext.rfl' _).alloc' _).drew')) hx; (try simp only [World.size_alloc] at E); have E := Lib.hid E))))
             | (go_at_call 130; (with_reducible refine (l1Own_any (HP.out.ext (EW.out.trans' (‹_ ∧ _ ∧ _ ∧ Hid (Ext W0 _)›).2.2.2.out)) s4).mono ?_); rintro e w2 ⟨a2, c2, b2, rfl, hx, ho, hf⟩; have X2 := Lib.hid (Ext.trans' (‹_ ∧ _ ∧ _ ∧ Hid (Ext W0 _)›).2.2.2.out hx); have O2 := Lib.hid ho; have F2 : Hid (Fresh w1 b2) := (by first | exact hf | (refine Fresh.of hf ?_; simp <;> omega)); have H12 : Hid (Ext w1 w2) := (by first | exact hx | exact ((Ext.rfl' _).alloc' _).trans' hx | exact (((Ext.rfl' _).alloc' _).alloc' _).trans' hx); have H02 := Lib.hid hx; (try (first | (have R := row_ext (Hid.out ‹Hid (World.rowIs _ _ 29 3 _)›) hx; (try simp only [World.size_alloc] at R); have R := Lib.hid R; obtain ⟨p0, p1, p2, q0, q1, q2⟩ := row3_facts R.out; obtain ⟨r0, r1, r2, z0, z1, z2⟩ := row3_facts (row_ext R.out ((Ext.rfl' w2).alloc' (.cells (madeCells #[Value.slice none 0 0] N.ends.length) 67)))) | (have R := row_ext (row_ext (Hid.out ‹Hid (World.rowIs _ _ 29 3 _)›) ((Ext.rfl' _).alloc' _)) hx; (try simp only [World.size_alloc] at R); have R := Lib.hid R; obtain ⟨p0, p1, p2, q0, q1, q2⟩ := row3_facts R.out; obtain ⟨r0, r1, r2, z0, z1, z2⟩ := row3_facts (row_ext R.out ((Ext.rfl' w2).alloc' (.cells (madeCells #[Value.slice none 0 0] N.ends.length) 67)))) | (have R := row_ext (row3_made _ _ _ _ _) hx; (try simp only [World.size_alloc] at R); have R := Lib.hid R; obtain ⟨p0, p1, p2, q0, q1, q2⟩ := row3_facts R.out; obtain ⟨r0, r1, r2, z0, z1, z2⟩ := row3_facts (row_ext R.out ((Ext.rfl' w2).alloc' (.cells (madeCells #[Value.slice none 0 0] N.ends.length) 67)))) | (have R := row_ext (row_ext (row3_made _ _ _ _ _) ((Ext.rfl' _).drew')) hx; (try simp only [World.size_alloc] at R); have R := Lib.hid R; obtain ⟨p0, p1, p2, q0, q1, q2⟩ := row3_facts R.out; obtain ⟨r0, r1, r2, z0, z1, z2⟩ := row3_facts (row_ext R.out ((Ext.rfl' w2).alloc' (.cells (madeCells #[Value.slice none 0 0] N.ends.length) 67)))) | (have R := row_ext (row_ext (row3_made _ _ _ _ _) ((Ext.rfl' _).alloc' _)) hx; (try simp only [World.size_alloc] at R); have R := Lib.hid R; obtain ⟨p0, p1, p2, q0, q1, q2⟩ := row3_facts R.out; obtain ⟨r0, r1, r2, z0, z1, z2⟩ := row3_facts (row_ext R.out ((Ext.rfl' w2).alloc' (.cells (madeCells #[Value.slice none 0 0] N.ends.length) 67)))) | (have R := row_ext (row_ext (row3_made _ _ _ _ _) (((Ext.rfl' _).alloc' _).drew')) hx; (try simp only [World.size_alloc] at R); have R := Lib.hid R; obtain ⟨p0, p1, p2, q0, q1, q2⟩ := row3_facts R.out; obtain ⟨r0, r1, r2, z0, z1, z2⟩ := row3_facts (row_ext R.out ((Ext.rfl' w2).alloc' (.cells (madeCells #[Value.slice none 0 0] N.ends.length) 67)))))); (try (first | (have E := row_ext (Hid.out ‹Hid (World.rowIs _ _ 67 _ _)›) hx; (try simp only [World.size_alloc] at E); have E := Lib.hid E) | (have E := row_ext (row_ext (Hid.out ‹Hid (World.rowIs _ _ 67 _ _)›) ((Ext.rfl' _).alloc' _)) hx; (try simp only [World.size_alloc] at E); have E := Lib.hid E) | (have E := row_ext (nils_made _ _) hx; (try simp only [World.size_alloc] at E); have E := Lib.hid E) | (have E := row_ext (row_ext (nils_made _ _) ((Ext.rfl' _).drew')) hx; (try simp only [World.size_alloc] at E); have E := Lib.hid E) | (have E := row_ext (row_ext (nils_made _ _) ((Ext.rfl' _).alloc' _)) hx; (try simp only [World.size_alloc] at E); have E := Lib.hid E) | (have E := row_ext (row_ext (nils_made _ _) (((Ext.rfl' _).alloc' _).drew')) hx; (try simp only [World.size_alloc] at E); have E := Lib.hid E)))) | fail)
    all_goals (try clear p0 p1 p2 q0 q1 q2)
    all_goals (try clear r0 r1 r2 z0 z1 z2)
    all_goals go_wp2_with fail
    all_goals go_meet
    all_goals (first | exact ⟨_, _, _, _, rfl, spec_store R.out (by have := X1.out.size; have := X2.out.size; omega) E.out (by have := X1.out.size; have := X2.out.size; omega) X2.out F1.out X1.out O1.out H12.out F2.out O2.out hl0 kk⟩ | exact ⟨_, _, _, _, rfl, spec_store (row_ext R.out ((Ext.rfl' _).alloc' _)) (by have := X1.out.size; have := X2.out.size; omega) (nils_made _ _) (by have := X1.out.size; have := X2.out.size; omega) (X2.out.alloc' _) F1.out X1.out O1.out (H12.out.alloc' _) F2.out (O2.out.ext ((Ext.rfl' _).alloc' _)) hl0 kk⟩ | exact ⟨_, _, _, _, rfl, spec_alloc rfl E.out (by have := X1.out.size; have := X2.out.size; omega) X2.out F1.out X1.out O1.out H12.out F2.out O2.out hl0 kk⟩ | exact ⟨_, _, _, _, rfl, spec_alloc (World.size_alloc _ _) (nils_made _ _) (by have := X1.out.size; have := X2.out.size; omega) (X2.out.alloc' _) F1.out X1.out O1.out (H12.out.alloc' _) F2.out (O2.out.ext ((Ext.rfl' _).alloc' _)) hl0 kk⟩ | exact ⟨_, _, _, _, rfl, spec_alloc2 X2.out F1.out X1.out O1.out H12.out F2.out O2.out hl0 kk⟩)
  case rest =>
    obtain ⟨p, eb, x1, x2, rfl, HM⟩ := hcut
    obtain ⟨WB, hWB⟩ : ∃ WB : World, WB = wc := ⟨_, rfl⟩
    subst hWB
    obtain ⟨xa1, xc1, xa2, xc2, rfl, rfl⟩ : ∃ a1 c1 a2 c2, x1 = .slice a1 N.ids.length c1 ∧ x2 = .slice a2 N.inputs.length c2 := by
      obtain ⟨_, _, a1, c1, a2, c2, -, e1, e2⟩ := HM.out.form
      exact ⟨a1, c1, a2, c2, e1, e2⟩
    clear mkS hmk
    have EB := Lib.hid (EW.out.trans' HM.out.ext)
    obtain ⟨i0, hi, hz0, hz1, hz2⟩ := info_parts Try.info3
    have I0 := Lib.hid (And.intro hi (And.intro hz0 (And.intro hz1 hz2)))
    clear hi hz0 hz1 hz2
    obtain ⟨i3, hi, hz0, hz1, hz2⟩ := info_parts Try.infoNR
    have I3 := Lib.hid (And.intro hi (And.intro hz0 (And.intro hz1 hz2)))
    clear hi hz0 hz1 hz2
    obtain ⟨i1, hi, hz0, hz1, hz2⟩ := info_parts Try.info44
    have I1 := Lib.hid (And.intro hi (And.intro hz0 (And.intro hz1 hz2)))
    clear hi hz0 hz1 hz2
    obtain ⟨p0, p1, p2, -, -, -⟩ := row3_facts (row_ext RN.out.1 HM.out.ext)
    go_wp2_with fail
    clear p0 p1 p2
    go_loopg [6, 30] N.ends.length (fun g s i wr => ∃ v : Nat, v ≤ N.ends.length ∧ g = N.ends.length - v ∧ i = .int .i64 v ∧ Hid (Ext WB wr ∧ GrowI WB.heap.size wr s (nearL N kk) v))
    case atStart => exact ⟨0, Nat.zero_le _, rfl, rfl, Ext.rfl' _, GrowI.nil _ _ _⟩
    case round =>
      obtain ⟨v, hk, rfl, rfl, Hr⟩ := hrel
      by_cases hlt : v < N.ends.length
      case pos =>
        have EE := Lib.hid (EB.out.trans' Hr.out.1)
        have DS := Lib.hid (dst_small HGW.out (x := (v : Int)) ⟨by omega, by omega⟩)
        obtain ⟨D, hD⟩ : ∃ D, D = dst N (v : Int) := ⟨_, rfl⟩
        have HD := Lib.hid hD
        have HBA := Lib.hid (show near N kk v = idxs D 1 kk N.ends.length by rw [HD.out]; rfl)
        rw [← hD] at DS
        have hDl : D.length = N.ends.length := DS.out.1
        have HDL := Lib.hid hDl
        clear hD hDl
        obtain ⟨R, T, c1, c2, c3, c4⟩ := Hr.out.2
        have C1 := Lib.hid c1
        have C2 := Lib.hid c2
        have C3 := Lib.hid c3
        have C4 := Lib.hid (show ∀ b ∈ (List.range v).flatMap T, WB.heap.size ≤ b ∧ b < wr.heap.size from fun b hb => ⟨c4 b hb, by
          obtain ⟨i, hi, hbi⟩ := List.mem_flatMap.1 hb
          exact (c2 i (List.mem_range.1 hi)).1.lt b hbi⟩)
        clear c1 c2 c3 c4
        obtain ⟨wo, hwo⟩ : ∃ wo : World, wo = wr := ⟨_, rfl⟩
        subst hwo
        obtain ⟨p0, p1, p2, -, -, -⟩ := row3_facts (row_ext RN.out.1 (HM.out.ext.trans' Hr.out.1))
        go_wp2_with fail
        clear p0 p1 p2
        (with_reducible refine (meFrom_any v hlt (HA.out.ext EE.out) HGW.out).mono ?_)
        rintro e w3 ⟨ud, bn, rfl, hx3, ho, hfr⟩
        rw [← HD.out] at ho
        obtain ⟨na, nc, rfl⟩ := ho.1.slice
        rw [HDL.out] at ho ⊢
        have K3 := Lib.hid hx3
        have O3 := Lib.hid ho
        clear hx3 ho hfr
        go_wp2_with fail
        go_loopg [8, 37] N.ends.length (fun g s i wx => ∃ k : Nat, k ≤ N.ends.length ∧ g = N.ends.length - k ∧ i = .int .i64 k ∧ Hid (Ext wo wx ∧ GrowN wo.heap.size wx s (idxs D 1 kk k) ∧ OwnI wx (.slice na N.ends.length nc) D bn ∧ Off s bn))
        case atStart => exact ⟨0, Nat.zero_le _, rfl, rfl, K3.out, GrowN.nil _ _, O3.out, fun b hb e => by simp [Value.ownBlock] at e⟩
        case round =>
          obtain ⟨k, hk, rfl, rfl, Hs⟩ := hrel
          have RE := Lib.hid Hs.out.1
          have RG := Lib.hid Hs.out.2.1
          have RO := Lib.hid Hs.out.2.2.1
          have RF := Lib.hid Hs.out.2.2.2
          clear Hs
          by_cases hkt : k < N.ends.length
          case pos =>
            obtain ⟨na', nb', no', nc', e, ha, hl, hm, hcn⟩ := RO.out.read
            simp only [Value.slice.injEq] at e
            obtain ⟨rfl, -, rfl⟩ := e
            rw [HDL.out] at ha hl
            obtain rfl := ha (by omega)
            obtain ⟨_, hn1, rfl, _⟩ := hcn k (by rw [HDL.out]; exact hkt)
            unfold maxLen at hm
            obtain ⟨d, hd⟩ : ∃ d, d = gi D k := ⟨_, rfl⟩
            rw [← hd] at hn1
            have HDD := Lib.hid hd
            have hlen := idxs_len D 1 kk k
            have hsz := RE.out.size
            clear hcn ha hd
            by_cases hin : InB d 1 kk
            · have HB := Lib.hid (dec_true hin)
              have HAA := Lib.hid (show idxs D 1 kk (k + 1) = idxs D 1 kk k ++ [(k : Int)] by simp only [idxs]; rw [← HDD.out]; exact if_pos hin)
              clear hin
              go_wp2_with (first | (go_at_call 85; (with_reducible refine (l1In_any _ _ _ _).mono ?_); rintro e w' ⟨rfl, rfl⟩; rw [HB.out]) | (at_builtin; refine wpList_app2 rfl (.tmp 45) (.tmp 47) 23 rfl wo.heap.size 3 i0 (.int .i64 0) 1 8 Try.underlying23 I0.out.1 I0.out.2.1 I0.out.2.2.1 I0.out.2.2.2 rfl (by decide) _ (idxs D 1 kk k).length (intCells (idxs D 1 kk k)) rfl (RG.out.ext ((Ext.rfl' _).alloc' _)) (some ⟨wr.heap.size, 0, none⟩) 1 1 (intCells [(k : Int)]) rfl (src_lits wr [(k : Int)] 1 rfl 3) (by unfold maxLen; omega) (by omega) (by simp; omega) ?_))
              intro v' w4 hg
              have gx := RG.out.ext ((Ext.rfl' wr).alloc' (.cells #[.int .i64 (k : Int)] 3))
              have FI := Lib.hid (show Ext wo w4 ∧ GrowN wo.heap.size w4 v' (idxs D 1 kk k ++ [(k : Int)]) ∧ OwnI w4 (.slice (some ⟨nb', no', none⟩) N.ends.length nc) D bn ∧ Off v' bn from
                ⟨grown_ext (RE.out.alloc' _) (Nat.le_refl _) gx hg.1.2.1, GrowN.step hg.1 rfl, (RO.out.ext ((Ext.rfl' _).alloc' _)).other RF.out hg.1.2.1, RF.out.grew (w := wr.alloc (.cells #[.int .i64 (k : Int)] 3)) (fun b hb => by have := RO.out.1.lt b hb; simp; omega) hg.2⟩)
              clear hg gx
              go_wp2
              go_roundg (N.ends.length - (k + 1))
              case measure => omega
              case rel => exact ⟨k + 1, by omega, rfl, by go_num, FI.out.1, by rw [HAA.out]; exact FI.out.2.1, FI.out.2.2.1, FI.out.2.2.2⟩
            · have HB := Lib.hid (dec_false hin)
              have HAA := Lib.hid (show idxs D 1 kk (k + 1) = idxs D 1 kk k by simp only [idxs]; rw [← HDD.out]; exact if_neg hin)
              clear hin
              go_wp2_with (first | (go_at_call 85; (with_reducible refine (l1In_any _ _ _ _).mono ?_); rintro e w' ⟨rfl, rfl⟩; rw [HB.out]) | fail)
              go_roundg (N.ends.length - (k + 1))
              case measure => omega
              case rel => exact ⟨k + 1, by omega, rfl, by go_num, RE.out, by rw [HAA.out]; exact RG.out, RO.out, RF.out⟩
          obtain rfl : k = N.ends.length := by omega
          obtain ⟨bs, ho, hnb, hgeb⟩ := RG.out.own fun i hi' => by have := idxs_range D 1 kk N.ends.length i hi'; unfold inI64; omega
          rw [← HBA.out] at ho
          have hln := near_len N kk v
          obtain ⟨sa, sc, rfl⟩ := ho.1.slice
          have OB := Lib.hid ho
          have GB := Lib.hid hgeb
          have GO := Lib.hid (owns_ext C1.out RE.out)
          have hsz := RE.out.size
          have hsw := Hr.out.1.size
          clear ho hgeb hnb
          go_wp2_with (at_builtin; refine wpList_app rfl (.tmp 50) (.tmp 52) 36 rfl WB.heap.size 23 i3 (.slice none 0 0) 1 24 Try.underlying36 I3.out.1 I3.out.2.1 I3.out.2.2.1 I3.out.2.2.2 rfl (by decide) u6 v ((List.range v).map R) rfl (owns_ext GO.out ((Ext.rfl' _).alloc' _)) (some ⟨wr.heap.size, 0, none⟩) 1 1 [.slice sa (near N kk v).length sc] rfl (src_one wr (.slice sa (near N kk v).length sc) 23 rfl) (by unfold maxLen; omega) (by omega) (by simp; omega) ?_)
          intro v' w4 hg
          have XA : Ext wr (wr.alloc (.cells #[.slice sa (near N kk v).length sc] 23)) := (Ext.rfl' _).alloc' _
          have G4 := Lib.hid (show GrowI WB.heap.size w4 v' (nearL N kk) (v + 1) from GrowI.step (owns_ext GO.out XA) (fun i hi => (C2.out i hi).ext (RE.out.trans' XA)) C3.out (fun b hb => (C4.out b hb).1) (by rw [gr_nearL hlt]; exact OB.out.ext XA) (fun b hb => ⟨by have := GB.out b hb; omega, fun hb' => by have := GB.out b hb; have := (C4.out b hb').2; omega⟩) hg)
          have X4 := Lib.hid (grown_ext (Hr.out.1.trans' (RE.out.trans' XA)) (Nat.le_refl _) (owns_ext GO.out XA) hg.2.1)
          clear hg XA
          go_wp2
          go_roundg (N.ends.length - (v + 1))
          case measure => omega
          case rel => exact ⟨v + 1, by omega, rfl, by go_num, X4.out, G4.out⟩
      obtain rfl : v = N.ends.length := by omega
      obtain ⟨WL, hWL⟩ : ∃ WL : World, WL = wr := ⟨_, rfl⟩
      subst hWL
      have hG := Hr.out.2
      rw [← nearL_len N kk] at hG
      obtain ⟨Z, hOI, -, hge⟩ := hG.done
      have H0 := Lib.hid (HM.out.z Hr.out.1 (fun b hb => ⟨hge b hb, hOI.lt b hb⟩))
      obtain ⟨ub, uc, rfl, hrows⟩ := hOI.rowsK (by rw [nearL_len]; omega)
      rw [nearL_len] at hrows ⊢
      have HR := Lib.hid (show ∀ v, v < N.ends.length → ∃ la lc, ∀ w' : World, (∀ y ∈ Z, w'.heap[y]? = WL.heap[y]?) → w'.cell? ⟨ub, v, none⟩ = some (.slice la (near N kk v).length lc) ∧ IntSl w' (.slice la (near N kk v).length lc) (near N kk v) from fun v hv => by
        have := hrows v hv
        rwa [gr_nearL hv] at this)
      clear hG hOI hge hrows
      go_wp2_with fail
      go_loopg [57] N.ends.length (fun g i wr => ∃ v : Nat, v ≤ N.ends.length ∧ g = N.ends.length - v ∧ i = .int .i64 v ∧ Hid (HZ W0 WL wr (spN N kk v 0) p (.slice (some ⟨eb, 0, none⟩) N.ends.length N.ends.length) (.slice xa1 N.ids.length xc1) (.slice xa2 N.inputs.length xc2) Z))
      case atStart => exact ⟨0, Nat.zero_le _, rfl, rfl, H0.out⟩
      case round =>
        obtain ⟨v, hk, rfl, rfl, Hv⟩ := hrel
        by_cases hlt : v < N.ends.length
        case pos =>
          obtain ⟨la, lc, hla⟩ := HR.out v hlt
          obtain ⟨c1, -⟩ := hla wr Hv.out.keep
          have HLA := Lib.hid hla
          have hln := near_len N kk v
          clear hla
          go_wp2_with fail
          clear c1
          go_loopg [64] (near N kk v).length (fun g i wx => ∃ j : Nat, j ≤ (near N kk v).length ∧ g = (near N kk v).length - j ∧ i = .int .i64 j ∧ Hid (HZ W0 WL wx (spN N kk v j) p (.slice (some ⟨eb, 0, none⟩) N.ends.length N.ends.length) (.slice xa1 N.ids.length xc1) (.slice xa2 N.inputs.length xc2) Z))
          case atStart => exact ⟨0, Nat.zero_le _, rfl, rfl, Hv.out⟩
          case round =>
            obtain ⟨j, hj, rfl, rfl, Hj⟩ := hrel
            by_cases hjt : j < (near N kk v).length
            case pos =>
              obtain ⟨-, hI⟩ := HLA.out wr Hj.out.keep
              obtain ⟨la', lb, lo, lc', e, ha, hl, hm, hcn⟩ := hI
              simp only [Value.slice.injEq] at e
              obtain ⟨rfl, -, rfl⟩ := e
              obtain rfl := ha (by omega)
              unfold maxLen at hm
              obtain ⟨_, s1, rfl, -⟩ := hcn j hjt
              have hnr := near_range N kk v j hjt
              obtain ⟨x, hx⟩ := Int.eq_ofNat_of_zero_le hnr.1
              rw [hx] at s1
              have hxn : x < N.ends.length := by omega
              have hxm : (x : Int) ∈ near N kk v := by rw [← hx]; exact gi_in hjt
              have hvm := near_symm HG.out hlt hxm
              have hpr := pix_range hvm
              have hlx := near_len N kk x
              obtain ⟨P, hP⟩ : ∃ P : Nat, P = (near N kk x).idxOf (v : Int) := ⟨_, rfl⟩
              have hPX : pix N kk v x = (P : Int) := by rw [hP]; rfl
              rw [hPX] at hpr
              have HPI := Lib.hid (show gi (near N kk x) P = (v : Int) by rw [hP]; exact gi_idx hvm)
              have HPN := Lib.hid (show ∀ t, t < P → gi (near N kk x) t ≠ (v : Int) from fun t ht e => by
                have h3 := List.not_of_lt_findIdx (p := fun y => y == (v : Int)) (xs := near N kk x) (i := t) (by rw [hP] at ht; simpa [List.idxOf] using ht)
                have hlt' : t < (near N kk x).length := by omega
                have : (near N kk x)[t]'hlt' = (v : Int) := by rw [← e]; simp [gi, hlt']
                simp [this] at h3)
              have HNX := Lib.hid (show addEnd (spN N kk v j) v ((x : Int), (P : Int)) = spN N kk v (j + 1) by
                rw [← spN_add hlt hjt, (powRow_at hjt).1, (powRow_at hjt).2, hx, Int.toNat_natCast, hPX])
              have hl0' : (gr (spN N kk v j).ends v).length ≤ 40 := by rw [spN_row hlt (by omega)]; omega
              have hl1 := Lib.hid (spN_len N kk v j)
              obtain ⟨M0, hM0⟩ : ∃ M0, M0 = spN N kk v j := ⟨_, rfl⟩
              have HJ := Lib.hid (show HZ W0 WL wr M0 p (.slice (some ⟨eb, 0, none⟩) N.ends.length N.ends.length) (.slice xa1 N.ids.length xc1) (.slice xa2 N.inputs.length xc2) Z by rw [hM0]; exact Hj.out)
              rw [← hM0] at HNX hl0' hl1
              obtain ⟨xa, xc, hxa⟩ := HR.out x hxn
              have HXA := Lib.hid hxa
              clear ha hcn hnr hxm hvm hP hPX hx hM0 hxa
              obtain ⟨wq, hwq⟩ : ∃ wq : World, wq = wr := ⟨_, rfl⟩
              subst hwq
              go_wp2_with fail
              clear s1
              go_loopg [15] P (fun g i wy => ∃ t : Nat, t ≤ P ∧ g = P - t ∧ i = .int .i64 t ∧ Hid (Ext wq wy))
              case atStart => exact ⟨0, Nat.zero_le _, rfl, rfl, Ext.rfl' _⟩
              case round =>
                obtain ⟨t, ht, rfl, rfl, Ht⟩ := hrel
                have HY := Lib.hid (HJ.out.mono Ht.out)
                obtain ⟨c1, hI⟩ := HXA.out wr HY.out.keep
                obtain ⟨xa', xb, xo, xc', e, ha, hl, hm, hcn⟩ := hI
                simp only [Value.slice.injEq] at e
                obtain ⟨rfl, -, rfl⟩ := e
                obtain rfl := ha (by omega)
                unfold maxLen at hm
                obtain ⟨_, s1, rfl, -⟩ := hcn t (by omega)
                clear ha hcn
                by_cases htp : t < P
                case pos =>
                  have hne := HPN.out t htp
                  obtain ⟨gx, hgx⟩ : ∃ gx, gx = gi (near N kk x) t := ⟨_, rfl⟩
                  rw [← hgx] at s1 hne
                  have hb : (gx == (v : Int)) = false := by simpa using hne
                  clear hgx
                  go_wp2
                  go_roundg (P - (t + 1))
                  case measure => omega
                  case rel => exact ⟨t + 1, by omega, rfl, by go_num, Ht.out⟩
                obtain rfl : t = P := by omega
                rw [HPI.out] at s1
                obtain ⟨wy, hwy⟩ : ∃ wy : World, wy = wr := ⟨_, rfl⟩
                subst hwy
                have HN := Lib.hid HY.out.h
                obtain ⟨bs, b, c0, ax, cx, tt, hv2, hat, hm0, hge⟩ := HY.out.at (k := v) (by rw [hl1.out]; exact hlt)
                rw [hl1.out] at hv2
                obtain ⟨rfl, rfl⟩ : eb = b ∧ N.ends.length = c0 := by simpa using hv2
                have FA := Lib.hid hat
                have hm := Lib.hid hm0
                have HGE := Lib.hid hge
                have HP := Lib.hid (show inI64 (x : Int) ∧ inI64 (t : Int) from ⟨by unfold inI64; omega, by unfold inI64; omega⟩)
                clear hat hm0 hge hv2
                go_upto_region 24 with fail
                clear s1 c1
                have mkS : ∀ w' : World, Ext wy w' → w'.cell? ⟨p, 0, none⟩ = some (.slice (some ⟨eb, 0, none⟩) N.ends.length N.ends.length) ∧ w'.cell? ⟨eb, v, none⟩ = some (.slice ax (gr (M0).ends v).length cx) := fun w' h => ⟨h.cell' (row3_facts HN.out.box).1, h.cell' FA.out.cell⟩
                refine wp_region_gate (n := 14) (S := fun w' => w'.cell? ⟨p, 0, none⟩ = some (.slice (some ⟨eb, 0, none⟩) N.ends.length N.ends.length) ∧ w'.cell? ⟨eb, v, none⟩ = some (.slice ax (gr (M0).ends v).length cx)) (by kernel_rfl) (mkS _ (Ext.rfl' wy).drew') (fun hHeld => ?_)
                iterate 11 (
                  (first
                    | refine wpAnyG_take (i := 0) (v := ?_) rfl (by decide +kernel) (by kernel_rfl) (by decide) (by kernel_rfl) (by kernel_rfl) (fun _ _ _ h => h) (Or.inl ⟨by rfl, ?_⟩) hHeld ?_
                    | refine wpAnyG_take (i := 1) (v := ?_) rfl (by decide +kernel) (by kernel_rfl) (by decide) (by kernel_rfl) (by kernel_rfl) (fun _ _ _ h => h) (Or.inl ⟨by rfl, ?_⟩) hHeld ?_
                    | refine wpAnyG_take (i := 2) (v := ?_) rfl (by decide +kernel) (by kernel_rfl) (by decide) (by kernel_rfl) (by kernel_rfl) (fun _ _ _ h => h) (Or.inl ⟨by rfl, ?_⟩) hHeld ?_
                    | refine wpAnyG_take (i := 3) (v := ?_) rfl (by decide +kernel) (by kernel_rfl) (by decide) (by kernel_rfl) (by kernel_rfl) (fun _ _ _ h => h) (Or.inl ⟨by rfl, ?_⟩) hHeld ?_
                    | refine wpAnyG_take (i := 4) (v := ?_) rfl (by decide +kernel) (by kernel_rfl) (by decide) (by kernel_rfl) (by kernel_rfl) (fun _ _ _ h => h) (Or.inl ⟨by rfl, ?_⟩) hHeld ?_
                    | refine wpAnyG_take (i := 5) (v := ?_) rfl (by decide +kernel) (by kernel_rfl) (by decide) (by kernel_rfl) (by kernel_rfl) (fun _ _ _ h => h) (Or.inl ⟨by rfl, ?_⟩) hHeld ?_
                    | refine wpAnyG_take (i := 6) (v := ?_) rfl (by decide +kernel) (by kernel_rfl) (by decide) (by kernel_rfl) (by kernel_rfl) (fun _ _ _ h => h) (Or.inl ⟨by rfl, ?_⟩) hHeld ?_
                    | refine wpAnyG_take (i := 7) (v := ?_) rfl (by decide +kernel) (by kernel_rfl) (by decide) (by kernel_rfl) (by kernel_rfl) (fun _ _ _ h => h) (Or.inl ⟨by rfl, ?_⟩) hHeld ?_
                    | refine wpAnyG_take (i := 8) (v := ?_) rfl (by decide +kernel) (by kernel_rfl) (by decide) (by kernel_rfl) (by kernel_rfl) (fun _ _ _ h => h) (Or.inl ⟨by rfl, ?_⟩) hHeld ?_
                    | refine wpAnyG_take (i := 9) (v := ?_) rfl (by decide +kernel) (by kernel_rfl) (by decide) (by kernel_rfl) (by kernel_rfl) (fun _ _ _ h => h) (Or.inl ⟨by rfl, ?_⟩) hHeld ?_
                    | refine wpAnyG_take (i := 10) (v := ?_) rfl (by decide +kernel) (by kernel_rfl) (by decide) (by kernel_rfl) (by kernel_rfl) (fun _ _ _ h => h) (Or.inl ⟨by rfl, ?_⟩) hHeld ?_
                  )
                  rotate_left 1
                  · (intro w' hSw; (try dsimp only at hSw); go_simp) <;> with_reducible rfl
                  simp only [Act.put, List.setIfInBounds_toArray])
                refine wpAnyG_one (i := 11) rfl (by kernel_rfl) rfl (fun K hK => ?_)
                go_simp
                refine hK.out _ _ (fun _ => mkS _ (by first | exact (Ext.rfl' wy).drew'.alloc' _ | exact ((Ext.rfl' wy).alloc' _).drew')) (fun _ => ?_)
                clear hK K
                refine wpAnyG_one (i := 12) rfl (by kernel_rfl) rfl (fun K hK => ?_)
                refine wp_app2 (.tmp 86) (.tmp 90) 67 rfl 0 66 i1 (.agg #[.int .i64 0, .int .i64 0]) 2 16 Try.underlying67 I1.out.1 I1.out.2.1 I1.out.2.2.1 I1.out.2.2.2 rfl (by decide) (.slice ax (gr (M0).ends v).length cx) (gr (M0).ends v).length (endCells (gr (M0).ends v)) rfl ((FA.out.row.ext (by first | exact (Ext.rfl' wy).drew'.alloc' _ | exact ((Ext.rfl' wy).alloc' _).drew')).owns (fun _ _ => Nat.zero_le _)) (some ⟨wy.heap.size, 0, none⟩) 1 1 [.int .i64 ((x : Int)), .int .i64 ((t : Int))] rfl (by first | exact src_two wy.drew _ _ 66 rfl rfl | exact src_two wy _ _ 66 rfl rfl | exact src_drew (src_two wy _ _ 66 rfl rfl)) (by unfold maxLen; omega) (by omega) (Nat.zero_le _) ?_
                intro v' w1s hg
                have PUs := Lib.hid (FA.out.put (p := ((x : Int), (t : Int))) (by first | exact (Ext.rfl' wy).drew'.alloc' _ | exact ((Ext.rfl' wy).alloc' _).drew') HP.out hg)
                obtain ⟨ays, cys, rfl⟩ := PUs.out.form
                have MZ := Lib.hid (PUs.out.row hm.out HN.out.box)
                have cz := (row3_facts MZ.out.1).1
                have f1 := PUs.out.cell
                have f2 := PUs.out.frozen
                clear hg
                refine hK.out _ _ (fun _ => ⟨cz, f1⟩) (fun hHeld' => ?_)
                have hHeld := hHeld' (by decide)
                clear hK K hHeld'
                (
                  (first
                    | refine wpAnyG_take (i := 13) (v := ?_) rfl (by decide +kernel) (by kernel_rfl) (by decide) (by kernel_rfl) (by kernel_rfl) (fun _ _ _ h => h) (Or.inl ⟨by rfl, ?_⟩) hHeld ?_
                  )
                  rotate_left 1
                  · (intro w' hSw; (try dsimp only at hSw); go_simp) <;> with_reducible rfl
                  simp only [Act.put, List.setIfInBounds_toArray])
                refine wpAnyG_one (i := 14) rfl (by kernel_rfl) rfl (fun K hK => ?_)
                go_simp
                refine hK.out _ _ (fun h => absurd rfl h) (fun _ => ?_)
                clear hK K
                refine wpAnyG_done (by kernel_rfl) ?_ _
                clear hHeld cz f1 f2 mkS MZ
                have H9 := Lib.hid (show HZ W0 WL _ _ p _ _ _ Z from HY.out.put hm.out HGE.out PUs.out)
                rw [HNX.out] at H9
                clear PUs FA hm HGE HN
                go_wp2
                go_roundg ((near N kk v).length - (j + 1))
                case measure => omega
                case rel => exact ⟨j + 1, by omega, rfl, by go_num, H9.out⟩
            obtain rfl : j = (near N kk v).length := by omega
            have HN2 := Lib.hid (show HZ W0 WL wr (spN N kk (v + 1) 0) p (.slice (some ⟨eb, 0, none⟩) N.ends.length N.ends.length) (.slice xa1 N.ids.length xc1) (.slice xa2 N.inputs.length xc2) Z by rw [← spN_next]; exact Hj.out)
            go_wp2
            go_roundg (N.ends.length - (v + 1))
            case measure => omega
            case rel => exact ⟨v + 1, by omega, rfl, by go_num, HN2.out⟩
        obtain rfl : v = N.ends.length := by omega
        have HF := Lib.hid (show HNet W0 wr (pow N kk) p (.slice (some ⟨eb, 0, none⟩) N.ends.length N.ends.length) (.slice xa1 N.ids.length xc1) (.slice xa2 N.inputs.length xc2) by rw [← spN_all]; exact Hv.out.h)
        obtain ⟨bs2, ho, hn2, hge⟩ := HF.out.net
        have O4 := Lib.hid ho
        have E4 := Lib.hid (EW.out.trans' HF.out.ext)
        have S4 := Lib.hid (show ∀ y ∈ bs2, w.heap.size ≤ y ∧ y ≠ w.heap.size + 1 from fun y hy => by have := (hge y hy).1; have := ZW.out; omega)
        obtain ⟨r0, r1, r2, -, -, -⟩ := row3_facts HF.out.box
        obtain ⟨s0, s1, s2, t0, t1, t2⟩ := row3_facts (row_ext RQ.out.1 HF.out.ext)
        clear ho hge
        go_wp2
        have hc := close_at E4.out (show w.heap.size ≤ w.heap.size + 1 by omega) O4.out hn2 S4.out
        refine bodyPost_ret (v := .agg #[.slice (some ⟨eb, 0, none⟩) N.ends.length N.ends.length, .slice xa1 N.ids.length xc1, .slice xa2 N.inputs.length xc2]) (by simp [results, Try.results117, go_sem, s0, s1, s2]) rfl ⟨_, bs2, rfl, hc.1, hc.2.1, hc.2.2⟩
end Go.Proofs.Ytkeiaahlifdbiaa
