/- The model's coLift. -/
import Derived.Test.YtdcgpodjoalokaaLfc
import Derived.Test.YtdcgpodjoalokaaGa
namespace Go.Proofs.Ytdcgpodjoalokaa
open Go.RowKit

theorem map_step {α : Type} (T m : Nat) (f : Nat → α) (z : α) (_ : m < T) : ((List.range T).map fun u => if u < m then f u else z).set m (f m) = (List.range T).map fun u => if u < m + 1 then f u else z := by
  refine List.ext_getElem (by simp) fun i h1 h2 => ?_
  rw [List.getElem_set]
  simp only [List.getElem_map, List.getElem_range]
  by_cases e : m = i
  · subst e; rw [if_pos rfl, if_pos (by omega)]
  · rw [if_neg e]
    by_cases r : i < m
    · rw [if_pos r, if_pos (by omega)]
    · rw [if_neg r, if_neg (by omega)]
/-- The model's network once the first m rows and inputs are stored. -/
def liftM (N : Net) (k T m : Nat) : Net := ⟨(List.range T).map fun u => if u < m then List.replicate (gr N.ends (u / k)).length (0, 0) else [], [], (List.range T).map fun u => if u < m then gi N.inputs (u / k) else 0⟩
theorem liftM_len (N : Net) (k T m : Nat) : (liftM N k T m).ends.length = T := by simp [liftM]
theorem liftM_inp (N : Net) (k T m : Nat) : (liftM N k T m).inputs.length = T := by simp [liftM]
theorem range_const {α : Type} (T : Nat) (x : α) : (List.range T).map (fun _ => x) = List.replicate T x := by
  refine List.ext_getElem (by simp) fun i h1 h2 => by simp
theorem liftM_zero (N : Net) (k T : Nat) : blank T 0 = liftM N k T 0 := by
  unfold liftM blank
  simp only [Nat.not_lt_zero, if_false, range_const, List.replicate_zero]
theorem liftM_step (N : Net) (k T m : Nat) (h : m < T) : { setRow (liftM N k T m) m (List.replicate (gr N.ends (m / k)).length (0, 0)) with inputs := (liftM N k T m).inputs.set m (gi N.inputs (m / k)) } = liftM N k T (m + 1) := by
  unfold setRow liftM
  simp only []
  rw [map_step T m (fun u => List.replicate (gr N.ends (u / k)).length ((0 : Int), (0 : Int))) [] h, map_step T m (fun u => gi N.inputs (u / k)) 0 h]
theorem liftM_all (N : Net) (k T : Nat) : liftM N k T T = liftB N k T := by
  unfold liftM liftB
  have e1 : ((List.range T).map fun u => if u < T then List.replicate (gr N.ends (u / k)).length ((0 : Int), (0 : Int)) else []) = (List.range T).map fun u => List.replicate (gr N.ends (u / k)).length (0, 0) := List.map_congr_left fun u hu => by rw [if_pos (List.mem_range.1 hu)]
  have e2 : ((List.range T).map fun u => if u < T then gi N.inputs (u / k) else 0) = (List.range T).map fun u => gi N.inputs (u / k) := List.map_congr_left fun u hu => by rw [if_pos (List.mem_range.1 hu)]
  rw [e1, e2]
theorem HNet.putInputL {W0 wr : World} {M : Net} {p : Nat} {v0 v1 v2 : Value} (h : HNet W0 wr M p v0 v1 v2) {k : Nat} (hk : k < M.inputs.length) :
    ∃ b c, v2 = .slice (some ⟨b, 0, none⟩) M.inputs.length c ∧ wr.cell? ⟨b, k, none⟩ = some (.int .i64 (gi M.inputs k)) ∧ wr.frozen? ⟨b, k, none⟩ = false ∧
      ∀ y : Int, inI64 y → HNet W0 (wr.setCell ⟨b, k, none⟩ (.int .i64 y)) { M with inputs := M.inputs.set k y } p v0 v1 v2 := by
  obtain ⟨bs, ho, hnd, hge⟩ := h.net
  obtain ⟨b, c, hv, hb, hx, hf, hp⟩ := ho.putInput hnd hk
  refine ⟨b, c, hv, hx, hf, fun y hy => ⟨h.ext.store (hge b hb).1 _, h.hp, h.box.of_block (Below.heap_setCell _ _ _ _ (fun e => (hge b hb).2 e.symm)), bs, hp wr y (fun _ _ => rfl) hy, hnd, hge⟩⟩
/-- A network in a box that lies apart from the blocks Z. -/
structure HZL (W0 WL wr : World) (M : Net) (p : Nat) (v0 v1 v2 : Value) (Z : List Nat) : Prop where
  ext : Ext W0 wr
  hp : W0.heap.size ≤ p
  box : wr.rowIs p 43 3 (tri v0 v1 v2)
  keep : ∀ b ∈ Z, wr.heap[b]? = WL.heap[b]?
  zlt : ∀ b ∈ Z, b < wr.heap.size
  net : ∃ bs, OwnNet wr (.agg #[v0, v1, v2]) M bs ∧ bs.Nodup ∧ ∀ b ∈ bs, W0.heap.size ≤ b ∧ b ≠ p ∧ b ∉ Z
theorem HNet.zl {W0 wr WL : World} {M : Net} {p : Nat} {v0 v1 v2 : Value} {Z : List Nat} (h : HNet W0 wr M p v0 v1 v2) (hx : Ext wr WL) (hz : ∀ b ∈ Z, wr.heap.size ≤ b ∧ b < WL.heap.size) : HZL W0 WL WL M p v0 v1 v2 Z := by
  obtain ⟨bs, ho, hnd, hge⟩ := h.net
  exact ⟨h.ext.trans' hx, h.hp, row_ext h.box hx, fun _ _ => rfl, fun b hb => (hz b hb).2, bs, ho.ext hx, hnd, fun b hb => ⟨(hge b hb).1, (hge b hb).2, fun hb' => by have := ho.lt b hb; have := (hz b hb').1; omega⟩⟩
theorem HZL.mono {W0 WL wr w' : World} {M : Net} {p : Nat} {v0 v1 v2 : Value} {Z : List Nat} (h : HZL W0 WL wr M p v0 v1 v2 Z) (hx : Ext wr w') : HZL W0 WL w' M p v0 v1 v2 Z := by
  obtain ⟨bs, ho, hnd, hge⟩ := h.net
  exact ⟨h.ext.trans' hx, h.hp, row_ext h.box hx, fun b hb => (hx.block b (h.zlt b hb)).trans (h.keep b hb), fun b hb => by have := h.zlt b hb; have := hx.size; omega, bs, ho.ext hx, hnd, hge⟩
theorem HZL.h {W0 WL wr : World} {M : Net} {p : Nat} {v0 v1 v2 : Value} {Z : List Nat} (h : HZL W0 WL wr M p v0 v1 v2 Z) : HNet W0 wr M p v0 v1 v2 := by
  obtain ⟨bs, ho, hnd, hge⟩ := h.net
  exact ⟨h.ext, h.hp, h.box, bs, ho, hnd, fun b hb => ⟨(hge b hb).1, (hge b hb).2.1⟩⟩
theorem HZL.setE {W0 WL wr : World} {M : Net} {p : Nat} {v0 v1 v2 : Value} {Z : List Nat} (h : HZL W0 WL wr M p v0 v1 v2 Z) {u j : Nat} (hu : u < M.ends.length) (hj : j < (gr M.ends u).length) :
    ∃ b c q d, v0 = .slice (some ⟨b, 0, none⟩) M.ends.length c ∧ wr.cell? ⟨b, u, none⟩ = some (.slice (some ⟨q, 0, none⟩) (gr M.ends u).length d) ∧ Two wr q j (.int .i64 (gn (gr M.ends u) j)) (.int .i64 (gp (gr M.ends u) j)) ∧
      ∀ x : Int × Int, inI64 x.1 → inI64 x.2 → HZL W0 WL (set2 wr q j x) (setEnd M u j x) p v0 v1 v2 Z := by
  obtain ⟨bs, ho, hnd, hge⟩ := h.net
  obtain ⟨b, c, q, d, hv, hx, hq, ht, hput⟩ := ho.putEnd hnd hu hj
  have hk : ∀ (x : Int × Int) (y : Nat), y ∈ Z → (set2 wr q j x).heap[y]? = wr.heap[y]? := fun x y hy => set2_heap fun e => (hge q hq).2.2 (e ▸ hy)
  refine ⟨b, c, q, d, hv, hx, ht, fun x h1 h2 => ⟨?_, h.hp, h.box.of_block (set2_heap fun e => (hge q hq).2.1 e.symm), fun y hy => (hk x y hy).trans (h.keep y hy), fun y hy => ?_, bs, hput x h1 h2, hnd, hge⟩⟩
  · unfold set2
    exact (h.ext.store (hge q hq).1 _).store (hge q hq).1 _
  · have e := hk x y hy
    rw [Array.getElem?_eq_getElem (h.zlt y hy)] at e
    exact (Array.getElem?_eq_some_iff.1 e).1
theorem rowsKL {WL : World} {s : Value} {l : List (List Int)} {Z : List Nat} (h : OwnII WL s l Z) : ∃ a b c, s = .slice a l.length c ∧ ∀ v, v < l.length → a = some ⟨b, 0, none⟩ ∧ ∃ la lc, ∀ w' : World, (∀ y ∈ Z, w'.heap[y]? = WL.heap[y]?) →
    w'.cell? ⟨b, v, none⟩ = some (.slice la (gr l v).length lc) ∧ IntSl w' (.slice la (gr l v).length lc) (gr l v) := by
  obtain ⟨R, b0, T, ⟨c, h1, h2, h3⟩, h4, rfl⟩ := h
  rcases h3 with ⟨hn, rfl, a, -, rfl⟩ | ⟨b, m, g, rfl, rfl, hm, hr, hf⟩
  · exact ⟨a, 0, c, by rw [hn], fun v hv => absurd hv (by omega)⟩
  refine ⟨_, b, c, rfl, fun v hv => ⟨rfl, ?_⟩⟩
  obtain ⟨la, lc, e⟩ := (h4 v hv).1.slice
  refine ⟨la, lc, fun w' hk => ⟨?_, ?_⟩⟩
  · have hr' := hr.of_block (hk b (by simp))
    rw [hr'.cell (by omega), hf v (by omega), e]
  · have := ((h4 v hv).keep fun y hy => hk y (List.mem_append.2 (.inr (List.mem_flatMap.2 ⟨v, List.mem_range.2 hv, hy⟩)))).read
    rwa [e] at this

set_option maxHeartbeats 12800000 in
set_option maxRecDepth 100000 in
theorem coLift_any {w : World} {vn vp : Value} {N : Net} {P : List (List Int)} (kk : Nat) (hk1 : 1 ≤ kk) (hk40 : kk ≤ 40) (h : NetAt w vn N) (hG : Good N) (hp : IntSS w vp P) (hS : SheetsOK (edgesTo N N.ends.length) P kk) (hN40 : N.ends.length * kk ≤ 40) :
    Calls Try.prog 115 #[vn, .int .i64 kk, vp] w fun e w' => ∃ v' bs, e = .returned v' ∧ Ext w w' ∧ OwnNet w' v' (liftNet N kk P) bs ∧ Fresh w bs := by
  have HN := Lib.hid h
  have HG := Lib.hid hG
  have HP := Lib.hid hp
  have hS0 := Lib.hid hS
  have h40 := hG.1.2
  have h01 := hG.1.1
  have hil := hG.2.2.2.1
  have HIL := Lib.hid hil
  have HD6 := Lib.hid (show ∀ v, v < N.ends.length → (gr N.ends v).length ≤ 6 from fun v hv => (hG.2.1 v hv).1)
  obtain ⟨w0, v1, w2, rfl, hE, -, hI⟩ := h
  obtain ⟨ea, eb, eo, ec, rfl, hea, hel, hem, hec⟩ := hE
  obtain ⟨pa, pb, po, pc, rfl, hpa, hpl, hpm, hpc⟩ := hI
  unfold maxLen at hem hpm
  obtain rfl := hea (by omega)
  obtain rfl := hpa (by omega)
  have HEC := Lib.hid hec
  have HPC := Lib.hid hpc
  obtain ⟨i44, hi4, hy0, hy1, hy2⟩ := info_parts Try.info44
  have HML := Lib.hid (show ∀ (d : Nat) (u : World), d ≤ 6 → (Instr.makeSlice 89 (.int .i64 (d : Int)) (.int .i64 (d : Int))).run Try.prog u =
      .ok (.slice (some ⟨u.heap.size, 0, none⟩) d d) (u.alloc (.cells (madeCells #[.int .i64 0, .int .i64 0] (d * 2)) 123)) from fun d u hd => by
    have h := run_make (P := Try.prog) u 89 123 i44 _ Try.underlying89 hi4 hy0 .i64 .i64 d d (by omega) (Int.le_refl _) (by rw [hy2]; omega) (by omega)
    simpa [hy1, Value.cells] using h)
  clear hi4 hy0 hy1 hy2 hea hpa hec hpc hG hil hS hp
  obtain ⟨W0, hW0⟩ : ∃ W0, W0 = (w.alloc (.cells #[.slice (some ⟨eb, eo, none⟩) N.ends.length ec, v1, .slice (some ⟨pb, po, none⟩) N.inputs.length pc] 43)).alloc (.cells #[.slice none 0 0, .slice none 0 0, .slice none 0 0] 43) := ⟨_, rfl⟩
  have EW := Lib.hid (show Ext w W0 by rw [hW0]; exact ((Ext.rfl' w).alloc' _).alloc' _)
  have RN := Lib.hid (show W0.rowIs w.heap.size 43 3 (tri (.slice (some ⟨eb, eo, none⟩) N.ends.length ec) v1 (.slice (some ⟨pb, po, none⟩) N.inputs.length pc)) by rw [hW0]; exact row_ext (row3_made w _ _ _ _) ((Ext.rfl' _).alloc' _))
  have RQ := Lib.hid (show W0.rowIs (w.heap.size + 1) 43 3 (tri (.slice none 0 0) (.slice none 0 0) (.slice none 0 0)) by rw [hW0]; simpa using row3_made (w.alloc (.cells #[.slice (some ⟨eb, eo, none⟩) N.ends.length ec, v1, .slice (some ⟨pb, po, none⟩) N.inputs.length pc] 43)) (.slice none 0 0) (.slice none 0 0) (.slice none 0 0) 43)
  have ZW := Lib.hid (show W0.heap.size = w.heap.size + 2 by rw [hW0]; simp)
  obtain ⟨T, hT⟩ : ∃ T, T = N.ends.length * kk := ⟨_, rfl⟩
  have HT := Lib.hid hT
  have hT40 : T ≤ 40 := by omega
  have hw0 : (kk : Int) * (N.ends.length : Int) = (T : Int) := by rw [hT, Nat.mul_comm]; exact (Int.natCast_mul _ _).symm
  have hww : IntKind.i64.wrap ((kk : Int) * (N.ends.length : Int)) = (T : Int) := by rw [hw0]; exact IntWalk.i64_in _ (by omega)
  obtain ⟨p0, p1, p2, -, -, -⟩ := row3_facts RN.out
  rw [hW0] at p0 p1 p2
  clear hT hN40
  go_enter Try.func115, Try.ntmps115
  go_wp2_with fail
  rw [← hW0]
  clear hW0 p0 p1 p2
  (with_reducible refine (neEmpty_any T (by omega)).mono ?_)
  rintro e w1 ⟨v', bs, rfl, hw, ho, hf⟩
  obtain ⟨a0, c0, a1, c1, a2, c2, rfl⟩ := ho.agg
  have l0 : (blank T 0).ends.length = T := by simp [blank]
  have l1 : (blank T 0).ids.length = 0 := rfl
  have l2 : (blank T 0).inputs.length = T := by simp [blank]
  rw [l0, l1, l2] at ho ⊢
  have H1 := Lib.hid (show HNet W0 (w1.alloc (.cells #[.slice a0 T c0, .slice a1 0 c1, .slice a2 T c2] 43)) (liftM N kk T 0) w1.heap.size (.slice a0 T c0) (.slice a1 0 c1) (.slice a2 T c2) by
    rw [← liftM_zero]; exact HNet.made hw ho hf)
  obtain ⟨s0, s1, s2, -, -, -⟩ := row3_facts (row_ext RN.out H1.out.ext)
  obtain ⟨p, hp⟩ : ∃ p, p = w1.heap.size := ⟨_, rfl⟩
  rw [← hp] at H1
  clear hw ho hf hw0 hww l0 l1 l2
  go_wp2_with fail
  rw [← hp]
  clear s0 s1 s2 hp
  go_loopg [24] N.ends.length (fun g' i wr => ∃ v : Nat, v ≤ N.ends.length ∧ g' = N.ends.length - v ∧ i = .int .i64 v ∧ Hid (HNet W0 wr (liftM N kk T (v * kk)) p (.slice a0 T c0) (.slice a1 0 c1) (.slice a2 T c2)))
  case atStart => exact ⟨0, Nat.zero_le _, rfl, rfl, by rw [Nat.zero_mul]; exact H1.out⟩
  case round =>
    obtain ⟨v, hv, rfl, rfl, Hr⟩ := hrel
    by_cases hlt : v < N.ends.length
    case pos =>
      obtain ⟨_, hra, hrow⟩ := HEC.out v hlt
      obtain ⟨aa, ab, ao, ac, rfl, -, hal, ham, -⟩ := hrow
      unfold maxLen at ham
      have e1 := (EW.out.trans' Hr.out.ext).cell' hra
      have hL6 := HD6.out v hlt
      obtain ⟨L, hL⟩ : ∃ L, L = (gr N.ends v).length := ⟨_, rfl⟩
      have HLW := Lib.hid hL
      rw [← hL] at hL6 hal e1
      clear hra hL
      go_wp2_with fail
      clear e1
      go_loopg [10] kk (fun g' i wx => ∃ s : Nat, s ≤ kk ∧ g' = kk - s ∧ i = .int .i64 s ∧ Hid (HNet W0 wx (liftM N kk T (v * kk + s)) p (.slice a0 T c0) (.slice a1 0 c1) (.slice a2 T c2)))
      case atStart => exact ⟨0, Nat.zero_le _, rfl, rfl, Hr.out⟩
      case round =>
        obtain ⟨s, hs, rfl, rfl, Hs⟩ := hrel
        by_cases hst : s < kk
        case pos =>
          have hmk := dmLt (T := N.ends.length) hst hlt
          have HDV := Lib.hid (dmK (t := v) hst).1
          obtain ⟨B1, hB1⟩ : ∃ B1, B1 = v * kk := ⟨_, rfl⟩
          have g1 : (v : Int) * (kk : Int) = (B1 : Int) := by rw [hB1]; exact (Int.natCast_mul _ _).symm
          obtain ⟨m, hm⟩ : ∃ m, m = v * kk + s := ⟨_, rfl⟩
          have HMM := Lib.hid hm
          have hmT : m < T := by rw [HT.out, hm]; exact hmk
          have hmB : m = B1 + s := by rw [hm, hB1]
          have hw1 : IntKind.i64.wrap ((v : Int) * (kk : Int)) = (B1 : Int) := by rw [g1]; exact IntWalk.i64_in _ (by omega)
          have hw2 : IntKind.i64.wrap ((B1 : Int) + (s : Int)) = (m : Int) := by rw [show (B1 : Int) + (s : Int) = (m : Int) by omega]; exact IntWalk.i64_in _ (by omega)
          have hbs : (B1 : Int) + (s : Int) = (m : Int) := by omega
          have hwm : IntKind.i64.wrap (m : Int) = (m : Int) := IntWalk.i64_in _ (by omega)
          clear hmB
          have hh := Hs.out
          rw [← hm] at hh
          obtain ⟨b, c', ax, cx, hv0, hcell, hfrz, -, hnp, hltb, hback⟩ := hh.row (k := m) (by rw [liftM_len]; exact hmT)
          rw [liftM_len] at hv0
          obtain ⟨rfl, rfl⟩ : a0 = some ⟨b, 0, none⟩ ∧ c0 = c' := by simpa using hv0
          have HBK := Lib.hid hback
          obtain ⟨W4, hW4⟩ : ∃ W4 : World, W4 = wr := ⟨_, rfl⟩
          subst hW4
          have HH := Lib.hid hh
          have hml := fun u => HML.out L u hL6
          obtain ⟨m0, -, -, -, -, -⟩ := row3_facts HH.out.box
          have xa := (Ext.rfl' W4).alloc' (.cells (madeCells #[.int .i64 0, .int .i64 0] (L * 2)) 123)
          have hxa2 := xa.cell' hcell
          have hfa : (W4.alloc (.cells (madeCells #[.int .i64 0, .int .i64 0] (L * 2)) 123)).frozen? ⟨b, m, none⟩ = false := by rw [World.frozen?_of_block (xa.block b hltb)]; exact hfrz
          have H2 := Lib.hid ((HBK.out _ (.slice (some ⟨W4.heap.size, 0, none⟩) L L) (List.replicate L (0, 0)) [W4.heap.size] xa (own_zeroEnds (emade W4 L) (by omega)) (by simp)).mono (Ext.rfl' _).drew')
          have mkS : ∀ w' : World, Ext W4 w' → w'.cell? ⟨p, 0, none⟩ = some (.slice (some ⟨b, 0, none⟩) T c0) := fun w' h => h.cell' m0
          clear hv0 hback hh hm g1 hmk hB1 Hs hltb hnp
          go_upto_region 8 with fail
          refine wp_region_gate (n := 11) (S := fun w' => w'.cell? ⟨p, 0, none⟩ = some (.slice (some ⟨b, 0, none⟩) T c0)) (by kernel_rfl) (mkS _ (Ext.rfl' W4).drew') (fun hHeld => ?_)
          refine wpAnyG_take (i := 0) (v := ?_) rfl (by decide +kernel) (by kernel_rfl) (by decide) (by kernel_rfl) (by kernel_rfl) (fun _ _ _ h => h) (Or.inl ⟨by kernel_rfl, ?_⟩) hHeld ?_
          rotate_left 1
          · (intro w' hSw; (try dsimp only at hSw); go_simp; (try simp only [hw1, hw2, hbs, hwm])) <;> with_reducible rfl
          simp only [Act.put]
          refine wpAnyG_take (i := 1) (v := ?_) rfl (by decide +kernel) (by kernel_rfl) (by decide) (by kernel_rfl) (by kernel_rfl) (fun _ _ _ h => h) (Or.inl ⟨by kernel_rfl, ?_⟩) hHeld ?_
          rotate_left 1
          · (intro w' hSw; (try dsimp only at hSw); go_simp; (try simp only [hw1, hw2, hbs, hwm])) <;> with_reducible rfl
          simp only [Act.put]
          refine wpAnyG_take (i := 2) (v := ?_) rfl (by decide +kernel) (by kernel_rfl) (by decide) (by kernel_rfl) (by kernel_rfl) (fun _ _ _ h => h) (Or.inl ⟨by kernel_rfl, ?_⟩) hHeld ?_
          rotate_left 1
          · (intro w' hSw; (try dsimp only at hSw); go_simp; (try simp only [hw1, hw2, hbs, hwm])) <;> with_reducible rfl
          simp only [Act.put]
          refine wpAnyG_take (i := 3) (v := ?_) rfl (by decide +kernel) (by kernel_rfl) (by decide) (by kernel_rfl) (by kernel_rfl) (fun _ _ _ h => h) (Or.inl ⟨by kernel_rfl, ?_⟩) hHeld ?_
          rotate_left 1
          · (intro w' hSw; (try dsimp only at hSw); go_simp; (try simp only [hw1, hw2, hbs, hwm])) <;> with_reducible rfl
          simp only [Act.put]
          refine wpAnyG_take (i := 4) (v := ?_) rfl (by decide +kernel) (by kernel_rfl) (by decide) (by kernel_rfl) (by kernel_rfl) (fun _ _ _ h => h) (Or.inl ⟨by kernel_rfl, ?_⟩) hHeld ?_
          rotate_left 1
          · (intro w' hSw; (try dsimp only at hSw); go_simp; (try simp only [hw1, hw2, hbs, hwm])) <;> with_reducible rfl
          simp only [Act.put]
          refine wpAnyG_take (i := 5) (v := ?_) rfl (by decide +kernel) (by kernel_rfl) (by decide) (by kernel_rfl) (by kernel_rfl) (fun _ _ _ h => h) (Or.inl ⟨by kernel_rfl, ?_⟩) hHeld ?_
          rotate_left 1
          · (intro w' hSw; (try dsimp only at hSw); go_simp; (try simp only [hw1, hw2, hbs, hwm])) <;> with_reducible rfl
          simp only [Act.put]
          refine wpAnyG_take (i := 6) (v := ?_) rfl (by decide +kernel) (by kernel_rfl) (by decide) (by kernel_rfl) (by kernel_rfl) (fun _ _ _ h => h) (Or.inl ⟨by kernel_rfl, ?_⟩) hHeld ?_
          rotate_left 1
          · (intro w' hSw; (try dsimp only at hSw); go_simp; (try simp only [hw1, hw2, hbs, hwm])) <;> with_reducible rfl
          simp only [Act.put]
          refine wpAnyG_take (i := 7) (v := ?_) rfl (by decide +kernel) (by kernel_rfl) (by decide) (by kernel_rfl) (by kernel_rfl) (fun _ _ _ h => h) (Or.inl ⟨by kernel_rfl, ?_⟩) hHeld ?_
          rotate_left 1
          · (intro w' hSw; (try dsimp only at hSw); go_simp; (try simp only [hw1, hw2, hbs, hwm])) <;> with_reducible rfl
          simp only [Act.put]
          refine wpAnyG_take (i := 8) (v := ?_) rfl (by decide +kernel) (by kernel_rfl) (by decide) (by kernel_rfl) (by kernel_rfl) (fun _ _ _ h => h) (Or.inl ⟨by kernel_rfl, ?_⟩) hHeld ?_
          rotate_left 1
          · (intro w' hSw; (try dsimp only at hSw); go_simp; (try simp only [hw1, hw2, hbs, hwm])) <;> with_reducible rfl
          simp only [Act.put]
          refine wpAnyG_one (i := 9) rfl (by kernel_rfl) rfl (fun K hK => ?_)
          go_simp
          refine hK.out _ _ (fun _ => mkS _ (by repeat (first | exact Ext.rfl' _ | refine Ext.alloc' ?_ _ | refine Ext.drew' ?_))) (fun _ => ?_)
          clear hK K
          refine wpAnyG_one (i := 10) rfl (by kernel_rfl) rfl (fun K hK => ?_)
          go_simp
          refine hK.out _ _ (fun _ => mkS _ (by repeat (first | exact Ext.rfl' _ | refine Ext.alloc' ?_ _ | refine Ext.drew' ?_))) (fun _ => ?_)
          clear hK K
          refine wpAnyG_one (i := 11) rfl (by kernel_rfl) rfl (fun K hK => ?_)
          go_simp
          refine hK.out _ _ (fun h => absurd rfl h) (fun _ => ?_)
          clear hK K
          refine wpAnyG_done (by kernel_rfl) ?_ _
          clear hHeld mkS
          clear m0 hml hxa2 hfa hcell hfrz xa
          obtain ⟨W5, hW5⟩ : ∃ W5 : World, W5 = ((W4.alloc (.cells (madeCells #[.int .i64 0, .int .i64 0] (L * 2)) 123)).setCell ⟨b, m, none⟩ (.slice (some ⟨W4.heap.size, 0, none⟩) L L)).drew := ⟨_, rfl⟩
          have H5 := Lib.hid (show HNet W0 W5 (setRow (liftM N kk T m) m (List.replicate L (0, 0))) p (.slice (some ⟨b, 0, none⟩) T c0) (.slice a1 0 c1) (.slice a2 T c2) by rw [hW5]; exact H2.out)
          rw [← hW5]
          clear hW5 H2
          have K5 := Lib.hid (EW.out.trans' H5.out.ext)
          have hxi : v < N.inputs.length := by have := HIL.out; omega
          obtain ⟨_, hpi, rfl, hpr⟩ := HPC.out v hxi
          obtain ⟨xi, hxe⟩ : ∃ y, y = gi N.inputs v := ⟨_, rfl⟩
          rw [← hxe] at hpi hpr
          have HXE := Lib.hid hxe
          obtain ⟨ib, ic, hv2, hx2, hf2, hput⟩ := H5.out.putInputL (k := m) (by show m < (liftM N kk T m).inputs.length; rw [liftM_inp]; exact hmT)
          rw [show (setRow (liftM N kk T m) m (List.replicate L (0, 0))).inputs.length = T from liftM_inp _ _ _ _] at hv2
          obtain ⟨rfl, rfl⟩ : a2 = some ⟨ib, 0, none⟩ ∧ c2 = ic := by simpa using hv2
          have H6 := Lib.hid (hput xi hpr)
          have HLB := Lib.hid (show { setRow (liftM N kk T m) m (List.replicate L (0, 0)) with inputs := (setRow (liftM N kk T m) m (List.replicate L (0, 0))).inputs.set m xi } = liftM N kk T (v * kk + (s + 1)) by
            have e := liftM_step N kk T m hmT
            rw [show m / kk = v by rw [HMM.out]; exact HDV.out] at e
            rw [HLW.out, HXE.out]
            rw [show v * kk + (s + 1) = m + 1 by rw [HMM.out]; rfl]
            exact e)
          rw [HLB.out] at H6
          obtain ⟨-, -, m2, -, -, -⟩ := row3_facts H5.out.box
          obtain ⟨-, -, p2, -, -, -⟩ := row3_facts (row_ext RN.out H5.out.ext)
          have mkS : ∀ w' : World, Ext W5 w' → w'.cell? ⟨p, 2, none⟩ = some (.slice (some ⟨ib, 0, none⟩) T c2) ∧ w'.cell? ⟨w.heap.size, 2, none⟩ = some (.slice (some ⟨pb, po, none⟩) N.inputs.length pc) ∧ w'.cell? ⟨pb, po + v, none⟩ = some (.int .i64 xi) := fun w' h => ⟨h.cell' m2, h.cell' p2, h.cell' (K5.out.cell' hpi)⟩
          clear hv2 hput hxe
          go_upto_region 9 with fail
          refine wp_region_gate (n := 13) (S := fun w' => w'.cell? ⟨p, 2, none⟩ = some (.slice (some ⟨ib, 0, none⟩) T c2) ∧ w'.cell? ⟨w.heap.size, 2, none⟩ = some (.slice (some ⟨pb, po, none⟩) N.inputs.length pc) ∧ w'.cell? ⟨pb, po + v, none⟩ = some (.int .i64 xi)) (by kernel_rfl) (mkS _ (Ext.rfl' W5).drew') (fun hHeld => ?_)
          refine wpAnyG_take (i := 0) (v := ?_) rfl (by decide +kernel) (by kernel_rfl) (by decide) (by kernel_rfl) (by kernel_rfl) (fun _ _ _ h => h) (Or.inl ⟨by kernel_rfl, ?_⟩) hHeld ?_
          rotate_left 1
          · (intro w' hSw; (try dsimp only at hSw); go_simp; (try simp only [hw1, hw2, hbs, hwm])) <;> with_reducible rfl
          simp only [Act.put]
          refine wpAnyG_take (i := 1) (v := ?_) rfl (by decide +kernel) (by kernel_rfl) (by decide) (by kernel_rfl) (by kernel_rfl) (fun _ _ _ h => h) (Or.inl ⟨by kernel_rfl, ?_⟩) hHeld ?_
          rotate_left 1
          · (intro w' hSw; (try dsimp only at hSw); go_simp; (try simp only [hw1, hw2, hbs, hwm])) <;> with_reducible rfl
          simp only [Act.put]
          refine wpAnyG_take (i := 2) (v := ?_) rfl (by decide +kernel) (by kernel_rfl) (by decide) (by kernel_rfl) (by kernel_rfl) (fun _ _ _ h => h) (Or.inl ⟨by kernel_rfl, ?_⟩) hHeld ?_
          rotate_left 1
          · (intro w' hSw; (try dsimp only at hSw); go_simp; (try simp only [hw1, hw2, hbs, hwm])) <;> with_reducible rfl
          simp only [Act.put]
          refine wpAnyG_take (i := 3) (v := ?_) rfl (by decide +kernel) (by kernel_rfl) (by decide) (by kernel_rfl) (by kernel_rfl) (fun _ _ _ h => h) (Or.inl ⟨by kernel_rfl, ?_⟩) hHeld ?_
          rotate_left 1
          · (intro w' hSw; (try dsimp only at hSw); go_simp; (try simp only [hw1, hw2, hbs, hwm])) <;> with_reducible rfl
          simp only [Act.put]
          refine wpAnyG_take (i := 4) (v := ?_) rfl (by decide +kernel) (by kernel_rfl) (by decide) (by kernel_rfl) (by kernel_rfl) (fun _ _ _ h => h) (Or.inl ⟨by kernel_rfl, ?_⟩) hHeld ?_
          rotate_left 1
          · (intro w' hSw; (try dsimp only at hSw); go_simp; (try simp only [hw1, hw2, hbs, hwm])) <;> with_reducible rfl
          simp only [Act.put]
          refine wpAnyG_take (i := 5) (v := ?_) rfl (by decide +kernel) (by kernel_rfl) (by decide) (by kernel_rfl) (by kernel_rfl) (fun _ _ _ h => h) (Or.inl ⟨by kernel_rfl, ?_⟩) hHeld ?_
          rotate_left 1
          · (intro w' hSw; (try dsimp only at hSw); go_simp; (try simp only [hw1, hw2, hbs, hwm])) <;> with_reducible rfl
          simp only [Act.put]
          refine wpAnyG_take (i := 6) (v := ?_) rfl (by decide +kernel) (by kernel_rfl) (by decide) (by kernel_rfl) (by kernel_rfl) (fun _ _ _ h => h) (Or.inl ⟨by kernel_rfl, ?_⟩) hHeld ?_
          rotate_left 1
          · (intro w' hSw; (try dsimp only at hSw); go_simp; (try simp only [hw1, hw2, hbs, hwm])) <;> with_reducible rfl
          simp only [Act.put]
          refine wpAnyG_take (i := 7) (v := ?_) rfl (by decide +kernel) (by kernel_rfl) (by decide) (by kernel_rfl) (by kernel_rfl) (fun _ _ _ h => h) (Or.inl ⟨by kernel_rfl, ?_⟩) hHeld ?_
          rotate_left 1
          · (intro w' hSw; (try dsimp only at hSw); go_simp; (try simp only [hw1, hw2, hbs, hwm])) <;> with_reducible rfl
          simp only [Act.put]
          refine wpAnyG_take (i := 8) (v := ?_) rfl (by decide +kernel) (by kernel_rfl) (by decide) (by kernel_rfl) (by kernel_rfl) (fun _ _ _ h => h) (Or.inl ⟨by kernel_rfl, ?_⟩) hHeld ?_
          rotate_left 1
          · (intro w' hSw; (try dsimp only at hSw); go_simp; (try simp only [hw1, hw2, hbs, hwm])) <;> with_reducible rfl
          simp only [Act.put]
          refine wpAnyG_take (i := 9) (v := ?_) rfl (by decide +kernel) (by kernel_rfl) (by decide) (by kernel_rfl) (by kernel_rfl) (fun _ _ _ h => h) (Or.inl ⟨by kernel_rfl, ?_⟩) hHeld ?_
          rotate_left 1
          · (intro w' hSw; (try dsimp only at hSw); go_simp; (try simp only [hw1, hw2, hbs, hwm])) <;> with_reducible rfl
          simp only [Act.put]
          refine wpAnyG_take (i := 10) (v := ?_) rfl (by decide +kernel) (by kernel_rfl) (by decide) (by kernel_rfl) (by kernel_rfl) (fun _ _ _ h => h) (Or.inl ⟨by kernel_rfl, ?_⟩) hHeld ?_
          rotate_left 1
          · (intro w' hSw; (try dsimp only at hSw); go_simp; (try simp only [hw1, hw2, hbs, hwm])) <;> with_reducible rfl
          simp only [Act.put]
          refine wpAnyG_take (i := 11) (v := ?_) rfl (by decide +kernel) (by kernel_rfl) (by decide) (by kernel_rfl) (by kernel_rfl) (fun _ _ _ h => h) (Or.inl ⟨by kernel_rfl, ?_⟩) hHeld ?_
          rotate_left 1
          · (intro w' hSw; (try dsimp only at hSw); go_simp; (try simp only [hw1, hw2, hbs, hwm])) <;> with_reducible rfl
          simp only [Act.put]
          refine wpAnyG_one (i := 12) rfl (by kernel_rfl) rfl (fun K hK => ?_)
          go_simp
          refine hK.out _ _ (fun _ => mkS _ (by repeat (first | exact Ext.rfl' _ | refine Ext.alloc' ?_ _ | refine Ext.drew' ?_))) (fun _ => ?_)
          clear hK K
          refine wpAnyG_one (i := 13) rfl (by kernel_rfl) rfl (fun K hK => ?_)
          go_simp
          refine hK.out _ _ (fun h => absurd rfl h) (fun _ => ?_)
          clear hK K
          refine wpAnyG_done (by kernel_rfl) ?_ _
          clear hHeld mkS
          clear m2 p2 hx2 hf2
          go_wp2
          go_roundg (kk - (s + 1))
          case measure => omega
          case rel => exact ⟨s + 1, by omega, rfl, by go_num, by first | exact H6.out | exact H6.out.mono (Ext.rfl' _).drew' | exact (H6.out.mono (Ext.rfl' _).drew').mono (Ext.rfl' _).drew'⟩
        obtain rfl : s = kk := by omega
        have H8 := Lib.hid (show HNet W0 wr (liftM N s T ((v + 1) * s)) p (.slice a0 T c0) (.slice a1 0 c1) (.slice a2 T c2) by rw [Nat.succ_mul]; exact Hs.out)
        go_wp2
        go_roundg (N.ends.length - (v + 1))
        case measure => omega
        case rel => exact ⟨v + 1, by omega, rfl, by go_num, H8.out⟩
    obtain rfl : v = N.ends.length := by omega
    have hEq : liftM N kk T (N.ends.length * kk) = linkTo (liftB N kk (N.ends.length * kk)) (liftL N kk P) 0 := by rw [← HT.out, liftM_all]; rfl
    have hB := Hr.out
    rw [hEq] at hB
    have HB0 := Lib.hid hB
    obtain ⟨p0, p1, p2, -, -, -⟩ := row3_facts (row_ext RN.out HB0.out.ext)
    obtain ⟨qa, qb, qo, qc, rfl, hqa, hql, hqm, hqc⟩ := HP.out
    unfold maxLen at hqm
    have HTL := Lib.hid hS0.out.1
    clear hEq hB Hr
    go_wp2_with fail
    clear p0 p1 p2
    (with_reducible refine (neEdges_any (HN.out.ext (EW.out.trans' HB0.out.ext)) HG.out).mono ?_)
    rintro e WL ⟨ve, es, rfl, hx, ho, hf⟩
    have HZ0 := Lib.hid (HB0.out.zl hx (fun b hb => ⟨hf.2 b hb, ho.lt b hb⟩))
    obtain ⟨ra0, rb0, rc0, rfl, hrows⟩ := rowsKL ho
    have HRW := Lib.hid hrows
    obtain ⟨TE, hTE⟩ : ∃ TE, TE = (edgesTo N N.ends.length).length := ⟨_, rfl⟩
    have HTE := Lib.hid hTE
    have hE240 := (edgesTo_len N (good_rows HG.out) N.ends.length (Nat.le_refl _)).1
    rw [HTL.out, ← hTE]
    rw [HTL.out, ← hTE] at hql
    rw [← hTE] at hE240
    have HQA := Lib.hid hqa
    have HQC := Lib.hid hqc
    clear hx ho hf hrows hTE hqa hqc
    go_wp2_with fail
    go_loopg [62] TE (fun g' i wr => ∃ t : Nat, t ≤ TE ∧ g' = TE - t ∧ i = .int .i64 t ∧ Hid (HZL W0 WL wr (linkTo (liftB N kk (N.ends.length * kk)) (liftL N kk P) (t * kk)) p (.slice a0 T c0) (.slice a1 0 c1) (.slice a2 T c2) es))
    case atStart => exact ⟨0, Nat.zero_le _, rfl, rfl, by rw [Nat.zero_mul]; exact HZ0.out⟩
    case round =>
      obtain ⟨t, ht, rfl, rfl, Ht⟩ := hrel
      by_cases htt : t < TE
      case pos =>
        have htE : t < (edgesTo N N.ends.length).length := by rw [← HTE.out]; exact htt
        obtain rfl := HQA.out (by rw [HTL.out]; omega)
        obtain ⟨z2, hz2, hrow2⟩ := HQC.out t (by rw [HTL.out]; exact htE)
        obtain ⟨v, i, x, j, ho, hf, he⟩ := edgeL_at HG.out htE
        have hq : gr (edgesTo N N.ends.length) t = [(v : Int), (i : Int), (x : Int), (j : Int)] := by rw [he]; unfold quad; rw [ho.n1, ho.p1]
        obtain ⟨rfl, la, lc, hla⟩ := HRW.out t htE
        rw [hq] at hla
        simp only [List.length_cons, List.length_nil, Nat.zero_add] at hla
        have HLA := Lib.hid hla
        obtain ⟨r1, -⟩ := hla wr Ht.out.keep
        obtain ⟨pa', pb', po', pc', rfl, hpa', hpl', hpm', hpc'⟩ := hrow2
        unfold maxLen at hpm'
        have hPL : (gr P t).length = kk := (hS0.out.2 t htE).1.1
        rw [hPL] at hpa' hpl' hpc' hz2
        obtain rfl := hpa' (by omega)
        have HPC' := Lib.hid hpc'
        have HOT := Lib.hid ho
        have HFT := Lib.hid hf
        have HET := Lib.hid he
        have r2 := (EW.out.trans' Ht.out.ext).cell' hz2
        clear hz2 hq hpc' ho hf he hla
        go_wp2_with fail
        clear r1 r2
        go_loopg [72] kk (fun g' i wx => ∃ s : Nat, s ≤ kk ∧ g' = kk - s ∧ i = .int .i64 s ∧ Hid (HZL W0 WL wx (linkTo (liftB N kk (N.ends.length * kk)) (liftL N kk P) (t * kk + s)) p (.slice a0 T c0) (.slice a1 0 c1) (.slice a2 T c2) es))
        case atStart => exact ⟨0, Nat.zero_le _, rfl, rfl, Ht.out⟩
        case round =>
          obtain ⟨s, hs, rfl, rfl, Hs⟩ := hrel
          by_cases hst : s < kk
          case pos =>
            have hm := dmLt hst htE
            obtain ⟨t', s', v', i', x', j', c, A⟩ := pair_at HG.out hS0.out hm
            obtain ⟨rfl, rfl⟩ := dmEq hst A.hs A.hm
            obtain ⟨rfl, rfl⟩ := quad_inj (HET.out.symm.trans A.e)
            obtain ⟨rfl, rfl⟩ := oth_det HOT.out A.o
            obtain ⟨_, d0, rfl, -⟩ := HPC'.out s hst
            rw [A.p] at d0
            have d1 := (EW.out.trans' Hs.out.ext).cell' d0
            have hv40 := HOT.out.hv
            have hx40 := HOT.out.hw
            have hi6 := Nat.lt_of_lt_of_le HOT.out.hi (HD6.out v HOT.out.hv)
            have hj6 := Nat.lt_of_lt_of_le HOT.out.hj (HD6.out x HOT.out.hw)
            have hc40 := A.hc
            obtain ⟨-, hlk⟩ := pair_ports hm A
            obtain ⟨B1, hB1⟩ : ∃ B1, B1 = v * kk := ⟨_, rfl⟩
            obtain ⟨B2, hB2⟩ : ∃ B2, B2 = x * kk := ⟨_, rfl⟩
            have hb1 : B1 ≤ 1600 := by have := Nat.mul_le_mul (Nat.le_of_lt (Nat.lt_of_lt_of_le hv40 h40)) hk40; omega
            have hb2 : B2 ≤ 1600 := by have := Nat.mul_le_mul (Nat.le_of_lt (Nat.lt_of_lt_of_le hx40 h40)) hk40; omega
            have g1 : (v : Int) * (kk : Int) = (B1 : Int) := by rw [hB1]; exact (Int.natCast_mul _ _).symm
            have g2 : (x : Int) * (kk : Int) = (B2 : Int) := by rw [hB2]; exact (Int.natCast_mul _ _).symm
            have u1 := dmLt (T := N.ends.length) hst hv40
            have u2 := dmLt (T := N.ends.length) hc40 hx40
            have l1 := row_liftB hst hv40
            have l2 := row_liftB hc40 hx40
            rw [← hB1] at u1 l1 hlk
            rw [← hB2] at u2 l2 hlk
            obtain ⟨U1, hU1⟩ : ∃ U1, U1 = B1 + s := ⟨_, rfl⟩
            obtain ⟨U2, hU2⟩ : ∃ U2, U2 = B2 + c := ⟨_, rfl⟩
            rw [← hU1] at u1 l1 hlk
            rw [← hU2] at u2 l2 hlk
            have hw1 : IntKind.i64.wrap ((v : Int) * (kk : Int)) = (B1 : Int) := by rw [g1]; exact IntWalk.i64_in _ (by omega)
            have hw3 : IntKind.i64.wrap ((x : Int) * (kk : Int)) = (B2 : Int) := by rw [g2]; exact IntWalk.i64_in _ (by omega)
            have hbs : (B1 : Int) + (s : Int) = (U1 : Int) := by omega
            have hbt : (B2 : Int) + (c : Int) = (U2 : Int) := by omega
            have hw2 : IntKind.i64.wrap ((B1 : Int) + (s : Int)) = (U1 : Int) := by rw [hbs]; exact IntWalk.i64_in _ (by omega)
            have hw4 : IntKind.i64.wrap ((B2 : Int) + (c : Int)) = (U2 : Int) := by rw [hbt]; exact IntWalk.i64_in _ (by omega)
            have hwm : IntKind.i64.wrap (U1 : Int) = (U1 : Int) := IntWalk.i64_in _ (by omega)
            have hwn : IntKind.i64.wrap (U2 : Int) = (U2 : Int) := IntWalk.i64_in _ (by omega)
            have hU1T : U1 < T := by rw [HT.out]; exact u1
            have hU2T : U2 < T := by rw [HT.out]; exact u2
            obtain ⟨W4, hW4⟩ : ∃ W4 : World, W4 = wr := ⟨_, rfl⟩
            subst hW4
            obtain ⟨-, hIS⟩ := HLA.out W4 Hs.out.keep
            obtain ⟨la', rb, ro, lc', e, ha, hl, hmx, hcn⟩ := hIS
            simp only [Value.slice.injEq] at e
            obtain ⟨rfl, -, rfl⟩ := e
            obtain rfl := ha (by simp)
            unfold maxLen at hmx
            have cell : ∀ (n : Nat) (y : Nat), n < 4 → gi [(v : Int), (i : Int), (x : Int), (j : Int)] n = (y : Int) → W4.cell? ⟨rb, ro + n, none⟩ = some (.int .i64 y) := fun n y hn hy => by
              obtain ⟨z1, k1, k2, _⟩ := hcn n hn
              rw [hy] at k2
              rw [← k2]
              exact k1
            have q1 : W4.cell? ⟨rb, ro, none⟩ = some (.int .i64 (v : Int)) := cell 0 v (by omega) rfl
            have q2 := cell 1 i (by omega) rfl
            have q3 := cell 2 x (by omega) rfl
            have q4 := cell 3 j (by omega) rfl
            simp only [List.length_cons, List.length_nil, Nat.zero_add] at hl
            obtain ⟨LK, hLK⟩ : ∃ LK, LK = linkTo (liftB N kk (N.ends.length * kk)) (liftL N kk P) (t * kk + s) := ⟨_, rfl⟩
            have hlen : LK.ends.length = T := by rw [hLK, linkTo_len, liftB_len, HT.out]
            have hr1 : (gr LK.ends U1).length = (gr N.ends v).length := by rw [hLK, linkTo_row]; exact l1
            have hr2 : (gr LK.ends U2).length = (gr N.ends x).length := by rw [hLK, linkTo_row]; exact l2
            have HS0 := Lib.hid (show HZL W0 WL W4 LK p (.slice a0 T c0) (.slice a1 0 c1) (.slice a2 T c2) es by rw [hLK]; exact Hs.out)
            rw [← hLK] at hlk
            have HLK := Lib.hid hlk
            obtain ⟨gb, gc, q, qd, hv0, hc1, ⟨t1, t2, t3, t4⟩, hput⟩ := HS0.out.setE (u := U1) (j := i) (by rw [hlen]; exact hU1T) (by rw [hr1]; exact HOT.out.hi)
            rw [hlen] at hv0
            obtain ⟨rfl, rfl⟩ : a0 = some ⟨gb, 0, none⟩ ∧ c0 = gc := by simpa using hv0
            obtain ⟨qn, hqn⟩ : ∃ qn, qn = (gr LK.ends U1).length := ⟨_, rfl⟩
            have hqi : i < qn := by rw [hqn, hr1]; exact HOT.out.hi
            rw [← hqn] at hc1
            have H4 := Lib.hid (hput ((U2 : Int), (j : Int)) (by unfold inI64; omega) (by unfold inI64; omega))
            obtain ⟨m0, -, -, -, -, -⟩ := row3_facts HS0.out.box
            have mkS : ∀ w' : World, Ext W4 w' → w'.cell? ⟨p, 0, none⟩ = some (.slice (some ⟨gb, 0, none⟩) T c0) ∧ w'.cell? ⟨gb, U1, none⟩ = some (.slice (some ⟨q, 0, none⟩) qn qd) ∧ w'.cell? ⟨rb, ro, none⟩ = some (.int .i64 (v : Int)) ∧ w'.cell? ⟨rb, ro + 1, none⟩ = some (.int .i64 (i : Int)) ∧ w'.cell? ⟨rb, ro + 2, none⟩ = some (.int .i64 (x : Int)) ∧ w'.cell? ⟨rb, ro + 3, none⟩ = some (.int .i64 (j : Int)) := fun w' h => ⟨h.cell' m0, h.cell' hc1, h.cell' q1, h.cell' q2, h.cell' q3, h.cell' q4⟩
            have HHL := Lib.hid (And.intro hlen (And.intro hr1 hr2))
            clear d0 hm hB1 hB2 hU1 hU2 g1 g2 A hPL cell hcn ha hv0 hput hLK hlk hlen hr1 hr2 l1 l2 u1 u2 hqn
            go_upto_region 17 with fail
            clear d1
            refine wp_region_gate (n := 26) (S := fun w' => w'.cell? ⟨p, 0, none⟩ = some (.slice (some ⟨gb, 0, none⟩) T c0) ∧ w'.cell? ⟨gb, U1, none⟩ = some (.slice (some ⟨q, 0, none⟩) qn qd) ∧ w'.cell? ⟨rb, ro, none⟩ = some (.int .i64 (v : Int)) ∧ w'.cell? ⟨rb, ro + 1, none⟩ = some (.int .i64 (i : Int)) ∧ w'.cell? ⟨rb, ro + 2, none⟩ = some (.int .i64 (x : Int)) ∧ w'.cell? ⟨rb, ro + 3, none⟩ = some (.int .i64 (j : Int))) (by kernel_rfl) (mkS _ (Ext.rfl' W4).drew') (fun hHeld => ?_)
            refine wpAnyG_take (i := 0) (v := ?_) rfl (by decide +kernel) (by kernel_rfl) (by decide) (by kernel_rfl) (by kernel_rfl) (fun _ _ _ h => h) (Or.inl ⟨by kernel_rfl, ?_⟩) hHeld ?_
            rotate_left 1
            · (intro w' hSw; (try dsimp only at hSw); go_simp; (try simp only [hw1, hw2, hw3, hw4, hbs, hbt, hwm, hwn])) <;> with_reducible rfl
            simp only [Act.put]
            refine wpAnyG_take (i := 1) (v := ?_) rfl (by decide +kernel) (by kernel_rfl) (by decide) (by kernel_rfl) (by kernel_rfl) (fun _ _ _ h => h) (Or.inl ⟨by kernel_rfl, ?_⟩) hHeld ?_
            rotate_left 1
            · (intro w' hSw; (try dsimp only at hSw); go_simp; (try simp only [hw1, hw2, hw3, hw4, hbs, hbt, hwm, hwn])) <;> with_reducible rfl
            simp only [Act.put]
            refine wpAnyG_take (i := 2) (v := ?_) rfl (by decide +kernel) (by kernel_rfl) (by decide) (by kernel_rfl) (by kernel_rfl) (fun _ _ _ h => h) (Or.inl ⟨by kernel_rfl, ?_⟩) hHeld ?_
            rotate_left 1
            · (intro w' hSw; (try dsimp only at hSw); go_simp; (try simp only [hw1, hw2, hw3, hw4, hbs, hbt, hwm, hwn])) <;> with_reducible rfl
            simp only [Act.put]
            refine wpAnyG_take (i := 3) (v := ?_) rfl (by decide +kernel) (by kernel_rfl) (by decide) (by kernel_rfl) (by kernel_rfl) (fun _ _ _ h => h) (Or.inl ⟨by kernel_rfl, ?_⟩) hHeld ?_
            rotate_left 1
            · (intro w' hSw; (try dsimp only at hSw); go_simp; (try simp only [hw1, hw2, hw3, hw4, hbs, hbt, hwm, hwn])) <;> with_reducible rfl
            simp only [Act.put]
            refine wpAnyG_take (i := 4) (v := ?_) rfl (by decide +kernel) (by kernel_rfl) (by decide) (by kernel_rfl) (by kernel_rfl) (fun _ _ _ h => h) (Or.inl ⟨by kernel_rfl, ?_⟩) hHeld ?_
            rotate_left 1
            · (intro w' hSw; (try dsimp only at hSw); go_simp; (try simp only [hw1, hw2, hw3, hw4, hbs, hbt, hwm, hwn])) <;> with_reducible rfl
            simp only [Act.put]
            refine wpAnyG_take (i := 5) (v := ?_) rfl (by decide +kernel) (by kernel_rfl) (by decide) (by kernel_rfl) (by kernel_rfl) (fun _ _ _ h => h) (Or.inl ⟨by kernel_rfl, ?_⟩) hHeld ?_
            rotate_left 1
            · (intro w' hSw; (try dsimp only at hSw); go_simp; (try simp only [hw1, hw2, hw3, hw4, hbs, hbt, hwm, hwn])) <;> with_reducible rfl
            simp only [Act.put]
            refine wpAnyG_take (i := 6) (v := ?_) rfl (by decide +kernel) (by kernel_rfl) (by decide) (by kernel_rfl) (by kernel_rfl) (fun _ _ _ h => h) (Or.inl ⟨by kernel_rfl, ?_⟩) hHeld ?_
            rotate_left 1
            · (intro w' hSw; (try dsimp only at hSw); go_simp; (try simp only [hw1, hw2, hw3, hw4, hbs, hbt, hwm, hwn])) <;> with_reducible rfl
            simp only [Act.put]
            refine wpAnyG_take (i := 7) (v := ?_) rfl (by decide +kernel) (by kernel_rfl) (by decide) (by kernel_rfl) (by kernel_rfl) (fun _ _ _ h => h) (Or.inl ⟨by kernel_rfl, ?_⟩) hHeld ?_
            rotate_left 1
            · (intro w' hSw; (try dsimp only at hSw); go_simp; (try simp only [hw1, hw2, hw3, hw4, hbs, hbt, hwm, hwn])) <;> with_reducible rfl
            simp only [Act.put]
            refine wpAnyG_take (i := 8) (v := ?_) rfl (by decide +kernel) (by kernel_rfl) (by decide) (by kernel_rfl) (by kernel_rfl) (fun _ _ _ h => h) (Or.inl ⟨by kernel_rfl, ?_⟩) hHeld ?_
            rotate_left 1
            · (intro w' hSw; (try dsimp only at hSw); go_simp; (try simp only [hw1, hw2, hw3, hw4, hbs, hbt, hwm, hwn])) <;> with_reducible rfl
            simp only [Act.put]
            refine wpAnyG_take (i := 9) (v := ?_) rfl (by decide +kernel) (by kernel_rfl) (by decide) (by kernel_rfl) (by kernel_rfl) (fun _ _ _ h => h) (Or.inl ⟨by kernel_rfl, ?_⟩) hHeld ?_
            rotate_left 1
            · (intro w' hSw; (try dsimp only at hSw); go_simp; (try simp only [hw1, hw2, hw3, hw4, hbs, hbt, hwm, hwn])) <;> with_reducible rfl
            simp only [Act.put]
            refine wpAnyG_take (i := 10) (v := ?_) rfl (by decide +kernel) (by kernel_rfl) (by decide) (by kernel_rfl) (by kernel_rfl) (fun _ _ _ h => h) (Or.inl ⟨by kernel_rfl, ?_⟩) hHeld ?_
            rotate_left 1
            · (intro w' hSw; (try dsimp only at hSw); go_simp; (try simp only [hw1, hw2, hw3, hw4, hbs, hbt, hwm, hwn])) <;> with_reducible rfl
            simp only [Act.put]
            refine wpAnyG_take (i := 11) (v := ?_) rfl (by decide +kernel) (by kernel_rfl) (by decide) (by kernel_rfl) (by kernel_rfl) (fun _ _ _ h => h) (Or.inl ⟨by kernel_rfl, ?_⟩) hHeld ?_
            rotate_left 1
            · (intro w' hSw; (try dsimp only at hSw); go_simp; (try simp only [hw1, hw2, hw3, hw4, hbs, hbt, hwm, hwn])) <;> with_reducible rfl
            simp only [Act.put]
            refine wpAnyG_take (i := 12) (v := ?_) rfl (by decide +kernel) (by kernel_rfl) (by decide) (by kernel_rfl) (by kernel_rfl) (fun _ _ _ h => h) (Or.inl ⟨by kernel_rfl, ?_⟩) hHeld ?_
            rotate_left 1
            · (intro w' hSw; (try dsimp only at hSw); go_simp; (try simp only [hw1, hw2, hw3, hw4, hbs, hbt, hwm, hwn])) <;> with_reducible rfl
            simp only [Act.put]
            refine wpAnyG_take (i := 13) (v := ?_) rfl (by decide +kernel) (by kernel_rfl) (by decide) (by kernel_rfl) (by kernel_rfl) (fun _ _ _ h => h) (Or.inl ⟨by kernel_rfl, ?_⟩) hHeld ?_
            rotate_left 1
            · (intro w' hSw; (try dsimp only at hSw); go_simp; (try simp only [hw1, hw2, hw3, hw4, hbs, hbt, hwm, hwn])) <;> with_reducible rfl
            simp only [Act.put]
            refine wpAnyG_take (i := 14) (v := ?_) rfl (by decide +kernel) (by kernel_rfl) (by decide) (by kernel_rfl) (by kernel_rfl) (fun _ _ _ h => h) (Or.inl ⟨by kernel_rfl, ?_⟩) hHeld ?_
            rotate_left 1
            · (intro w' hSw; (try dsimp only at hSw); go_simp; (try simp only [hw1, hw2, hw3, hw4, hbs, hbt, hwm, hwn])) <;> with_reducible rfl
            simp only [Act.put]
            refine wpAnyG_take (i := 15) (v := ?_) rfl (by decide +kernel) (by kernel_rfl) (by decide) (by kernel_rfl) (by kernel_rfl) (fun _ _ _ h => h) (Or.inl ⟨by kernel_rfl, ?_⟩) hHeld ?_
            rotate_left 1
            · (intro w' hSw; (try dsimp only at hSw); go_simp; (try simp only [hw1, hw2, hw3, hw4, hbs, hbt, hwm, hwn])) <;> with_reducible rfl
            simp only [Act.put]
            refine wpAnyG_take (i := 16) (v := ?_) rfl (by decide +kernel) (by kernel_rfl) (by decide) (by kernel_rfl) (by kernel_rfl) (fun _ _ _ h => h) (Or.inl ⟨by kernel_rfl, ?_⟩) hHeld ?_
            rotate_left 1
            · (intro w' hSw; (try dsimp only at hSw); go_simp; (try simp only [hw1, hw2, hw3, hw4, hbs, hbt, hwm, hwn])) <;> with_reducible rfl
            simp only [Act.put]
            refine wpAnyG_take (i := 17) (v := ?_) rfl (by decide +kernel) (by kernel_rfl) (by decide) (by kernel_rfl) (by kernel_rfl) (fun _ _ _ h => h) (Or.inl ⟨by kernel_rfl, ?_⟩) hHeld ?_
            rotate_left 1
            · (intro w' hSw; (try dsimp only at hSw); go_simp; (try simp only [hw1, hw2, hw3, hw4, hbs, hbt, hwm, hwn])) <;> with_reducible rfl
            simp only [Act.put]
            refine wpAnyG_take (i := 18) (v := ?_) rfl (by decide +kernel) (by kernel_rfl) (by decide) (by kernel_rfl) (by kernel_rfl) (fun _ _ _ h => h) (Or.inl ⟨by kernel_rfl, ?_⟩) hHeld ?_
            rotate_left 1
            · (intro w' hSw; (try dsimp only at hSw); go_simp; (try simp only [hw1, hw2, hw3, hw4, hbs, hbt, hwm, hwn])) <;> with_reducible rfl
            simp only [Act.put]
            refine wpAnyG_take (i := 19) (v := ?_) rfl (by decide +kernel) (by kernel_rfl) (by decide) (by kernel_rfl) (by kernel_rfl) (fun _ _ _ h => h) (Or.inl ⟨by kernel_rfl, ?_⟩) hHeld ?_
            rotate_left 1
            · (intro w' hSw; (try dsimp only at hSw); go_simp; (try simp only [hw1, hw2, hw3, hw4, hbs, hbt, hwm, hwn])) <;> with_reducible rfl
            simp only [Act.put]
            refine wpAnyG_take (i := 20) (v := ?_) rfl (by decide +kernel) (by kernel_rfl) (by decide) (by kernel_rfl) (by kernel_rfl) (fun _ _ _ h => h) (Or.inl ⟨by kernel_rfl, ?_⟩) hHeld ?_
            rotate_left 1
            · (intro w' hSw; (try dsimp only at hSw); go_simp; (try simp only [hw1, hw2, hw3, hw4, hbs, hbt, hwm, hwn])) <;> with_reducible rfl
            simp only [Act.put]
            refine wpAnyG_take (i := 21) (v := ?_) rfl (by decide +kernel) (by kernel_rfl) (by decide) (by kernel_rfl) (by kernel_rfl) (fun _ _ _ h => h) (Or.inl ⟨by kernel_rfl, ?_⟩) hHeld ?_
            rotate_left 1
            · (intro w' hSw; (try dsimp only at hSw); go_simp; (try simp only [hw1, hw2, hw3, hw4, hbs, hbt, hwm, hwn])) <;> with_reducible rfl
            simp only [Act.put]
            refine wpAnyG_take (i := 22) (v := ?_) rfl (by decide +kernel) (by kernel_rfl) (by decide) (by kernel_rfl) (by kernel_rfl) (fun _ _ _ h => h) (Or.inl ⟨by kernel_rfl, ?_⟩) hHeld ?_
            rotate_left 1
            · (intro w' hSw; (try dsimp only at hSw); go_simp; (try simp only [hw1, hw2, hw3, hw4, hbs, hbt, hwm, hwn])) <;> with_reducible rfl
            simp only [Act.put]
            refine wpAnyG_take (i := 23) (v := ?_) rfl (by decide +kernel) (by kernel_rfl) (by decide) (by kernel_rfl) (by kernel_rfl) (fun _ _ _ h => h) (Or.inl ⟨by kernel_rfl, ?_⟩) hHeld ?_
            rotate_left 1
            · (intro w' hSw; (try dsimp only at hSw); go_simp; (try simp only [hw1, hw2, hw3, hw4, hbs, hbt, hwm, hwn])) <;> with_reducible rfl
            simp only [Act.put]
            refine wpAnyG_take (i := 24) (v := ?_) rfl (by decide +kernel) (by kernel_rfl) (by decide) (by kernel_rfl) (by kernel_rfl) (fun _ _ _ h => h) (Or.inl ⟨by kernel_rfl, ?_⟩) hHeld ?_
            rotate_left 1
            · (intro w' hSw; (try dsimp only at hSw); go_simp; (try simp only [hw1, hw2, hw3, hw4, hbs, hbt, hwm, hwn])) <;> with_reducible rfl
            simp only [Act.put]
            refine wpAnyG_one (i := 25) rfl (by kernel_rfl) rfl (fun K hK => ?_)
            go_simp
            refine hK.out _ _ (fun _ => hHeld) (fun _ => ?_)
            clear hK K
            refine wpAnyG_one (i := 26) rfl (by kernel_rfl) rfl (fun K hK => ?_)
            go_simp
            refine hK.out _ _ (fun h => absurd rfl h) (fun _ => ?_)
            clear hK K
            refine wpAnyG_done (by kernel_rfl) ?_ _
            clear hHeld mkS
            obtain ⟨W6, hW6⟩ : ∃ W6 : World, W6 = ((W4.setCell ⟨q, i * 2, none⟩ (.int .i64 (U2 : Int))).setCell ⟨q, i * 2 + 1, none⟩ (.int .i64 (j : Int))).drew := ⟨_, rfl⟩
            have HS6 := Lib.hid (show HZL W0 WL W6 (setEnd LK U1 i ((U2 : Int), (j : Int))) p (.slice (some ⟨gb, 0, none⟩) T c0) (.slice a1 0 c1) (.slice a2 T c2) es by rw [hW6]; exact H4.out.mono (Ext.rfl' _).drew')
            rw [← hW6]
            clear hW6 H4 m0 hc1 q1 q2 q3 q4 t1 t2 t3 t4 hl hmx
            obtain ⟨-, hIS⟩ := HLA.out W6 HS6.out.keep
            obtain ⟨la', rb', ro', lc', e, ha, hl, hmx, hcn⟩ := hIS
            simp only [Value.slice.injEq] at e
            obtain ⟨rfl, -, rfl⟩ := e
            obtain ⟨rfl, rfl⟩ : rb = rb' ∧ ro = ro' := by simpa using ha (by simp)
            unfold maxLen at hmx
            have cell : ∀ (n : Nat) (y : Nat), n < 4 → gi [(v : Int), (i : Int), (x : Int), (j : Int)] n = (y : Int) → W6.cell? ⟨rb, ro + n, none⟩ = some (.int .i64 y) := fun n y hn hy => by
              obtain ⟨z1, k1, k2, _⟩ := hcn n hn
              rw [hy] at k2
              rw [← k2]
              exact k1
            have q1 : W6.cell? ⟨rb, ro, none⟩ = some (.int .i64 (v : Int)) := cell 0 v (by omega) rfl
            have q2 := cell 1 i (by omega) rfl
            have q3 := cell 2 x (by omega) rfl
            have q4 := cell 3 j (by omega) rfl
            simp only [List.length_cons, List.length_nil, Nat.zero_add] at hl
            obtain ⟨gb', gc', kb, kd, hv0, hc1, ⟨t1, t2, t3, t4⟩, hput⟩ := HS6.out.setE (u := U2) (j := j) (by rw [setEnd_len, HHL.out.1]; exact hU2T) (by rw [setEnd_row, HHL.out.2.2]; exact HOT.out.hj)
            rw [setEnd_len, HHL.out.1] at hv0
            obtain ⟨rfl, rfl⟩ : gb = gb' ∧ c0 = gc' := by simpa using hv0
            rw [setEnd_row] at hc1
            obtain ⟨kn, hkn⟩ : ∃ kn, kn = (gr LK.ends U2).length := ⟨_, rfl⟩
            have hki : j < kn := by rw [hkn, HHL.out.2.2]; exact HOT.out.hj
            rw [← hkn] at hc1
            have HNX := Lib.hid (show setEnd (setEnd LK U1 i ((U2 : Int), (j : Int))) U2 j ((U1 : Int), (i : Int)) = linkTo (liftB N kk (N.ends.length * kk)) (liftL N kk P) (t * kk + (s + 1)) from HLK.out)
            have H5 := Lib.hid (hput ((U1 : Int), (i : Int)) (by unfold inI64; omega) (by unfold inI64; omega))
            rw [HNX.out] at H5
            obtain ⟨m0, -, -, -, -, -⟩ := row3_facts HS6.out.box
            have mkS : ∀ w' : World, Ext W6 w' → w'.cell? ⟨p, 0, none⟩ = some (.slice (some ⟨gb, 0, none⟩) T c0) ∧ w'.cell? ⟨gb, U2, none⟩ = some (.slice (some ⟨kb, 0, none⟩) kn kd) ∧ w'.cell? ⟨rb, ro, none⟩ = some (.int .i64 (v : Int)) ∧ w'.cell? ⟨rb, ro + 1, none⟩ = some (.int .i64 (i : Int)) ∧ w'.cell? ⟨rb, ro + 2, none⟩ = some (.int .i64 (x : Int)) ∧ w'.cell? ⟨rb, ro + 3, none⟩ = some (.int .i64 (j : Int)) := fun w' h => ⟨h.cell' m0, h.cell' hc1, h.cell' q1, h.cell' q2, h.cell' q3, h.cell' q4⟩
            clear cell hcn ha hv0 hput hkn
            go_upto_region 18 with fail
            refine wp_region_gate (n := 26) (S := fun w' => w'.cell? ⟨p, 0, none⟩ = some (.slice (some ⟨gb, 0, none⟩) T c0) ∧ w'.cell? ⟨gb, U2, none⟩ = some (.slice (some ⟨kb, 0, none⟩) kn kd) ∧ w'.cell? ⟨rb, ro, none⟩ = some (.int .i64 (v : Int)) ∧ w'.cell? ⟨rb, ro + 1, none⟩ = some (.int .i64 (i : Int)) ∧ w'.cell? ⟨rb, ro + 2, none⟩ = some (.int .i64 (x : Int)) ∧ w'.cell? ⟨rb, ro + 3, none⟩ = some (.int .i64 (j : Int))) (by kernel_rfl) (mkS _ (Ext.rfl' W6).drew') (fun hHeld => ?_)
            refine wpAnyG_take (i := 0) (v := ?_) rfl (by decide +kernel) (by kernel_rfl) (by decide) (by kernel_rfl) (by kernel_rfl) (fun _ _ _ h => h) (Or.inl ⟨by kernel_rfl, ?_⟩) hHeld ?_
            rotate_left 1
            · (intro w' hSw; (try dsimp only at hSw); go_simp; (try simp only [hw1, hw2, hw3, hw4, hbs, hbt, hwm, hwn])) <;> with_reducible rfl
            simp only [Act.put]
            refine wpAnyG_take (i := 1) (v := ?_) rfl (by decide +kernel) (by kernel_rfl) (by decide) (by kernel_rfl) (by kernel_rfl) (fun _ _ _ h => h) (Or.inl ⟨by kernel_rfl, ?_⟩) hHeld ?_
            rotate_left 1
            · (intro w' hSw; (try dsimp only at hSw); go_simp; (try simp only [hw1, hw2, hw3, hw4, hbs, hbt, hwm, hwn])) <;> with_reducible rfl
            simp only [Act.put]
            refine wpAnyG_take (i := 2) (v := ?_) rfl (by decide +kernel) (by kernel_rfl) (by decide) (by kernel_rfl) (by kernel_rfl) (fun _ _ _ h => h) (Or.inl ⟨by kernel_rfl, ?_⟩) hHeld ?_
            rotate_left 1
            · (intro w' hSw; (try dsimp only at hSw); go_simp; (try simp only [hw1, hw2, hw3, hw4, hbs, hbt, hwm, hwn])) <;> with_reducible rfl
            simp only [Act.put]
            refine wpAnyG_take (i := 3) (v := ?_) rfl (by decide +kernel) (by kernel_rfl) (by decide) (by kernel_rfl) (by kernel_rfl) (fun _ _ _ h => h) (Or.inl ⟨by kernel_rfl, ?_⟩) hHeld ?_
            rotate_left 1
            · (intro w' hSw; (try dsimp only at hSw); go_simp; (try simp only [hw1, hw2, hw3, hw4, hbs, hbt, hwm, hwn])) <;> with_reducible rfl
            simp only [Act.put]
            refine wpAnyG_take (i := 4) (v := ?_) rfl (by decide +kernel) (by kernel_rfl) (by decide) (by kernel_rfl) (by kernel_rfl) (fun _ _ _ h => h) (Or.inl ⟨by kernel_rfl, ?_⟩) hHeld ?_
            rotate_left 1
            · (intro w' hSw; (try dsimp only at hSw); go_simp; (try simp only [hw1, hw2, hw3, hw4, hbs, hbt, hwm, hwn])) <;> with_reducible rfl
            simp only [Act.put]
            refine wpAnyG_take (i := 5) (v := ?_) rfl (by decide +kernel) (by kernel_rfl) (by decide) (by kernel_rfl) (by kernel_rfl) (fun _ _ _ h => h) (Or.inl ⟨by kernel_rfl, ?_⟩) hHeld ?_
            rotate_left 1
            · (intro w' hSw; (try dsimp only at hSw); go_simp; (try simp only [hw1, hw2, hw3, hw4, hbs, hbt, hwm, hwn])) <;> with_reducible rfl
            simp only [Act.put]
            refine wpAnyG_take (i := 6) (v := ?_) rfl (by decide +kernel) (by kernel_rfl) (by decide) (by kernel_rfl) (by kernel_rfl) (fun _ _ _ h => h) (Or.inl ⟨by kernel_rfl, ?_⟩) hHeld ?_
            rotate_left 1
            · (intro w' hSw; (try dsimp only at hSw); go_simp; (try simp only [hw1, hw2, hw3, hw4, hbs, hbt, hwm, hwn])) <;> with_reducible rfl
            simp only [Act.put]
            refine wpAnyG_take (i := 7) (v := ?_) rfl (by decide +kernel) (by kernel_rfl) (by decide) (by kernel_rfl) (by kernel_rfl) (fun _ _ _ h => h) (Or.inl ⟨by kernel_rfl, ?_⟩) hHeld ?_
            rotate_left 1
            · (intro w' hSw; (try dsimp only at hSw); go_simp; (try simp only [hw1, hw2, hw3, hw4, hbs, hbt, hwm, hwn])) <;> with_reducible rfl
            simp only [Act.put]
            refine wpAnyG_take (i := 8) (v := ?_) rfl (by decide +kernel) (by kernel_rfl) (by decide) (by kernel_rfl) (by kernel_rfl) (fun _ _ _ h => h) (Or.inl ⟨by kernel_rfl, ?_⟩) hHeld ?_
            rotate_left 1
            · (intro w' hSw; (try dsimp only at hSw); go_simp; (try simp only [hw1, hw2, hw3, hw4, hbs, hbt, hwm, hwn])) <;> with_reducible rfl
            simp only [Act.put]
            refine wpAnyG_take (i := 9) (v := ?_) rfl (by decide +kernel) (by kernel_rfl) (by decide) (by kernel_rfl) (by kernel_rfl) (fun _ _ _ h => h) (Or.inl ⟨by kernel_rfl, ?_⟩) hHeld ?_
            rotate_left 1
            · (intro w' hSw; (try dsimp only at hSw); go_simp; (try simp only [hw1, hw2, hw3, hw4, hbs, hbt, hwm, hwn])) <;> with_reducible rfl
            simp only [Act.put]
            refine wpAnyG_take (i := 10) (v := ?_) rfl (by decide +kernel) (by kernel_rfl) (by decide) (by kernel_rfl) (by kernel_rfl) (fun _ _ _ h => h) (Or.inl ⟨by kernel_rfl, ?_⟩) hHeld ?_
            rotate_left 1
            · (intro w' hSw; (try dsimp only at hSw); go_simp; (try simp only [hw1, hw2, hw3, hw4, hbs, hbt, hwm, hwn])) <;> with_reducible rfl
            simp only [Act.put]
            refine wpAnyG_take (i := 11) (v := ?_) rfl (by decide +kernel) (by kernel_rfl) (by decide) (by kernel_rfl) (by kernel_rfl) (fun _ _ _ h => h) (Or.inl ⟨by kernel_rfl, ?_⟩) hHeld ?_
            rotate_left 1
            · (intro w' hSw; (try dsimp only at hSw); go_simp; (try simp only [hw1, hw2, hw3, hw4, hbs, hbt, hwm, hwn])) <;> with_reducible rfl
            simp only [Act.put]
            refine wpAnyG_take (i := 12) (v := ?_) rfl (by decide +kernel) (by kernel_rfl) (by decide) (by kernel_rfl) (by kernel_rfl) (fun _ _ _ h => h) (Or.inl ⟨by kernel_rfl, ?_⟩) hHeld ?_
            rotate_left 1
            · (intro w' hSw; (try dsimp only at hSw); go_simp; (try simp only [hw1, hw2, hw3, hw4, hbs, hbt, hwm, hwn])) <;> with_reducible rfl
            simp only [Act.put]
            refine wpAnyG_take (i := 13) (v := ?_) rfl (by decide +kernel) (by kernel_rfl) (by decide) (by kernel_rfl) (by kernel_rfl) (fun _ _ _ h => h) (Or.inl ⟨by kernel_rfl, ?_⟩) hHeld ?_
            rotate_left 1
            · (intro w' hSw; (try dsimp only at hSw); go_simp; (try simp only [hw1, hw2, hw3, hw4, hbs, hbt, hwm, hwn])) <;> with_reducible rfl
            simp only [Act.put]
            refine wpAnyG_take (i := 14) (v := ?_) rfl (by decide +kernel) (by kernel_rfl) (by decide) (by kernel_rfl) (by kernel_rfl) (fun _ _ _ h => h) (Or.inl ⟨by kernel_rfl, ?_⟩) hHeld ?_
            rotate_left 1
            · (intro w' hSw; (try dsimp only at hSw); go_simp; (try simp only [hw1, hw2, hw3, hw4, hbs, hbt, hwm, hwn])) <;> with_reducible rfl
            simp only [Act.put]
            refine wpAnyG_take (i := 15) (v := ?_) rfl (by decide +kernel) (by kernel_rfl) (by decide) (by kernel_rfl) (by kernel_rfl) (fun _ _ _ h => h) (Or.inl ⟨by kernel_rfl, ?_⟩) hHeld ?_
            rotate_left 1
            · (intro w' hSw; (try dsimp only at hSw); go_simp; (try simp only [hw1, hw2, hw3, hw4, hbs, hbt, hwm, hwn])) <;> with_reducible rfl
            simp only [Act.put]
            refine wpAnyG_take (i := 16) (v := ?_) rfl (by decide +kernel) (by kernel_rfl) (by decide) (by kernel_rfl) (by kernel_rfl) (fun _ _ _ h => h) (Or.inl ⟨by kernel_rfl, ?_⟩) hHeld ?_
            rotate_left 1
            · (intro w' hSw; (try dsimp only at hSw); go_simp; (try simp only [hw1, hw2, hw3, hw4, hbs, hbt, hwm, hwn])) <;> with_reducible rfl
            simp only [Act.put]
            refine wpAnyG_take (i := 17) (v := ?_) rfl (by decide +kernel) (by kernel_rfl) (by decide) (by kernel_rfl) (by kernel_rfl) (fun _ _ _ h => h) (Or.inl ⟨by kernel_rfl, ?_⟩) hHeld ?_
            rotate_left 1
            · (intro w' hSw; (try dsimp only at hSw); go_simp; (try simp only [hw1, hw2, hw3, hw4, hbs, hbt, hwm, hwn])) <;> with_reducible rfl
            simp only [Act.put]
            refine wpAnyG_take (i := 18) (v := ?_) rfl (by decide +kernel) (by kernel_rfl) (by decide) (by kernel_rfl) (by kernel_rfl) (fun _ _ _ h => h) (Or.inl ⟨by kernel_rfl, ?_⟩) hHeld ?_
            rotate_left 1
            · (intro w' hSw; (try dsimp only at hSw); go_simp; (try simp only [hw1, hw2, hw3, hw4, hbs, hbt, hwm, hwn])) <;> with_reducible rfl
            simp only [Act.put]
            refine wpAnyG_take (i := 19) (v := ?_) rfl (by decide +kernel) (by kernel_rfl) (by decide) (by kernel_rfl) (by kernel_rfl) (fun _ _ _ h => h) (Or.inl ⟨by kernel_rfl, ?_⟩) hHeld ?_
            rotate_left 1
            · (intro w' hSw; (try dsimp only at hSw); go_simp; (try simp only [hw1, hw2, hw3, hw4, hbs, hbt, hwm, hwn])) <;> with_reducible rfl
            simp only [Act.put]
            refine wpAnyG_take (i := 20) (v := ?_) rfl (by decide +kernel) (by kernel_rfl) (by decide) (by kernel_rfl) (by kernel_rfl) (fun _ _ _ h => h) (Or.inl ⟨by kernel_rfl, ?_⟩) hHeld ?_
            rotate_left 1
            · (intro w' hSw; (try dsimp only at hSw); go_simp; (try simp only [hw1, hw2, hw3, hw4, hbs, hbt, hwm, hwn])) <;> with_reducible rfl
            simp only [Act.put]
            refine wpAnyG_take (i := 21) (v := ?_) rfl (by decide +kernel) (by kernel_rfl) (by decide) (by kernel_rfl) (by kernel_rfl) (fun _ _ _ h => h) (Or.inl ⟨by kernel_rfl, ?_⟩) hHeld ?_
            rotate_left 1
            · (intro w' hSw; (try dsimp only at hSw); go_simp; (try simp only [hw1, hw2, hw3, hw4, hbs, hbt, hwm, hwn])) <;> with_reducible rfl
            simp only [Act.put]
            refine wpAnyG_take (i := 22) (v := ?_) rfl (by decide +kernel) (by kernel_rfl) (by decide) (by kernel_rfl) (by kernel_rfl) (fun _ _ _ h => h) (Or.inl ⟨by kernel_rfl, ?_⟩) hHeld ?_
            rotate_left 1
            · (intro w' hSw; (try dsimp only at hSw); go_simp; (try simp only [hw1, hw2, hw3, hw4, hbs, hbt, hwm, hwn])) <;> with_reducible rfl
            simp only [Act.put]
            refine wpAnyG_take (i := 23) (v := ?_) rfl (by decide +kernel) (by kernel_rfl) (by decide) (by kernel_rfl) (by kernel_rfl) (fun _ _ _ h => h) (Or.inl ⟨by kernel_rfl, ?_⟩) hHeld ?_
            rotate_left 1
            · (intro w' hSw; (try dsimp only at hSw); go_simp; (try simp only [hw1, hw2, hw3, hw4, hbs, hbt, hwm, hwn])) <;> with_reducible rfl
            simp only [Act.put]
            refine wpAnyG_take (i := 24) (v := ?_) rfl (by decide +kernel) (by kernel_rfl) (by decide) (by kernel_rfl) (by kernel_rfl) (fun _ _ _ h => h) (Or.inl ⟨by kernel_rfl, ?_⟩) hHeld ?_
            rotate_left 1
            · (intro w' hSw; (try dsimp only at hSw); go_simp; (try simp only [hw1, hw2, hw3, hw4, hbs, hbt, hwm, hwn])) <;> with_reducible rfl
            simp only [Act.put]
            refine wpAnyG_one (i := 25) rfl (by kernel_rfl) rfl (fun K hK => ?_)
            go_simp
            refine hK.out _ _ (fun _ => hHeld) (fun _ => ?_)
            clear hK K
            refine wpAnyG_one (i := 26) rfl (by kernel_rfl) rfl (fun K hK => ?_)
            go_simp
            refine hK.out _ _ (fun h => absurd rfl h) (fun _ => ?_)
            clear hK K
            refine wpAnyG_done (by kernel_rfl) ?_ _
            clear hHeld mkS
            clear m0 hc1 q1 q2 q3 q4 t1 t2 t3 t4
            go_wp2
            go_roundg (kk - (s + 1))
            case measure => omega
            case rel => exact ⟨s + 1, by omega, rfl, by go_num, by first | exact H5.out | exact H5.out.mono (Ext.rfl' _).drew' | exact (H5.out.mono (Ext.rfl' _).drew').mono (Ext.rfl' _).drew'⟩
          obtain rfl : s = kk := by omega
          have H8 := Lib.hid (show HZL W0 WL wr (linkTo (liftB N s (N.ends.length * s)) (liftL N s P) ((t + 1) * s)) p (.slice a0 T c0) (.slice a1 0 c1) (.slice a2 T c2) es by rw [Nat.succ_mul]; exact Hs.out)
          go_wp2
          go_roundg (TE - (t + 1))
          case measure => omega
          case rel => exact ⟨t + 1, by omega, rfl, by go_num, H8.out⟩
      obtain rfl : t = TE := by omega
      have HF := Lib.hid (show HNet W0 wr (liftNet N kk P) p (.slice a0 T c0) (.slice a1 0 c1) (.slice a2 T c2) by unfold liftNet; rw [← HTE.out]; exact Ht.out.h)
      obtain ⟨bs2, ho, hn2, hge⟩ := HF.out.net
      have O4 := Lib.hid ho
      have E4 := Lib.hid (EW.out.trans' HF.out.ext)
      have S4 := Lib.hid (show ∀ y ∈ bs2, w.heap.size ≤ y ∧ y ≠ w.heap.size + 1 from fun y hy => by have := (hge y hy).1; have := ZW.out; omega)
      obtain ⟨m0, m1, m2, -, -, -⟩ := row3_facts HF.out.box
      obtain ⟨s0, s1, s2, t0, t1, t2⟩ := row3_facts (row_ext RQ.out HF.out.ext)
      clear ho hge
      go_wp2
      have hc := close_at E4.out (show w.heap.size ≤ w.heap.size + 1 by omega) O4.out hn2 S4.out
      refine bodyPost_ret (v := .agg #[.slice a0 T c0, .slice a1 0 c1, .slice a2 T c2]) (by simp [results, Try.results115, go_sem, s0, s1, s2]) rfl ⟨_, bs2, rfl, hc.1, hc.2.1, hc.2.2⟩
end Go.Proofs.Ytdcgpodjoalokaa
