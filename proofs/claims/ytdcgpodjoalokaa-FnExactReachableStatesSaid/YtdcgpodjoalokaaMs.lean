/- InboxesOf on both sides. -/
import Derived.Test.YtdcgpodjoalokaaMr
namespace Go.Proofs.Ytdcgpodjoalokaa
open Go.RowKit

noncomputable def ibAns (M : Mach) (N : Net) (s : List Int) : List (List Int) := if dec (Sts M N s) = true then inboxes M N s else []
theorem ibAns_t {M : Mach} {N : Net} {s : List Int} (h : Sts M N s) : ibAns M N s = inboxes M N s := by unfold ibAns; rw [if_pos (dec_true h)]
theorem ibAns_f {M : Mach} {N : Net} {s : List Int} (h : ¬ Sts M N s) : ibAns M N s = [] := by unfold ibAns; rw [dec_false h]; rfl
theorem gr_nilM (i : Nat) : gr ([] : List (List Int)) i = [] := by simp [gr]
theorem inboxes_small {M : Mach} {N : Net} {s : List Int} (h : Sts M N s) : IISmall (inboxes M N s) := by
  refine ⟨by rw [length_inboxes]; have := h.1.2.1.1.2; omega, fun i => ?_⟩
  by_cases hi : i < N.ends.length
  · rw [gr_inboxes _ _ _ _ hi, length_inboxL]; have := deg_small h.1.2.1 hi; omega
  · simp [gr, List.getD, List.getElem?_eq_none (show (inboxes M N s).length ≤ i by rw [length_inboxes]; omega)]
theorem ibAns_small (M : Mach) (N : Net) (s : List Int) : IISmall (ibAns M N s) := by
  by_cases h : Sts M N s
  · rw [ibAns_t h]; exact inboxes_small h
  · rw [ibAns_f h]; exact ⟨by simp, fun i => by rw [gr_nilM]; simp⟩
theorem ret_vb {v : Value} {b c : Bool} (h : b = c) : Ending.returned (.tuple #[v, .bool b]) = .returned (.tuple #[v, .bool c]) := by rw [h]
theorem own_nilIIm (w : World) : OwnII w (.slice none 0 0) [] [] := ⟨fun _ => undef, [], fun _ => [], ⟨0, by simp, by unfold maxLen; omega, .inl ⟨rfl, rfl, none, ⟨rfl, rfl⟩, rfl⟩⟩, fun i hi => absurd hi (by simp), by simp⟩
theorem inboxes_r {M : Mach} {N : Net} {s : List Int} (h : Sts M N s) {v : Nat} (hv : v < N.ends.length) : ∀ i, i < (gr (inboxes M N s) v).length → inI64 (gi (gr (inboxes M N s) v) i) := by
  rw [gr_inboxes _ _ _ _ hv]; exact inboxL_r h hv

/-- The program's inboxes when k rows and j numbers of the next one are there. -/
theorem rowCongrN {w : World} {b t n m : Nat} {f g : Nat → Value} (h : w.rowIs b t n f) (hn : m = n) (hfg : ∀ i, i < n → f i = g i) : w.rowIs b t m g := by subst hn; exact h.congr hfg
def InbIn (W1 wx : World) (l : List (List Int)) (k B j : Nat) : Prop :=
  Ext W1 wx ∧ W1.heap.size < B ∧ ∃ (R : Nat → Value) (T : Nat → List Nat), wx.rowIs W1.heap.size 24 l.length (fun i => if i < k then R i else if i = k then .slice (some ⟨B, 0, none⟩) (gr l k).length (gr l k).length else .slice none 0 0) ∧
    (∀ i, i < k → OwnI wx (R i) (gr l i) (T i)) ∧ Fresh W1 (W1.heap.size :: (List.range k).flatMap T) ∧ (∀ b ∈ (List.range k).flatMap T, b < B) ∧ wx.rowIs B 3 (gr l k).length (copied (gr l k) j)
theorem InbIn.ext {W1 wx wy : World} {l : List (List Int)} {k B j : Nat} (h : InbIn W1 wx l k B j) (he : Ext wx wy) : InbIn W1 wy l k B j := by
  obtain ⟨h1, h2, R, T, h3, h4, h5, h6, h7⟩ := h
  exact ⟨h1.trans' he, h2, R, T, row_ext h3 he, fun i hi => (h4 i hi).ext he, h5, h6, row_ext h7 he⟩
theorem InbIn.start {W1 wr : World} {l : List (List Int)} {k : Nat} (h : iouterAt W1 wr l k) :
    InbIn W1 ((wr.alloc (.cells (madeCells #[.int .i64 0] (gr l k).length) 3)).setCell ⟨W1.heap.size, k, none⟩ (.slice (some ⟨wr.heap.size, 0, none⟩) (gr l k).length (gr l k).length)) l k wr.heap.size 0 := by
  obtain ⟨he, hsz, R, T, hrow, hown, hfr⟩ := h
  have hx : Ext wr (wr.alloc (.cells (madeCells #[.int .i64 0] (gr l k).length) 3)) := (Ext.rfl' wr).alloc' _
  have hm : ∀ i, i < k → ∀ b ∈ T i, b ∈ (List.range k).flatMap T := fun i hi b hb => List.mem_flatMap.2 ⟨i, List.mem_range.2 hi, hb⟩
  have hT : ∀ b ∈ (List.range k).flatMap T, b < wr.heap.size ∧ W1.heap.size < b := fun b hb => by
    obtain ⟨i, hi, hbi⟩ := List.mem_flatMap.1 hb
    refine ⟨(hown i (List.mem_range.1 hi)).1.lt b hbi, ?_⟩
    have h1 := hfr.2 b (List.mem_cons_of_mem _ hb)
    have h2 := (List.nodup_cons.1 hfr.1).1
    by_cases e : b = W1.heap.size
    · subst e; exact absurd hb h2
    · omega
  refine ⟨(he.trans' hx).store (Nat.le_refl _) _, by omega, R, T, ?_, fun i hi => ?_, hfr, fun b hb => (hT b hb).1, ?_⟩
  · refine ((row_ext hrow hx).set k _).congr fun i _ => ?_
    by_cases e : i = k
    · subst e; simp
    · simp [e]
  · exact ((hown i hi).ext hx).keep fun b hb => Below.heap_setCell _ _ _ _ (by have := (hT b (hm i hi b hb)).2; show b ≠ W1.heap.size; omega)
  · exact ((World.rowIs_made wr _ _ _).congr fun i _ => by simp [copied]).setOther (by show wr.heap.size ≠ W1.heap.size; omega) _
theorem InbIn.step {W1 wx : World} {l : List (List Int)} {k B j : Nat} (h : InbIn W1 wx l k B j) : InbIn W1 (wx.setCell ⟨B, j, none⟩ (.int .i64 (gi (gr l k) j))) l k B (j + 1) := by
  obtain ⟨h1, h2, R, T, h3, h4, h5, h6, h7⟩ := h
  refine ⟨h1.store (show W1.heap.size ≤ B by omega) _, h2, R, T, h3.setOther (by show W1.heap.size ≠ B; omega) _, fun i hi => (h4 i hi).keep fun b hb => Below.heap_setCell _ _ _ _ ?_, h5, h6, copied_step h7⟩
  have := h6 b (List.mem_flatMap.2 ⟨i, List.mem_range.2 hi, hb⟩)
  show b ≠ B
  omega
theorem InbIn.done {W1 wx : World} {l : List (List Int)} {k B : Nat} (h : InbIn W1 wx l k B (gr l k).length) (hr : ∀ i, i < (gr l k).length → inI64 (gi (gr l k) i)) (hn : (gr l k).length ≤ 1048576) : iouterAt W1 wx l (k + 1) := by
  obtain ⟨h1, h2, R, T, h3, h4, h5, h6, h7⟩ := h
  have hB : B < wx.heap.size := h7.lt
  refine ⟨h1, by have := h3.lt; omega, fun i => if i = k then .slice (some ⟨B, 0, none⟩) (gr l k).length (gr l k).length else R i, fun i => if i = k then [B] else T i, ?_, fun i hi => ?_, ?_⟩
  · refine h3.congr fun i _ => ?_
    by_cases e : i = k
    · subst e; simp
    · by_cases hlt : i < k
      · simp [e, hlt, show i < k + 1 by omega]
      · simp [e, hlt, show ¬ i < k + 1 by omega]
  · by_cases e : i = k
    · subst e
      simp only [if_true]
      exact own_rowM rfl hr hn h7
    · simp only [if_neg e]
      exact h4 i (by omega)
  · have hcong : (List.range k).flatMap (fun i => if i = k then [B] else T i) = (List.range k).flatMap T := by
      rw [List.flatMap_def, List.flatMap_def]
      congr 1
      exact List.map_congr_left fun i hi => if_neg (by have := List.mem_range.1 hi; omega)
    rw [List.range_succ, List.flatMap_append, hcong]
    simp only [List.flatMap_cons, List.flatMap_nil, if_true, List.append_nil]
    rw [← List.cons_append]
    refine ⟨List.nodup_append.2 ⟨h5.1, by simp, fun a ha b hb e => ?_⟩, fun b hb => ?_⟩
    · obtain rfl := List.mem_singleton.1 hb
      subst e
      rcases List.mem_cons.1 ha with rfl | ha
      · omega
      · have := h6 _ ha; omega
    · rcases List.mem_append.1 hb with hb | hb
      · exact h5.2 b hb
      · obtain rfl := List.mem_singleton.1 hb; omega
theorem iouter_done {W1 wr : World} {l : List (List Int)} (h : iouterAt W1 wr l l.length) (hn : l.length ≤ 1048576) : ∃ bs, OwnII wr (.slice (some ⟨W1.heap.size, 0, none⟩) l.length l.length) l bs ∧ Fresh W1 bs := by
  obtain ⟨he, hsz, R, T, hrow, hown, hfr⟩ := h
  exact ⟨_, ⟨R, [W1.heap.size], T, own_made (k := 1) (by simpa using hrow) (small_max hn) (fun i hi => by simp; omega), hown, rfl⟩, hfr⟩
theorem Try.infoTSIm : (Try.prog.info? 24).map (fun i => (i.zero, i.size, i.bytes)) = some (some (.slice none 0 0), 1, 24) := by kernel_rfl

set_option maxHeartbeats 6400000 in
set_option maxRecDepth 100000 in
theorem inboxesOf_any {w : World} {vm vn vs : Value} {M : Mach} {N : Net} {s : List Int} (h : MachAt w vm M) (k : NetAt w vn N) (hs : IntSl w vs s) (ha : Sts M N s) : Calls Try.prog 92 #[vm, vn, vs] w fun e w' => ∃ v' bs, e = .returned v' ∧ Ext w w' ∧ OwnII w' v' (inboxes M N s) bs ∧ Fresh w bs := by
  have HSS := Lib.hid hs
  obtain ⟨ssa, ssc, rfl⟩ := hs.isSlice
  obtain ⟨-, ssm, ssn⟩ := isLen hs
  unfold maxLen at ssm
  clear hs
  have HM := Lib.hid h
  have HN := Lib.hid k
  obtain ⟨a3, c3, a4, c4, a5, c5, a6, c6, rfl, h3, h4, -⟩ := h
  obtain ⟨v0, v1, v2, rfl, hE, -, hP⟩ := k
  obtain ⟨W1, hW1⟩ : ∃ W1, W1 = twoBox w (.int .i64 M.deg) (.int .i64 M.sts) (.int .i64 M.msgs) (.slice a3 M.start.length c3) (.slice a4 M.send.length c4) (.slice a5 M.cls.length c5) (.slice a6 M.out.length c6) v0 v1 v2 := ⟨_, rfl⟩
  have EW := Lib.hid (show Ext w W1 by rw [hW1]; exact twoBox_ext _ _ _ _ _ _ _ _ _ _ _)
  have RA := Lib.hid (show W1.rowIs w.heap.size 31 7 (sept (.int .i64 M.deg) (.int .i64 M.sts) (.int .i64 M.msgs) (.slice a3 M.start.length c3) (.slice a4 M.send.length c4) (.slice a5 M.cls.length c5) (.slice a6 M.out.length c6)) by rw [hW1]; exact twoBox_m _ _ _ _ _ _ _ _ _ _ _)
  have RB := Lib.hid (show W1.rowIs (w.heap.size + 1) 43 3 (tri v0 v1 v2) by rw [hW1]; exact twoBox_n _ _ _ _ _ _ _ _ _ _ _)
  have hsz : W1.heap.size = w.heap.size + 2 := by rw [hW1]; simp [twoBox]
  have HSZ := Lib.hid hsz
  have HE3 := Lib.hid (h3.ext EW.out)
  have HE4 := Lib.hid (h4.ext EW.out)
  have HNE := Lib.hid (hE.ext EW.out)
  have HNP := Lib.hid (hP.ext EW.out)
  obtain ⟨-, ms3, ns3⟩ := ssLen h3
  obtain ⟨-, ms4, ns4⟩ := ssLen h4
  unfold maxLen at ms3 ms4
  clear h3 h4 hE hP hsz
  obtain ⟨p0, p1, p2, p3, p4, p5, p6⟩ := row7_facts RA.out
  obtain ⟨q0, q1, q2, -, -, -⟩ := row3_facts RB.out
  unfold twoBox at hW1
  have HA := Lib.hid ha
  have HG := Lib.hid ha.1.2.1
  obtain ⟨ea, eb, eo, ec, rfl, hea, el, em, hec⟩ := HNE.out
  unfold maxLen at em
  have HEA := Lib.hid hea
  have HEC := Lib.hid hec
  have hn40 : N.ends.length ≤ 40 := ha.1.2.1.1.2
  clear hea hec
  have hmk1 := run_make_row' (P := Try.prog) 22 24 (.slice none 0 0) 24 Try.underlying22 Try.infoTSIm rfl .i64 .i64 N.ends.length (by omega) (by omega)
  have qa := ((Ext.rfl' W1).alloc' (.cells (madeCells #[.slice none 0 0] N.ends.length) 24)).cell' q0
  clear ha
  go_enter Try.func92, Try.ntmps92
  go_upto_region 1 with fail
  rw [← hW1]
  clear hW1
  go_wp2
  clear hmk1 qa
  have HLI := Lib.hid (length_inboxes M N s)
  go_loopg [19] N.ends.length (fun g i wr => ∃ k : Nat, k ≤ N.ends.length ∧ g = N.ends.length - k ∧ i = .int .i64 k ∧ Hid (iouterAt W1 wr (inboxes M N s) k))
  case atStart => exact ⟨0, Nat.zero_le _, rfl, rfl, (Ext.rfl' W1).alloc' _, by simp, fun _ => .slice none 0 0, fun _ => [], rowCongrN (World.rowIs_made W1 _ _ _) (length_inboxes M N s) fun i _ => by simp, fun i hi => absurd hi (by omega), by simp [Fresh]⟩
  case round =>
    obtain ⟨v, hv, rfl, rfl, Hr⟩ := hrel
    by_cases hlt : v < N.ends.length
    · have HV := Lib.hid hlt
      obtain ⟨x, hx, hrow⟩ := HEC.out v hlt
      obtain ⟨xa, xb, xo, xc, rfl, hxa, xl, xm, hxc⟩ := hrow
      unfold maxLen at xm
      obtain rfl := HEA.out (by omega)
      have HXA := Lib.hid hxa
      have HXC := Lib.hid hxc
      have hd6 := deg_small HG.out hlt
      have hmk2 := run_make_row' (P := Try.prog) 24 3 (.int .i64 0) 8 Try.underlying24 Try.info3 rfl .i64 .i64 (gr N.ends v).length (by omega) (by omega)
      have hg0 : (gr (inboxes M N s) v).length = (gr N.ends v).length := by rw [gr_inboxes _ _ _ _ hlt, length_inboxL]
      have HST := Lib.hid (show InbIn W1 ((wr.alloc (.cells (madeCells #[.int .i64 0] (gr N.ends v).length) 3)).setCell ⟨W1.heap.size, v, none⟩ (.slice (some ⟨wr.heap.size, 0, none⟩) (gr N.ends v).length (gr N.ends v).length)) (inboxes M N s) v wr.heap.size 0 by have := InbIn.start Hr.out; rw [hg0] at this; exact this)
      have HGZ := Lib.hid hg0
      have hxx := Hr.out.1.cell' hx
      obtain ⟨he, hsz2, R, T, hrow, -, -⟩ := Hr.out
      have yr := row_ext hrow ((Ext.rfl' wr).alloc' (.cells (madeCells #[.int .i64 0] (gr N.ends v).length) 3))
      have y0 := yr.cell (i := v) (by have := HLI.out; omega)
      have y1 := yr.frozen v
      rw [if_neg (Nat.lt_irrefl v)] at y0
      clear hxa hxc hx he hrow yr hg0
      go_upto_region 6 with fail
      obtain ⟨W5, hW5⟩ : ∃ W5, W5 = (wr.alloc (.cells (madeCells #[.int .i64 0] (gr N.ends v).length) 3)).setCell ⟨W1.heap.size, v, none⟩ (.slice (some ⟨wr.heap.size, 0, none⟩) (gr N.ends v).length (gr N.ends v).length) := ⟨_, rfl⟩
      have H5 := Lib.hid (show InbIn W1 W5 (inboxes M N s) v wr.heap.size 0 by rw [hW5]; exact HST.out)
      rw [← hW5]
      clear hW5 HST y0 y1 hxx hmk2
      obtain ⟨B, hB⟩ : ∃ B, B = wr.heap.size := ⟨_, rfl⟩
      rw [← hB] at H5 ⊢
      clear hB
      go_wp2
      obtain ⟨WR, hWR⟩ : ∃ W : World, W = wr := ⟨_, rfl⟩
      subst hWR
      go_loopg [32] (gr N.ends v).length (fun g i wx => ∃ k : Nat, k ≤ (gr N.ends v).length ∧ g = (gr N.ends v).length - k ∧ i = .int .i64 k ∧ Hid (InbIn W1 wx (inboxes M N s) v B k))
      case atStart => exact ⟨0, Nat.zero_le _, rfl, rfl, H5.out⟩
      case round =>
        obtain ⟨k, hk, rfl, rfl, Hs⟩ := hrel
        by_cases hlt : k < (gr N.ends v).length
        · skip
          have hv := HV.out
          obtain ⟨m0, m1, m2, m3, m4, m5, m6, m7⟩ := msg_in HA.out hv hlt
          obtain ⟨g1, g2, -, -⟩ := HXC.out k hlt
          obtain rfl := HXA.out (by omega)
          obtain ⟨z, hz⟩ := Int.eq_ofNat_of_zero_le m0
          rw [hz, Int.toNat_natCast] at m1 m2 m3 m5
          obtain ⟨sv, hsv⟩ := Int.eq_ofNat_of_zero_le m2
          rw [hsv, Int.toNat_natCast] at m3 m5
          obtain ⟨p, hp⟩ := Int.eq_ofNat_of_zero_le m4
          rw [hp, Int.toNat_natCast] at m5
          rw [hz] at g1
          rw [hp] at g2
          obtain ⟨sb, so, ra, rc, rfl, z0, hsr⟩ := ssRow HE4.out m3
          obtain ⟨ra', rb, ro, rd, e, hra, rl, rm, hrc⟩ := hsr
          simp only [Value.slice.injEq] at e
          obtain ⟨rfl, -, rfl⟩ := e
          unfold maxLen at rm
          obtain rfl := hra (by omega)
          obtain ⟨_, z1, rfl, -⟩ := hrc p m5
          obtain ⟨sa', pb, po, pd, e, hpa, pl, pm, hpc⟩ := HSS.out.ext EW.out
          simp only [Value.slice.injEq] at e
          obtain ⟨rfl, -, rfl⟩ := e
          unfold maxLen at pm
          obtain rfl := hpa (by omega)
          obtain ⟨_, z2, rfl, -⟩ := hpc z m1
          rw [hsv] at z2
          obtain ⟨y, hy⟩ : ∃ y, y = gi (gr M.send sv) p := ⟨_, rfl⟩
          have HY := Lib.hid (show msgAt M N s v k = y by rw [hy]; unfold msgAt; rw [hz, hp, Int.toNat_natCast, hsv, Int.toNat_natCast, Int.toNat_natCast])
          rw [← hy] at z1
          obtain ⟨nr, hnr⟩ : ∃ n, n = (gr M.send sv).length := ⟨_, rfl⟩
          rw [← hnr] at z0 m5 rl
          clear hy hnr hra hrc hpa hpc m0 m2 m4 m6 m7 hz hsv hp
          obtain ⟨W2, hW2⟩ : ∃ W2, W2 = wr.alloc (.cells #[.int .i64 (z : Int), .int .i64 (p : Int)] 123) := ⟨_, rfl⟩
          have E2 := Lib.hid (show Ext wr W2 by rw [hW2]; exact (Ext.rfl' _).alloc' _)
          have R2 := Lib.hid (show W2.rowIs wr.heap.size 123 2 (duoM (.int .i64 (z : Int)) (.int .i64 (p : Int))) by rw [hW2]; exact duoM_made _ _ _ _)
          have S2 := Lib.hid (Hs.out.ext E2.out)
          have f1 := Hs.out.1.cell' g1
          have f2 := Hs.out.1.cell' g2
          have t0 := R2.out.cell (i := 0) (by omega)
          have t1 := R2.out.cell (i := 1) (by omega)
          have t2 := S2.out.1.cell' p4
          have t3 := S2.out.1.cell' z0
          have t4 := S2.out.1.cell' z2
          have t5 := S2.out.1.cell' z1
          obtain ⟨-, hBB, R', T', hrow', -, -, -, hrowB⟩ := S2.out
          have hvl : v < (inboxes M N s).length := by have := HLI.out; have := HV.out; omega
          have t6 := hrow'.cell (i := v) hvl
          rw [if_neg (Nat.lt_irrefl v), if_pos rfl, HGZ.out] at t6
          have t7 := hrowB.cell (i := k) (by rw [HGZ.out]; exact hlt)
          have t8 := hrowB.frozen k
          have HNX := Lib.hid (show InbIn W1 (W2.setCell ⟨B, k, none⟩ (.int .i64 y)) (inboxes M N s) v B (k + 1) by
            have := S2.out.step
            rw [gr_inboxes _ _ _ _ HV.out, gi_inboxL _ _ _ _ _ hlt, HY.out] at this
            exact this)
          have hvn := HV.out
          simp only [duoM] at t0 t1
          clear z0 z1 z2 g1 g2 hrow' hrowB hvl
          go_upto_region 9 with fail
          rw [← hW2]
          clear hW2 f1 f2
          go_region
          clear t0 t1 t2 t3 t4 t5 t6 t7 t8
          go_wp2
          go_roundg ((gr N.ends v).length - (k + 1))
          case measure => omega
          case rel => exact ⟨k + 1, by omega, rfl, by go_num, HNX.out.ext (Ext.rfl' _).drew'⟩
        · obtain rfl : k = (gr N.ends v).length := by omega
          have HNX := Lib.hid (show iouterAt W1 wr (inboxes M N s) (v + 1) from InbIn.done (by rw [HGZ.out]; exact Hs.out) (inboxes_r HA.out HV.out) (by rw [HGZ.out]; omega))
          have hvn := HV.out
          go_wp2
          go_roundg (N.ends.length - (v + 1))
          case measure => omega
          case rel => exact ⟨v + 1, by omega, rfl, by go_num, HNX.out⟩
    · obtain rfl : v = N.ends.length := by omega
      obtain ⟨bs, ho, hf⟩ := iouter_done (by rw [length_inboxes]; exact Hr.out) (by rw [length_inboxes]; omega)
      rw [length_inboxes] at ho
      have HO := Lib.hid ho
      have HF := Lib.hid (show Fresh w bs from hf.of EW.out.size)
      clear ho hf
      go_wp2
      go_ret
      exact ⟨_, bs, rfl, EW.out.trans' Hr.out.1, HO.out, HF.out⟩

end Go.Proofs.Ytdcgpodjoalokaa
