/- after for a change that keeps the number of nodes: the nodes' and the rows' contracts are taken. -/
import Derived.Test.YtkeiaahlifdbiaaFi
import Derived.Test.YtkeiaahlifdbiaaCh5
namespace Go.Proofs.Ytkeiaahlifdbiaa
open Go.RowKit

set_option maxHeartbeats 1600000 in
set_option maxRecDepth 100000 in
theorem afterG_any {w : World} {c : Value} {N : Net} {x y kk : Int} {l lp : List Int} {ro : Rows'} (h : ChgAt w c kk N x y lp) (hk3 : (kk == 3) = false) (hg : Good N) (hp : PermOK l N.ends.length)
    (hnode : ∀ (w' : World) (v : Nat), Ext w w' → v < N.ends.length → Calls Try.prog 160 #[c, .int .i64 v] w' fun e w'' => e = .returned (.int .i64 (gi l v)) ∧ Ext w' w'')
    (hports : ∀ (w' : World) (v : Nat), Ext w w' → v < N.ends.length → Calls Try.prog 161 #[c, .int .i64 v] w' fun e w'' => ∃ v' bs, e = .returned v' ∧ Ext w' w'' ∧ OwnE w'' v' (ro v) bs ∧ Fresh w' bs) :
    Calls Try.prog 145 #[c] w fun e w' => ∃ v' bs, e = .returned v' ∧ Ext w w' ∧ OwnNet w' v' (rowNet N l ro) bs ∧ Fresh w bs := by
  obtain ⟨v0, v1, v2, v3, rfl, hN, hL⟩ := h
  have HNd := Lib.hid hnode
  have HPt := Lib.hid hports
  clear hnode hports
  obtain ⟨_, _, _, h0, hE, hI, hP⟩ := hN
  cases h0
  have HIr := Lib.hid hI.range
  have HPr := Lib.hid hP.range
  have HP := Lib.hid hP
  have HI := Lib.hid hI
  obtain ⟨a, b, o, cc, rfl, ha, hl, hm, hc⟩ := hE
  obtain ⟨ia, ib0, io, ic, rfl, -, -, him, -⟩ := hI
  obtain ⟨pa, pb0, po, pc, rfl, -, -, hpm, -⟩ := hP
  unfold maxLen at hm him hpm
  have hX := ((Ext.rfl' w).alloc' (.cells #[.int .i64 kk, .slice a N.ends.length cc, .slice ia N.ids.length ic, .slice pa N.inputs.length pc, .int .i64 x, .int .i64 y, v3] 119)).alloc' (.cells #[.slice none 0 0, .slice none 0 0, .slice none 0 0] 29)
  have HX := Lib.hid hX
  have hY := (Ext.rfl' (w.alloc (.cells #[.int .i64 kk, .slice a N.ends.length cc, .slice ia N.ids.length ic, .slice pa N.inputs.length pc, .int .i64 x, .int .i64 y, v3] 119))).alloc' (.cells #[.slice none 0 0, .slice none 0 0, .slice none 0 0] 29)
  obtain ⟨c0, c1, c2, c3, c4, c5, c6⟩ := chg_cells w kk (.slice a N.ends.length cc) (.slice ia N.ids.length ic) (.slice pa N.inputs.length pc) v3 x y
  have HC : Hid _ := And.intro (hY.cell' c0) (And.intro (hY.cell' c1) (And.intro (hY.cell' c2) (And.intro (hY.cell' c3) (And.intro (hY.cell' c4) (And.intro (hY.cell' c5) (hY.cell' c6))))))
  have RR : Hid (((w.alloc (.cells #[.int .i64 kk, .slice a N.ends.length cc, .slice ia N.ids.length ic, .slice pa N.inputs.length pc, .int .i64 x, .int .i64 y, v3] 119)).alloc (.cells #[.slice none 0 0, .slice none 0 0, .slice none 0 0] 29)).rowIs (w.heap.size + 1) 29 3 (tri (.slice none 0 0) (.slice none 0 0) (.slice none 0 0)) ∧ w.heap.size + 2 ≤ ((w.alloc (.cells #[.int .i64 kk, .slice a N.ends.length cc, .slice ia N.ids.length ic, .slice pa N.inputs.length pc, .int .i64 x, .int .i64 y, v3] 119)).alloc (.cells #[.slice none 0 0, .slice none 0 0, .slice none 0 0] 29)).heap.size) := And.intro (by simpa using row3_made (w.alloc (.cells #[.int .i64 kk, .slice a N.ends.length cc, .slice ia N.ids.length ic, .slice pa N.inputs.length pc, .int .i64 x, .int .i64 y, v3] 119)) (.slice none 0 0) (.slice none 0 0) (.slice none 0 0) 29) (by simp)
  clear hc ha hL hX hY c0 c1 c2 c3 c4 c5 c6
  have h40 := hg.1.2
  have hmk := run_make_row' (P := Try.prog) 27 67 (.slice none 0 0) 24 Try.underlying27 Try.info70 rfl .i64 .i64 N.ends.length (by omega) (by omega)
  have hmj := run_make_row' (P := Try.prog) 23 3 (.int .i64 0) 8 Try.underlying23 Try.info3 rfl .i64 .i64 N.ends.length (by omega) (by omega)
  obtain ⟨c0, c1, c2, c3, c4, c5, c6⟩ := HC.out
  go_enter Try.func145, Try.ntmps145
  go_wp2_with fail
  generalize (w.alloc (.cells #[.int .i64 kk, .slice a N.ends.length cc, .slice ia N.ids.length ic, .slice pa N.inputs.length pc, .int .i64 x, .int .i64 y, v3] 119)).alloc (.cells #[.slice none 0 0, .slice none 0 0, .slice none 0 0] 29) = W0 at *
  go_cut [4] from 17 to 21 (fun t4 wx => ∃ p eb ib, t4 = .pointer (some ⟨p, 0, none⟩) ∧ Hid (MadeC W0 N.ends.length p eb ib wx))
  case first =>
    go_region_held3 (fun w' => True) (trivial) (fail)
    all_goals go_wp2_with fail
    all_goals go_meet
    all_goals (first | exact ⟨_, W0.heap.size + 1, W0.heap.size + 1 + 1, rfl, made_ofC ((((Ext.rfl' W0).alloc' _).alloc' _).alloc' _).drew' (by omega) (by omega) (by omega) (threeC W0 _ _ _).1 (threeC W0 _ _ _).2.1 (threeC W0 _ _ _).2.2⟩ | exact ⟨_, W0.heap.size + 1 + 1, W0.heap.size + 1, rfl, made_ofC ((((Ext.rfl' W0).alloc' _).alloc' _).alloc' _).drew' (by omega) (by omega) (by omega) (threeC W0 _ _ _).1 (threeC W0 _ _ _).2.2 (threeC W0 _ _ _).2.1⟩ | exact ⟨_, W0.heap.size, W0.heap.size + 1 + 1, rfl, made_ofC ((((Ext.rfl' W0).alloc' _).alloc' _).alloc' _).drew' (by omega) (by omega) (by omega) (threeC W0 _ _ _).2.1 (threeC W0 _ _ _).1 (threeC W0 _ _ _).2.2⟩ | exact ⟨_, W0.heap.size + 1 + 1, W0.heap.size, rfl, made_ofC ((((Ext.rfl' W0).alloc' _).alloc' _).alloc' _).drew' (by omega) (by omega) (by omega) (threeC W0 _ _ _).2.1 (threeC W0 _ _ _).2.2 (threeC W0 _ _ _).1⟩ | exact ⟨_, W0.heap.size, W0.heap.size + 1, rfl, made_ofC ((((Ext.rfl' W0).alloc' _).alloc' _).alloc' _).drew' (by omega) (by omega) (by omega) (threeC W0 _ _ _).2.2 (threeC W0 _ _ _).1 (threeC W0 _ _ _).2.1⟩ | exact ⟨_, W0.heap.size + 1, W0.heap.size, rfl, made_ofC ((((Ext.rfl' W0).alloc' _).alloc' _).alloc' _).drew' (by omega) (by omega) (by omega) (threeC W0 _ _ _).2.2 (threeC W0 _ _ _).2.1 (threeC W0 _ _ _).1⟩)
  case rest =>
    obtain ⟨p, eb, ib, rfl, M⟩ := hcut
    obtain ⟨mx, mp, me, mi, mbox, mends, mins⟩ := M.out
    have HE := Lib.hid mends
    have HN := Lib.hid mins
    have HB := Lib.hid mbox
    have MX := Lib.hid mx
    have d2 := mx.cell' c2
    obtain ⟨p0, p1, p2, f0, f1, f2⟩ := row3_facts mbox
    clear c0 c1 c2 c3 c4 c5 c6 mends mins mbox mx M
    go_upto_if 26 with (fail)
    go_cut [] from 27 to 29 (fun wx => ∃ x1, Hid (FillR W0 wx N l ro 0 0 0 p eb ib x1 (fun _ => .slice none 0 0) (fun _ => [])))
    case first =>
      by_cases hid : N.ids.length = 0
      case pos =>
        have hb : decide (0 < N.ids.length) = false := decide_eq_false (by omega)
        go_wp2
        go_meet
        case rel => exact ⟨.slice none 0 0, MX.out, mp, me, mi, HB.out, by rw [fill_zero]; exact HE.out, by rw [fill_zero]; exact HN.out, .inl ⟨hid, rfl⟩, fun v hv => absurd hv (by omega), fun u v hu => absurd hu (by omega), fun v hv => absurd hv (by omega)⟩
      case neg =>
        have hb : decide (0 < N.ids.length) = true := decide_eq_true (by omega)
        obtain ⟨q0, q1, q2, g0, g1, g2⟩ := row3_facts (row_ext HB.out ((Ext.rfl' wc).alloc' (.cells (madeCells #[.int .i64 0] N.ends.length) 3)))
        go_wp2
        go_meet
        have hx1 := (Ext.rfl' wc).alloc' (.cells (madeCells #[.int .i64 0] N.ends.length) 3)
        have hbx := row_ext HB.out hx1
        have hlt := HN.out.lt
        have hsz := MX.out.size
        case rel => exact ⟨.slice (some ⟨wc.heap.size, 0, none⟩) N.ends.length N.ends.length, (MX.out.alloc' _).store mp _, mp, me, mi, row3_set1 hbx _, by rw [fill_zero]; exact row_far (row_ext HE.out hx1) hbx (by decide), by rw [fill_zero]; exact row_far (row_ext HN.out hx1) hbx (by decide), .inr ⟨by omega, wc.heap.size, rfl, hsz, by omega, by rw [fill_zero]; exact row_far (World.rowIs_made wc _ _ _) hbx (by decide)⟩, fun v hv => absurd hv (by omega), fun u v hu => absurd hu (by omega), fun v hv => absurd hv (by omega)⟩
    case rest =>
      obtain ⟨x1, F⟩ := hcut
      have d1 := F.out.ext.cell' HC.out.2.1
      clear p0 p1 p2 f0 f1 f2 d2 hmk hmj HE HN HB MX
      go_wp2_with fail
      clear d1
      go_loopg [34] N.ends.length (fun g i wx => ∃ (k : Nat) (R : Nat → Value) (T : Nat → List Nat), k ≤ N.ends.length ∧ g = N.ends.length - k ∧ i = .int .i64 k ∧ Hid (FillR W0 wx N l ro k k k p eb ib x1 R T))
      case atStart => exact ⟨0, _, _, Nat.zero_le _, rfl, rfl, F.out⟩
      case round =>
        obtain ⟨k, R, T, hk, rfl, rfl, Fr⟩ := hrel
        by_cases hlt : k < N.ends.length
        · obtain ⟨c, hcv, hcn⟩ := perm_range hp hlt
          have hll := hp.1
          have hil : N.inputs.length = N.ends.length := by have := hg.2.2.2.1; omega
          obtain ⟨py, pb, pq, pz, hpy, hpa, _, _, hpc⟩ := HP.out
          simp only [Value.slice.injEq, true_and] at hpy
          obtain ⟨rfl, rfl⟩ := hpy
          obtain ⟨_, hsrc, rfl, _⟩ := hpc k (by omega)
          obtain rfl := hpa (by omega)
          have HSrc := Lib.hid (HX.out.cell' hsrc)
          have hsb := World.block_lt_of_cell? _ _ hsrc
          have hkl : k < N.inputs.length := by omega
          clear hpc hpa hsrc hil
          have hcb : decide ((c : Int) < 0) = false := decide_eq_false (by omega)
          obtain ⟨d0, d1, d2, d3, d4, d5, d6⟩ := HC.out
          have d0 := Fr.out.ext.cell' d0
          have d1 := Fr.out.ext.cell' d1
          have d2 := Fr.out.ext.cell' d2
          have d3 := Fr.out.ext.cell' d3
          have d4 := Fr.out.ext.cell' d4
          have d5 := Fr.out.ext.cell' d5
          have d6 := Fr.out.ext.cell' d6
          have EX := Lib.hid (HX.out.trans' Fr.out.ext)
          go_upto_region 12 with (first | (go_at_call 160; (with_reducible refine (HNd.out _ k EX.out hlt).mono ?_); rintro e wa ⟨rfl, hw⟩; rw [hcv]; have F1 := Lib.hid (Fr.out.mono hw); have HW1 := Lib.hid hw; clear hw) | fail)
          obtain ⟨b0, b1, b2, _, _, _⟩ := row3_facts F1.out.box
          have d0 := HW1.out.cell' d0
          have d1 := HW1.out.cell' d1
          have d2 := HW1.out.cell' d2
          have d3 := HW1.out.cell' d3
          have d4 := HW1.out.cell' d4
          have d5 := HW1.out.cell' d5
          have d6 := HW1.out.cell' d6
          have hRRs := RR.out.2
          have hes := Fr.out.he
          have hpe := ne_by_type F1.out.box F1.out.ends (by decide)
          have far : ∀ (w' : World) (q : Addr) (z : Value), q.block ≠ eb → (w'.setCell ⟨eb, c, none⟩ z).cell? q = w'.cell? q := fun w' q z hq => World.cell?_setCell_far _ _ _ _ (Ne.symm hq)
          have mk0 : ∀ w', Ext wa w' → w'.cell? ⟨w.heap.size, 0, none⟩ = some (.int .i64 kk) ∧ w'.cell? ⟨w.heap.size, 1, none⟩ = some (.slice a N.ends.length cc) ∧ w'.cell? ⟨w.heap.size, 2, none⟩ = some (.slice ia N.ids.length ic) ∧ w'.cell? ⟨w.heap.size, 3, none⟩ = some (.slice (some ⟨pb, pq, none⟩) N.inputs.length pc) ∧ w'.cell? ⟨w.heap.size, 4, none⟩ = some (.int .i64 x) ∧ w'.cell? ⟨w.heap.size, 5, none⟩ = some (.int .i64 y) ∧ w'.cell? ⟨w.heap.size, 6, none⟩ = some v3 ∧ w'.cell? ⟨p, 0, none⟩ = some (.slice (some ⟨eb, 0, none⟩) N.ends.length N.ends.length) := fun w' h => ⟨h.cell' d0, h.cell' d1, h.cell' d2, h.cell' d3, h.cell' d4, h.cell' d5, h.cell' d6, h.cell' b0⟩
          have mk1 : ∀ (w' : World) (z : Value), (w'.cell? ⟨w.heap.size, 0, none⟩ = some (.int .i64 kk) ∧ w'.cell? ⟨w.heap.size, 1, none⟩ = some (.slice a N.ends.length cc) ∧ w'.cell? ⟨w.heap.size, 2, none⟩ = some (.slice ia N.ids.length ic) ∧ w'.cell? ⟨w.heap.size, 3, none⟩ = some (.slice (some ⟨pb, pq, none⟩) N.inputs.length pc) ∧ w'.cell? ⟨w.heap.size, 4, none⟩ = some (.int .i64 x) ∧ w'.cell? ⟨w.heap.size, 5, none⟩ = some (.int .i64 y) ∧ w'.cell? ⟨w.heap.size, 6, none⟩ = some v3 ∧ w'.cell? ⟨p, 0, none⟩ = some (.slice (some ⟨eb, 0, none⟩) N.ends.length N.ends.length)) → (w'.setCell ⟨eb, c, none⟩ z).cell? ⟨w.heap.size, 0, none⟩ = some (.int .i64 kk) ∧ (w'.setCell ⟨eb, c, none⟩ z).cell? ⟨w.heap.size, 1, none⟩ = some (.slice a N.ends.length cc) ∧ (w'.setCell ⟨eb, c, none⟩ z).cell? ⟨w.heap.size, 2, none⟩ = some (.slice ia N.ids.length ic) ∧ (w'.setCell ⟨eb, c, none⟩ z).cell? ⟨w.heap.size, 3, none⟩ = some (.slice (some ⟨pb, pq, none⟩) N.inputs.length pc) ∧ (w'.setCell ⟨eb, c, none⟩ z).cell? ⟨w.heap.size, 4, none⟩ = some (.int .i64 x) ∧ (w'.setCell ⟨eb, c, none⟩ z).cell? ⟨w.heap.size, 5, none⟩ = some (.int .i64 y) ∧ (w'.setCell ⟨eb, c, none⟩ z).cell? ⟨w.heap.size, 6, none⟩ = some v3 ∧ (w'.setCell ⟨eb, c, none⟩ z).cell? ⟨p, 0, none⟩ = some (.slice (some ⟨eb, 0, none⟩) N.ends.length N.ends.length) := fun w' z ⟨a0, a1, a2, a3, a4, a5, a6, a7⟩ => ⟨(far _ _ _ (by show w.heap.size ≠ _; omega)).trans a0, (far _ _ _ (by show w.heap.size ≠ _; omega)).trans a1, (far _ _ _ (by show w.heap.size ≠ _; omega)).trans a2, (far _ _ _ (by show w.heap.size ≠ _; omega)).trans a3, (far _ _ _ (by show w.heap.size ≠ _; omega)).trans a4, (far _ _ _ (by show w.heap.size ≠ _; omega)).trans a5, (far _ _ _ (by show w.heap.size ≠ _; omega)).trans a6, (far _ _ _ hpe).trans a7⟩
          have XD : Hid (Ext wa wa.drew) := (Ext.rfl' wa).drew'
          have HF := Lib.hid far
          clear d0 d1 d2 d3 d4 d5 d6 b0 b1 b2 far
          go_region_held3 (fun w' => w'.cell? ⟨w.heap.size, 0, none⟩ = some (.int .i64 kk) ∧ w'.cell? ⟨w.heap.size, 1, none⟩ = some (.slice a N.ends.length cc) ∧ w'.cell? ⟨w.heap.size, 2, none⟩ = some (.slice ia N.ids.length ic) ∧ w'.cell? ⟨w.heap.size, 3, none⟩ = some (.slice (some ⟨pb, pq, none⟩) N.inputs.length pc) ∧ w'.cell? ⟨w.heap.size, 4, none⟩ = some (.int .i64 x) ∧ w'.cell? ⟨w.heap.size, 5, none⟩ = some (.int .i64 y) ∧ w'.cell? ⟨w.heap.size, 6, none⟩ = some v3 ∧ w'.cell? ⟨p, 0, none⟩ = some (.slice (some ⟨eb, 0, none⟩) N.ends.length N.ends.length))
            (first | exact mk0 _ (Hid.out ‹Hid (Ext wa _)›) | exact mk1 _ _ (mk0 _ (Hid.out ‹Hid (Ext wa _)›)) | fail)
            (first | (go_at_call 161; (with_reducible refine (HPt.out _ k (EX.out.trans' (HW1.out.trans' (Hid.out ‹Hid (Ext wa _)›))) hlt).mono ?_); rintro e wb ⟨v', bs, rfl, hw, ho, hf⟩; obtain ⟨za, zc, rfl⟩ := ho.1.slice; have XB := Lib.hid (Ext.trans' (Hid.out ‹Hid (Ext wa _)›) hw); have OB := Lib.hid ho; have FB := Lib.hid hf; have f1 := (row_ext F1.out.ends XB.out).cell (i := c) hcn; have f2 := (row_ext F1.out.ends XB.out).frozen c; clear hw ho hf) | fail)
          rename_i hS
          obtain ⟨d0, d1, d2, d3, d4, d5, d6, b0⟩ := hS
          have F2 := Lib.hid (F1.out.stepE hp hlt hcv XB.out OB.out (fun b hb => by have := FB.out.2 b hb; exact this))
          clear f1 f2
          generalize wb.setCell ⟨eb, c, none⟩ (.slice za (ro k).length zc) = W2 at *
          clear d0 d1 d2 d3 d4 d5 d6 b0 HF mk0 mk1 XB OB FB XD
          have e3 := F2.out.ext.cell' HC.out.2.2.2.1
          have e4 := F2.out.ext.cell' HSrc.out
          obtain ⟨_, _, b2, _, _, _⟩ := row3_facts F2.out.box
          have f1 := F2.out.ins.cell (i := c) hcn
          have f2 := F2.out.ins.frozen c
          have hpi := ne_by_type F2.out.box F2.out.ins (by decide)
          have his := F2.out.hi
          have F3 := Lib.hid (F2.out.stepI hp hlt hcv)
          have far : ∀ (w' : World) (q : Addr) (z : Value), q.block ≠ ib → (w'.setCell ⟨ib, c, none⟩ z).cell? q = w'.cell? q := fun w' q z hq => World.cell?_setCell_far _ _ _ _ (Ne.symm hq)
          have mk0 : ∀ w', Ext W2 w' → w'.cell? ⟨w.heap.size, 3, none⟩ = some (.slice (some ⟨pb, pq, none⟩) N.inputs.length pc) ∧ w'.cell? ⟨p, 2, none⟩ = some (.slice (some ⟨ib, 0, none⟩) N.ends.length N.ends.length) ∧ w'.cell? ⟨pb, pq + k, none⟩ = some (.int .i64 (gi N.inputs k)) := fun w' h => ⟨h.cell' e3, h.cell' b2, h.cell' e4⟩
          have mk1 : ∀ (w' : World) (z : Value), (w'.cell? ⟨w.heap.size, 3, none⟩ = some (.slice (some ⟨pb, pq, none⟩) N.inputs.length pc) ∧ w'.cell? ⟨p, 2, none⟩ = some (.slice (some ⟨ib, 0, none⟩) N.ends.length N.ends.length) ∧ w'.cell? ⟨pb, pq + k, none⟩ = some (.int .i64 (gi N.inputs k))) → (w'.setCell ⟨ib, c, none⟩ z).cell? ⟨w.heap.size, 3, none⟩ = some (.slice (some ⟨pb, pq, none⟩) N.inputs.length pc) ∧ (w'.setCell ⟨ib, c, none⟩ z).cell? ⟨p, 2, none⟩ = some (.slice (some ⟨ib, 0, none⟩) N.ends.length N.ends.length) ∧ (w'.setCell ⟨ib, c, none⟩ z).cell? ⟨pb, pq + k, none⟩ = some (.int .i64 (gi N.inputs k)) := fun w' z ⟨a0, a1, a2⟩ => ⟨(far _ _ _ (by show w.heap.size ≠ _; omega)).trans a0, (far _ _ _ hpi).trans a1, (far _ _ _ (by show pb ≠ _; omega)).trans a2⟩
          clear far e3 e4 b2
          go_wp2_with fail
          go_region_held3 (fun w' => w'.cell? ⟨w.heap.size, 3, none⟩ = some (.slice (some ⟨pb, pq, none⟩) N.inputs.length pc) ∧ w'.cell? ⟨p, 2, none⟩ = some (.slice (some ⟨ib, 0, none⟩) N.ends.length N.ends.length) ∧ w'.cell? ⟨pb, pq + k, none⟩ = some (.int .i64 (gi N.inputs k)))
            (first | exact mk0 _ (Ext.rfl' W2) | exact mk0 _ (Ext.rfl' W2).drew' | exact mk1 _ _ (mk0 _ (Ext.rfl' W2)) | exact mk1 _ _ (mk0 _ (Ext.rfl' W2).drew') | fail)
            (first | fail)
          clear mk0 mk1 f1 f2
          have F3 := Lib.hid (F3.out.mono (Ext.rfl' _).drew')
          generalize (W2.setCell ⟨ib, c, none⟩ (.int .i64 (gi N.inputs k))).drew = W3 at *
          rcases F3.out.ids with ⟨h0, rfl⟩ | ⟨h0, db, rfl, hd1, hd2, hd3⟩
          · have H0 := Lib.hid h0
            obtain ⟨_, b1, _, _, _, _⟩ := row3_facts F3.out.box
            clear h0 hkl
            go_wp2
            go_roundg (N.ends.length - (k + 1))
            case measure => omega
            case rel => exact ⟨k + 1, _, _, by omega, rfl, by go_num, ⟨F3.out.ext, F3.out.hp, F3.out.he, F3.out.hi, F3.out.box, F3.out.ends, F3.out.ins, .inl ⟨H0.out, rfl⟩, F3.out.rows, F3.out.apart, F3.out.ge⟩⟩
          · have hidl : N.ids.length = N.ends.length := by have := hg.2.2.1.1; omega
            obtain ⟨ry, qb, qq, rz, hry, hra, _, _, hrc⟩ := HI.out
            simp only [Value.slice.injEq, true_and] at hry
            obtain ⟨rfl, rfl⟩ := hry
            obtain ⟨_, hsrc, rfl, _⟩ := hrc k (by omega)
            obtain rfl := hra (by omega)
            have hqb : qb < w.heap.size := World.block_lt_of_cell? _ _ hsrc
            have e4 := F3.out.ext.cell' (HX.out.cell' hsrc)
            have e3 := F3.out.ext.cell' HC.out.2.2.1
            have hkd : k < N.ids.length := by omega
            clear hrc hra hsrc hidl
            obtain ⟨_, b1, _, _, _, _⟩ := row3_facts F3.out.box
            have f1 := hd3.cell (i := c) hcn
            have f2 := hd3.frozen c
            have hpd := ne_by_type F3.out.box hd3 (by decide)
            have F4 := Lib.hid (F3.out.stepD hp hlt hcv h0)
            have far : ∀ (w' : World) (q : Addr) (z : Value), q.block ≠ db → (w'.setCell ⟨db, c, none⟩ z).cell? q = w'.cell? q := fun w' q z hq => World.cell?_setCell_far _ _ _ _ (Ne.symm hq)
            have mk0 : ∀ w', Ext W3 w' → w'.cell? ⟨w.heap.size, 2, none⟩ = some (.slice (some ⟨qb, qq, none⟩) N.ids.length ic) ∧ w'.cell? ⟨p, 1, none⟩ = some (.slice (some ⟨db, 0, none⟩) N.ends.length N.ends.length) ∧ w'.cell? ⟨qb, qq + k, none⟩ = some (.int .i64 (gi N.ids k)) := fun w' h => ⟨h.cell' e3, h.cell' b1, h.cell' e4⟩
            have mk1 : ∀ (w' : World) (z : Value), (w'.cell? ⟨w.heap.size, 2, none⟩ = some (.slice (some ⟨qb, qq, none⟩) N.ids.length ic) ∧ w'.cell? ⟨p, 1, none⟩ = some (.slice (some ⟨db, 0, none⟩) N.ends.length N.ends.length) ∧ w'.cell? ⟨qb, qq + k, none⟩ = some (.int .i64 (gi N.ids k))) → (w'.setCell ⟨db, c, none⟩ z).cell? ⟨w.heap.size, 2, none⟩ = some (.slice (some ⟨qb, qq, none⟩) N.ids.length ic) ∧ (w'.setCell ⟨db, c, none⟩ z).cell? ⟨p, 1, none⟩ = some (.slice (some ⟨db, 0, none⟩) N.ends.length N.ends.length) ∧ (w'.setCell ⟨db, c, none⟩ z).cell? ⟨qb, qq + k, none⟩ = some (.int .i64 (gi N.ids k)) := fun w' z ⟨a0, a1, a2⟩ => ⟨(far _ _ _ (by show w.heap.size ≠ _; omega)).trans a0, (far _ _ _ hpd).trans a1, (far _ _ _ (by show qb ≠ _; omega)).trans a2⟩
            clear far hd3 h0
            have hdn : decide (0 < N.ends.length) = true := decide_eq_true (by omega)
            go_upto_region 15 with fail
            go_region_held3 (fun w' => w'.cell? ⟨w.heap.size, 2, none⟩ = some (.slice (some ⟨qb, qq, none⟩) N.ids.length ic) ∧ w'.cell? ⟨p, 1, none⟩ = some (.slice (some ⟨db, 0, none⟩) N.ends.length N.ends.length) ∧ w'.cell? ⟨qb, qq + k, none⟩ = some (.int .i64 (gi N.ids k)))
              (first | exact mk0 _ (Ext.rfl' W3) | exact mk0 _ (Ext.rfl' W3).drew' | exact mk1 _ _ (mk0 _ (Ext.rfl' W3)) | exact mk1 _ _ (mk0 _ (Ext.rfl' W3).drew') | fail)
              (first | fail)
            clear mk0 mk1 f1 f2 e3 e4 b1
            go_wp2
            go_roundg (N.ends.length - (k + 1))
            case measure => omega
            case rel => exact ⟨k + 1, _, _, by omega, rfl, by go_num, F4.out.mono (Ext.rfl' _).drew'⟩
        · obtain rfl : k = N.ends.length := by omega
          have hil : N.inputs.length = N.ends.length := by have := hg.2.2.2.1; omega
          have hdl : N.ids.length = 0 ∨ N.ids.length = N.ends.length := by have := hg.2.2.1.1; omega
          obtain ⟨bs, ho, hf⟩ := Fr.out.own hp (by omega) hil hdl HPr.out HIr.out
          have HO := Lib.hid ho
          have HFs := Lib.hid hf
          obtain ⟨b0, b1, b2, _, _, _⟩ := row3_facts Fr.out.box
          obtain ⟨r0, r1, r2, t0, t1, t2⟩ := row3_facts (row_ext RR.out.1 Fr.out.ext)
          have rs := RR.out.2
          have es := Fr.out.ext.size
          have hwX := HX.out.size
          have hlt2 := HO.out.lt
          clear ho hf hil hdl
          obtain ⟨xa, xn, xc, rfl⟩ : ∃ xa xn xc, x1 = .slice xa xn xc := by
            rcases Fr.out.ids with ⟨_, e⟩ | ⟨_, db, e, _⟩
            · exact ⟨_, _, _, e⟩
            · exact ⟨_, _, _, e⟩
          go_wp2
          refine bodyPost_ret (v := .agg #[.slice (some ⟨eb, 0, none⟩) N.ends.length N.ends.length, .slice xa xn xc, .slice (some ⟨ib, 0, none⟩) N.ends.length N.ends.length]) (by simp [results, Try.results145, go_sem, r0, r1, r2]) rfl ?_
          have hst : ∀ (wx : World) (p : Addr) (u : Value), p.block = w.heap.size + 1 → ∀ b ∈ bs, (wx.setCell p u).heap[b]? = wx.heap[b]? := fun wx p u hp b hb' => Below.heap_setCell _ _ _ _ (by have := HFs.out.2 b hb'; omega)
          exact ⟨_, bs, rfl, store3_ext (HX.out.trans' Fr.out.ext) (by omega) _ _ _, ((HO.out.keep (hst _ _ _ rfl)).keep (hst _ _ _ rfl)).keep (hst _ _ _ rfl), HFs.out.of (by omega)⟩
end Go.Proofs.Ytkeiaahlifdbiaa
