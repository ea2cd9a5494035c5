/- The program's change that keeps nodes, and KeepNodes. -/
import Derived.Test.YtpkgghkibgadnaaKs
namespace Go.Proofs.Ytpkgghkibgadnaa
open Go.RowKit

theorem inc_lt {l : List Int} {lo hi : Int} (h : Inc l lo hi) : ∀ {i j : Nat}, i < j → j < l.length → gi l i < gi l j
  | i, 0, hij, _ => absurd hij (by omega)
  | i, j + 1, hij, hj => by
    have h1 := (h (j + 1) hj).2 (by omega)
    rw [Nat.add_sub_cancel] at h1
    by_cases e : i = j
    · subst e; exact h1
    · have := inc_lt h (i := i) (j := j) (by omega) (by omega); omega
/-- The first c of the list are less than v, the others are not. -/
def Placed (l : List Int) (v c : Nat) : Prop := c ≤ l.length ∧ (∀ i, i < c → gi l i < v) ∧ ∀ i, c ≤ i → i < l.length → (v : Int) ≤ gi l i
theorem placed_zero {l : List Int} {hi : Int} (h : Inc l 0 hi) : Placed l 0 0 := ⟨Nat.zero_le _, fun i hi => absurd hi (by omega), fun i _ hi => (h i hi).1.1⟩
theorem ix_at {l : List Int} {lo hi : Int} (h : Inc l lo hi) {c : Nat} (hc : c < l.length) : ixK l (gi l c) = c := by
  refine (first_ix (.inr ⟨c, rfl, hc, rfl, fun j hj e => ?_⟩)).symm
  have := inc_lt h hj hc; omega
theorem placed_step {l : List Int} {n v c : Nat} (h : Inc l 0 ((n : Int) - 1)) (_ : v < n) (hp : Placed l v c) :
    (Has l (v : Int) → gi l c = v ∧ c < l.length ∧ ixK l (v : Int) = (c : Int) ∧ Placed l (v + 1) (c + 1)) ∧ (¬ Has l (v : Int) → Placed l (v + 1) c) := by
  obtain ⟨h1, h2, h3⟩ := hp
  refine ⟨fun ⟨k, hk, e⟩ => ?_, fun hn => ⟨h1, fun i hi => by have := h2 i hi; omega, fun i hc hi => ?_⟩⟩
  · have hck : c = k := by
      by_cases e1 : k < c
      · have := h2 k e1; omega
      · by_cases e2 : c < k
        · have := inc_lt h e2 hk; have := h3 c (Nat.le_refl _) (by omega); omega
        · omega
    subst hck
    refine ⟨e, hk, by rw [← e]; exact ix_at h hk, by omega, fun i hi => ?_, fun i hc hi => ?_⟩
    · by_cases e1 : i = c
      · subst e1; omega
      · have := h2 i (by omega); omega
    · have := inc_lt h (show c < i by omega) hi; omega
  · have := h3 i hc hi
    have : gi l i ≠ (v : Int) := fun e => hn ⟨i, hi, e⟩
    omega
theorem placed_end {l : List Int} {n c : Nat} (h : Inc l 0 ((n : Int) - 1)) (hp : Placed l n c) : c = l.length := by
  by_cases e : c < l.length
  · have := hp.2.2 c (Nat.le_refl _) e
    have := (h c e).1.2
    omega
  · have := hp.1; omega
theorem inc_ge {l : List Int} {hi : Int} (h : Inc l 0 hi) : ∀ i, i < l.length → (i : Int) ≤ gi l i
  | 0, hi => (h 0 hi).1.1
  | i + 1, hi => by
    have := inc_ge h i (by omega)
    have := inc_lt h (show i < i + 1 by omega) hi
    omega
theorem inc_len {l : List Int} {n : Nat} (h : Inc l 0 ((n : Int) - 1)) : l.length ≤ n := by
  by_cases e : l.length = 0
  · omega
  · have h1 := inc_ge h (l.length - 1) (by omega)
    have h2 := (h (l.length - 1) (by omega)).1.2
    omega
theorem keepNet_len (N : Net) (l : List Int) : (keepNet N l).ends.length = l.length := by simp [keepNet]
theorem keepNet_inputs (N : Net) (l : List Int) : (keepNet N l).inputs.length = l.length := by simp [keepNet]
theorem keepNet_ids (N : Net) (l : List Int) : (N.ids.length = 0 ∧ (keepNet N l).ids.length = 0) ∨ (0 < N.ids.length ∧ (keepNet N l).ids.length = (keepNet N l).ends.length) := by
  rw [keepNet_len]
  by_cases h : N.ids.length = 0
  · exact .inl ⟨h, by simp [keepNet, h]⟩
  · exact .inr ⟨by omega, by simp [keepNet, h]⟩
theorem keep_at {N : Net} {l : List Int} {c v : Nat} (hc : c < l.length) (e : gi l c = v) :
    keepRow N l v = gr (keepNet N l).ends c ∧ gi (keepNet N l).inputs c = gi N.inputs v ∧ gi (keepNet N l).ids c = gi N.ids v := by
  have hl : l[c] = (v : Int) := by simpa [gi, hc] using e
  refine ⟨?_, ?_, ?_⟩
  · simp [keepNet, gr, List.getD, hc, hl]
  · simp [keepNet, gi, List.getD, hc, hl]
  · by_cases h : N.ids.length = 0
    · have : N.ids = [] := List.length_eq_zero_iff.1 h
      simp [keepNet, this, gi]
    · simp only [keepNet, if_neg h]
      simp [gi, List.getD, hc, hl]
theorem keep_self (N : Net) (l : List Int) : ({ keepNet N l with ends := (List.range (keepNet N l).ends.length).map (fun c => gr (keepNet N l).ends c) } : Net) = keepNet N l := by
  have : (List.range (keepNet N l).ends.length).map (fun c => gr (keepNet N l).ends c) = (keepNet N l).ends := by
    refine List.ext_getElem (by simp) fun i h1 h2 => ?_
    simp [gr, List.getD, h2]
  rw [this]
theorem keep_range {N : Net} {l : List Int} (hg : Good N) (h : Inc l 0 ((N.ends.length : Int) - 1)) : (∀ i, i < (keepNet N l).inputs.length → inI64 (gi (keepNet N l).inputs i)) ∧ ∀ i, i < (keepNet N l).ids.length → inI64 (gi (keepNet N l).ids i) := by
  have key : ∀ c, c < l.length → ∃ v : Nat, gi l c = v ∧ v < N.ends.length := fun c hc => by
    have := (h c hc).1
    exact ⟨(gi l c).toNat, by have := this.1; omega, by have h1 := this.1; have h2 := this.2; omega⟩
  have hi : N.inputs.length = N.ends.length := by have := hg.2.2.2.1; omega
  refine ⟨fun i hi' => ?_, fun i hi' => ?_⟩
  · rw [keepNet_inputs] at hi'
    obtain ⟨v, e, hv⟩ := key i hi'
    rw [(keep_at hi' e).2.1]
    have := hg.2.2.2.2 v (by omega)
    unfold inI64; omega
  · rcases keepNet_ids N l with ⟨_, h0⟩ | ⟨h0, h1⟩
    · omega
    · rw [h1, keepNet_len] at hi'
      obtain ⟨v, e, hv⟩ := key i hi'
      rw [(keep_at hi' e).2.2]
      have h3 := hg.2.2.1.1
      have h4 : 1 ≤ gi N.ids v ∧ gi N.ids v ≤ 999999 := (hg.2.2.1.2 v (by omega)).1
      unfold inI64; omega

set_option maxHeartbeats 3200000 in
set_option maxRecDepth 100000 in
theorem after3_any {w : World} {c : Value} {N : Net} {x y : Int} {l : List Int} (h : ChgAt w c 3 N x y l) (hg : Good N) (hinc : Inc l 0 ((N.ends.length : Int) - 1)) (hl0 : 0 < l.length) :
    Calls Try.prog 31 #[c] w fun e w' => ∃ v' bs, e = .returned v' ∧ Ext w w' ∧ OwnNet w' v' (keepNet N l) bs ∧ Fresh w bs := by
  have hKl := keepNet_len N l
  have hlk : l.length ≤ 40 := by have := inc_len hinc; have := hg.1.2; omega
  have HG := Lib.hid hg
  have HINC := Lib.hid hinc
  obtain ⟨ro, hro⟩ : ∃ ro : Rows', ro = fun c => gr (keepNet N l).ends c := ⟨_, rfl⟩
  have HNd := Lib.hid (fun (w' : World) (v : Nat) (hw : Ext w w') => nodeAfter3_any (v : Int) (h.ext hw))
  have HPt := Lib.hid (fun (w' : World) (v : Nat) (hw : Ext w w') (hv : v < N.ends.length) => portsAfter3_any v (h.ext hw) hg hv hlk)
  have HKL := Lib.hid hKl
  have HKI := Lib.hid (keepNet_inputs N l)
  have HKD := Lib.hid (keepNet_ids N l)
  have HPZ := Lib.hid (placed_zero hinc)
  have HST := Lib.hid (fun v c (hv : v < N.ends.length) (hp : Placed l v c) => placed_step (n := N.ends.length) hinc hv hp)
  have HEND := Lib.hid (fun c (hp : Placed l N.ends.length c) => placed_end hinc hp)
  obtain ⟨K, hK⟩ : ∃ K, K = keepNet N l := ⟨_, rfl⟩
  rw [← hK] at HKL HKI HKD
  have HK := Lib.hid hK
  obtain ⟨v0, v1, v2, v3, rfl, hN, hL⟩ := h
  obtain ⟨la, lb, lo, lc, rfl, -, hll, hlm, -⟩ := hL
  unfold maxLen at hlm
  rw [← HKL.out] at hll hlk hl0
  have hKm : K.ends.length ≤ 1048576 := by omega
  have hp := idl_perm K.ends.length
  have HFv : l.length = K.ends.length := HKL.out.symm
  rw [HFv] at HNd HPt
  rw [HFv]
  have HRO := Lib.hid (show ∀ (c v : Nat), c < K.ends.length → gi l c = v → keepRow N l v = ro c ∧ gi K.inputs c = gi N.inputs v ∧ gi K.ids c = gi N.ids v from fun c v hc e => by
    rw [hro, hK]; exact keep_at (by have := HKL.out; omega) e)
  rw [show keepNet N l = K from hK.symm]
  have HSELF := Lib.hid (show ({ K with ends := (List.range K.ends.length).map ro } : Net) = K by rw [hro, hK]; exact keep_self N l)
  clear hK HFv hinc hro
  obtain ⟨_, _, _, h0, hE, hI, hP⟩ := hN
  cases h0
  have HIr := Lib.hid hI.range
  have HPr := Lib.hid hP.range
  have HP := Lib.hid hP
  have HI := Lib.hid hI
  obtain ⟨a, b, o, cc, rfl, ha, hl, hm, hc⟩ := hE
  obtain ⟨ia, ib0, io, ic, rfl, -, -, him, -⟩ := hI
  obtain ⟨pa, pb0, po, pc, rfl, -, -, hpm, -⟩ := hP
  unfold maxLen at hm him hpm
  have hX := ((Ext.rfl' w).alloc' (.cells #[.int .i64 3, .slice a N.ends.length cc, .slice ia N.ids.length ic, .slice pa N.inputs.length pc, .int .i64 x, .int .i64 y, .slice la K.ends.length lc] 54)).alloc' (.cells #[.slice none 0 0, .slice none 0 0, .slice none 0 0] 29)
  have HX := Lib.hid hX
  have hY := (Ext.rfl' (w.alloc (.cells #[.int .i64 3, .slice a N.ends.length cc, .slice ia N.ids.length ic, .slice pa N.inputs.length pc, .int .i64 x, .int .i64 y, .slice la K.ends.length lc] 54))).alloc' (.cells #[.slice none 0 0, .slice none 0 0, .slice none 0 0] 29)
  obtain ⟨c0, c1, c2, c3, c4, c5, c6⟩ := chg_cells w 3 (.slice a N.ends.length cc) (.slice ia N.ids.length ic) (.slice pa N.inputs.length pc) (.slice la K.ends.length lc) x y
  have HC : Hid _ := And.intro (hY.cell' c0) (And.intro (hY.cell' c1) (And.intro (hY.cell' c2) (And.intro (hY.cell' c3) (And.intro (hY.cell' c4) (And.intro (hY.cell' c5) (hY.cell' c6))))))
  have RR : Hid (((w.alloc (.cells #[.int .i64 3, .slice a N.ends.length cc, .slice ia N.ids.length ic, .slice pa N.inputs.length pc, .int .i64 x, .int .i64 y, .slice la K.ends.length lc] 54)).alloc (.cells #[.slice none 0 0, .slice none 0 0, .slice none 0 0] 29)).rowIs (w.heap.size + 1) 29 3 (tri (.slice none 0 0) (.slice none 0 0) (.slice none 0 0)) ∧ w.heap.size + 2 ≤ ((w.alloc (.cells #[.int .i64 3, .slice a N.ends.length cc, .slice ia N.ids.length ic, .slice pa N.inputs.length pc, .int .i64 x, .int .i64 y, .slice la K.ends.length lc] 54)).alloc (.cells #[.slice none 0 0, .slice none 0 0, .slice none 0 0] 29)).heap.size) := And.intro (by simpa using row3_made (w.alloc (.cells #[.int .i64 3, .slice a N.ends.length cc, .slice ia N.ids.length ic, .slice pa N.inputs.length pc, .int .i64 x, .int .i64 y, .slice la K.ends.length lc] 54)) (.slice none 0 0) (.slice none 0 0) (.slice none 0 0) 29) (by simp)
  clear hc ha hX hY c0 c1 c2 c3 c4 c5 c6
  have h40 := hg.1.2
  have hmk := run_make_row' (P := Try.prog) 27 59 (.slice none 0 0) 24 Try.underlying27 Try.info70 rfl .i64 .i64 K.ends.length (by omega) (by omega)
  have hmj := run_make_row' (P := Try.prog) 23 3 (.int .i64 0) 8 Try.underlying23 Try.info3 rfl .i64 .i64 K.ends.length (by omega) (by omega)
  obtain ⟨c0, c1, c2, c3, c4, c5, c6⟩ := HC.out
  go_enter Try.func31, Try.ntmps31
  go_wp2_with fail
  generalize (w.alloc (.cells #[.int .i64 3, .slice a N.ends.length cc, .slice ia N.ids.length ic, .slice pa N.inputs.length pc, .int .i64 x, .int .i64 y, .slice la K.ends.length lc] 54)).alloc (.cells #[.slice none 0 0, .slice none 0 0, .slice none 0 0] 29) = W0 at *
  go_cut [4] from 17 to 21 (fun t4 wx => ∃ p eb ib, t4 = .pointer (some ⟨p, 0, none⟩) ∧ Hid (MadeC W0 K.ends.length p eb ib wx))
  case first =>
    go_region_held3 (fun w' => True) (trivial) (fail)
    all_goals go_wp2_with fail
    all_goals go_meet
    all_goals (first | exact ⟨_, W0.heap.size + 1, W0.heap.size + 1 + 1, rfl, made_ofC ((((Ext.rfl' W0).alloc' _).alloc' _).alloc' _).drew' (by omega) (by omega) (by omega) (threeC W0 _ _ _).1 (threeC W0 _ _ _).2.1 (threeC W0 _ _ _).2.2⟩ | exact ⟨_, W0.heap.size + 1 + 1, W0.heap.size + 1, rfl, made_ofC ((((Ext.rfl' W0).alloc' _).alloc' _).alloc' _).drew' (by omega) (by omega) (by omega) (threeC W0 _ _ _).1 (threeC W0 _ _ _).2.2 (threeC W0 _ _ _).2.1⟩ | exact ⟨_, W0.heap.size, W0.heap.size + 1 + 1, rfl, made_ofC ((((Ext.rfl' W0).alloc' _).alloc' _).alloc' _).drew' (by omega) (by omega) (by omega) (threeC W0 _ _ _).2.1 (threeC W0 _ _ _).1 (threeC W0 _ _ _).2.2⟩ | exact ⟨_, W0.heap.size + 1 + 1, W0.heap.size, rfl, made_ofC ((((Ext.rfl' W0).alloc' _).alloc' _).alloc' _).drew' (by omega) (by omega) (by omega) (threeC W0 _ _ _).2.1 (threeC W0 _ _ _).2.2 (threeC W0 _ _ _).1⟩ | exact ⟨_, W0.heap.size, W0.heap.size + 1, rfl, made_ofC ((((Ext.rfl' W0).alloc' _).alloc' _).alloc' _).drew' (by omega) (by omega) (by omega) (threeC W0 _ _ _).2.2 (threeC W0 _ _ _).1 (threeC W0 _ _ _).2.1⟩ | exact ⟨_, W0.heap.size + 1, W0.heap.size, rfl, made_ofC ((((Ext.rfl' W0).alloc' _).alloc' _).alloc' _).drew' (by omega) (by omega) (by omega) (threeC W0 _ _ _).2.2 (threeC W0 _ _ _).2.1 (threeC W0 _ _ _).1⟩)
  case rest =>
    obtain ⟨p, eb, ib, rfl, M⟩ := hcut
    obtain ⟨mx, mp, me, mi, mbox, mends, mins⟩ := M.out
    have HE := Lib.hid mends
    have HN := Lib.hid mins
    have HB := Lib.hid mbox
    have MX := Lib.hid mx
    have d2 := mx.cell' c2
    obtain ⟨p0, p1, p2, f0, f1, f2⟩ := row3_facts mbox
    clear c0 c1 c2 c3 c4 c5 c6 mends mins mbox mx M
    go_upto_if 26 with (fail)
    go_cut [] from 27 to 29 (fun wx => ∃ x1, Hid (FillR W0 wx K (idl K.ends.length) ro 0 0 0 p eb ib x1 (fun _ => .slice none 0 0) (fun _ => [])))
    case first =>
      by_cases hid : N.ids.length = 0
      case pos =>
        have hb : decide (0 < N.ids.length) = false := decide_eq_false (by omega)
        go_wp2
        go_meet
        case rel => exact ⟨.slice none 0 0, MX.out, mp, me, mi, HB.out, by rw [fill_zero]; exact HE.out, by rw [fill_zero]; exact HN.out, .inl ⟨by have := HKD.out; omega, rfl⟩, fun v hv => absurd hv (by omega), fun u v hu => absurd hu (by omega), fun v hv => absurd hv (by omega)⟩
      case neg =>
        have hb : decide (0 < N.ids.length) = true := decide_eq_true (by omega)
        obtain ⟨q0, q1, q2, g0, g1, g2⟩ := row3_facts (row_ext HB.out ((Ext.rfl' wc).alloc' (.cells (madeCells #[.int .i64 0] K.ends.length) 3)))
        go_wp2
        go_meet
        have hx1 := (Ext.rfl' wc).alloc' (.cells (madeCells #[.int .i64 0] K.ends.length) 3)
        have hbx := row_ext HB.out hx1
        have hlt := HN.out.lt
        have hsz := MX.out.size
        case rel => exact ⟨.slice (some ⟨wc.heap.size, 0, none⟩) K.ends.length K.ends.length, (MX.out.alloc' _).store mp _, mp, me, mi, row3_set1 hbx _, by rw [fill_zero]; exact row_far (row_ext HE.out hx1) hbx (by decide), by rw [fill_zero]; exact row_far (row_ext HN.out hx1) hbx (by decide), .inr ⟨by have := HKD.out; omega, wc.heap.size, rfl, hsz, by omega, by rw [fill_zero]; exact row_far (World.rowIs_made wc _ _ _) hbx (by decide)⟩, fun v hv => absurd hv (by omega), fun u v hu => absurd hu (by omega), fun v hv => absurd hv (by omega)⟩
    case rest =>
      obtain ⟨x1, F⟩ := hcut
      have d1 := F.out.ext.cell' HC.out.2.1
      clear p0 p1 p2 f0 f1 f2 d2 hmk hmj HE HN HB MX
      go_wp2_with fail
      clear d1
      go_loopg [34] N.ends.length (fun g i wx => ∃ (k c : Nat) (R : Nat → Value) (T : Nat → List Nat), k ≤ N.ends.length ∧ g = N.ends.length - k ∧ i = .int .i64 k ∧ Hid (Placed l k c) ∧ Hid (FillR W0 wx K (idl K.ends.length) ro c c c p eb ib x1 R T))
      case atStart => exact ⟨0, 0, _, _, Nat.zero_le _, rfl, rfl, HPZ.out, F.out⟩
      case round =>
        obtain ⟨k, c, R, T, hk, rfl, rfl, PC, Fr⟩ := hrel
        by_cases hlt : k < N.ends.length
        · have SP := HST.out k c hlt PC.out
          have hil : N.inputs.length = N.ends.length := by have := hg.2.2.2.1; omega
          obtain ⟨py, pb, pq, pz, hpy, hpa, _, _, hpc⟩ := HP.out
          simp only [Value.slice.injEq, true_and] at hpy
          obtain ⟨rfl, rfl⟩ := hpy
          obtain ⟨_, hsrc, rfl, _⟩ := hpc k (by omega)
          obtain rfl := hpa (by omega)
          have HSrc := Lib.hid (HX.out.cell' hsrc)
          have hsb := World.block_lt_of_cell? _ _ hsrc
          have hkl : k < N.inputs.length := by omega
          clear hpc hpa hsrc hil
          obtain ⟨d0, d1, d2, d3, d4, d5, d6⟩ := HC.out
          have d0 := Fr.out.ext.cell' d0
          have d1 := Fr.out.ext.cell' d1
          have d2 := Fr.out.ext.cell' d2
          have d3 := Fr.out.ext.cell' d3
          have d4 := Fr.out.ext.cell' d4
          have d5 := Fr.out.ext.cell' d5
          have d6 := Fr.out.ext.cell' d6
          have EX := Lib.hid (HX.out.trans' Fr.out.ext)
          by_cases hh : Has l (k : Int)
          case neg =>
            have HIX := Lib.hid (ixK_f hh)
            have HP2 := Lib.hid (SP.2 hh)
            have hneg : decide ((-1 : Int) < 0) = true := rfl
            clear hh SP
            go_wp2_with (first | (go_at_call 62; (with_reducible refine (HNd.out _ k EX.out).mono ?_); rintro e wa ⟨rfl, hw⟩; rw [HIX.out]; have F1 := Lib.hid (Fr.out.mono hw); clear hw) | fail)
            go_roundg (N.ends.length - (k + 1))
            case measure => omega
            case rel => exact ⟨k + 1, c, _, _, by omega, rfl, by go_num, HP2.out, F1.out⟩
          obtain ⟨hgc, hcl, hix, hp2⟩ := SP.1 hh
          have HIX := Lib.hid hix
          have HP2 := Lib.hid hp2
          have hcn : c < K.ends.length := by rw [HKL.out]; exact hcl
          obtain ⟨ro1, ro2, ro3⟩ := HRO.out c k hcn hgc
          have HR1 := Lib.hid ro1
          have HR2 := Lib.hid ro2
          have HR3 := Lib.hid ro3
          have hcv : gi (idl K.ends.length) c = c := gi_idl hcn
          clear hh hgc hcl hix hp2 ro1 ro2 ro3 SP
          have hcb : decide ((c : Int) < 0) = false := decide_eq_false (by omega)
          go_upto_region 12 with (first | (go_at_call 62; (with_reducible refine (HNd.out _ k EX.out).mono ?_); rintro e wa ⟨rfl, hw⟩; rw [HIX.out]; have F1 := Lib.hid (Fr.out.mono hw); have HW1 := Lib.hid hw; clear hw) | fail)
          obtain ⟨b0, b1, b2, _, _, _⟩ := row3_facts F1.out.box
          have d0 := HW1.out.cell' d0
          have d1 := HW1.out.cell' d1
          have d2 := HW1.out.cell' d2
          have d3 := HW1.out.cell' d3
          have d4 := HW1.out.cell' d4
          have d5 := HW1.out.cell' d5
          have d6 := HW1.out.cell' d6
          have hRRs := RR.out.2
          have hes := Fr.out.he
          have hpe := ne_by_type F1.out.box F1.out.ends (by decide)
          have far : ∀ (w' : World) (q : Addr) (z : Value), q.block ≠ eb → (w'.setCell ⟨eb, c, none⟩ z).cell? q = w'.cell? q := fun w' q z hq => World.cell?_setCell_far _ _ _ _ (Ne.symm hq)
          have mk0 : ∀ w', Ext wa w' → w'.cell? ⟨w.heap.size, 0, none⟩ = some (.int .i64 3) ∧ w'.cell? ⟨w.heap.size, 1, none⟩ = some (.slice a N.ends.length cc) ∧ w'.cell? ⟨w.heap.size, 2, none⟩ = some (.slice ia N.ids.length ic) ∧ w'.cell? ⟨w.heap.size, 3, none⟩ = some (.slice (some ⟨pb, pq, none⟩) N.inputs.length pc) ∧ w'.cell? ⟨w.heap.size, 4, none⟩ = some (.int .i64 x) ∧ w'.cell? ⟨w.heap.size, 5, none⟩ = some (.int .i64 y) ∧ w'.cell? ⟨w.heap.size, 6, none⟩ = some (.slice la K.ends.length lc) ∧ w'.cell? ⟨p, 0, none⟩ = some (.slice (some ⟨eb, 0, none⟩) K.ends.length K.ends.length) := fun w' h => ⟨h.cell' d0, h.cell' d1, h.cell' d2, h.cell' d3, h.cell' d4, h.cell' d5, h.cell' d6, h.cell' b0⟩
          have mk1 : ∀ (w' : World) (z : Value), (w'.cell? ⟨w.heap.size, 0, none⟩ = some (.int .i64 3) ∧ w'.cell? ⟨w.heap.size, 1, none⟩ = some (.slice a N.ends.length cc) ∧ w'.cell? ⟨w.heap.size, 2, none⟩ = some (.slice ia N.ids.length ic) ∧ w'.cell? ⟨w.heap.size, 3, none⟩ = some (.slice (some ⟨pb, pq, none⟩) N.inputs.length pc) ∧ w'.cell? ⟨w.heap.size, 4, none⟩ = some (.int .i64 x) ∧ w'.cell? ⟨w.heap.size, 5, none⟩ = some (.int .i64 y) ∧ w'.cell? ⟨w.heap.size, 6, none⟩ = some (.slice la K.ends.length lc) ∧ w'.cell? ⟨p, 0, none⟩ = some (.slice (some ⟨eb, 0, none⟩) K.ends.length K.ends.length)) → (w'.setCell ⟨eb, c, none⟩ z).cell? ⟨w.heap.size, 0, none⟩ = some (.int .i64 3) ∧ (w'.setCell ⟨eb, c, none⟩ z).cell? ⟨w.heap.size, 1, none⟩ = some (.slice a N.ends.length cc) ∧ (w'.setCell ⟨eb, c, none⟩ z).cell? ⟨w.heap.size, 2, none⟩ = some (.slice ia N.ids.length ic) ∧ (w'.setCell ⟨eb, c, none⟩ z).cell? ⟨w.heap.size, 3, none⟩ = some (.slice (some ⟨pb, pq, none⟩) N.inputs.length pc) ∧ (w'.setCell ⟨eb, c, none⟩ z).cell? ⟨w.heap.size, 4, none⟩ = some (.int .i64 x) ∧ (w'.setCell ⟨eb, c, none⟩ z).cell? ⟨w.heap.size, 5, none⟩ = some (.int .i64 y) ∧ (w'.setCell ⟨eb, c, none⟩ z).cell? ⟨w.heap.size, 6, none⟩ = some (.slice la K.ends.length lc) ∧ (w'.setCell ⟨eb, c, none⟩ z).cell? ⟨p, 0, none⟩ = some (.slice (some ⟨eb, 0, none⟩) K.ends.length K.ends.length) := fun w' z ⟨a0, a1, a2, a3, a4, a5, a6, a7⟩ => ⟨(far _ _ _ (by show w.heap.size ≠ _; omega)).trans a0, (far _ _ _ (by show w.heap.size ≠ _; omega)).trans a1, (far _ _ _ (by show w.heap.size ≠ _; omega)).trans a2, (far _ _ _ (by show w.heap.size ≠ _; omega)).trans a3, (far _ _ _ (by show w.heap.size ≠ _; omega)).trans a4, (far _ _ _ (by show w.heap.size ≠ _; omega)).trans a5, (far _ _ _ (by show w.heap.size ≠ _; omega)).trans a6, (far _ _ _ hpe).trans a7⟩
          have XD : Hid (Ext wa wa.drew) := (Ext.rfl' wa).drew'
          have HF := Lib.hid far
          clear d0 d1 d2 d3 d4 d5 d6 b0 b1 b2 far
          go_region_held3 (fun w' => w'.cell? ⟨w.heap.size, 0, none⟩ = some (.int .i64 3) ∧ w'.cell? ⟨w.heap.size, 1, none⟩ = some (.slice a N.ends.length cc) ∧ w'.cell? ⟨w.heap.size, 2, none⟩ = some (.slice ia N.ids.length ic) ∧ w'.cell? ⟨w.heap.size, 3, none⟩ = some (.slice (some ⟨pb, pq, none⟩) N.inputs.length pc) ∧ w'.cell? ⟨w.heap.size, 4, none⟩ = some (.int .i64 x) ∧ w'.cell? ⟨w.heap.size, 5, none⟩ = some (.int .i64 y) ∧ w'.cell? ⟨w.heap.size, 6, none⟩ = some (.slice la K.ends.length lc) ∧ w'.cell? ⟨p, 0, none⟩ = some (.slice (some ⟨eb, 0, none⟩) K.ends.length K.ends.length))
            (first | exact mk0 _ (Hid.out ‹Hid (Ext wa _)›) | exact mk1 _ _ (mk0 _ (Hid.out ‹Hid (Ext wa _)›)) | fail)
            (first | (go_at_call 63; (with_reducible refine (HPt.out _ k (EX.out.trans' (HW1.out.trans' (Hid.out ‹Hid (Ext wa _)›))) hlt).mono ?_); rintro e wb ⟨v', bs, rfl, hw, ho, hf⟩; rw [HR1.out] at ho; obtain ⟨za, zc, rfl⟩ := ho.1.slice; have XB := Lib.hid (Ext.trans' (Hid.out ‹Hid (Ext wa _)›) hw); have OB := Lib.hid ho; have FB := Lib.hid hf; have f1 := (row_ext F1.out.ends XB.out).cell (i := c) hcn; have f2 := (row_ext F1.out.ends XB.out).frozen c; clear hw ho hf) | fail)
          rename_i hS
          obtain ⟨d0, d1, d2, d3, d4, d5, d6, b0⟩ := hS
          have F2 := Lib.hid (F1.out.stepE hp hcn hcv XB.out OB.out (fun b hb => by have := FB.out.2 b hb; exact this))
          clear f1 f2
          generalize wb.setCell ⟨eb, c, none⟩ (.slice za (ro c).length zc) = W2 at *
          clear d0 d1 d2 d3 d4 d5 d6 b0 HF mk0 mk1 XB OB FB XD
          have e3 := F2.out.ext.cell' HC.out.2.2.2.1
          have e4 := F2.out.ext.cell' HSrc.out
          obtain ⟨_, _, b2, _, _, _⟩ := row3_facts F2.out.box
          have f1 := F2.out.ins.cell (i := c) hcn
          have f2 := F2.out.ins.frozen c
          have hpi := ne_by_type F2.out.box F2.out.ins (by decide)
          have his := F2.out.hi
          have F3' := F2.out.stepI hp hcn hcv
          rw [HR2.out] at F3'
          have F3 := Lib.hid F3'
          clear F3'
          have far : ∀ (w' : World) (q : Addr) (z : Value), q.block ≠ ib → (w'.setCell ⟨ib, c, none⟩ z).cell? q = w'.cell? q := fun w' q z hq => World.cell?_setCell_far _ _ _ _ (Ne.symm hq)
          have mk0 : ∀ w', Ext W2 w' → w'.cell? ⟨w.heap.size, 3, none⟩ = some (.slice (some ⟨pb, pq, none⟩) N.inputs.length pc) ∧ w'.cell? ⟨p, 2, none⟩ = some (.slice (some ⟨ib, 0, none⟩) K.ends.length K.ends.length) ∧ w'.cell? ⟨pb, pq + k, none⟩ = some (.int .i64 (gi N.inputs k)) := fun w' h => ⟨h.cell' e3, h.cell' b2, h.cell' e4⟩
          have mk1 : ∀ (w' : World) (z : Value), (w'.cell? ⟨w.heap.size, 3, none⟩ = some (.slice (some ⟨pb, pq, none⟩) N.inputs.length pc) ∧ w'.cell? ⟨p, 2, none⟩ = some (.slice (some ⟨ib, 0, none⟩) K.ends.length K.ends.length) ∧ w'.cell? ⟨pb, pq + k, none⟩ = some (.int .i64 (gi N.inputs k))) → (w'.setCell ⟨ib, c, none⟩ z).cell? ⟨w.heap.size, 3, none⟩ = some (.slice (some ⟨pb, pq, none⟩) N.inputs.length pc) ∧ (w'.setCell ⟨ib, c, none⟩ z).cell? ⟨p, 2, none⟩ = some (.slice (some ⟨ib, 0, none⟩) K.ends.length K.ends.length) ∧ (w'.setCell ⟨ib, c, none⟩ z).cell? ⟨pb, pq + k, none⟩ = some (.int .i64 (gi N.inputs k)) := fun w' z ⟨a0, a1, a2⟩ => ⟨(far _ _ _ (by show w.heap.size ≠ _; omega)).trans a0, (far _ _ _ hpi).trans a1, (far _ _ _ (by show pb ≠ _; omega)).trans a2⟩
          clear far e3 e4 b2
          go_wp2_with fail
          go_region_held3 (fun w' => w'.cell? ⟨w.heap.size, 3, none⟩ = some (.slice (some ⟨pb, pq, none⟩) N.inputs.length pc) ∧ w'.cell? ⟨p, 2, none⟩ = some (.slice (some ⟨ib, 0, none⟩) K.ends.length K.ends.length) ∧ w'.cell? ⟨pb, pq + k, none⟩ = some (.int .i64 (gi N.inputs k)))
            (first | exact mk0 _ (Ext.rfl' W2) | exact mk0 _ (Ext.rfl' W2).drew' | exact mk1 _ _ (mk0 _ (Ext.rfl' W2)) | exact mk1 _ _ (mk0 _ (Ext.rfl' W2).drew') | fail)
            (first | fail)
          clear mk0 mk1 f1 f2
          have F3 := Lib.hid (F3.out.mono (Ext.rfl' _).drew')
          generalize (W2.setCell ⟨ib, c, none⟩ (.int .i64 (gi N.inputs k))).drew = W3 at *
          rcases F3.out.ids with ⟨h0, rfl⟩ | ⟨h0, db, rfl, hd1, hd2, hd3⟩
          · have H0 := Lib.hid h0
            obtain ⟨_, b1, _, _, _, _⟩ := row3_facts F3.out.box
            clear h0 hkl
            go_wp2
            go_roundg (N.ends.length - (k + 1))
            case measure => omega
            case rel => exact ⟨k + 1, c + 1, _, _, by omega, rfl, by go_num, HP2.out, ⟨F3.out.ext, F3.out.hp, F3.out.he, F3.out.hi, F3.out.box, F3.out.ends, F3.out.ins, .inl ⟨H0.out, rfl⟩, F3.out.rows, F3.out.apart, F3.out.ge⟩⟩
          · have hidl : N.ids.length = N.ends.length := by have := hg.2.2.1.1; have := HKD.out; omega
            obtain ⟨ry, qb, qq, rz, hry, hra, _, _, hrc⟩ := HI.out
            simp only [Value.slice.injEq, true_and] at hry
            obtain ⟨rfl, rfl⟩ := hry
            obtain ⟨_, hsrc, rfl, _⟩ := hrc k (by omega)
            obtain rfl := hra (by omega)
            have hqb : qb < w.heap.size := World.block_lt_of_cell? _ _ hsrc
            have e4 := F3.out.ext.cell' (HX.out.cell' hsrc)
            have e3 := F3.out.ext.cell' HC.out.2.2.1
            have hkd : k < N.ids.length := by omega
            clear hrc hra hsrc hidl
            obtain ⟨_, b1, _, _, _, _⟩ := row3_facts F3.out.box
            have f1 := hd3.cell (i := c) hcn
            have f2 := hd3.frozen c
            have hpd := ne_by_type F3.out.box hd3 (by decide)
            have F4' := F3.out.stepD hp hcn hcv h0
            rw [HR3.out] at F4'
            have F4 := Lib.hid F4'
            clear F4'
            have far : ∀ (w' : World) (q : Addr) (z : Value), q.block ≠ db → (w'.setCell ⟨db, c, none⟩ z).cell? q = w'.cell? q := fun w' q z hq => World.cell?_setCell_far _ _ _ _ (Ne.symm hq)
            have mk0 : ∀ w', Ext W3 w' → w'.cell? ⟨w.heap.size, 2, none⟩ = some (.slice (some ⟨qb, qq, none⟩) N.ids.length ic) ∧ w'.cell? ⟨p, 1, none⟩ = some (.slice (some ⟨db, 0, none⟩) K.ends.length K.ends.length) ∧ w'.cell? ⟨qb, qq + k, none⟩ = some (.int .i64 (gi N.ids k)) := fun w' h => ⟨h.cell' e3, h.cell' b1, h.cell' e4⟩
            have mk1 : ∀ (w' : World) (z : Value), (w'.cell? ⟨w.heap.size, 2, none⟩ = some (.slice (some ⟨qb, qq, none⟩) N.ids.length ic) ∧ w'.cell? ⟨p, 1, none⟩ = some (.slice (some ⟨db, 0, none⟩) K.ends.length K.ends.length) ∧ w'.cell? ⟨qb, qq + k, none⟩ = some (.int .i64 (gi N.ids k))) → (w'.setCell ⟨db, c, none⟩ z).cell? ⟨w.heap.size, 2, none⟩ = some (.slice (some ⟨qb, qq, none⟩) N.ids.length ic) ∧ (w'.setCell ⟨db, c, none⟩ z).cell? ⟨p, 1, none⟩ = some (.slice (some ⟨db, 0, none⟩) K.ends.length K.ends.length) ∧ (w'.setCell ⟨db, c, none⟩ z).cell? ⟨qb, qq + k, none⟩ = some (.int .i64 (gi N.ids k)) := fun w' z ⟨a0, a1, a2⟩ => ⟨(far _ _ _ (by show w.heap.size ≠ _; omega)).trans a0, (far _ _ _ hpd).trans a1, (far _ _ _ (by show qb ≠ _; omega)).trans a2⟩
            clear far hd3 h0
            have hdn : decide (0 < K.ends.length) = true := decide_eq_true (by omega)
            go_upto_region 15 with fail
            go_region_held3 (fun w' => w'.cell? ⟨w.heap.size, 2, none⟩ = some (.slice (some ⟨qb, qq, none⟩) N.ids.length ic) ∧ w'.cell? ⟨p, 1, none⟩ = some (.slice (some ⟨db, 0, none⟩) K.ends.length K.ends.length) ∧ w'.cell? ⟨qb, qq + k, none⟩ = some (.int .i64 (gi N.ids k)))
              (first | exact mk0 _ (Ext.rfl' W3) | exact mk0 _ (Ext.rfl' W3).drew' | exact mk1 _ _ (mk0 _ (Ext.rfl' W3)) | exact mk1 _ _ (mk0 _ (Ext.rfl' W3).drew') | fail)
              (first | fail)
            clear mk0 mk1 f1 f2 e3 e4 b1
            go_wp2
            go_roundg (N.ends.length - (k + 1))
            case measure => omega
            case rel => exact ⟨k + 1, c + 1, _, _, by omega, rfl, by go_num, HP2.out, F4.out.mono (Ext.rfl' _).drew'⟩
        · obtain rfl : k = N.ends.length := by omega
          obtain rfl : c = K.ends.length := by rw [HKL.out]; exact HEND.out c PC.out
          have hil : K.inputs.length = K.ends.length := by rw [HKI.out, HKL.out]
          have hdl : K.ids.length = 0 ∨ K.ids.length = K.ends.length := by have := HKD.out; omega
          have hir : (∀ i, i < K.inputs.length → inI64 (gi K.inputs i)) ∧ ∀ i, i < K.ids.length → inI64 (gi K.ids i) := by rw [HK.out]; exact keep_range HG.out HINC.out
          obtain ⟨bs, ho, hf⟩ := Fr.out.own hp (by omega) hil hdl hir.1 hir.2
          rw [rowNet_idl _ hil hdl, show ({ K with ends := (List.range K.ends.length).map ro } : Net) = K from HSELF.out] at ho
          clear hir
          have HO := Lib.hid ho
          have HFs := Lib.hid hf
          obtain ⟨b0, b1, b2, _, _, _⟩ := row3_facts Fr.out.box
          obtain ⟨r0, r1, r2, t0, t1, t2⟩ := row3_facts (row_ext RR.out.1 Fr.out.ext)
          have rs := RR.out.2
          have es := Fr.out.ext.size
          have hwX := HX.out.size
          have hlt2 := HO.out.lt
          clear ho hf hil hdl
          obtain ⟨xa, xn, xc, rfl⟩ : ∃ xa xn xc, x1 = .slice xa xn xc := by
            rcases Fr.out.ids with ⟨_, e⟩ | ⟨_, db, e, _⟩
            · exact ⟨_, _, _, e⟩
            · exact ⟨_, _, _, e⟩
          go_wp2
          refine bodyPost_ret (v := .agg #[.slice (some ⟨eb, 0, none⟩) K.ends.length K.ends.length, .slice xa xn xc, .slice (some ⟨ib, 0, none⟩) K.ends.length K.ends.length]) (by simp [results, Try.results31, go_sem, r0, r1, r2]) rfl ?_
          have hst : ∀ (wx : World) (p : Addr) (u : Value), p.block = w.heap.size + 1 → ∀ b ∈ bs, (wx.setCell p u).heap[b]? = wx.heap[b]? := fun wx p u hp b hb' => Below.heap_setCell _ _ _ _ (by have := HFs.out.2 b hb'; omega)
          exact ⟨_, bs, rfl, store3_ext (HX.out.trans' Fr.out.ext) (by omega) _ _ _, ((HO.out.keep (hst _ _ _ rfl)).keep (hst _ _ _ rfl)).keep (hst _ _ _ rfl), HFs.out.of (by omega)⟩
end Go.Proofs.Ytpkgghkibgadnaa
