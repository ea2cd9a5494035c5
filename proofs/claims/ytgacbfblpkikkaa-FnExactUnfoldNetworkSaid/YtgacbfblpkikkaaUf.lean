/- The contract of the model's UnfoldNetwork. -/
import Derived.Test.YtgacbfblpkikkaaUe
namespace Go.Proofs.Ytgacbfblpkikkaa
open Go.RowKit

theorem infoUW : (Try.prog.info? 72).map (fun i => (i.zero, i.size, i.bytes)) = some (some (.agg #[.int .i64 0, .int .i64 0, .int .i64 0, .int .i64 0, .int .i64 0]), 5, 40) := by kernel_rfl
theorem grow_oneV {T B v : Nat} {w : World} (hB : B ≤ w.heap.size) : GrowW viCells T B (w.alloc (.cells #[.int .i64 (v : Int), .int .i64 (-1), .int .i64 0, .int .i64 (-1), .int .i64 0] T)) (.slice (some ⟨w.heap.size, 0, none⟩) 1 1) [⟨v, 0, -1, 0, 0⟩] :=
  ⟨rfl, .inr ⟨w.heap.size, 1, _, rfl, hB, heap_alloc_new w _, Nat.le_refl _, by unfold maxLen; omega, rfl, rfl⟩⟩
theorem own_ne {g n c q b : Nat} (hb : (Value.slice (some ⟨g, 0, none⟩) n c).ownBlock = some b) (h : g < q) : b ≠ q := by
  have : g = b := by simpa [Value.ownBlock] using hb
  omega
theorem goOn_vi {N : Net} {k i : Nat} {x : Wk} (h : 0 ≤ gn (gr N.ends x.node) i) : viCells (goOn N k x i) = [.int .i64 (gn (gr N.ends x.node) i), .int .i64 (gp (gr N.ends x.node) i), .int .i64 ((x.steps : Int) + 1), .int .i64 (k : Int), .int .i64 (i : Int)] := by
  have e : ((gn (gr N.ends x.node) i).toNat : Int) = gn (gr N.ends x.node) i := by omega
  simp [viCells, goOn, e]

set_option maxHeartbeats 6400000 in
set_option maxRecDepth 100000 in
theorem specUnfold_any {w : World} {vn : Value} {N : Net} (xv xt : Int) (h : NetAt w vn N) :
    Calls Try.prog 19 #[vn, .int .i64 xv, .int .i64 xt] w fun e w' => ∃ v' bs, e = .returned (.tuple #[v', .bool (dec (UnB N xv xt))]) ∧ Ext w w' ∧ OwnNet w' v' (unAns N xv xt) bs ∧ Fresh w bs := by
  have HN := Lib.hid h
  obtain ⟨w0, v1, w2, rfl, hE, -, hP⟩ := h
  obtain ⟨ea, eb, eo, ec, rfl, hea, hel, hem, hec⟩ := hE
  obtain ⟨pa, pb, po, pc, rfl, hpa, hpl, hpm, hpc⟩ := hP
  unfold maxLen at hem hpm
  have HX := Lib.hid (boxed2_ext w (.slice ea N.ends.length ec) v1 (.slice pa N.inputs.length pc))
  have HR := Lib.hid (boxed2_row w (.slice ea N.ends.length ec) v1 (.slice pa N.inputs.length pc))
  have HQ := Lib.hid (boxed2_res w (.slice ea N.ends.length ec) v1 (.slice pa N.inputs.length pc))
  by_cases hv : NodeAns N xv
  case neg =>
    have G := Lib.hid (dec_false hv)
    have E := Lib.hid (show ¬ UnB N xv xt from fun q => hv ⟨q.1, q.2.1⟩)
    clear hv hea hpa hec hpc
    go_enter Try.func19, Try.ntmps19
    go_wp2_with fail
    (with_reducible refine (neNode_any xv (HN.out.ext HX.out)).mono ?_)
    rintro e w1 ⟨rfl, hx1⟩
    rw [G.out]
    have K1 := Lib.hid (HX.out.trans' hx1)
    have R1 := Lib.hid (row_ext HR.out hx1)
    have Q1 := Lib.hid (row_ext HQ.out hx1)
    clear hx1
    obtain ⟨q0, q1, q2, t0, t1, t2⟩ := row3_facts (Q1.out)
    go_wp2
    refine bodyPost_ret (v := .tuple #[znet, .bool false]) (by simp [results, Try.results19, go_sem, q0, q1, q2, znet]) rfl ⟨_, [], by rw [dec_false E.out], store3_ext K1.out (by omega) _ _ _, by rw [unAns_f E.out]; exact own_zero _, Fresh.nil _⟩
  have G := Lib.hid (dec_true hv)
  by_cases ht : InB xt 0 80
  case neg =>
    have D := Lib.hid (dec_false ht)
    have E := Lib.hid (show ¬ UnB N xv xt from fun q => ht q.2.2.1)
    clear hv ht hea hpa hec hpc
    go_enter Try.func19, Try.ntmps19
    go_wp2_with fail
    (with_reducible refine (neNode_any xv (HN.out.ext HX.out)).mono ?_)
    rintro e w1 ⟨rfl, hx1⟩
    rw [G.out]
    have K1 := Lib.hid (HX.out.trans' hx1)
    have R1 := Lib.hid (row_ext HR.out hx1)
    have Q1 := Lib.hid (row_ext HQ.out hx1)
    clear hx1
    go_wp2_with fail
    (with_reducible refine (viDepth_any xt _).mono ?_)
    rintro e w2 ⟨rfl, rfl⟩
    rw [D.out]
    obtain ⟨q0, q1, q2, t0, t1, t2⟩ := row3_facts (Q1.out)
    go_wp2
    refine bodyPost_ret (v := .tuple #[znet, .bool false]) (by simp [results, Try.results19, go_sem, q0, q1, q2, znet]) rfl ⟨_, [], by rw [dec_false E.out], store3_ext K1.out (by omega) _ _ _, by rw [unAns_f E.out]; exact own_zero _, Fresh.nil _⟩
  have D := Lib.hid (dec_true ht)
  obtain ⟨hg, hn0, hn1⟩ := hv
  obtain ⟨ht0, ht1⟩ := ht
  obtain ⟨v, rfl⟩ := Int.eq_ofNat_of_zero_le hn0
  obtain ⟨t, rfl⟩ := Int.eq_ofNat_of_zero_le ht0
  have HG := Lib.hid hg
  have HGE := Lib.hid hg.2.1
  have hvn : v < N.ends.length := by omega
  have htt : t ≤ 80 := by omega
  have h40 := hg.1.2
  have hil := hg.2.2.2.1
  have HIL := Lib.hid hil
  obtain rfl := hea (by omega)
  obtain rfl := hpa (by omega)
  have HEC := Lib.hid hec
  have HPC := Lib.hid hpc
  have HI := Lib.hid (fun k => unq_inv (N := N) (v := v) (t := t) hg.2.1 hvn k)
  have HB := Lib.hid (show UnB N (v : Int) (t : Int) ↔ (walksOfAll N v t).length ≤ 40 from ⟨fun q => by have := q.2.2.2; simpa using this, fun q => ⟨hg, ⟨hn0, hn1⟩, ⟨ht0, ht1⟩, by simpa using q⟩⟩)
  have HST := Lib.hid (fun k (hk : k ≤ 40) => un_stop (N := N) (v := v) (t := t) hk)
  obtain ⟨i0, hi, hz0, hz1, hz2⟩ := info_parts infoUW
  have I0 := Lib.hid (And.intro hi (And.intro hz0 (And.intro hz1 hz2)))
  clear hi hz0 hz1 hz2 hn0 hn1 ht0 ht1 hg hil hea hpa hec hpc
  go_enter Try.func19, Try.ntmps19
  go_wp2_with fail
  (with_reducible refine (neNode_any (v : Int) (HN.out.ext HX.out)).mono ?_)
  rintro e w1 ⟨rfl, hx1⟩
  rw [G.out]
  have K1 := Lib.hid (HX.out.trans' hx1)
  have R1 := Lib.hid (row_ext HR.out hx1)
  have Q1 := Lib.hid (row_ext HQ.out hx1)
  clear hx1
  go_wp2_with fail
  (with_reducible refine (viDepth_any (t : Int) _).mono ?_)
  rintro e w2 ⟨rfl, rfl⟩
  rw [D.out]
  have GR0 := Lib.hid (show GrowW viCells 72 w1.heap.size (w1.alloc (.cells #[.int .i64 (v : Int), .int .i64 (-1), .int .i64 0, .int .i64 (-1), .int .i64 0] 72)) (.slice (some ⟨w1.heap.size, 0, none⟩) (unq N v t 0).length 1) (unq N v t 0) from grow_oneV (Nat.le_refl _))
  go_wp2_with fail
  go_loopg [8, 9] 41 (fun g' s i wr => ∃ (k : Nat) (a : Option Addr) (c : Nat), k ≤ 40 ∧ g' = 41 - k ∧ s = .slice a (unq N v t k).length c ∧ i = .int .i64 k ∧ (unq N v t k).length ≤ 40 ∧ Hid (Ext w1 wr ∧ GrowW viCells 72 w1.heap.size wr (.slice a (unq N v t k).length c) (unq N v t k)))
  case atStart => exact ⟨0, _, _, by omega, rfl, rfl, rfl, by simp [unq], (Ext.rfl' w1).alloc' _, GR0.out⟩
  case round =>
    obtain ⟨WR, hWR⟩ : ∃ WR : World, WR = wr := ⟨_, rfl⟩
    subst hWR
    obtain ⟨k, a, c, hk, rfl, rfl, rfl, hl40, Hr⟩ := hrel
    have X1 := Lib.hid Hr.out.1
    have KR := Lib.hid (K1.out.trans' Hr.out.1)
    have GR := Lib.hid Hr.out.2
    have hI := HI.out k
    have hpos := hI.pos
    clear Hr GR0
    by_cases h1 : k < (unq N v t k).length
    · have ST := Lib.hid (unq_step (N := N) (v := v) (t := t) h1)
      obtain ⟨x, hx⟩ : ∃ x, x = wkAt (unq N v t k) k := ⟨_, rfl⟩
      rw [← hx] at ST
      obtain ⟨g, cap, he, hq1, hq2, -, hgs, hqc⟩ := GR.out.vi hpos
      obtain ⟨rfl, rfl⟩ : a = some ⟨g, 0, none⟩ ∧ c = cap := by simpa using he
      clear he
      unfold maxLen at hq2
      simp only [Nat.mul_comm 5] at hqc
      obtain ⟨d0, d1, d2, d3, d4⟩ := hqc k h1
      rw [← hx] at d0 d1 d2 d3 d4
      obtain ⟨fr, hfr⟩ : ∃ y : Int, y = if x.steps = 0 then -1 else (x.src : Int) := ⟨_, rfl⟩
      rw [← hfr] at d3
      obtain ⟨hxn, hxs⟩ := hI.node k h1
      rw [← hx] at hxn hxs
      clear hqc hx hfr hI
      have h6 := longer_six HG.out (k := k) hxn
      have hd6 : (gr N.ends x.node).length ≤ 6 := (HGE.out x.node hxn).1
      by_cases hs : x.steps = t
      · have ST2 := Lib.hid (show unq N v t (k + 1) = unq N v t k by rw [ST.out, if_neg (by omega)])
        have hsb : ((x.steps : Int) == (t : Int)) = true := by simp [hs]
        clear hs
        go_wp2_with fail
        go_roundg (41 - (k + 1))
        case measure => omega
        case rel => exact ⟨k + 1, _, _, by omega, rfl, by rw [ST2.out], by go_num, by rw [ST2.out]; omega, by rw [ST2.out]; exact ⟨X1.out.alloc' _, GR.out.ext ((Ext.rfl' _).alloc' _)⟩⟩
      · have ST2 := Lib.hid (show unq N v t (k + 1) = unq N v t k ++ longer N k x by rw [ST.out, if_pos (by omega)])
        have hsb : ((x.steps : Int) == (t : Int)) = false := by simp; omega
        clear hs
        obtain ⟨_, hra, hrow⟩ := HEC.out x.node hxn
        obtain ⟨aa, ab, ao, ac, rfl, haa, hal, ham, hac⟩ := hrow
        unfold maxLen at ham
        have HAA := Lib.hid haa
        have HAC := Lib.hid hac
        have hbx := (Ext.rfl' WR).alloc' (.cells #[.int .i64 (x.node : Int), .int .i64 x.came, .int .i64 (x.steps : Int), .int .i64 fr, .int .i64 (x.port : Int)] 72)
        have e1 := hbx.cell' (KR.out.cell' hra)
        obtain ⟨p0, p1, p2, -, -, -⟩ := row3_facts (row_ext R1.out (X1.out.trans' hbx))
        have F0 := Lib.hid (w5_made WR (.int .i64 (x.node : Int)) (.int .i64 x.came) (.int .i64 (x.steps : Int)) (.int .i64 fr) (.int .i64 (x.port : Int)) 72)
        have HO := Lib.hid (fun i hi => ((HGE.out x.node hxn).2 i hi).1.1)
        have HLL := Lib.hid (longerTo_len N k x)
        clear haa hac hra
        go_wp2_with fail
        clear e1 p0 p1 p2 d0 d1 d2 d3 d4 hbx
        go_loopg [8, 54] (gr N.ends x.node).length (fun g' s i wi => ∃ (j : Nat) (a' : Option Addr) (c' : Nat), j ≤ (gr N.ends x.node).length ∧ g' = (gr N.ends x.node).length - j ∧ s = .slice a' ((unq N v t k).length + (longerTo N k x j).length) c' ∧ i = .int .i64 j ∧
          Hid (Ext w1 wi ∧ GrowW viCells 72 w1.heap.size wi (.slice a' ((unq N v t k).length + (longerTo N k x j).length) c') (unq N v t k ++ longerTo N k x j) ∧ wi.rowIs WR.heap.size 72 5 (w5 (.int .i64 (x.node : Int)) (.int .i64 x.came) (.int .i64 (x.steps : Int)) (.int .i64 fr) (.int .i64 (x.port : Int))) ∧ ∀ b, (Value.slice a' ((unq N v t k).length + (longerTo N k x j).length) c').ownBlock = some b → b ≠ WR.heap.size))
        case atStart =>
          have hl0 : longerTo N k x 0 = [] := rfl
          exact ⟨0, some ⟨g, 0, none⟩, c, Nat.zero_le _, rfl, by rw [hl0]; rfl, rfl, X1.out.alloc' _, by rw [hl0, List.append_nil]; exact GR.out.ext ((Ext.rfl' _).alloc' _), F0.out, fun b hb => own_ne hb hgs⟩
        case round =>
          obtain ⟨wi, hwi⟩ : ∃ wi : World, wi = wr := ⟨_, rfl⟩
          subst hwi
          obtain ⟨j, a', c', hj, rfl, rfl, rfl, Hi⟩ := hrel
          obtain ⟨hi1, hi2, hi3, hi4⟩ := Hi.out
          have XI := Lib.hid hi1
          have GI := Lib.hid hi2
          have FI := Lib.hid hi3
          have NI := Lib.hid hi4
          clear Hi hi1 hi2 hi3 hi4 F0
          have hlj := HLL.out j
          by_cases hlt : j < (gr N.ends x.node).length
          · obtain ⟨hc1, hc2, _⟩ := HAC.out j hlt
            obtain rfl := HAA.out (by omega)
            have q1 := XI.out.cell' (K1.out.cell' hc1)
            have q2 := XI.out.cell' (K1.out.cell' hc2)
            have hbe := (Ext.rfl' wi).alloc' (.cells #[.int .i64 (gn (gr N.ends x.node) j), .int .i64 (gp (gr N.ends x.node) j)] 76)
            obtain ⟨f0, f1, f2, f3, f4⟩ := w5_facts (row_ext FI.out hbe)
            by_cases hcm : (j : Int) = x.came
            · have hb : ((j : Int) != x.came) = false := by simp [hcm]
              have LT := Lib.hid (longerTo_f (N := N) (k := k) hcm)
              clear hcm
              go_wp2_with fail
              go_roundg ((gr N.ends x.node).length - (j + 1))
              case measure => omega
              case rel => exact ⟨j + 1, a', c', by omega, rfl, by rw [LT.out], by go_num, by rw [LT.out]; exact ⟨XI.out.trans' hbe, GI.out.ext hbe, row_ext FI.out hbe, NI.out⟩⟩
            · have hb : ((j : Int) != x.came) = true := by simp [hcm]
              have LT := Lib.hid (longerTo_t (N := N) (k := k) hcm)
              have LC := Lib.hid (goOn_vi (k := k) (HO.out j hlt))
              have hlen : (longerTo N k x (j + 1)).length = (longerTo N k x j).length + 1 := by rw [LT.out, List.length_append, List.length_singleton]
              have XX := Lib.hid (show Ext wi ((wi.alloc (.cells #[.int .i64 (gn (gr N.ends x.node) j), .int .i64 (gp (gr N.ends x.node) j)] 76)).alloc (.cells #[.int .i64 (gn (gr N.ends x.node) j), .int .i64 (gp (gr N.ends x.node) j), .int .i64 ((x.steps : Int) + 1), .int .i64 (k : Int), .int .i64 (j : Int)] 72)) from ((Ext.rfl' wi).alloc' _).alloc' _)
              have hqs := FI.out.lt
              clear hcm
              go_wp2_with (at_builtin; refine wpList_app2 rfl (.tmp 63) (.tmp 74) 73 rfl w1.heap.size 72 i0 (.agg #[.int .i64 0, .int .i64 0, .int .i64 0, .int .i64 0, .int .i64 0]) 5 40 Try.underlying73 I0.out.1 I0.out.2.1 I0.out.2.2.1 I0.out.2.2.2 rfl (by decide) (.slice a' ((unq N v t k).length + (longerTo N k x j).length) c') ((unq N v t k).length + (longerTo N k x j).length) (cells5 viCells (unq N v t k ++ longerTo N k x j)) rfl (by have h := owns_ext GI.out XX.out; rw [List.length_append] at h; exact h) (some ⟨wi.heap.size + 1, 0, none⟩) 1 1 [.int .i64 (gn (gr N.ends x.node) j), .int .i64 (gp (gr N.ends x.node) j), .int .i64 ((x.steps : Int) + 1), .int .i64 (k : Int), .int .i64 (j : Int)] rfl (src_five (by simp) _ _ _ _ _ _ rfl rfl rfl rfl rfl) (by unfold maxLen; omega) (by omega) (Nat.le_trans XI.out.size XX.out.size) ?_; intro v' w3 hg; have HG3 := Lib.hid hg; clear hg; obtain ⟨ya, yc, rfl⟩ := owns_slice HG3.out.1.1)
              have hown := owns_ext GI.out XX.out
              rw [List.length_append] at hown
              have E3 := Lib.hid (show Ext w1 w3 from HG3.out.1.ext (XI.out.trans' XX.out) fun b hb => (World.ownsRow.lt hown b hb).1)
              have G3 := Lib.hid (show GrowW viCells 72 w1.heap.size w3 (.slice ya ((unq N v t k).length + (longerTo N k x (j + 1)).length) yc) (unq N v t k ++ longerTo N k x (j + 1)) by
                unfold GrowW
                rw [LT.out, ← List.append_assoc, cells5_snoc, LC.out, List.length_append, List.length_append, List.length_append]
                exact HG3.out.1.1)
              have F3 := Lib.hid ((row_ext FI.out XX.out).of_block (HG3.out.1.2.1.block WR.heap.size (by have := XX.out.size; omega) (fun e => NI.out _ e.symm rfl)))
              have N3 := Lib.hid (show ∀ b, (Value.slice ya ((unq N v t k).length + (longerTo N k x (j + 1)).length) yc).ownBlock = some b → b ≠ WR.heap.size from fun b hb => by
                rcases HG3.out.2 b (by rw [hlen, ← Nat.add_assoc] at hb; exact hb) with h | h
                · exact NI.out b h
                · have := XX.out.size; omega)
              clear hown HG3 f0 f1 f2 f3 f4 q1 q2
              go_roundg ((gr N.ends x.node).length - (j + 1))
              case measure => omega
              case rel => exact ⟨j + 1, ya, yc, by omega, rfl, by rw [hlen]; rfl, by go_num, E3.out, G3.out, F3.out, N3.out⟩
          · obtain rfl : j = (gr N.ends x.node).length := by omega
            have hll : longerTo N k x (gr N.ends x.node).length = longer N k x := rfl
            have hle : (unq N v t (k + 1)).length = (unq N v t k).length + (longerTo N k x (gr N.ends x.node).length).length := by rw [ST2.out, List.length_append, hll]
            have GK := Lib.hid (show GrowW viCells 72 w1.heap.size wi (.slice a' (unq N v t (k + 1)).length c') (unq N v t (k + 1)) by rw [hle, ST2.out]; exact GI.out)
            clear hll
            have KW := Lib.hid (K1.out.trans' XI.out)
            have QW := Lib.hid (row_ext Q1.out XI.out)
            obtain ⟨q0, q1, q2, t0, t1, t2⟩ := row3_facts QW.out
            go_wp2_with fail
            · have E := Lib.hid (show ¬ UnB N (v : Int) (t : Int) from fun q => by
                have h2 := HB.out.1 q
                have h41 : 40 < (unq N v t k).length + (longerTo N k x (gr N.ends x.node).length).length := by omega
                have h3 := (HST.out (k + 1) (by omega)).2 (by rw [hle]; exact h41)
                omega)
              refine bodyPost_ret (v := .tuple #[znet, .bool false]) (by simp [results, Try.results19, go_sem, q0, q1, q2, znet]) rfl ⟨_, [], by rw [dec_false E.out], store3_ext KW.out (by omega) _ _ _, by rw [unAns_f E.out]; exact own_zero _, Fresh.nil _⟩
            · clear q0 q1 q2 t0 t1 t2
              go_roundg (41 - (k + 1))
              case measure => omega
              case rel => exact ⟨k + 1, a', c', by omega, rfl, by rw [hle], by go_num, by rw [hle]; omega, XI.out, GK.out⟩
    · have hq : walksOfAll N v t = unq N v t k := (HST.out k hk).1 (by omega)
      have E := Lib.hid (HB.out.2 (by rw [hq]; exact hl40))
      have EA := Lib.hid (show unNet N t (unq N v t k) = unAns N (v : Int) (t : Int) by rw [unAns_t E.out, Int.toNat_natCast, Int.toNat_natCast, hq])
      clear hq
      obtain ⟨g, cap, he, hq1, hq2, -, hgs, hqc⟩ := GR.out.vi hpos
      obtain ⟨rfl, rfl⟩ : a = some ⟨g, 0, none⟩ ∧ c = cap := by simpa using he
      clear he GR
      obtain ⟨Q, hQ⟩ : ∃ Q, Q = unq N v t k := ⟨_, rfl⟩
      rw [← hQ] at hI hpos hl40 EA hq1 hqc h1 ⊢
      unfold maxLen at hq2
      simp only [Nat.mul_comm 5] at hqc
      have HQC := Lib.hid hqc
      have HIQ := Lib.hid hI
      have RR := Lib.hid (row_ext R1.out X1.out)
      have RQ := Lib.hid (row_ext Q1.out X1.out)
      obtain ⟨i1, hi, hz0, hz1, hz2⟩ := info_parts infoTSE
      have I1 := Lib.hid (And.intro hi (And.intro hz0 (And.intro hz1 hz2)))
      obtain ⟨i3, hi', hz0', hz1', hz2'⟩ := info_parts Try.info3
      have I3 := Lib.hid (And.intro hi' (And.intro hz0' (And.intro hz1' hz2')))
      obtain ⟨i44, hi4, hy0, hy1, hy2⟩ := info_parts Try.info44
      have HML := Lib.hid (show ∀ (d : Nat) (u : World), d ≤ 6 → (Instr.makeSlice 74 (.int .i64 (d : Int)) (.int .i64 (d : Int))).run Try.prog u =
          .ok (.slice (some ⟨u.heap.size, 0, none⟩) d d) (u.alloc (.cells (madeCells #[.int .i64 0, .int .i64 0] (d * 2)) 76)) from fun d u hd => by
        have h := run_make (P := Try.prog) u 74 76 i44 _ Try.underlying74 hi4 hy0 .i64 .i64 d d (by omega) (Int.le_refl _) (by rw [hy2]; omega) (by omega)
        simpa [hy1, Value.cells] using h)
      obtain ⟨CC, hcc⟩ : ∃ CC, CC = madeCells #[.int .i64 0, .int .i64 0] (1 * 2) := ⟨_, rfl⟩
      have HM1 := Lib.hid (show ∀ (u : World), (Instr.makeSlice 74 (.int .i64 1) (.int .i64 1)).run Try.prog u = .ok (.slice (some ⟨u.heap.size, 0, none⟩) 1 1) (u.alloc (.cells CC 76)) from fun u => by rw [hcc]; exact HML.out 1 u (by omega))
      have HCC := Lib.hid hcc
      have H0 := Lib.hid (show HNet WR (WR.alloc (.cells #[.slice none 0 0, .slice none 0 0, .slice none 0 0] 29)) (unNet0 N t (Q.take 0)) WR.heap.size (.slice none 0 0) (.slice none 0 0) (.slice none 0 0) by
        rw [un0_start]
        exact HNet.made (Ext.rfl' WR) (own_zero WR) (Fresh.nil _))
      clear hi hz0 hz1 hz2 hi' hz0' hz1' hz2' hi4 hy0 hy1 hy2 hqc hI hcc hQ
      go_wp2_with fail
      go_loopg [84] Q.length (fun g' i wr => ∃ j : Nat, j ≤ Q.length ∧ g' = Q.length - j ∧ i = .int .i64 j ∧ Hid (∃ y0 y1 y2, HNet WR wr (unNet0 N t (Q.take j)) WR.heap.size y0 y1 y2))
      case atStart => exact ⟨0, Nat.zero_le _, rfl, rfl, _, _, _, H0.out⟩
      case round =>
        obtain ⟨j, hj, rfl, rfl, Hr⟩ := hrel
        obtain ⟨y0, y1, y2, hh⟩ := Hr.out
        obtain ⟨a0, c0, a1, c1, a2, c2, rfl, rfl, rfl⟩ := hh.form
        have hl1 : (unNet0 N t (Q.take j)).ends.length = j := by rw [un0_len, List.length_take]; omega
        have hl2 : (unNet0 N t (Q.take j)).inputs.length = j := by simp [unNet0]; omega
        rw [hl1, hl2] at hh
        have HH := Lib.hid hh
        have KX := Lib.hid (KR.out.trans' hh.ext)
        have HL1 := Lib.hid hl1
        have HL2 := Lib.hid hl2
        clear hh Hr hl1 hl2 H0
        by_cases hlt : j < Q.length
        · obtain ⟨x, hx⟩ : ∃ x, x = wkAt Q j := ⟨_, rfl⟩
          obtain ⟨d0, d1, d2, d3, d4⟩ := HQC.out j hlt
          have HX := Lib.hid hx
          rw [← hx] at d0 d1 d2 d3 d4
          obtain ⟨fr, hfr⟩ : ∃ y : Int, y = if x.steps = 0 then -1 else (x.src : Int) := ⟨_, rfl⟩
          rw [← hfr] at d3
          have d0 := HH.out.ext.cell' d0
          have d1 := HH.out.ext.cell' d1
          have d2 := HH.out.ext.cell' d2
          have d3 := HH.out.ext.cell' d3
          have d4 := HH.out.ext.cell' d4
          obtain ⟨hxn, hxs⟩ := HIQ.out.node j hlt
          rw [← hx] at hxn hxs
          obtain ⟨_, hra, hrow⟩ := HEC.out x.node hxn
          obtain ⟨aa, ab, ao, ac, rfl, -, hal, ham, -⟩ := hrow
          unfold maxLen at ham
          obtain ⟨W4, hW4⟩ : ∃ W4, W4 = wr.alloc (.cells #[.int .i64 (x.node : Int), .int .i64 x.came, .int .i64 (x.steps : Int), .int .i64 fr, .int .i64 (x.port : Int)] 72) := ⟨_, rfl⟩
          have X4 := Lib.hid (show Ext wr W4 by rw [hW4]; exact (Ext.rfl' wr).alloc' _)
          have F4 := Lib.hid (show W4.rowIs wr.heap.size 72 5 (w5 (.int .i64 (x.node : Int)) (.int .i64 x.came) (.int .i64 (x.steps : Int)) (.int .i64 fr) (.int .i64 (x.port : Int))) by rw [hW4]; exact w5_made _ _ _ _ _ _ _)
          obtain ⟨f0, f1, f2, f3, f4⟩ := w5_facts F4.out
          obtain ⟨p0, p1, p2, -, -, -⟩ := row3_facts (row_ext RR.out (HH.out.ext.trans' X4.out))
          have e1 := X4.out.cell' (KX.out.cell' hra)
          have hL6 := walkPorts_six HG.out (t := t) hxn
          obtain ⟨L, hL⟩ : ∃ L, L = walkPorts N t x := ⟨_, rfl⟩
          rw [← hL] at hL6
          have hml := fun u => HML.out L u hL6
          have hm1 := HM1.out
          have hz4 : W4.heap.size = wr.heap.size + 1 := by rw [hW4]; simp
          have hcase : ∃ (W5 : World) (x16 : Value) (bs : List Nat), Hid (Ext W4 W5) ∧ Hid (OwnE W5 x16 (List.replicate L (0, 0)) bs ∧ ∀ b ∈ bs, W4.heap.size ≤ b) ∧
              ((x.steps < t ∧ (gr N.ends x.node).length = L ∧ W5 = W4.alloc (.cells (madeCells #[.int .i64 0, .int .i64 0] (L * 2)) 76) ∧ x16 = .slice (some ⟨wr.heap.size + 1, 0, none⟩) L L) ∨
               (¬ x.steps < t ∧ 0 < t ∧ W5 = W4.alloc (.cells CC 76) ∧ x16 = .slice (some ⟨wr.heap.size + 1, 0, none⟩) 1 1) ∨ (¬ x.steps < t ∧ ¬ 0 < t ∧ W5 = W4 ∧ x16 = .slice none 0 0)) := by
            by_cases hs : x.steps = t
            · have hL2 : L = min t 1 := by rw [hL]; unfold walkPorts; rw [if_pos hs]
              by_cases ht0 : t = 0
              · have hL0 : L = 0 := by omega
                rw [hL0]
                exact ⟨W4, .slice none 0 0, [], Ext.rfl' _, ⟨⟨⟨0, Nat.le_refl _, by unfold maxLen; omega, .inl ⟨rfl, rfl, none, ⟨rfl, rfl⟩, rfl⟩⟩, fun j hj => absurd hj (by simp)⟩, by simp⟩, .inr (.inr ⟨by omega, by omega, rfl, rfl⟩)⟩
              · have hL1 : L = 1 := by omega
                rw [hL1]
                exact ⟨_, .slice (some ⟨wr.heap.size + 1, 0, none⟩) 1 1, [W4.heap.size], (Ext.rfl' _).alloc' _, ⟨by rw [← hz4, HCC.out]; exact own_zeroEnds (emade W4 1) (by omega), by simp⟩, .inr (.inl ⟨by omega, by omega, rfl, rfl⟩)⟩
            · have hL2 : L = (gr N.ends x.node).length := by rw [hL]; unfold walkPorts; rw [if_neg hs]
              exact ⟨_, .slice (some ⟨wr.heap.size + 1, 0, none⟩) L L, [W4.heap.size], (Ext.rfl' _).alloc' _, ⟨by rw [← hz4]; exact own_zeroEnds (emade W4 L) (by omega), by simp⟩, .inl ⟨by omega, hL2.symm, rfl, rfl⟩⟩
          obtain ⟨W5, x16, bs, X5, OW, hcase⟩ := hcase
          have HLW := Lib.hid hL
          clear hL hfr hx hra
          rw [hW4] at f0 f1 f2 f3 f4 p0 p1 p2 e1
          rcases hcase with ⟨hs1, hs2, hW5, rfl⟩ | ⟨hs1, hs2, hW5, rfl⟩ | ⟨hs1, hs2, hW5, rfl⟩
          all_goals
            go_upto_region 26 with fail
            (try rw [← hW4])
            rw [← hW5]
            clear f0 f1 f2 f3 f4 p0 p1 p2 e1 d0 d1 d2 d3 d4 hW4 hml hm1
            have HE0 := Lib.hid (HH.out.mono X4.out)
            obtain ⟨m0, m1, m2, -, -, -⟩ := row3_facts (row_ext HE0.out.box X5.out)
            obtain ⟨R, ho1, hback⟩ := HE0.out.rows
            rw [HL1.out] at ho1 hback
            have HO1 := Lib.hid ho1
            have HB1 := Lib.hid hback
            have hex := (HE0.out.ext.trans' X5.out).size
            clear ho1 hback hW5
            go_upto_region 27 with (first
              | (at_builtin
                 refine wpList_app2 rfl (.tmp 104) (.tmp 106) 27 rfl WR.heap.size 74 i1 (.slice none 0 0) 1 24 Try.underlying27 I1.out.1 I1.out.2.1 I1.out.2.2.1 I1.out.2.2.2 rfl (by decide) (.slice a0 j c0) j ((List.range j).map R) rfl (owns_ext HO1.out (X5.out.alloc' _)) (some ⟨W5.heap.size, 0, none⟩) 1 1 [_] rfl (src_one W5 _ _ rfl) (by unfold maxLen; omega) (by omega) (by simp; omega) ?_
                 intro v' wA hg
                 have HG1 := Lib.hid hg
                 have HA1 := Lib.hid (HB1.out _ wA _ v' (List.replicate L (0, 0)) bs (X5.out.alloc' _) (OW.out.1.ext ((Ext.rfl' _).alloc' _)) OW.out.2 hg.1)
                 obtain ⟨va, vc, rfl⟩ := owns_slice HG1.out.1.1
                 obtain ⟨z0, z1, z2, z3, z4, z5⟩ := row3_facts HA1.out.1
                 clear hg)
              | fail)
            clear z0 z1 z2 z3 z4 z5 m0 m1 m2 hex
            have NE := Lib.hid (show wr.heap.size ≠ WR.heap.size by have := HH.out.box.lt; omega)
            have gp1 := row_grown (row_ext F4.out (X5.out.alloc' _)) (owns_ext HO1.out (X5.out.alloc' _)) HG1.out.1.2.1 (by decide)
            obtain ⟨W6, hW6⟩ : ∃ W6, W6 = wA.setCell ⟨WR.heap.size, 0, none⟩ (.slice va (j + 1) vc) := ⟨_, rfl⟩
            have H5 := Lib.hid (show HNet WR W6 (addRow (unNet0 N t (Q.take j)) (List.replicate L (0, 0))) WR.heap.size (.slice va (j + 1) vc) (.slice a1 (unNet0 N t (Q.take j)).ids.length c1) (.slice a2 j c2) by rw [hW6]; exact HA1.out.2)
            have F5 := Lib.hid (show W6.rowIs wr.heap.size 72 5 (w5 (.int .i64 (x.node : Int)) (.int .i64 x.came) (.int .i64 (x.steps : Int)) (.int .i64 fr) (.int .i64 (x.port : Int))) by rw [hW6]; exact gp1.of_block (Below.heap_setCell _ _ _ _ NE.out))
            rw [← hW6]
            clear hW6 gp1 HA1 HG1 HO1 HB1
            have K5 := Lib.hid (KR.out.trans' H5.out.ext)
            have hxi : x.node < N.inputs.length := by have := HIL.out; omega
            obtain ⟨_, hpi, rfl, hpr⟩ := HPC.out x.node hxi
            obtain ⟨xi, hxe⟩ : ∃ y, y = gi N.inputs x.node := ⟨_, rfl⟩
            rw [← hxe] at hpi hpr
            have HXE := Lib.hid hxe
            have hIn : (addRow (unNet0 N t (Q.take j)) (List.replicate L (0, 0))).inputs.length = j := HL2.out
            obtain ⟨ho2, hb2⟩ := H5.out.ints
            rw [hIn] at ho2 hb2
            have HO2 := Lib.hid ho2
            have HB2 := Lib.hid hb2
            have hex := H5.out.ext.size
            obtain ⟨n1, -, -, -, -⟩ := w5_facts F5.out
            obtain ⟨-, -, m2, -, -, -⟩ := row3_facts H5.out.box
            obtain ⟨-, -, p2, -, -, -⟩ := row3_facts (row_ext RR.out H5.out.ext)
            have mkS : ∀ w' : World, Ext W6 w' → w'.cell? ⟨WR.heap.size, 2, none⟩ = some (.slice a2 j c2) ∧ w'.cell? ⟨w.heap.size, 2, none⟩ = some (.slice (some ⟨pb, po, none⟩) N.inputs.length pc) ∧ w'.cell? ⟨wr.heap.size, 0, none⟩ = some (.int .i64 (x.node : Int)) ∧ w'.cell? ⟨pb, po + x.node, none⟩ = some (.int .i64 xi) := fun w' h => ⟨h.cell' m2, h.cell' p2, h.cell' n1, h.cell' (K5.out.cell' hpi)⟩
            clear ho2 hb2 hIn hxe
            refine wp_region_gate (n := 11) (S := fun w' => w'.cell? ⟨WR.heap.size, 2, none⟩ = some (.slice a2 j c2) ∧ w'.cell? ⟨w.heap.size, 2, none⟩ = some (.slice (some ⟨pb, po, none⟩) N.inputs.length pc) ∧ w'.cell? ⟨wr.heap.size, 0, none⟩ = some (.int .i64 (x.node : Int)) ∧ w'.cell? ⟨pb, po + x.node, none⟩ = some (.int .i64 xi)) (by kernel_rfl) (mkS _ (Ext.rfl' W6).drew') (fun hHeld => ?_)
            refine wpAnyG_take (i := 0) (v := ?_) rfl (by decide +kernel) (by kernel_rfl) (by decide) (by kernel_rfl) (by kernel_rfl) (fun _ _ _ h => h) (Or.inl ⟨by rfl, ?_⟩) hHeld ?_
            rotate_left 1
            · (intro w' hSw; (try dsimp only at hSw); go_simp) <;> with_reducible rfl
            simp only [Act.put]
            refine wpAnyG_take (i := 1) (v := ?_) rfl (by decide +kernel) (by kernel_rfl) (by decide) (by kernel_rfl) (by kernel_rfl) (fun _ _ _ h => h) (Or.inl ⟨by rfl, ?_⟩) hHeld ?_
            rotate_left 1
            · (intro w' hSw; (try dsimp only at hSw); go_simp) <;> with_reducible rfl
            simp only [Act.put]
            refine wpAnyG_take (i := 2) (v := ?_) rfl (by decide +kernel) (by kernel_rfl) (by decide) (by kernel_rfl) (by kernel_rfl) (fun _ _ _ h => h) (Or.inl ⟨by rfl, ?_⟩) hHeld ?_
            rotate_left 1
            · (intro w' hSw; (try dsimp only at hSw); go_simp) <;> with_reducible rfl
            simp only [Act.put]
            refine wpAnyG_take (i := 3) (v := ?_) rfl (by decide +kernel) (by kernel_rfl) (by decide) (by kernel_rfl) (by kernel_rfl) (fun _ _ _ h => h) (Or.inl ⟨by rfl, ?_⟩) hHeld ?_
            rotate_left 1
            · (intro w' hSw; (try dsimp only at hSw); go_simp) <;> with_reducible rfl
            simp only [Act.put]
            refine wpAnyG_take (i := 4) (v := ?_) rfl (by decide +kernel) (by kernel_rfl) (by decide) (by kernel_rfl) (by kernel_rfl) (fun _ _ _ h => h) (Or.inl ⟨by rfl, ?_⟩) hHeld ?_
            rotate_left 1
            · (intro w' hSw; (try dsimp only at hSw); go_simp) <;> with_reducible rfl
            simp only [Act.put]
            refine wpAnyG_take (i := 5) (v := ?_) rfl (by decide +kernel) (by kernel_rfl) (by decide) (by kernel_rfl) (by kernel_rfl) (fun _ _ _ h => h) (Or.inl ⟨by rfl, ?_⟩) hHeld ?_
            rotate_left 1
            · (intro w' hSw; (try dsimp only at hSw); go_simp) <;> with_reducible rfl
            simp only [Act.put]
            refine wpAnyG_take (i := 6) (v := ?_) rfl (by decide +kernel) (by kernel_rfl) (by decide) (by kernel_rfl) (by kernel_rfl) (fun _ _ _ h => h) (Or.inl ⟨by rfl, ?_⟩) hHeld ?_
            rotate_left 1
            · (intro w' hSw; (try dsimp only at hSw); go_simp) <;> with_reducible rfl
            simp only [Act.put]
            refine wpAnyG_take (i := 7) (v := ?_) rfl (by decide +kernel) (by kernel_rfl) (by decide) (by kernel_rfl) (by kernel_rfl) (fun _ _ _ h => h) (Or.inl ⟨by rfl, ?_⟩) hHeld ?_
            rotate_left 1
            · (intro w' hSw; (try dsimp only at hSw); go_simp) <;> with_reducible rfl
            simp only [Act.put]
            refine wpAnyG_one (i := 8) rfl (by kernel_rfl) rfl (fun K hK => ?_)
            go_simp
            clear hHeld
            refine hK.out _ _ (fun _ => mkS _ (by repeat (first | exact Ext.rfl' _ | refine Ext.alloc' ?_ _ | refine Ext.drew' ?_))) (fun _ => ?_)
            clear hK K
            refine wpAnyG_one (i := 9) rfl (by kernel_rfl) rfl (fun K hK => ?_)
            have XB := Lib.hid (show Ext W6 ((W6.alloc (.cells #[.int .i64 xi] 3)).drew) from ((Ext.rfl' W6).alloc' _).drew')
            refine wp_app2 (.tmp 110) (.tmp 117) 23 rfl WR.heap.size 3 i3 (.int .i64 0) 1 8 Try.underlying23 I3.out.1 I3.out.2.1 I3.out.2.2.1 I3.out.2.2.2 rfl (by decide) (.slice a2 j c2) j (intCells (unNet0 N t (Q.take j)).inputs) rfl (owns_ext HO2.out XB.out) (some ⟨W6.heap.size, 0, none⟩) 1 1 [.int .i64 xi] rfl (srcDrewU (src_one W6 _ _ rfl)) (by unfold maxLen; omega) (by omega) (by simp; omega) ?_
            intro v' wB hg
            have HA2 := Lib.hid (HB2.out _ wB v' xi XB.out hpr hg)
            have EB := Lib.hid (show Ext WR wB from hg.1.ext (H5.out.ext.trans' XB.out) fun b hb => ((owns_ext HO2.out XB.out).lt b hb).1)
            have gp2 := row_grown (row_ext F5.out XB.out) (owns_ext HO2.out XB.out) hg.1.2.1 (by decide)
            obtain ⟨ya, yc, rfl⟩ := owns_slice hg.1.1
            obtain ⟨-, -, cz, -, -, cf⟩ := row3_facts HA2.out.1
            obtain ⟨r1, -, -, -, -⟩ := w5_facts gp2
            obtain ⟨-, -, r2, -, -, -⟩ := row3_facts (row_ext RR.out EB.out)
            clear hg hex
            refine hK.out _ _ (fun _ => ⟨cz, r2, r1, (KR.out.trans' EB.out).cell' hpi⟩) (fun hHeld' => ?_)
            have hHeld := hHeld' (by decide)
            clear hK K hHeld'
            refine wpAnyG_take (i := 10) (v := ?_) rfl (by decide +kernel) (by kernel_rfl) (by decide) (by kernel_rfl) (by kernel_rfl) (fun _ _ _ h => h) (Or.inl ⟨by rfl, ?_⟩) hHeld ?_
            rotate_left 1
            · (intro w' hSw; (try dsimp only at hSw); go_simp) <;> with_reducible rfl
            simp only [Act.put]
            refine wpAnyG_one (i := 11) rfl (by kernel_rfl) rfl (fun K hK => ?_)
            go_simp
            refine hK.out _ _ (fun h => absurd rfl h) (fun _ => ?_)
            clear hK K hHeld
            refine wpAnyG_done (by kernel_rfl) ?_ _
            clear mkS cz cf r1 r2 n1 m2 p2 gp2
            go_wp2
            go_roundg (Q.length - (j + 1))
            case measure => omega
            case rel =>
              have hst : unNet0 N t (Q.take (j + 1)) = addIn (addRow (unNet0 N t (Q.take j)) (List.replicate L (0, 0))) xi := by rw [un0_step N t hlt, ← HX.out, ← HLW.out, ← HXE.out]
              have H7 := HA2.out.2
              rw [← hst] at H7
              exact ⟨j + 1, by omega, rfl, by go_num, _, _, _, H7⟩
        · obtain rfl : j = Q.length := by omega
          have hid : (unNet0 N t (Q.take Q.length)).ids.length = 0 := rfl
          rw [hid] at HH
          rw [List.take_of_length_le (Nat.le_refl _)] at HH
          have HH0 := Lib.hid (show HNet WR wr (unTo N t Q 0) WR.heap.size (.slice a0 Q.length c0) (.slice a1 0 c1) (.slice a2 Q.length c2) by rw [unTo_zero]; exact HH.out)
          clear HH KX HL1 HL2 hid
          go_wp2_with fail
          go_loopg [123] Q.length (fun g' i wr => ∃ j : Nat, j ≤ Q.length ∧ g' = Q.length - j ∧ i = .int .i64 j ∧ Hid (HNet WR wr (unTo N t Q (j - 1)) WR.heap.size (.slice a0 Q.length c0) (.slice a1 0 c1) (.slice a2 Q.length c2)))
          case atStart => exact ⟨0, Nat.zero_le _, rfl, rfl, HH0.out⟩
          case round =>
            obtain ⟨j, hj, rfl, rfl, Hr⟩ := hrel
            have HH := Lib.hid Hr.out
            clear Hr HH0
            by_cases hlt : j < Q.length
            · obtain ⟨x, hx⟩ : ∃ x, x = wkAt Q j := ⟨_, rfl⟩
              obtain ⟨d0, d1, d2, d3, d4⟩ := HQC.out j hlt
              have HX := Lib.hid hx
              rw [← hx] at d0 d1 d2 d3 d4
              have d0 := HH.out.ext.cell' d0
              have d1 := HH.out.ext.cell' d1
              have d2 := HH.out.ext.cell' d2
              have d3 := HH.out.ext.cell' d3
              have d4 := HH.out.ext.cell' d4
              clear hx
              obtain ⟨cm, hcm⟩ : ∃ y, y = x.came := ⟨_, rfl⟩
              rw [← hcm] at d1
              rcases Nat.eq_zero_or_pos j with hj0 | hj0
              · subst hj0
                have h00 : x.steps = 0 := by rw [HX.out, HIQ.out.root]
                rw [if_pos h00] at d3
                clear h00
                go_wp2_with fail
                go_roundg (Q.length - (0 + 1))
                case measure => omega
                case rel => exact ⟨0 + 1, by omega, rfl, by go_num, HH.out.mono ((Ext.rfl' _).alloc' _)⟩
              · obtain ⟨m, rfl⟩ : ∃ m, j = m + 1 := ⟨j - 1, by omega⟩
                obtain ⟨s1, s2, s3, s4, s5, -⟩ := HIQ.out.son (m + 1) (by omega) hlt
                rw [← HX.out] at s1 s2 s3 s4 s5
                rw [if_neg (by omega)] at d3
                have hbi := back_in HIQ.out (j := m + 1) (by omega) hlt
                rw [← HX.out] at hbi
                have hxn := (HIQ.out.node (m + 1) hlt).1
                rw [← HX.out] at hxn
                have hw6 := walkPorts_six HG.out (t := t) hxn
                obtain ⟨bn, hbn⟩ := Int.eq_ofNat_of_zero_le hbi.1
                have hb6 : bn ≤ 6 := by have := hbi.2; omega
                have hcase : (((x.steps : Int) == (t : Int)) = true ∧ bn = 0) ∨ (((x.steps : Int) == (t : Int)) = false ∧ cm = (bn : Int)) := by
                  by_cases hs : x.steps = t
                  · exact .inl ⟨by simp [hs], by unfold backPort at hbn; rw [if_pos hs] at hbn; omega⟩
                  · exact .inr ⟨by simp; omega, by unfold backPort at hbn; rw [if_neg hs] at hbn; rw [hcm]; exact hbn⟩
                have hxnN := (HIQ.out.node x.src (by omega)).1
                have hwl : walkPorts N t (wkAt Q x.src) = (gr N.ends (wkAt Q x.src).node).length := by unfold walkPorts; rw [if_neg (by omega)]
                have hMl : (unTo N t Q m).ends.length = Q.length := by unfold unTo; rw [linkTo_len, un0_len]
                have hMr : ∀ u, u < Q.length → (gr (unTo N t Q m).ends u).length = walkPorts N t (wkAt Q u) := fun u hu => by unfold unTo; rw [linkTo_row, un0_row N t hu]
                have HHm := Lib.hid (show HNet WR wr (unTo N t Q m) WR.heap.size (.slice a0 Q.length c0) (.slice a1 0 c1) (.slice a2 Q.length c2) from HH.out)
                obtain ⟨W4, hW4⟩ : ∃ W4, W4 = wr.alloc (.cells #[.int .i64 (x.node : Int), .int .i64 cm, .int .i64 (x.steps : Int), .int .i64 (x.src : Int), .int .i64 (x.port : Int)] 72) := ⟨_, rfl⟩
                have X4 := Lib.hid (show Ext wr W4 by rw [hW4]; exact (Ext.rfl' wr).alloc' _)
                have F4 := Lib.hid (show W4.rowIs wr.heap.size 72 5 (w5 (.int .i64 (x.node : Int)) (.int .i64 cm) (.int .i64 (x.steps : Int)) (.int .i64 (x.src : Int)) (.int .i64 (x.port : Int))) by rw [hW4]; exact w5_made _ _ _ _ _ _ _)
                have BX := Lib.hid (row_ext HHm.out.box X4.out)
                obtain ⟨f0, f1, f2, f3, f4⟩ := w5_facts F4.out
                rw [hW4] at f0 f1 f2 f3 f4
                obtain ⟨bs, ho, hnd, hge⟩ := HHm.out.net
                have hlow : ∀ y ∈ bs, y < wr.heap.size := fun y hy => ho.lt y hy
                have ho := ho.ext X4.out
                obtain ⟨b, c', q, d, hv, hrow, hqb, htwo, hput⟩ := ho.putEnd hnd (u := x.src) (j := x.port) (by omega) (by rw [hMr _ (by omega), hwl]; exact s5)
                simp only [Value.slice.injEq] at hv
                obtain ⟨rfl, -, rfl⟩ := hv
                have HPUT := Lib.hid hput
                have HLOW := Lib.hid hlow
                have HGEB := Lib.hid hge
                have HND := Lib.hid hnd
                obtain ⟨t0, t1, t2, t3⟩ := htwo
                have hrl : (gr (unTo N t Q m).ends x.src).length ≤ 6 := by rw [hMr _ (by omega), hwl]; exact (HGE.out _ hxnN).1
                have hpl : x.port < (gr (unTo N t Q m).ends x.src).length := by rw [hMr _ (by omega), hwl]; exact s5
                obtain ⟨m0, -, -, -, -, -⟩ := row3_facts BX.out
                have hsq : x.src < Q.length := by omega
                have HMR := Lib.hid hMr
                have HWL := Lib.hid hwl
                obtain ⟨rl, hrl0⟩ : ∃ n, n = (gr (unTo N t Q m).ends x.src).length := ⟨_, rfl⟩
                rw [← hrl0] at hrow hrl hpl
                have HRL := Lib.hid hrl0
                clear hMr hwl hrl0 hw6
                have SS := Lib.hid (And.intro s1 (And.intro s2 (And.intro s3 (And.intro s4 s5))))
                clear hput hlow hge hnd hcm ho s1 s2 s3 s4 s5
                have HBI := Lib.hid hbi
                have HBN := Lib.hid hbn
                have hqW := HGEB.out q hqb
                have hqL := HLOW.out q hqb
                obtain ⟨W6, hW6⟩ : ∃ W6, W6 = ((W4.setCell ⟨q, x.port * 2, none⟩ (.int .i64 ((m : Int) + 1))).setCell ⟨q, x.port * 2 + 1, none⟩ (.int .i64 (bn : Int))).drew := ⟨_, rfl⟩
                have X6 := Lib.hid (show Ext WR W6 by rw [hW6]; exact ((((HHm.out.ext.trans' X4.out).store (p := ⟨q, x.port * 2, none⟩) hqW.1 _).store (p := ⟨q, x.port * 2 + 1, none⟩) hqW.1 _)).drew')
                have F6 := Lib.hid (show W6.rowIs wr.heap.size 72 5 (w5 (.int .i64 (x.node : Int)) (.int .i64 cm) (.int .i64 (x.steps : Int)) (.int .i64 (x.src : Int)) (.int .i64 (x.port : Int))) by rw [hW6]; exact row_ext ((F4.out.of_block (Below.heap_setCell _ _ _ _ (by simp; omega))).of_block (Below.heap_setCell _ _ _ _ (by simp; omega))) (Ext.rfl' _).drew')
                have B6 := Lib.hid (show W6.rowIs WR.heap.size 29 3 (tri (.slice (some ⟨b, 0, none⟩) Q.length c0) (.slice a1 0 c1) (.slice a2 Q.length c2)) by rw [hW6]; exact row_ext ((BX.out.of_block (Below.heap_setCell _ _ _ _ (by simpa using hqW.2.symm))).of_block (Below.heap_setCell _ _ _ _ (by simpa using hqW.2.symm))) (Ext.rfl' _).drew')
                have M6 := Lib.hid (show OwnNet W6 (.agg #[.slice (some ⟨b, 0, none⟩) Q.length c0, .slice a1 0 c1, .slice a2 Q.length c2]) (setEnd (unTo N t Q m) x.src x.port ((m : Int) + 1, (bn : Int))) bs by rw [hW6]; exact (HPUT.out ((m : Int) + 1, (bn : Int)) (by unfold inI64; simp; omega) (by unfold inI64; simp; omega)).ext (Ext.rfl' _).drew')
                obtain ⟨b', c'', q2, dd2, hv2, hrow2, hqb2, htwo2, hput2⟩ := M6.out.putEnd HND.out (u := m + 1) (j := bn) (by rw [setEnd_len]; omega) (by rw [setEnd_row, HMR.out _ hlt, ← HX.out]; have := HBI.out.2; have := HBN.out; omega)
                simp only [Value.slice.injEq, Option.some.injEq, Addr.mk.injEq] at hv2
                obtain ⟨⟨rfl, -⟩, -, rfl⟩ := hv2
                rw [setEnd_row, HMR.out _ hlt, ← HX.out] at hrow2
                have hb2 : bn < walkPorts N t x := by have := HBI.out.2; have := HBN.out; omega
                obtain ⟨wl, hwl0⟩ : ∃ n, n = walkPorts N t x := ⟨_, rfl⟩
                rw [← hwl0] at hrow2 hb2
                obtain ⟨u0, u1, u2, u3⟩ := htwo2
                have HPUT2 := Lib.hid hput2
                have hq2W := HGEB.out q2 hqb2
                have HLK := Lib.hid (show unTo N t Q (m + 1) = setEnd (setEnd (unTo N t Q m) x.src x.port ((m : Int) + 1, (bn : Int))) (m + 1) bn ((x.src : Int), (x.port : Int)) by
                  rw [unTo_step]
                  have hE : unEdge t Q m = [((x.src : Int), (x.port : Int)), ((m : Int) + 1, (bn : Int))] := by unfold unEdge; rw [← HX.out, HBN.out]; rfl
                  rw [hE]
                  have e1 : ((m : Int) + 1).toNat = m + 1 := by omega
                  simp [linkTo, linkNet, ge, gn, gp, e1])
                clear hput2 hwl0 hbi hbn
                rcases hcase with ⟨hsb, rfl⟩ | ⟨hsb, rfl⟩
                all_goals
                  go_upto_region 36 with fail
                  (try rw [← hW4])
                  clear hW4 f0 f1 f2 f3 f4 d0 d1 d2 d3 d4 hsb
                  obtain ⟨-, -, -, f3, f4⟩ := w5_facts F4.out
                  have mkS : ∀ w' : World, Ext W4 w' → w'.cell? ⟨WR.heap.size, 0, none⟩ = some (.slice (some ⟨b, 0, none⟩) Q.length c0) ∧ w'.cell? ⟨wr.heap.size, 3, none⟩ = some (.int .i64 (x.src : Int)) ∧ w'.cell? ⟨wr.heap.size, 4, none⟩ = some (.int .i64 (x.port : Int)) ∧ w'.cell? ⟨b, x.src, none⟩ = some (.slice (some ⟨q, 0, none⟩) rl d) := fun w' h => ⟨h.cell' m0, h.cell' f3, h.cell' f4, h.cell' hrow⟩
                  refine wp_region_gate (n := 12) (S := fun w' => w'.cell? ⟨WR.heap.size, 0, none⟩ = some (.slice (some ⟨b, 0, none⟩) Q.length c0) ∧ w'.cell? ⟨wr.heap.size, 3, none⟩ = some (.int .i64 (x.src : Int)) ∧ w'.cell? ⟨wr.heap.size, 4, none⟩ = some (.int .i64 (x.port : Int)) ∧ w'.cell? ⟨b, x.src, none⟩ = some (.slice (some ⟨q, 0, none⟩) rl d)) (by kernel_rfl) (mkS _ (Ext.rfl' W4).drew') (fun hHeld => ?_)
                  refine wpAnyG_take (i := 0) (v := ?_) rfl (by decide +kernel) (by kernel_rfl) (by decide) (by kernel_rfl) (by kernel_rfl) (fun _ _ _ h => h) (Or.inl ⟨by rfl, ?_⟩) hHeld ?_
                  rotate_left 1
                  · (intro w' hSw; (try dsimp only at hSw); go_simp) <;> with_reducible rfl
                  simp only [Act.put]
                  refine wpAnyG_take (i := 1) (v := ?_) rfl (by decide +kernel) (by kernel_rfl) (by decide) (by kernel_rfl) (by kernel_rfl) (fun _ _ _ h => h) (Or.inl ⟨by rfl, ?_⟩) hHeld ?_
                  rotate_left 1
                  · (intro w' hSw; (try dsimp only at hSw); go_simp) <;> with_reducible rfl
                  simp only [Act.put]
                  refine wpAnyG_take (i := 2) (v := ?_) rfl (by decide +kernel) (by kernel_rfl) (by decide) (by kernel_rfl) (by kernel_rfl) (fun _ _ _ h => h) (Or.inl ⟨by rfl, ?_⟩) hHeld ?_
                  rotate_left 1
                  · (intro w' hSw; (try dsimp only at hSw); go_simp) <;> with_reducible rfl
                  simp only [Act.put]
                  refine wpAnyG_take (i := 3) (v := ?_) rfl (by decide +kernel) (by kernel_rfl) (by decide) (by kernel_rfl) (by kernel_rfl) (fun _ _ _ h => h) (Or.inl ⟨by rfl, ?_⟩) hHeld ?_
                  rotate_left 1
                  · (intro w' hSw; (try dsimp only at hSw); go_simp) <;> with_reducible rfl
                  simp only [Act.put]
                  refine wpAnyG_take (i := 4) (v := ?_) rfl (by decide +kernel) (by kernel_rfl) (by decide) (by kernel_rfl) (by kernel_rfl) (fun _ _ _ h => h) (Or.inl ⟨by rfl, ?_⟩) hHeld ?_
                  rotate_left 1
                  · (intro w' hSw; (try dsimp only at hSw); go_simp) <;> with_reducible rfl
                  simp only [Act.put]
                  refine wpAnyG_take (i := 5) (v := ?_) rfl (by decide +kernel) (by kernel_rfl) (by decide) (by kernel_rfl) (by kernel_rfl) (fun _ _ _ h => h) (Or.inl ⟨by rfl, ?_⟩) hHeld ?_
                  rotate_left 1
                  · (intro w' hSw; (try dsimp only at hSw); go_simp) <;> with_reducible rfl
                  simp only [Act.put]
                  refine wpAnyG_take (i := 6) (v := ?_) rfl (by decide +kernel) (by kernel_rfl) (by decide) (by kernel_rfl) (by kernel_rfl) (fun _ _ _ h => h) (Or.inl ⟨by rfl, ?_⟩) hHeld ?_
                  rotate_left 1
                  · (intro w' hSw; (try dsimp only at hSw); go_simp) <;> with_reducible rfl
                  simp only [Act.put]
                  refine wpAnyG_take (i := 7) (v := ?_) rfl (by decide +kernel) (by kernel_rfl) (by decide) (by kernel_rfl) (by kernel_rfl) (fun _ _ _ h => h) (Or.inl ⟨by rfl, ?_⟩) hHeld ?_
                  rotate_left 1
                  · (intro w' hSw; (try dsimp only at hSw); go_simp) <;> with_reducible rfl
                  simp only [Act.put]
                  refine wpAnyG_take (i := 8) (v := ?_) rfl (by decide +kernel) (by kernel_rfl) (by decide) (by kernel_rfl) (by kernel_rfl) (fun _ _ _ h => h) (Or.inl ⟨by rfl, ?_⟩) hHeld ?_
                  rotate_left 1
                  · (intro w' hSw; (try dsimp only at hSw); go_simp) <;> with_reducible rfl
                  simp only [Act.put]
                  refine wpAnyG_take (i := 9) (v := ?_) rfl (by decide +kernel) (by kernel_rfl) (by decide) (by kernel_rfl) (by kernel_rfl) (fun _ _ _ h => h) (Or.inl ⟨by rfl, ?_⟩) hHeld ?_
                  rotate_left 1
                  · (intro w' hSw; (try dsimp only at hSw); go_simp) <;> with_reducible rfl
                  simp only [Act.put]
                  refine wpAnyG_take (i := 10) (v := ?_) rfl (by decide +kernel) (by kernel_rfl) (by decide) (by kernel_rfl) (by kernel_rfl) (fun _ _ _ h => h) (Or.inl ⟨by rfl, ?_⟩) hHeld ?_
                  rotate_left 1
                  · (intro w' hSw; (try dsimp only at hSw); go_simp) <;> with_reducible rfl
                  simp only [Act.put]
                  refine wpAnyG_take (i := 11) (v := ?_) rfl (by decide +kernel) (by kernel_rfl) (by decide) (by kernel_rfl) (by kernel_rfl) (fun _ _ _ h => h) (Or.inl ⟨by rfl, ?_⟩) hHeld ?_
                  rotate_left 1
                  · (intro w' hSw; (try dsimp only at hSw); go_simp) <;> with_reducible rfl
                  simp only [Act.put]
                  refine wpAnyG_one (i := 12) rfl (by kernel_rfl) rfl (fun K hK => ?_)
                  go_simp
                  refine hK.out _ _ (fun h => absurd rfl h) (fun _ => ?_)
                  clear hK K hHeld
                  refine wpAnyG_done (by kernel_rfl) ?_ _
                  (try rw [show ((0 : Nat) : Int) = 0 from rfl] at hW6)
                  rw [← hW6]
                  clear hW6 mkS m0 f3 f4 hrow t0 t1 t2 t3
                  obtain ⟨m0, -, -, -, -, -⟩ := row3_facts B6.out
                  obtain ⟨-, -, -, f3, f4⟩ := w5_facts F6.out
                  have mkS : ∀ w' : World, Ext W6 w' → w'.cell? ⟨WR.heap.size, 0, none⟩ = some (.slice (some ⟨b, 0, none⟩) Q.length c0) ∧ w'.cell? ⟨wr.heap.size, 3, none⟩ = some (.int .i64 (x.src : Int)) ∧ w'.cell? ⟨wr.heap.size, 4, none⟩ = some (.int .i64 (x.port : Int)) ∧ w'.cell? ⟨b, m + 1, none⟩ = some (.slice (some ⟨q2, 0, none⟩) wl dd2) := fun w' h => ⟨h.cell' m0, h.cell' f3, h.cell' f4, h.cell' hrow2⟩
                  have h0m : (0 : Int) ≤ (m : Int) + 1 := by omega
                  go_upto_region 37 with fail
                  refine wp_region_gate (n := 12) (S := fun w' => w'.cell? ⟨WR.heap.size, 0, none⟩ = some (.slice (some ⟨b, 0, none⟩) Q.length c0) ∧ w'.cell? ⟨wr.heap.size, 3, none⟩ = some (.int .i64 (x.src : Int)) ∧ w'.cell? ⟨wr.heap.size, 4, none⟩ = some (.int .i64 (x.port : Int)) ∧ w'.cell? ⟨b, m + 1, none⟩ = some (.slice (some ⟨q2, 0, none⟩) wl dd2)) (by kernel_rfl) (mkS _ (Ext.rfl' W6).drew') (fun hHeld => ?_)
                  refine wpAnyG_take (i := 0) (v := ?_) rfl (by decide +kernel) (by kernel_rfl) (by decide) (by kernel_rfl) (by kernel_rfl) (fun _ _ _ h => h) (Or.inl ⟨by rfl, ?_⟩) hHeld ?_
                  rotate_left 1
                  · (intro w' hSw; (try dsimp only at hSw); go_simp) <;> with_reducible rfl
                  simp only [Act.put]
                  refine wpAnyG_take (i := 1) (v := ?_) rfl (by decide +kernel) (by kernel_rfl) (by decide) (by kernel_rfl) (by kernel_rfl) (fun _ _ _ h => h) (Or.inl ⟨by rfl, ?_⟩) hHeld ?_
                  rotate_left 1
                  · (intro w' hSw; (try dsimp only at hSw); go_simp) <;> with_reducible rfl
                  simp only [Act.put]
                  refine wpAnyG_take (i := 2) (v := ?_) rfl (by decide +kernel) (by kernel_rfl) (by decide) (by kernel_rfl) (by kernel_rfl) (fun _ _ _ h => h) (Or.inl ⟨by rfl, ?_⟩) hHeld ?_
                  rotate_left 1
                  · (intro w' hSw; (try dsimp only at hSw); go_simp) <;> with_reducible rfl
                  simp only [Act.put]
                  refine wpAnyG_take (i := 3) (v := ?_) rfl (by decide +kernel) (by kernel_rfl) (by decide) (by kernel_rfl) (by kernel_rfl) (fun _ _ _ h => h) (Or.inl ⟨by rfl, ?_⟩) hHeld ?_
                  rotate_left 1
                  · (intro w' hSw; (try dsimp only at hSw); go_simp) <;> with_reducible rfl
                  simp only [Act.put]
                  refine wpAnyG_take (i := 4) (v := ?_) rfl (by decide +kernel) (by kernel_rfl) (by decide) (by kernel_rfl) (by kernel_rfl) (fun _ _ _ h => h) (Or.inl ⟨by rfl, ?_⟩) hHeld ?_
                  rotate_left 1
                  · (intro w' hSw; (try dsimp only at hSw); go_simp) <;> with_reducible rfl
                  simp only [Act.put]
                  refine wpAnyG_take (i := 5) (v := ?_) rfl (by decide +kernel) (by kernel_rfl) (by decide) (by kernel_rfl) (by kernel_rfl) (fun _ _ _ h => h) (Or.inl ⟨by rfl, ?_⟩) hHeld ?_
                  rotate_left 1
                  · (intro w' hSw; (try dsimp only at hSw); go_simp) <;> with_reducible rfl
                  simp only [Act.put]
                  refine wpAnyG_take (i := 6) (v := ?_) rfl (by decide +kernel) (by kernel_rfl) (by decide) (by kernel_rfl) (by kernel_rfl) (fun _ _ _ h => h) (Or.inl ⟨by rfl, ?_⟩) hHeld ?_
                  rotate_left 1
                  · (intro w' hSw; (try dsimp only at hSw); go_simp) <;> with_reducible rfl
                  simp only [Act.put]
                  refine wpAnyG_take (i := 7) (v := ?_) rfl (by decide +kernel) (by kernel_rfl) (by decide) (by kernel_rfl) (by kernel_rfl) (fun _ _ _ h => h) (Or.inl ⟨by rfl, ?_⟩) hHeld ?_
                  rotate_left 1
                  · (intro w' hSw; (try dsimp only at hSw); go_simp) <;> with_reducible rfl
                  simp only [Act.put]
                  refine wpAnyG_take (i := 8) (v := ?_) rfl (by decide +kernel) (by kernel_rfl) (by decide) (by kernel_rfl) (by kernel_rfl) (fun _ _ _ h => h) (Or.inl ⟨by rfl, ?_⟩) hHeld ?_
                  rotate_left 1
                  · (intro w' hSw; (try dsimp only at hSw); go_simp) <;> with_reducible rfl
                  simp only [Act.put]
                  refine wpAnyG_take (i := 9) (v := ?_) rfl (by decide +kernel) (by kernel_rfl) (by decide) (by kernel_rfl) (by kernel_rfl) (fun _ _ _ h => h) (Or.inl ⟨by rfl, ?_⟩) hHeld ?_
                  rotate_left 1
                  · (intro w' hSw; (try dsimp only at hSw); go_simp) <;> with_reducible rfl
                  simp only [Act.put]
                  refine wpAnyG_take (i := 10) (v := ?_) rfl (by decide +kernel) (by kernel_rfl) (by decide) (by kernel_rfl) (by kernel_rfl) (fun _ _ _ h => h) (Or.inl ⟨by rfl, ?_⟩) hHeld ?_
                  rotate_left 1
                  · (intro w' hSw; (try dsimp only at hSw); go_simp) <;> with_reducible rfl
                  simp only [Act.put]
                  refine wpAnyG_take (i := 11) (v := ?_) rfl (by decide +kernel) (by kernel_rfl) (by decide) (by kernel_rfl) (by kernel_rfl) (fun _ _ _ h => h) (Or.inl ⟨by rfl, ?_⟩) hHeld ?_
                  rotate_left 1
                  · (intro w' hSw; (try dsimp only at hSw); go_simp) <;> with_reducible rfl
                  simp only [Act.put]
                  (try simp only [Nat.zero_mul, Nat.zero_add] at u0 u1 u2 u3)
                  refine wpAnyG_one (i := 12) rfl (by kernel_rfl) rfl (fun K hK => ?_)
                  go_simp
                  refine hK.out _ _ (fun h => absurd rfl h) (fun _ => ?_)
                  clear hK K hHeld
                  refine wpAnyG_done (by kernel_rfl) ?_ _
                  go_wp2
                  go_roundg (Q.length - (m + 1 + 1))
                  case measure => omega
                  case rel =>
                    refine ⟨m + 1 + 1, by omega, rfl, by go_num, ?_⟩
                    have M7 := (HPUT2.out ((x.src : Int), (x.port : Int)) (by unfold inI64; simp; omega) (by unfold inI64; simp; omega)).ext (Ext.rfl' _).drew'
                    rw [← HLK.out] at M7
                    exact ⟨((X6.out.store (p := ⟨q2, _, none⟩) hq2W.1 _).store (p := ⟨q2, _, none⟩) hq2W.1 _).drew', Nat.le_refl _, row_ext ((B6.out.of_block (Below.heap_setCell _ _ _ _ (by simpa using hq2W.2.symm))).of_block (Below.heap_setCell _ _ _ _ (by simpa using hq2W.2.symm))) (Ext.rfl' _).drew', bs, M7, HND.out, HGEB.out⟩
            · obtain rfl : j = Q.length := by omega
              obtain ⟨bs4, ho, hnd, hge⟩ := HH.out.net
              obtain ⟨m0, m1, m2, -, -, -⟩ := row3_facts HH.out.box
              have QX := Lib.hid (row_ext RQ.out HH.out.ext)
              obtain ⟨q0, q1, q2, t0, t1, t2⟩ := row3_facts QX.out
              have KX := Lib.hid (KR.out.trans' HH.out.ext)
              have hsz := RQ.out.lt
              go_wp2
              obtain ⟨c0', c1', c2'⟩ := close_net KX.out ho hnd (fun y hy => by have := (hge y hy).1; omega)
              refine bodyPost_ret (v := .tuple #[.agg #[.slice a0 Q.length c0, .slice a1 0 c1, .slice a2 Q.length c2], .bool true]) (by simp [results, Try.results19, go_sem, q0, q1, q2]) rfl ⟨_, bs4, by rw [dec_true E.out], c0', by rw [← EA.out]; exact c1', c2'⟩
end Go.Proofs.Ytgacbfblpkikkaa
