/- The contract of the program's UnfoldNetwork. -/
import Derived.Test.YtgacbfblpkikkaaUd
namespace Go.Proofs.Ytgacbfblpkikkaa
open Go.RowKit

theorem view_one (x : Wk) : ∀ u ∈ viewCells x, u.oneCell' = true := fun u hu => by
  simp only [viewCells, List.mem_cons, List.not_mem_nil, or_false] at hu
  rcases hu with rfl | rfl | rfl | rfl | rfl <;> rfl
theorem GrowW.src {f : Wk → List Value} {T B : Nat} {w : World} {v : Value} {Q : List Wk} (hf : Five f) (h1 : ∀ x, ∀ u ∈ f x, u.oneCell' = true) (h : GrowW f T B w v Q) : ∃ ao c, v = .slice ao Q.length c ∧ SrcAt w ao Q.length 5 (cells5 f Q) := by
  obtain ⟨ao, c, rfl⟩ := h.slice
  refine ⟨ao, c, rfl, by rw [cells5_len hf]; omega, fun e => ?_, fun ad e j u hu => ?_, fun u hu => ?_⟩
  · rcases h.2 with ⟨_, h0⟩ | ⟨g, cap, cur, e2, _⟩
    · exact h0
    · subst e; simp at e2
  · have hj := (List.getElem?_eq_some_iff.1 hu).1
    rw [cells5_len hf] at hj
    rcases h.2 with ⟨_, h0⟩ | ⟨g, cap, cur, e2, _⟩
    · omega
    · subst e
      simp only [Value.slice.injEq, Option.some.injEq] at e2
      obtain ⟨rfl, _, rfl⟩ := e2
      rw [add_plain, Nat.zero_add, World.ownsRow.cellAt h j (by omega)]
      exact hu
  · obtain ⟨x, _, hx⟩ := List.mem_flatMap.1 hu
    exact h1 x u hx
theorem grow_one {T B : Nat} {w : World} {x : Wk} (hB : B ≤ w.heap.size) : GrowW viewCells T B (w.alloc (.cells #[.int .i64 (x.steps : Int), .int .i64 (x.node : Int), .int .i64 x.came, .int .i64 (x.src : Int), .int .i64 (x.port : Int)] T)) (.slice (some ⟨w.heap.size, 0, none⟩) 1 1) [x] :=
  ⟨rfl, .inr ⟨w.heap.size, 1, _, rfl, hB, heap_alloc_new w _, Nat.le_refl _, by unfold maxLen; omega, rfl, rfl⟩⟩
theorem longer_six {N : Net} (g : Good N) {k : Nat} {x : Wk} (hx : x.node < N.ends.length) : (longer N k x).length ≤ 6 := by
  have h := longerTo_len N k x (gr N.ends x.node).length
  have h2 := (g.2.1 _ hx).1
  have h3 : (longer N k x).length = (longerTo N k x (gr N.ends x.node).length).length := rfl
  omega
noncomputable def unAns (N : Net) (v t : Int) : Net := if dec (UnB N v t) = true then unNet N t.toNat (walksOfAll N v.toNat t.toNat) else zeroNet
theorem unAns_t {N : Net} {v t : Int} (h : UnB N v t) : unAns N v t = unNet N t.toNat (walksOfAll N v.toNat t.toNat) := by unfold unAns; rw [if_pos (dec_true h)]
theorem unAns_f {N : Net} {v t : Int} (h : ¬ UnB N v t) : unAns N v t = zeroNet := by unfold unAns; rw [if_neg (by rw [dec_false h]; simp)]
theorem unAns_small (N : Net) (v t : Int) : (unAns N v t).small := by
  by_cases h : UnB N v t
  · rw [unAns_t h]; exact good_small (un_all h.1 (by have := h.2.1; omega) h.2.2.2)
  · rw [unAns_f h]; exact zero_small
theorem unNet_len (N : Net) (t : Nat) (Q : List Wk) : (unNet N t Q).ends.length = Q.length := by unfold unNet unTo; rw [linkTo_len, un0_len]
theorem app_old {P : Program} (w : World) (base : Nat) (t ty e : TypeId) (i : TypeInfo) (z : Value) (size bytes : Nat) (ht : P.underlying t = some (.slice e)) (hi : P.info? e = some i) (hz : i.zero = some z)
    (hsize : i.size = size) (hby : i.bytes = bytes) (g n cap : Nat) (xs : List Value) (hown : w.ownsRow base e size (.slice (some ⟨g, 0, none⟩) n cap) n xs)
    (ao : Option Addr) (m c : Nat) (news : List Value) (hsrc : SrcAt w ao m size news)
    (h63 : n + m ≤ maxLen) (hbytes : (n + m) * bytes ≤ 140737488355328) {v' : Value} {w' : World}
    (hr : (Builtin.append_ #[t, t] ty #[.slice (some ⟨g, 0, none⟩) n cap, .slice ao m c]).run P w = .ok v' w') (h2 : w'.ownsRow base e size v' (n + m) (xs ++ news)) : ∀ j u, xs[j]? = some u → w'.cell? ⟨g, j, none⟩ = some u := by
  obtain ⟨hl, hnone, hnews, h1⟩ := hsrc
  have hold : ∀ j u, xs[j]? = some u → w.cell? ⟨g, j, none⟩ = some u := fun j u hu => by
    have := hown.cells (g := g) rfl j u hu
    rwa [add_plain, Nat.zero_add] at this
  cases ao with
  | none =>
    have h := run_append_owned_nil (P := P) base t ty e i size ht hi (.slice (some ⟨g, 0, none⟩) n cap) n c xs hown
    obtain rfl := hnone rfl
    rw [h] at hr
    simp only [Result.ok.injEq] at hr
    obtain ⟨rfl, rfl⟩ := hr
    exact hold
  | some ad =>
    have hnews := hnews ad rfl
    rcases hown.2 with ⟨e1, _⟩ | ⟨g', cap', cur, e1, hbg, hg, hnc, hcm, hcs, htake⟩
    · simp at e1
    · simp only [Value.slice.injEq, Option.some.injEq, Addr.mk.injEq, and_true, true_and] at e1
      obtain ⟨rfl, rfl⟩ := e1
      subst hsize
      subst hby
      have hsmall : n + m ≤ 9223372036854775807 := by simp only [maxLen] at h63; omega
      by_cases hroom : n + m ≤ cap
      · have hfit : n * i.size + news.length ≤ cur.size := by rw [hl, hcs, ← Nat.add_mul]; exact Nat.mul_le_mul_right _ hroom
        have h := run_append_room (P := P) w t ty e i ht hi g n cap cur hg ad m c news hl hnews h1 hroom hfit
        rw [h] at hr
        simp only [Result.ok.injEq] at hr
        obtain ⟨rfl, rfl⟩ := hr
        intro j u hu
        have hj := (List.getElem?_eq_some_iff.1 hu).1
        have := h2.cells (g := g) rfl j u (by rw [List.getElem?_append_left hj]; exact hu)
        rwa [add_plain, Nat.zero_add] at this
      · have holds : ∀ j u, xs[j]? = some u → w.cell? ((⟨g, 0, none⟩ : Addr).add j) = some u := hown.cells (g := g) rfl
        have h := run_append_grow (P := P) w t ty e i z ht hi hz ⟨g, 0, none⟩ n cap xs hown.1 holds ad m c news hl hnews (by omega) (by omega) (growslice_fits (by omega) hbytes)
        rw [h] at hr
        simp only [Result.ok.injEq] at hr
        obtain ⟨rfl, rfl⟩ := hr
        intro j u hu
        exact ((Ext.rfl' w).drew'.alloc' _).cell' (hold j u hu)
theorem wp_app3 {P : Program} {w : World} {o : Oper} {a : Act} {K : Act → World → Prop} {Q : Exit → Act → World → Prop} (s x : Operand) (t : TypeId)
    (ho : o.op = .call { callee := .builtin .append, args := #[s, x], argTypes := #[t, t] })
    (base : Nat) (e : TypeId) (i : TypeInfo) (z : Value) (size bytes : Nat) (ht : P.underlying t = some (.slice e)) (hi : P.info? e = some i) (hz : i.zero = some z)
    (hsize : i.size = size) (hby : i.bytes = bytes) (hzs : z.cells.size = size) (hsz : 0 < size)
    (g n cap : Nat) (xs : List Value) (hs : a.eval s = .slice (some ⟨g, 0, none⟩) n cap) (hown : w.ownsRow base e size (.slice (some ⟨g, 0, none⟩) n cap) n xs)
    (ao : Option Addr) (m c : Nat) (news : List Value) (hx : a.eval x = .slice ao m c) (hsrc : SrcAt w ao m size news)
    (h63 : n + m ≤ maxLen) (hbytes : (n + m) * bytes ≤ 140737488355328) (hbase : base ≤ w.heap.size)
    (h : ∀ v' w', Grew w w' base e size (.slice (some ⟨g, 0, none⟩) n cap) v' (n + m) (xs ++ news) ∧ (∀ j u, xs[j]? = some u → w'.cell? ⟨g, j, none⟩ = some u) → K (a.put o.dst v') w') : o.wp P a w K Q := by
  obtain ⟨v', w', hr, h2⟩ := run_app (P := P) w base t o.type e i z size bytes ht hi hz hsize hby hzs hsz _ n xs hown ao m c news hsrc h63 hbytes hbase
  have h3 := app_old (P := P) w base t o.type e i z size bytes ht hi hz hsize hby g n cap xs hown ao m c news hsrc h63 hbytes hr h2.1
  unfold Oper.wp execOp
  simp only [ho, resolve, invoke, builtin, Sem.run_bind, Sem.run_pure, Result.andThen_ok, List.map_toArray, List.map_cons, List.map_nil, hs, hx, hr]
  exact h v' w' ⟨h2, h3⟩
/-- How long the list may be after k walks have been gone on from. -/
theorem unq_step {N : Net} {v t k : Nat} (hk : k < (unq N v t k).length) :
    unq N v t (k + 1) = if (wkAt (unq N v t k) k).steps < t then unq N v t k ++ longer N k (wkAt (unq N v t k) k) else unq N v t k := by
  simp only [unq, hk, true_and]

set_option maxHeartbeats 6400000 in
set_option maxRecDepth 100000 in
theorem unfold_any {w : World} {vn : Value} {N : Net} (xv xt : Int) (h : NetAt w vn N) :
    Calls Try.prog 21 #[vn, .int .i64 xv, .int .i64 xt] w fun e w' => ∃ v' bs, e = .returned (.tuple #[v', .bool (dec (UnB N xv xt))]) ∧ Ext w w' ∧ OwnNet w' v' (unAns N xv xt) bs ∧ Fresh w bs := by
  have HN := Lib.hid h
  obtain ⟨w0, v1, w2, rfl, hE, -, hP⟩ := h
  obtain ⟨ea, eb, eo, ec, rfl, -, hel, hem, -⟩ := hE
  obtain ⟨pa, pb, po, pc, rfl, -, hpl, hpm, -⟩ := hP
  unfold maxLen at hem hpm
  have HX := Lib.hid (boxed2_ext w (.slice ea N.ends.length ec) v1 (.slice pa N.inputs.length pc))
  have HR := Lib.hid (boxed2_row w (.slice ea N.ends.length ec) v1 (.slice pa N.inputs.length pc))
  have HQ := Lib.hid (boxed2_res w (.slice ea N.ends.length ec) v1 (.slice pa N.inputs.length pc))
  by_cases hv : HVOK N xv xt
  case neg =>
    have G := Lib.hid (dec_false hv)
    have E := Lib.hid (show ¬ UnB N xv xt from fun q => hv ⟨⟨q.1, q.2.1⟩, q.2.2.1⟩)
    clear hv
    go_enter Try.func21, Try.ntmps21
    go_wp2_with fail
    (with_reducible refine (hasView_any xv xt (HN.out.ext HX.out)).mono ?_)
    rintro e w1 ⟨rfl, hx1⟩
    rw [G.out]
    have K1 := Lib.hid (HX.out.trans' hx1)
    have Q1 := Lib.hid (row_ext HQ.out hx1)
    clear hx1
    obtain ⟨q0, q1, q2, t0, t1, t2⟩ := row3_facts Q1.out
    go_wp2
    refine bodyPost_ret (v := .tuple #[znet, .bool false]) (by simp [results, Try.results21, go_sem, q0, q1, q2, znet]) rfl ⟨_, [], by rw [dec_false E.out], store3_ext K1.out (by omega) _ _ _, by rw [unAns_f E.out]; exact own_zero _, Fresh.nil _⟩
  have G := Lib.hid (dec_true hv)
  obtain ⟨⟨hg, hn0, hn1⟩, ht0, ht1⟩ := hv
  obtain ⟨v, rfl⟩ := Int.eq_ofNat_of_zero_le hn0
  obtain ⟨t, rfl⟩ := Int.eq_ofNat_of_zero_le ht0
  have HG := Lib.hid hg
  have HGE := Lib.hid hg.2.1
  have hvn : v < N.ends.length := by omega
  have htt : t ≤ 80 := by omega
  have HI := Lib.hid (fun k => unq_inv (N := N) (v := v) (t := t) hg.2.1 hvn k)
  have HB := Lib.hid (show UnB N (v : Int) (t : Int) ↔ (walksOfAll N v t).length ≤ 40 from ⟨fun q => by have := q.2.2.2; simpa using this, fun q => ⟨hg, ⟨hn0, hn1⟩, ⟨ht0, ht1⟩, by simpa using q⟩⟩)
  obtain ⟨i0, hi, hz0, hz1, hz2⟩ := info_parts Try.infoVW
  have I0 := Lib.hid (And.intro hi (And.intro hz0 (And.intro hz1 hz2)))
  clear hi hz0 hz1 hz2 hn0 hn1 ht0 ht1 hg
  go_enter Try.func21, Try.ntmps21
  go_wp2_with fail
  (with_reducible refine (hasView_any (v : Int) (t : Int) (HN.out.ext HX.out)).mono ?_)
  rintro e w1 ⟨rfl, hx1⟩
  rw [G.out]
  have K1 := Lib.hid (HX.out.trans' hx1)
  have R1 := Lib.hid (row_ext HR.out hx1)
  have Q1 := Lib.hid (row_ext HQ.out hx1)
  clear hx1
  have GR0 := Lib.hid (show GrowW viewCells 80 w1.heap.size (w1.alloc (.cells #[.int .i64 0, .int .i64 (v : Int), .int .i64 (-1), .int .i64 0, .int .i64 0] 80)) (.slice (some ⟨w1.heap.size, 0, none⟩) (unq N v t 0).length 1) (unq N v t 0) from grow_one (x := ⟨v, 0, -1, 0, 0⟩) (Nat.le_refl _))
  go_wp2_with fail
  go_loopg [8, 9] 41 (fun g' s i wr => ∃ (k : Nat) (a : Option Addr) (c : Nat), k ≤ 40 ∧ g' = 41 - k ∧ s = .slice a (unq N v t k).length c ∧ i = .int .i64 k ∧ (unq N v t k).length ≤ 46 ∧ Hid (Ext w1 wr ∧ GrowW viewCells 80 w1.heap.size wr (.slice a (unq N v t k).length c) (unq N v t k)))
  case atStart => exact ⟨0, _, _, by omega, rfl, rfl, rfl, by simp [unq], (Ext.rfl' w1).alloc' _, GR0.out⟩
  case round =>
    obtain ⟨k, a, c, hk, rfl, rfl, rfl, hl46, Hr⟩ := hrel
    have X1 := Lib.hid Hr.out.1
    have KR := Lib.hid (K1.out.trans' Hr.out.1)
    have GR := Lib.hid Hr.out.2
    have hI := HI.out k
    have hpos := hI.pos
    clear Hr GR0
    by_cases hlt : k < (unq N v t k).length ∧ (unq N v t k).length ≤ 40
    · obtain ⟨h1, h2⟩ := hlt
      have ST := Lib.hid (unq_step (N := N) (v := v) (t := t) h1)
      obtain ⟨x, hx⟩ : ∃ x, x = wkAt (unq N v t k) k := ⟨_, rfl⟩
      rw [← hx] at ST
      obtain ⟨g, cap, he, hq1, hq2, -, -, hqc⟩ := GR.out.view hpos
      obtain ⟨rfl, rfl⟩ : a = some ⟨g, 0, none⟩ ∧ c = cap := by simpa using he
      clear he
      unfold maxLen at hq2
      simp only [Nat.mul_comm 5] at hqc
      obtain ⟨d0, d1, d2, d3, d4⟩ := hqc k h1
      rw [← hx] at d0 d1 d2 d3 d4
      obtain ⟨hxn, hxs⟩ := hI.node k h1
      rw [← hx] at hxn hxs
      have HX2 := Lib.hid hx
      clear hqc hx
      have h6 := longer_six HG.out (k := k) hxn
      by_cases hs : x.steps < t
      · have ST2 := Lib.hid (show unq N v t (k + 1) = unq N v t k ++ longer N k x by rw [ST.out, if_pos hs])
        obtain ⟨p0, p1, p2, -, -, -⟩ := row3_facts (row_ext R1.out X1.out)
        have mkS : ∀ w' : World, Ext wr w' → w'.cell? ⟨g, k * 5, none⟩ = some (.int .i64 (x.steps : Int)) ∧ w'.cell? ⟨g, k * 5 + 1, none⟩ = some (.int .i64 (x.node : Int)) ∧ w'.cell? ⟨g, k * 5 + 2, none⟩ = some (.int .i64 x.came) ∧ w'.cell? ⟨g, k * 5 + 3, none⟩ = some (.int .i64 (x.src : Int)) ∧ w'.cell? ⟨g, k * 5 + 4, none⟩ = some (.int .i64 (x.port : Int)) ∧ w'.cell? ⟨w.heap.size, 0, none⟩ = some (.slice ea N.ends.length ec) ∧ w'.cell? ⟨w.heap.size, 1, none⟩ = some v1 ∧ w'.cell? ⟨w.heap.size, 2, none⟩ = some (.slice pa N.inputs.length pc) := fun w' hw => ⟨hw.cell' d0, hw.cell' d1, hw.cell' d2, hw.cell' d3, hw.cell' d4, hw.cell' p0, hw.cell' p1, hw.cell' p2⟩
        go_wp2_with fail
        clear hI
        refine wp_region_gate (n := 9) (S := fun w' => w'.cell? ⟨g, k * 5, none⟩ = some (.int .i64 (x.steps : Int)) ∧ w'.cell? ⟨g, k * 5 + 1, none⟩ = some (.int .i64 (x.node : Int)) ∧ w'.cell? ⟨g, k * 5 + 2, none⟩ = some (.int .i64 x.came) ∧ w'.cell? ⟨g, k * 5 + 3, none⟩ = some (.int .i64 (x.src : Int)) ∧ w'.cell? ⟨g, k * 5 + 4, none⟩ = some (.int .i64 (x.port : Int)) ∧ w'.cell? ⟨w.heap.size, 0, none⟩ = some (.slice ea N.ends.length ec) ∧ w'.cell? ⟨w.heap.size, 1, none⟩ = some v1 ∧ w'.cell? ⟨w.heap.size, 2, none⟩ = some (.slice pa N.inputs.length pc)) (by kernel_rfl) (mkS _ (Ext.rfl' wr).drew') (fun hHeld => ?_)
        refine wpAnyG_take (i := 0) (v := ?_) rfl (by decide +kernel) (by kernel_rfl) (by decide) (by kernel_rfl) (by kernel_rfl) (fun _ _ _ h => h) (Or.inl ⟨by rfl, ?_⟩) hHeld ?_
        rotate_left 1
        · (intro w' hSw; (try dsimp only at hSw); go_simp) <;> with_reducible rfl
        simp only [Act.put]
        refine wpAnyG_take (i := 1) (v := ?_) rfl (by decide +kernel) (by kernel_rfl) (by decide) (by kernel_rfl) (by kernel_rfl) (fun _ _ _ h => h) (Or.inl ⟨by rfl, ?_⟩) hHeld ?_
        rotate_left 1
        · (intro w' hSw; (try dsimp only at hSw); go_simp) <;> with_reducible rfl
        simp only [Act.put]
        refine wpAnyG_take (i := 2) (v := ?_) rfl (by decide +kernel) (by kernel_rfl) (by decide) (by kernel_rfl) (by kernel_rfl) (fun _ _ _ h => h) (Or.inl ⟨by rfl, ?_⟩) hHeld ?_
        rotate_left 1
        · (intro w' hSw; (try dsimp only at hSw); go_simp) <;> with_reducible rfl
        simp only [Act.put]
        refine wpAnyG_take (i := 3) (v := ?_) rfl (by decide +kernel) (by kernel_rfl) (by decide) (by kernel_rfl) (by kernel_rfl) (fun _ _ _ h => h) (Or.inl ⟨by rfl, ?_⟩) hHeld ?_
        rotate_left 1
        · (intro w' hSw; (try dsimp only at hSw); go_simp) <;> with_reducible rfl
        simp only [Act.put]
        refine wpAnyG_take (i := 4) (v := ?_) rfl (by decide +kernel) (by kernel_rfl) (by decide) (by kernel_rfl) (by kernel_rfl) (fun _ _ _ h => h) (Or.inl ⟨by rfl, ?_⟩) hHeld ?_
        rotate_left 1
        · (intro w' hSw; (try dsimp only at hSw); go_simp) <;> with_reducible rfl
        simp only [Act.put]
        refine wpAnyG_take (i := 5) (v := ?_) rfl (by decide +kernel) (by kernel_rfl) (by decide) (by kernel_rfl) (by kernel_rfl) (fun _ _ _ h => h) (Or.inl ⟨by rfl, ?_⟩) hHeld ?_
        rotate_left 1
        · (intro w' hSw; (try dsimp only at hSw); go_simp) <;> with_reducible rfl
        simp only [Act.put]
        refine wpAnyG_take (i := 6) (v := ?_) rfl (by decide +kernel) (by kernel_rfl) (by decide) (by kernel_rfl) (by kernel_rfl) (fun _ _ _ h => h) (Or.inl ⟨by rfl, ?_⟩) hHeld ?_
        rotate_left 1
        · (intro w' hSw; (try dsimp only at hSw); go_simp) <;> with_reducible rfl
        simp only [Act.put]
        clear hHeld
        refine wpAnyG_one (i := 7) rfl (by kernel_rfl) rfl (fun K hK => ?_)
        go_simp
        have hlw := longerWalks_any k x hxn (by omega) HGE.out (HN.out.ext (KR.out.trans' (Ext.rfl' wr).drew'))
        unfold walkVal at hlw
        (with_reducible refine hlw.mono ?_)
        clear hlw
        rintro e w3 ⟨vq, rfl, hx3, hgr⟩
        have X3 := Lib.hid ((Ext.rfl' wr).drew'.trans' hx3)
        obtain ⟨ao, cq, rfl, hsrc⟩ := hgr.src view_five view_one
        have SRC := Lib.hid hsrc
        clear hx3 hgr hsrc
        refine hK.out _ _ (fun _ => mkS _ X3.out) (fun _ => ?_)
        clear hK K
        refine wpAnyG_one (i := 8) rfl (by kernel_rfl) rfl (fun K hK => ?_)
        have GX := Lib.hid (GR.out.ext X3.out)
        have hsz := (X1.out.trans' X3.out).size
        refine wp_app3 (.tmp 38) (.tmp 45) 81 rfl w1.heap.size 80 i0 (.agg #[.int .i64 0, .int .i64 0, .int .i64 0, .int .i64 0, .int .i64 0]) 5 40 Try.underlying81 I0.out.1 I0.out.2.1 I0.out.2.2.1 I0.out.2.2.2 rfl (by decide) g (unq N v t k).length c (cells5 viewCells (unq N v t k)) rfl GX.out ao (longer N k x).length cq (cells5 viewCells (longer N k x)) rfl SRC.out (by unfold maxLen; omega) (by omega) hsz ?_
        intro v' w5 hg
        have hcell : ∀ r u, r < 5 → (viewCells x)[r]? = some u → w5.cell? ⟨g, k * 5 + r, none⟩ = some u := fun r u hr hu => hg.2 _ u (by rw [Nat.mul_comm k 5, cells5_get view_five _ _ _ h1 hr, ← HX2.out]; exact hu)
        have Z5 := Lib.hid (show Ext w1 w5 from grown_ext (X1.out.trans' X3.out) (Nat.le_refl _) GX.out hg.1.2.1)
        obtain ⟨ya, yc, rfl⟩ := owns_slice hg.1.1
        have hlen : (unq N v t (k + 1)).length = (unq N v t k).length + (longer N k x).length := by rw [ST2.out, List.length_append]
        have G5 := Lib.hid (show GrowW viewCells 80 w1.heap.size w5 (.slice ya (unq N v t (k + 1)).length yc) (unq N v t (k + 1)) by
          unfold GrowW
          rw [hlen, ST2.out, cells5_app]
          exact hg.1.1)
        clear hg hsz
        obtain ⟨q0, q1, q2, -, -, -⟩ := row3_facts (row_ext R1.out Z5.out)
        refine hK.out _ _ (fun _ => ⟨hcell 0 _ (by omega) rfl, hcell 1 _ (by omega) rfl, hcell 2 _ (by omega) rfl, hcell 3 _ (by omega) rfl, hcell 4 _ (by omega) rfl, q0, q1, q2⟩) (fun _ => ?_)
        clear hK K hcell q0 q1 q2
        refine wpAnyG_one (i := 9) rfl (by kernel_rfl) rfl (fun K hK => ?_)
        go_simp
        refine hK.out _ _ (fun h => absurd rfl h) (fun _ => ?_)
        clear hK K
        refine wpAnyG_done (by kernel_rfl) ?_ _
        clear mkS p0 p1 p2 d0 d1 d2 d3 d4
        rw [← hlen]
        go_wp2
        go_roundg (41 - (k + 1))
        case measure => omega
        case rel => exact ⟨k + 1, ya, yc, by omega, rfl, rfl, by go_num, by omega, Z5.out, G5.out⟩
      · have ST2 := Lib.hid (show unq N v t (k + 1) = unq N v t k by rw [ST.out, if_neg hs])
        go_wp2_with fail
        go_roundg (41 - (k + 1))
        case measure => omega
        case rel => exact ⟨k + 1, _, _, by omega, rfl, by rw [ST2.out], by go_num, by rw [ST2.out]; omega, by rw [ST2.out]; exact ⟨X1.out, GR.out⟩⟩
    · have hstop := un_stop (N := N) (v := v) (t := t) hk
      obtain ⟨p0, p1, p2, -, -, -⟩ := row3_facts (row_ext R1.out X1.out)
      go_wp2_with fail
      all_goals
        clear p0 p1 p2
        (with_reducible refine (joinWalks_any HG.out (HN.out.ext KR.out) GR.out hI htt (by omega)).mono ?_)
        rintro e w4 ⟨z, bs, rfl, hx4, ho, hfr⟩
        have K4 := Lib.hid (KR.out.trans' hx4)
        have Q4 := Lib.hid (row_ext Q1.out (X1.out.trans' hx4))
        have HSZ := Lib.hid (show ∀ y ∈ bs, w.heap.size + 2 ≤ y from fun y hy => by have := hfr.2 y hy; have := (row_ext Q1.out X1.out).lt; omega)
        clear hx4
        by_cases hb : (walksOfAll N v t).length ≤ 40
        · have hq : walksOfAll N v t = unq N v t k := by
            by_cases h40 : 40 < (unq N v t k).length
            · have := hstop.2 h40; omega
            · exact hstop.1 (by omega)
          have hgd := un_all HG.out hvn hb
          have E := Lib.hid (HB.out.2 hb)
          have EA : unNet N t (unq N v t k) = unAns N (v : Int) (t : Int) := by rw [unAns_t E.out, Int.toNat_natCast, Int.toNat_natCast, hq]
          rw [hq, EA] at hgd
          rw [EA] at ho
          clear hq EA hb hstop
          obtain ⟨a0, c0, a1, c1, a2, c2, rfl⟩ := ho.agg
          go_wp2_with fail
          (with_reducible refine (networkOrNone_t ho.read hgd).mono ?_)
          rintro e w5 ⟨rfl, hx5⟩
          obtain ⟨q0, q1, q2, t0, t1, t2⟩ := row3_facts (row_ext Q4.out hx5)
          go_wp2
          obtain ⟨c0', c1', c2'⟩ := close_net (K4.out.trans' hx5) (ho.ext hx5) hfr.1 HSZ.out
          refine bodyPost_ret (v := .tuple #[.agg #[.slice a0 (unAns N (v : Int) (t : Int)).ends.length c0, .slice a1 (unAns N (v : Int) (t : Int)).ids.length c1, .slice a2 (unAns N (v : Int) (t : Int)).inputs.length c2], .bool true]) (by simp [results, Try.results21, go_sem, q0, q1, q2]) rfl ⟨_, bs, by rw [dec_true E.out], c0', c1', c2'⟩
        · have hgd : ¬ Good (unNet N t (unq N v t k)) := fun q => by
            have h40 := q.1.2
            rw [unNet_len] at h40
            have hq := hstop.1 (by omega)
            rw [hq] at hb
            exact hb h40
          have E := Lib.hid (show ¬ UnB N (v : Int) (t : Int) from fun q => hb (HB.out.1 q))
          clear hb hstop
          go_wp2_with fail
          (with_reducible refine (networkOrNone_f ho.read hgd).mono ?_)
          rintro e w5 ⟨rfl, hx5⟩
          obtain ⟨q0, q1, q2, t0, t1, t2⟩ := row3_facts (row_ext Q4.out hx5)
          unfold znet
          go_wp2
          refine bodyPost_ret (v := .tuple #[znet, .bool false]) (by simp [results, Try.results21, go_sem, q0, q1, q2, znet]) rfl ⟨_, [], by rw [dec_false E.out], store3_ext (K4.out.trans' hx5) (by omega) _ _ _, by rw [unAns_f E.out]; exact own_zero _, Fresh.nil _⟩
end Go.Proofs.Ytgacbfblpkikkaa
