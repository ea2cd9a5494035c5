/- PeriodOf: the program. -/
import Derived.Test.YtdcgpodjoalokaaMpa
import Derived.Test.YtdcgpodjoalokaaMpk
import Derived.Test.YtdcgpodjoalokaaMfb
namespace Go.Proofs.Ytdcgpodjoalokaa
open Go.RowKit Go.Shelf Go.Maps Go.WideShapes
attribute [local go_sem] Oper.semAt_some

theorem run_r {M : Mach} {N : Net} (h : Asked M N) (k : Nat) : ∀ i, i < (runL M N k).length → inI64 (gi (runL M N k) i) := fun i hi => by
  have h1 := (run_sts h k).2.2 i hi
  have h2 := h.1.1.2.1
  unfold InB at h2
  exact inI64_small (by omega) (by omega)
/-- What the map says when k rounds are entered. -/
noncomputable def perF (M : Mach) (N : Net) : Nat → Lit → Option Value
  | 0 => fun _ => none
  | k + 1 => upd (perF M N k) (klit (runL M N k)) (some (.int .i64 (k : Int)))
theorem perF_at {M : Mach} {N : Net} (h : Asked M N) (p : Nat) : ∀ k, (perF M N k (klit (runL M N p)) = none ∧ ∀ j, j < k → runL M N j ≠ runL M N p) ∨ (∃ j, j < k ∧ runL M N j = runL M N p ∧ perF M N k (klit (runL M N p)) = some (.int .i64 (j : Int)))
  | 0 => .inl ⟨rfl, fun j hj => absurd hj (by omega)⟩
  | k + 1 => by
    by_cases e : runL M N k = runL M N p
    · exact .inr ⟨k, by omega, e, by show upd _ _ _ _ = _; rw [e, upd_same]⟩
    · have hne : klit (runL M N p) ≠ klit (runL M N k) := fun hk => e (klit_inj (by rw [length_runL]; exact h.2.1.1.2) (by rw [length_runL, length_runL]) (run_r h p) (run_r h k) hk).symm
      have hu : perF M N (k + 1) (klit (runL M N p)) = perF M N k (klit (runL M N p)) := upd_other _ _ hne
      rw [hu]
      rcases perF_at h p k with ⟨h1, h2⟩ | ⟨j, h1, h2, h3⟩
      · refine .inl ⟨h1, fun j hj => ?_⟩
        by_cases e2 : j = k
        · subst e2; exact e
        · exact h2 j (by omega)
      · exact .inr ⟨j, by omega, h2, h3⟩
def zero40 : Array Value := (List.replicate 40 (Value.int .i64 0)).toArray
theorem info40 : (Try.prog.info? 110).map (fun i => (i.zero, i.size)) = some (some (.agg zero40), 40) := by kernel_rfl
theorem zero_t40 (w : World) : (zeroValue 110).run Try.prog w = .ok (.agg zero40) w := by
  have h := info40
  cases hq : Try.prog.info? 110 with
  | none => rw [hq] at h; cases h
  | some i =>
    rw [hq] at h
    simp only [Option.map_some, Option.some.injEq, Prod.mk.injEq] at h
    simp [zeroValue, typeInfo, hq, h.1]
theorem size_t40 : (Try.prog.info? 110).map (·.size) = some 40 := by kernel_rfl
theorem size_ti : (Try.prog.info? 3).map (·.size) = some 1 := by kernel_rfl
theorem zero_ti (w : World) : (zeroValue 3).run Try.prog w = .ok (.int .i64 0) w := by
  have h := Try.info3
  cases hq : Try.prog.info? 3 with
  | none => rw [hq] at h; cases h
  | some i =>
    rw [hq] at h
    simp only [Option.map_some, Option.some.injEq, Prod.mk.injEq] at h
    simp [zeroValue, typeInfo, hq, h.1]
theorem zero40_list : zero40.toList = List.replicate 40 (Value.int .i64 0) := rfl
theorem splice_key {l : List Int} : (zero40.toList.take 0 ++ (intCells l ++ zero40.toList.drop (0 + (intCells l).length))).toArray = ((padL l).map (Value.int .i64)).toArray := by
  rw [zero40_list]
  simp only [List.take_zero, List.nil_append, Nat.zero_add, List.drop_replicate, padL, intCells, List.map_append, List.map_replicate, List.length_map]
theorem wpListIn_makeMapV {P : Program} {w : World} {F : Fence} {nF : Nat} {ops : Array Oper} {rest : List Oper} {o : Oper} {a : Act} {Q : Exit → Act → World → Prop} (hg : o.guard = none) (ty : TypeId) (hop : o.op = .makeMap ty none)
    (hK : wpListIn F nF P ops Q rest (a.put o.dst (.map (some w.heap.size))) (w.alloc (.map #[] 0))) : wpListIn F nF P ops Q (o :: rest) a w := by
  refine wpListIn_plain hg fun K' hK' => ?_
  unfold Oper.wpIn
  refine ⟨by simp [Oper.about, hop], ?_⟩
  rw [Oper.semAt_plain F _ _ (by rw [hop]; intro c hc'; cases hc')]
  simp [execOp, hop, Instr.makeMap, newObj, Result.andThen]
  exact hK' _ _ hK
theorem wpListIn_allocA {P : Program} {w : World} {F : Fence} {nF : Nat} {ops : Array Oper} {rest : List Oper} {o : Oper} {a : Act} {Q : Exit → Act → World → Prop} (hg : o.guard = none) (ty : TypeId) (hop : o.op = .alloc ty) (zs : Array Value) (hz : (zeroValue ty).run P w = .ok (.agg zs) w)
    (hK : wpListIn F nF P ops Q rest (a.put o.dst (.pointer (some ⟨w.heap.size, 0, none⟩))) (w.alloc (.cells zs ty))) : wpListIn F nF P ops Q (o :: rest) a w := wpListIn_allocV hg ty hop _ hz hK
theorem own_src {w w' : World} {sb sc : Nat} {sg : Nat → Value} {l : List Int} (hr : w.rowIs sb 3 sc sg) (hl : l.length ≤ sc) (hg : ∀ i, i < l.length → sg i = .int .i64 (gi l i)) (hx : Ext w w') : ∀ j v, (intCells l)[j]? = some v → w'.cell? ((⟨sb, 0, none⟩ : Addr).add j) = some v := by
  intro j v hv
  have hj : j < l.length := by have := (List.getElem?_eq_some_iff.1 hv).1; simpa [intCells] using this
  have hadd : (⟨sb, 0, none⟩ : Addr).add j = ⟨sb, j, none⟩ := by unfold Addr.add; split <;> simp_all
  have hv2 : v = .int .i64 (gi l j) := by simpa [intCells, gi, List.getD, hj] using hv.symm
  rw [hadd, hv2, ← hg j hj]
  exact hx.cell' (hr.cell (by omega))
theorem setRow_new (w : World) (cs ds : Array Value) (t : TypeId) : ((w.alloc (.cells cs t)).setRow w.heap.size ds).heap[w.heap.size]? = some (.cells ds t (0, 0)) := setRow_heap _ _ _ _ _ _ (World.alloc_heap_new w _)
theorem setRow_ext (w : World) (cs ds : Array Value) (t : TypeId) : Ext w ((w.alloc (.cells cs t)).setRow w.heap.size ds) :=
  ⟨rfl, rfl, rfl, by simp [World.setRow], fun k hk => (setRow_other _ _ _ _ (by omega)).trans (((Ext.rfl' w).alloc' (.cells cs t)).block k hk)⟩
/-- While no list has come again. -/
def PAt (w : World) (M : Mach) (N : Net) (B : Nat) (k : Nat) (W : World) : Prop :=
  Ext w W ∧ B ≤ W.heap.size ∧ W.rowIs (w.heap.size + 1 + 1) 3 1 (fun _ => .int .i64 0) ∧ W.rowIs (w.heap.size + 1 + 1 + 1) 3 1 (fun _ => .int .i64 0) ∧ W.rowIs (w.heap.size + 1 + 1 + 1 + 1) 4 1 (fun _ => .bool false) ∧
    (∀ j, j < k → ¬ Rep M N j) ∧ W.rowIs (w.heap.size + 1 + 1 + 1 + 1 + 1 + 1) 109 1 (fun _ => .map (some (w.heap.size + 1 + 1 + 1 + 1 + 1))) ∧ ∃ m, MapV W Try.prog 110 (w.heap.size + 1 + 1 + 1 + 1 + 1) k m (perF M N k)
theorem PAt.kc {w : World} {M : Mach} {N : Net} {k B : Nat} {W W' : World} (h : PAt w M N B k W) (hk : Kc B W W') (hB : w.heap.size + 6 ≤ B) : PAt w M N B k W' := by
  obtain ⟨h1, h2, h3, h4, h5, h6, h7, m, h8⟩ := h
  exact ⟨hk.ext h1 (by omega), Nat.le_trans h2 hk.size, hk.row h3, hk.row h4, hk.row h5, h6, hk.row h7, m, h8.block (hk.low _ (by omega))⟩
/-- Behind the return from a round. -/
def PIx (w : World) (M : Mach) (N : Net) (cd : Code) (k : Nat) (W : World) : Prop :=
  cd = .ret ∧ Ext w W ∧ (∀ j, j < k → ¬ Rep M N j) ∧ ∃ j, j < k ∧ runL M N j = runL M N k ∧
    W.rowIs (w.heap.size + 1 + 1) 3 1 (fun _ => .int .i64 (j : Int)) ∧ W.rowIs (w.heap.size + 1 + 1 + 1) 3 1 (fun _ => .int .i64 ((k : Int) - (j : Int))) ∧ W.rowIs (w.heap.size + 1 + 1 + 1 + 1) 4 1 (fun _ => .bool true)
theorem PIx.kc {w : World} {M : Mach} {N : Net} {cd : Code} {k B : Nat} {W W' : World} (h : PIx w M N cd k W) (hk : Kc B W W') (hB : w.heap.size ≤ B) : PIx w M N cd k W' := by
  obtain ⟨h1, h2, h3, j, a, b, r1, r2, r3⟩ := h
  exact ⟨h1, hk.ext h2 hB, h3, j, a, b, hk.row r1, hk.row r2, hk.row r3⟩

set_option maxHeartbeats 6400000 in
set_option maxRecDepth 100000 in
theorem implPeriodOf_any {w : World} {vm vn : Value} {M : Mach} {N : Net} (r : Int) (h : MachAt w vm M) (k : NetAt w vn N) :
    Calls Try.prog 59 #[vm, vn, .int .i64 r] w fun e w' => e = .returned (.tuple #[.int .i64 (poR M N r), .int .i64 (poQ M N r), .bool (dec (PerB M N r))]) ∧ Ext w w' := by
  have HM := Lib.hid h
  have HN := Lib.hid k
  obtain ⟨a3, c3, a4, c4, a5, c5, a6, c6, rfl⟩ := h.agg
  obtain ⟨v0, v1, v2, rfl⟩ := k.agg
  obtain ⟨W1, hW1⟩ : ∃ W1, W1 = (((((((w.alloc (.cells #[.int .i64 M.deg, .int .i64 M.sts, .int .i64 M.msgs, .slice a3 M.start.length c3, .slice a4 M.send.length c4, .slice a5 M.cls.length c5, .slice a6 M.out.length c6] 31)).alloc (.cells #[v0, v1, v2] 43)).alloc (.cells #[.int .i64 0] 3)).alloc (.cells #[.int .i64 0] 3)).alloc (.cells #[.bool false] 4)).alloc (.map #[] 0)).alloc (.cells #[.map (some (w.heap.size + 1 + 1 + 1 + 1 + 1))] 109)) := ⟨_, rfl⟩
  have EW := Lib.hid (show Ext w W1 by rw [hW1]; exact (((((((Ext.rfl' w).alloc' _).alloc' _).alloc' _).alloc' _).alloc' _).alloc' _).alloc' _)
  have ZW := Lib.hid (show W1.heap.size = w.heap.size + 7 by rw [hW1]; simp)
  have E2 := Lib.hid (show W1.rowIs (w.heap.size + 1 + 1) 3 1 (fun _ => .int .i64 0) by
    rw [hW1]
    have := ((((row1_made ((w.alloc (.cells #[.int .i64 M.deg, .int .i64 M.sts, .int .i64 M.msgs, .slice a3 M.start.length c3, .slice a4 M.send.length c4, .slice a5 M.cls.length c5, .slice a6 M.out.length c6] 31)).alloc (.cells #[v0, v1, v2] 43)) (.int .i64 0) 3).alloc (.cells #[.int .i64 0] 3)).alloc (.cells #[.bool false] 4)).alloc (.map #[] 0)).alloc (.cells #[.map (some (w.heap.size + 1 + 1 + 1 + 1 + 1))] 109)
    simp only [World.size_alloc] at this
    exact this)
  have E3 := Lib.hid (show W1.rowIs (w.heap.size + 1 + 1 + 1) 3 1 (fun _ => .int .i64 0) by
    rw [hW1]
    have := (((row1_made (((w.alloc (.cells #[.int .i64 M.deg, .int .i64 M.sts, .int .i64 M.msgs, .slice a3 M.start.length c3, .slice a4 M.send.length c4, .slice a5 M.cls.length c5, .slice a6 M.out.length c6] 31)).alloc (.cells #[v0, v1, v2] 43)).alloc (.cells #[.int .i64 0] 3)) (.int .i64 0) 3).alloc (.cells #[.bool false] 4)).alloc (.map #[] 0)).alloc (.cells #[.map (some (w.heap.size + 1 + 1 + 1 + 1 + 1))] 109)
    simp only [World.size_alloc] at this
    exact this)
  have E4 := Lib.hid (show W1.rowIs (w.heap.size + 1 + 1 + 1 + 1) 4 1 (fun _ => .bool false) by
    rw [hW1]
    have := ((row1_made ((((w.alloc (.cells #[.int .i64 M.deg, .int .i64 M.sts, .int .i64 M.msgs, .slice a3 M.start.length c3, .slice a4 M.send.length c4, .slice a5 M.cls.length c5, .slice a6 M.out.length c6] 31)).alloc (.cells #[v0, v1, v2] 43)).alloc (.cells #[.int .i64 0] 3)).alloc (.cells #[.int .i64 0] 3)) (.bool false) 4).alloc (.map #[] 0)).alloc (.cells #[.map (some (w.heap.size + 1 + 1 + 1 + 1 + 1))] 109)
    simp only [World.size_alloc] at this
    exact this)
  have EM := Lib.hid (show MapV W1 Try.prog 110 (w.heap.size + 1 + 1 + 1 + 1 + 1) 0 0 (perF M N 0) by
    rw [hW1]
    have := (MapV.made (((((w.alloc (.cells #[.int .i64 M.deg, .int .i64 M.sts, .int .i64 M.msgs, .slice a3 M.start.length c3, .slice a4 M.send.length c4, .slice a5 M.cls.length c5, .slice a6 M.out.length c6] 31)).alloc (.cells #[v0, v1, v2] 43)).alloc (.cells #[.int .i64 0] 3)).alloc (.cells #[.int .i64 0] 3)).alloc (.cells #[.bool false] 4)) Try.prog 110)
    simp only [World.size_alloc] at this
    exact this.block (Below.heap_alloc _ _ _ (by simp)))
  have EB := Lib.hid (show W1.rowIs (w.heap.size + 1 + 1 + 1 + 1 + 1 + 1) 109 1 (fun _ => .map (some (w.heap.size + 1 + 1 + 1 + 1 + 1))) by
    rw [hW1]
    have := row1_made ((((((w.alloc (.cells #[.int .i64 M.deg, .int .i64 M.sts, .int .i64 M.msgs, .slice a3 M.start.length c3, .slice a4 M.send.length c4, .slice a5 M.cls.length c5, .slice a6 M.out.length c6] 31)).alloc (.cells #[v0, v1, v2] 43)).alloc (.cells #[.int .i64 0] 3)).alloc (.cells #[.int .i64 0] 3)).alloc (.cells #[.bool false] 4)).alloc (.map #[] 0)) (.map (some (w.heap.size + 1 + 1 + 1 + 1 + 1))) 109
    simp only [World.size_alloc] at this
    exact this)
  have RA := Lib.hid (show W1.rowIs w.heap.size 31 7 (sept (.int .i64 M.deg) (.int .i64 M.sts) (.int .i64 M.msgs) (.slice a3 M.start.length c3) (.slice a4 M.send.length c4) (.slice a5 M.cls.length c5) (.slice a6 M.out.length c6)) by rw [hW1]; exact ((((((row7_made _ _ _ _ _ _ _ _ _).alloc _).alloc _).alloc _).alloc _).alloc _).alloc _)
  have RB := Lib.hid (show W1.rowIs (w.heap.size + 1) 43 3 (tri v0 v1 v2) by
    rw [hW1]
    have := (((((row3_made (w.alloc (.cells #[.int .i64 M.deg, .int .i64 M.sts, .int .i64 M.msgs, .slice a3 M.start.length c3, .slice a4 M.send.length c4, .slice a5 M.cls.length c5, .slice a6 M.out.length c6] 31)) v0 v1 v2 43).alloc (.cells #[.int .i64 0] 3)).alloc (.cells #[.int .i64 0] 3)).alloc (.cells #[.bool false] 4)).alloc (.map #[] 0)).alloc (.cells #[.map (some (w.heap.size + 1 + 1 + 1 + 1 + 1))] 109)
    rw [World.size_alloc] at this
    exact this)
  obtain ⟨p0, p1, p2, p3, p4, p5, p6⟩ := row7_facts RA.out
  obtain ⟨q0, q1, q2, -, -, -⟩ := row3_facts RB.out
  rw [hW1] at p0 p1 p2 p3 p4 p5 p6 q0 q1 q2
  clear h k
  refine (callsIn_wide (n := 5)).1 ?_
  refine callsIn_of_wp_marks Try.func59 rfl trivial ?_ rfl
  simp only [Try.ntmps59, List.size_toArray, List.length_cons, List.length_nil, Nat.reduceAdd, Nat.reduceSub, Array.replicate_succ, Array.replicate_zero, List.push_toArray, List.append_toArray, List.nil_append, List.cons_append]
  gi_wp2_with (refine wpListIn_makeMapV rfl 109 rfl ?_)
  refine ⟨trivial, ?_⟩
  rw [← hW1]
  clear hW1 p0 p1 p2 p3 p4 p5 p6 q0 q1 q2
  (with_reducible refine (callsIn_wide.2 runOf_any).mono ?_)
  rintro e w2 ⟨rfl, hx, hz, hc⟩
  have X2 := Lib.hid hx
  have C2 := Lib.hid hc
  have Z2 := Lib.hid (show w2.heap.size = w.heap.size + 10 by have := ZW.out; omega)
  have W2 := Lib.hid (EW.out.trans' hx)
  clear hx hz hc
  gi_wp2_with fail
  refine' rangeRunF (n := 5) (gf := 148) (X := [w.heap.size + 1 + 1 + 1 + 1 + 1]) (c := cntR M N r) (Rd := RdR M N) (by omega) rfl enters_run
    (runOf_stops (n := 5 - 1) (by omega) HM.out HN.out W2.out C2.out (by have := Z2.out; omega) (Nat.le_refl _) (by intro b hb; simp at hb; omega) (by have := Z2.out; have := ZW.out; refine ⟨by omega, by simp; omega⟩) (by have := Z2.out; have := ZW.out; refine ⟨by omega, by simp; omega⟩) (by have := Z2.out; have := ZW.out; refine ⟨by omega, by simp; omega⟩))
    (PAt w M N w2.heap.size) (PIx w M N) (fun k W W' hi hk => hi.kc hk (by have := Z2.out; omega)) (fun _ _ _ _ hs hk => hs.kc hk (by have := Z2.out; omega)) (fun k v W0 W W' hr hk => hr.kc hk)
    ⟨W2.out, Nat.le_refl _, row_ext E2.out X2.out, row_ext E3.out X2.out, row_ext E4.out X2.out, fun j hj => absurd hj (by omega), row_ext EB.out X2.out, 0, EM.out.block (X2.out.block _ (by have := ZW.out; omega))⟩
    _ ?assign ?body ?done ?stop
  case assign =>
    intro l k v W K hK
    gi_wp2
    exact hK
  case body =>
    rintro l k v W0 W hk hi0 hkc hr
    obtain ⟨a, q, bs, rfl, ho, hge⟩ := hr
    have hlo : LongOK M N r ∧ k ≤ r.toNat := by
      by_cases hl : LongOK M N r
      · rw [cntR_t hl] at hk; exact ⟨hl, by omega⟩
      · rw [cntR_f hl] at hk; omega
    have hd2 : w.heap.size + 10 ≤ w2.heap.size := by have := Z2.out; omega
    have hk2000 : k ≤ 2000 := by have := hlo.1.2; unfold InB at this; omega
    obtain ⟨hx, hwb, r2, r3, r4, hno, rb, mm, hmv⟩ := PAt.kc (B := w2.heap.size) hi0 hkc (by omega)
    have hn40 : (runL M N k).length ≤ 40 := by rw [length_runL]; exact hlo.1.1.2.1.1.2
    have hn1 : 0 < N.ends.length := hlo.1.1.2.1.1.1
    obtain ⟨W3, hW3⟩ : ∃ W3, W3 = (W.alloc (.cells zero40 110)).setRow W.heap.size ((padL (runL M N k)).map (Value.int .i64)).toArray := ⟨_, rfl⟩
    have X3 := Lib.hid (show Ext W W3 by rw [hW3]; exact setRow_ext _ _ _ _)
    have hrow : W3.heap[W.heap.size]? = some (.cells ((padL (runL M N k)).map (Value.int .i64)).toArray 110 (0, 0)) := by rw [hW3]; exact setRow_new _ _ _ _
    have hz0 := World.alloc_heap_new W (.cells zero40 110)
    have hM3 := hmv.block (X3.out.block _ hmv.lt)
    have hkey := keyOf40 hn40 (run_r hlo.1.1 k)
    have HX := Lib.hid hx
    have HWB := Lib.hid hwb
    have G2 := Lib.hid (row_ext r2 X3.out)
    have G3 := Lib.hid (row_ext r3 X3.out)
    have G4 := Lib.hid (row_ext r4 X3.out)
    have HNO := Lib.hid hno
    have RBX := Lib.hid (row_ext rb X3.out)
    have HL := Lib.hid hlo
    obtain ⟨sb, sc, sg, -, hsv, hsc, -, hsr, hsf⟩ := OwnI.parts ho (by rw [length_runL]; exact hn1)
    simp only [Value.slice.injEq] at hsv
    obtain ⟨rfl, -, rfl⟩ := hsv
    have hsrc : ∀ j v, (intCells (runL M N k))[j]? = some v → (W.alloc (.cells zero40 110)).cell? ((⟨sb, 0, none⟩ : Addr).add j) = some v := own_src hsr hsc hsf ((Ext.rfl' W).alloc' _)
    have rb0 := row1_cell RBX.out
    have t2 := row1_cell G2.out
    have f2 := G2.out.frozen 0
    have t3 := row1_cell G3.out
    have f3 := G3.out.frozen 0
    have t4 := row1_cell G4.out
    have f4 := G4.out.frozen 0
    have hcl : (intCells (runL M N k)).length = Nat.min N.ends.length 40 := by
      have : (intCells (runL M N k)).length = N.ends.length := by simp [intCells, length_runL]
      rw [this]
      have := hn40
      rw [length_runL] at this
      exact (Nat.min_eq_left this).symm
    have hfit : 0 + (intCells (runL M N k)).length ≤ zero40.size := by
      have : zero40.size = 40 := rfl
      have h2 : (intCells (runL M N k)).length = (runL M N k).length := by simp [intCells]
      omega
    have hsz40 : (Try.prog.info? 110).map (·.size) = some ((padL (runL M N k)).map (Value.int .i64)).toArray.size := by rw [size_t40]; simp [padL_len hn40]
    have hpf := perF_at HL.out.1.1 k k
    clear hx hwb r2 r3 r4 hno rb hi0 hkc hge hlo hmv ho hsr hsf
    rcases hpf with ⟨hf, hnr⟩ | ⟨j, hj, hje, hf⟩
    · have HNR := Lib.hid (show ¬ Rep M N k from fun ⟨j, h1, h2⟩ => hnr j h1 h2)
      clear hnr
      gi_wp2_with (first | (refine wpListIn_allocA rfl 110 rfl zero40 (zero_t40 _) ?_) | (refine wpListIn_copySplice rfl (.tmp 22) (.tmp 23) 24 24 rfl 3 Try.underlying24 size_ti W.heap.size 40 40 N.ends.length q ⟨sb, 0, none⟩ rfl rfl zero40 110 hz0 (intCells (runL M N k)) hcl hsrc hfit (by intro u hu; obtain ⟨x, -, rfl⟩ := List.mem_map.1 hu; rfl) ?_; rw [splice_key, ← hW3]; clear hW3 hz0) | (refine wpListIn_loadRow rfl 110 (.tmp 12) rfl W.heap.size rfl 110 _ (0, 0) _ hrow Try.underlying110 rfl hsz40 ?_) | (refine wpListIn_lookV_ok rfl (.tmp 26) (.tmp 27) rfl hM3 key40 Try.underlying109 (zero_ti _) rfl rfl hkey (.int .i64 0) false (by rw [hf]; rfl) (by rw [hf]; rfl) ?_) | (refine wpListIn_putV rfl (.tmp 36) (.tmp 37) (.tmp 38) rfl hM3 key40 Try.underlying109 (by unfold maxLen; omega) rfl rfl rfl hkey ?_; intro w5 hm5 hg5))
      have HG5 := Lib.hid hg5
      have HM5 := Lib.hid hm5
      clear hg5 hm5
      have KA := Lib.hid (KpT.of_ext (B := w2.heap.size) (X := [w.heap.size + 1 + 1 + 1 + 1 + 1]) X3.out HWB.out)
      have KB := Lib.hid (KA.out.trans' (KpT.of_turn HG5.out (by omega) (by simp) (Nat.le_trans HWB.out X3.out.size)))
      refine ⟨(KeepsF.of _ (KeepsOthers.of_ext X3.out)).trans (KeepsF.grown HG5.out (by omega)), KB.out, KB.out.ext HX.out (by omega) (by intro b hb; simp at hb; omega), Nat.le_trans HWB.out KB.out.size, G2.out.of_block (HG5.out.block _ G2.out.lt fun e => by simp only [Option.some.injEq] at e; omega), G3.out.of_block (HG5.out.block _ G3.out.lt fun e => by simp only [Option.some.injEq] at e; omega), G4.out.of_block (HG5.out.block _ G4.out.lt fun e => by simp only [Option.some.injEq] at e; omega), fun j hj => ?_, RBX.out.of_block (HG5.out.block _ RBX.out.lt fun e => by simp only [Option.some.injEq] at e; omega), _, HM5.out⟩
      by_cases e : j = k
      · subst e; exact HNR.out
      · exact HNO.out j (by omega)
    · have HJE := Lib.hid hje
      have hwr : IntKind.i64.wrap ((k : Int) - (j : Int)) = (k : Int) - (j : Int) := IntWalk.i64_in _ (by omega)
      clear hje
      gi_wp2_with (first | (refine wpListIn_allocA rfl 110 rfl zero40 (zero_t40 _) ?_) | (refine wpListIn_copySplice rfl (.tmp 22) (.tmp 23) 24 24 rfl 3 Try.underlying24 size_ti W.heap.size 40 40 N.ends.length q ⟨sb, 0, none⟩ rfl rfl zero40 110 hz0 (intCells (runL M N k)) hcl hsrc hfit (by intro u hu; obtain ⟨x, -, rfl⟩ := List.mem_map.1 hu; rfl) ?_; rw [splice_key, ← hW3]; clear hW3 hz0) | (refine wpListIn_loadRow rfl 110 (.tmp 12) rfl W.heap.size rfl 110 _ (0, 0) _ hrow Try.underlying110 rfl hsz40 ?_) | (refine wpListIn_lookV_ok rfl (.tmp 26) (.tmp 27) rfl hM3 key40 Try.underlying109 (zero_ti _) rfl rfl hkey (.int .i64 (j : Int)) true (by rw [hf]; rfl) (by rw [hf]; rfl) ?_) | (refine wpListIn_putV rfl (.tmp 36) (.tmp 37) (.tmp 38) rfl hM3 key40 Try.underlying109 (by unfold maxLen; omega) rfl rfl rfl hkey ?_; intro w5 hm5 hg5))
      have TS := Lib.hid (three_set (x' := .int .i64 (j : Int)) (y' := .int .i64 ((k : Int) - (j : Int))) (z' := .bool true) G2.out G3.out G4.out (by omega) (by omega) (by omega))
      exact ⟨KeepsF.of _ ((((KeepsOthers.of_ext X3.out).trans (KeepsOthers.setCell _ _ _)).trans (KeepsOthers.setCell _ _ _)).trans (KeepsOthers.setCell _ _ _)), rfl, ((((HX.out.trans' X3.out).store (by show w.heap.size ≤ w.heap.size + 1 + 1; omega) _).store (by show w.heap.size ≤ w.heap.size + 1 + 1 + 1; omega) _).store (by show w.heap.size ≤ w.heap.size + 1 + 1 + 1 + 1; omega) _), HNO.out, j, hj, HJE.out, TS.out.1, TS.out.2.1, TS.out.2.2⟩
  case done =>
    rintro D W hD hi hK
    have hd2 : w.heap.size + 10 ≤ w2.heap.size := by have := Z2.out; omega
    obtain ⟨hx, hwb, r2, r3, r4, hno, -⟩ := hi
    have DA := Lib.hid (show ¬ PerB M N r from fun hb => per_none (fun j hj => hno j (by rw [cntR_t hb.1]; omega)) hb)
    have HX := Lib.hid hx
    have TS := Lib.hid (three_set (x' := .int .i64 0) (y' := .int .i64 0) (z' := .bool false) r2 r3 r4 (by omega) (by omega) (by omega))
    have t2 := row1_cell r2
    have f2 := r2.frozen 0
    have t3 := row1_cell r3
    have f3 := r3.frozen 0
    have t4 := row1_cell r4
    have f4 := r4.frozen 0
    clear hx hwb r2 r3 r4 hno
    gi_wp2
    have hK' : (((W.setCell ⟨w.heap.size + 1 + 1, 0, none⟩ (.int .i64 0)).setCell ⟨w.heap.size + 1 + 1 + 1, 0, none⟩ (.int .i64 0)).setCell ⟨w.heap.size + 1 + 1 + 1 + 1, 0, none⟩ (.bool false)).heap[D]? = some (.deferred (some [])) :=
      (Below.heap_setCell _ _ _ _ (by show D ≠ w.heap.size + 1 + 1 + 1 + 1; omega)).trans ((Below.heap_setCell _ _ _ _ (by show D ≠ w.heap.size + 1 + 1 + 1; omega)).trans ((Below.heap_setCell _ _ _ _ (by show D ≠ w.heap.size + 1 + 1; omega)).trans hK))
    have KK := Lib.hid (Kc.put (B := w2.heap.size) (o' := .deferred none) hD hK' rfl)
    refine ⟨by simp, .inl ⟨_, _, rfl, run_takeDeferred hK', ?_⟩⟩
    exact ⟨_, results_cell3 rfl _ _ rfl rfl rfl (run_loadVar1 _ Try.underlying3 rfl (row1_cell (KK.out.row TS.out.1))) (run_loadVar1 _ Try.underlying3 rfl (row1_cell (KK.out.row TS.out.2.1))) (run_loadVar1 _ Try.underlying4 rfl (row1_cell (KK.out.row TS.out.2.2))), ret_iib (po_f DA.out).1.symm (po_f DA.out).2.symm (dec_false DA.out).symm, KK.out.ext (((HX.out.store (by show w.heap.size ≤ w.heap.size + 1 + 1; omega) _).store (by show w.heap.size ≤ w.heap.size + 1 + 1 + 1; omega) _).store (by show w.heap.size ≤ w.heap.size + 1 + 1 + 1 + 1; omega) _) (by omega)⟩
  case stop =>
    rintro D cd k W hD hk hh hK
    have hd2 : w.heap.size + 10 ≤ w2.heap.size := by have := Z2.out; omega
    obtain ⟨rfl, hx, hno, j, hj, he, r2, r3, r4⟩ := hh
    have hlo : LongOK M N r ∧ k ≤ r.toNat := by
      by_cases hl : LongOK M N r
      · rw [cntR_t hl] at hk; exact ⟨hl, by omega⟩
      · rw [cntR_f hl] at hk; omega
    have FH := Lib.hid (per_hit hlo.1 hlo.2 hno hj he)
    have KK := Lib.hid (Kc.put (B := w2.heap.size) (o' := .deferred none) hD hK rfl)
    gi_wp2
    refine ⟨by simp, .inl ⟨_, _, rfl, run_takeDeferred hK, ?_⟩⟩
    exact ⟨_, results_cell3 rfl _ _ rfl rfl rfl (run_loadVar1 _ Try.underlying3 rfl (row1_cell (KK.out.row r2))) (run_loadVar1 _ Try.underlying3 rfl (row1_cell (KK.out.row r3))) (run_loadVar1 _ Try.underlying4 rfl (row1_cell (KK.out.row r4))), ret_iib FH.out.2.1.symm FH.out.2.2.symm (dec_true FH.out.1).symm, KK.out.ext hx (by omega)⟩
end Go.Proofs.Ytdcgpodjoalokaa
