/- Halting: the program's search. -/
import Derived.Test.YtdcgpodjoalokaaMha
namespace Go.Proofs.Ytdcgpodjoalokaa
open Go.RowKit Go.Shelf
attribute [local go_sem] Oper.semAt_some

theorem run_loadVar1 {P : Program} (w : World) {t : TypeId} {d : TypeDesc} (hu : P.underlying t = some d) (hd : (match d with | .struct _ | .array _ _ => true | _ => false) = false) {a : Addr} {v : Value} (hc : w.cell? a = some v) : (loadVar t a).run P w = .ok v w := by
  cases d <;> first | (cases hd; done) | simp [loadVar, isAgg, run_underlying hu, hc]
theorem results_cell3 {fn : Func} {p q r : Tmp} {t1 t2 t3 : TypeId} {P : Program} (h : fn.results = #[.cell p t1, .cell q t2, .cell r t3]) (tmps : Array Value) (w : World) {a1 a2 a3 : Addr} {v1 v2 v3 : Value}
    (hp : tmps.getD p undef = .pointer (some a1)) (hq : tmps.getD q undef = .pointer (some a2)) (hr : tmps.getD r undef = .pointer (some a3))
    (l1 : (loadVar t1 a1).run P w = .ok v1 w) (l2 : (loadVar t2 a2).run P w = .ok v2 w) (l3 : (loadVar t3 a3).run P w = .ok v3 w) : (results fn tmps).run P w = .ok (.tuple #[v1, v2, v3]) w := by
  have hp' : tmps[p]?.getD undef = .pointer (some a1) := by simpa using hp
  have hq' : tmps[q]?.getD undef = .pointer (some a2) := by simpa using hq
  have hr' : tmps[r]?.getD undef = .pointer (some a3) := by simpa using hr
  simp [results, h, asAddr, hp', hq', hr', l1, l2, l3]
theorem KeepsOthers.of_ext {W W' : World} (h : Ext W W') : KeepsOthers W W' := ⟨h.size, fun k _ hk _ => (h.block k (Array.getElem?_eq_some_iff.1 hk).1).trans hk⟩

/-- While no list has halted: the boxes of the results, unwritten. -/
def HAt (w : World) (M : Mach) (N : Net) (B : Nat) (g : Nat → Value) (k : Nat) (W : World) : Prop :=
  Ext w W ∧ B ≤ W.heap.size ∧ W.rowIs (w.heap.size + 1 + 1) 3 1 (fun _ => .int .i64 0) ∧ W.rowIs (w.heap.size + 1 + 1 + 1) 24 1 (fun _ => .slice none 0 0) ∧ W.rowIs (w.heap.size + 1 + 1 + 1 + 1) 4 1 (fun _ => .bool false) ∧ (∀ j, j < k → ¬ Halt M (runL M N j)) ∧ W.rowIs w.heap.size 31 7 g
theorem HAt.kc {g : Nat → Value} {w : World} {M : Mach} {N : Net} {k B : Nat} {W W' : World} (h : HAt w M N B g k W) (hk : Kc B W W') (hB : w.heap.size ≤ B) : HAt w M N B g k W' :=
  ⟨hk.ext h.1 hB, Nat.le_trans h.2.1 hk.size, hk.row h.2.2.1, hk.row h.2.2.2.1, hk.row h.2.2.2.2.1, h.2.2.2.2.2.1, hk.row h.2.2.2.2.2.2⟩
/-- Behind the return from a round. -/
def HIx (w : World) (M : Mach) (N : Net) (cd : Code) (k : Nat) (W : World) : Prop :=
  cd = .ret ∧ Ext w W ∧ (∀ j, j < k → ¬ Halt M (runL M N j)) ∧ Halt M (runL M N k) ∧
    ∃ v bs, W.rowIs (w.heap.size + 1 + 1) 3 1 (fun _ => .int .i64 (k : Int)) ∧ W.rowIs (w.heap.size + 1 + 1 + 1) 24 1 (fun _ => v) ∧ W.rowIs (w.heap.size + 1 + 1 + 1 + 1) 4 1 (fun _ => .bool true) ∧ OwnI W v (thr M.out (runL M N k)) bs ∧ Fresh w bs
theorem HIx.kc {w : World} {M : Mach} {N : Net} {cd : Code} {k B : Nat} {W W' : World} (h : HIx w M N cd k W) (hk : Kc B W W') (hB : w.heap.size ≤ B) : HIx w M N cd k W' := by
  obtain ⟨h1, h2, h3, h4, v, bs, r1, r2, r3, ho, hf⟩ := h
  exact ⟨h1, hk.ext h2 hB, h3, h4, v, bs, hk.row r1, hk.row r2, hk.row r3, hk.keepI ho, hf⟩
theorem row3_set {w : World} {b c t : Nat} {x y : Value} (h : w.rowIs b t 1 (fun _ => x)) (hne : b ≠ c) : (w.setCell ⟨c, 0, none⟩ y).rowIs b t 1 (fun _ => x) := h.setOther hne _

set_option maxHeartbeats 6400000 in
set_option maxRecDepth 100000 in
theorem haltOf_any {w : World} {vm vn : Value} {M : Mach} {N : Net} (r : Int) (h : MachAt w vm M) (k : NetAt w vn N) :
    Calls Try.prog 104 #[vm, vn, .int .i64 r] w fun e w' => ∃ v' bs, e = .returned (.tuple #[.int .i64 (hrAns M N r), v', .bool (dec (HaltB M N r))]) ∧ Ext w w' ∧ OwnI w' v' (ooAns M N r) bs ∧ Fresh w bs := by
  have HM := Lib.hid h
  have HN := Lib.hid k
  obtain ⟨a3, c3, a4, c4, a5, c5, a6, c6, rfl⟩ := h.agg
  obtain ⟨v0, v1, v2, rfl⟩ := k.agg
  obtain ⟨W1, hW1⟩ : ∃ W1, W1 = (((((w.alloc (.cells #[.int .i64 M.deg, .int .i64 M.sts, .int .i64 M.msgs, .slice a3 M.start.length c3, .slice a4 M.send.length c4, .slice a5 M.cls.length c5, .slice a6 M.out.length c6] 31)).alloc (.cells #[v0, v1, v2] 43)).alloc (.cells #[.int .i64 0] 3)).alloc (.cells #[.slice none 0 0] 24)).alloc (.cells #[.bool false] 4)) := ⟨_, rfl⟩
  have EW := Lib.hid (show Ext w W1 by rw [hW1]; exact (((((Ext.rfl' w).alloc' _).alloc' _).alloc' _).alloc' _).alloc' _)
  have ZW := Lib.hid (show W1.heap.size = w.heap.size + 5 by rw [hW1]; simp)
  have R2 := Lib.hid (show W1.rowIs (w.heap.size + 1 + 1) 3 1 (fun _ => .int .i64 0) by
    rw [hW1]
    have := ((row1_made ((w.alloc (.cells #[.int .i64 M.deg, .int .i64 M.sts, .int .i64 M.msgs, .slice a3 M.start.length c3, .slice a4 M.send.length c4, .slice a5 M.cls.length c5, .slice a6 M.out.length c6] 31)).alloc (.cells #[v0, v1, v2] 43)) (.int .i64 0) 3).alloc (.cells #[.slice none 0 0] 24)).alloc (.cells #[.bool false] 4)
    simp only [World.size_alloc] at this
    exact this)
  have R3 := Lib.hid (show W1.rowIs (w.heap.size + 1 + 1 + 1) 24 1 (fun _ => .slice none 0 0) by
    rw [hW1]
    have := (row1_made (((w.alloc (.cells #[.int .i64 M.deg, .int .i64 M.sts, .int .i64 M.msgs, .slice a3 M.start.length c3, .slice a4 M.send.length c4, .slice a5 M.cls.length c5, .slice a6 M.out.length c6] 31)).alloc (.cells #[v0, v1, v2] 43)).alloc (.cells #[.int .i64 0] 3)) (.slice none 0 0) 24).alloc (.cells #[.bool false] 4)
    simp only [World.size_alloc] at this
    exact this)
  have R4 := Lib.hid (show W1.rowIs (w.heap.size + 1 + 1 + 1 + 1) 4 1 (fun _ => .bool false) by
    rw [hW1]
    have := row1_made ((((w.alloc (.cells #[.int .i64 M.deg, .int .i64 M.sts, .int .i64 M.msgs, .slice a3 M.start.length c3, .slice a4 M.send.length c4, .slice a5 M.cls.length c5, .slice a6 M.out.length c6] 31)).alloc (.cells #[v0, v1, v2] 43)).alloc (.cells #[.int .i64 0] 3)).alloc (.cells #[.slice none 0 0] 24)) (.bool false) 4
    simp only [World.size_alloc] at this
    exact this)
  have RA := Lib.hid (show W1.rowIs w.heap.size 31 7 (sept (.int .i64 M.deg) (.int .i64 M.sts) (.int .i64 M.msgs) (.slice a3 M.start.length c3) (.slice a4 M.send.length c4) (.slice a5 M.cls.length c5) (.slice a6 M.out.length c6)) by rw [hW1]; exact ((((row7_made _ _ _ _ _ _ _ _ _).alloc _).alloc _).alloc _).alloc _)
  have RB := Lib.hid (show W1.rowIs (w.heap.size + 1) 43 3 (tri v0 v1 v2) by
    rw [hW1]
    have := (((row3_made (w.alloc (.cells #[.int .i64 M.deg, .int .i64 M.sts, .int .i64 M.msgs, .slice a3 M.start.length c3, .slice a4 M.send.length c4, .slice a5 M.cls.length c5, .slice a6 M.out.length c6] 31)) v0 v1 v2 43).alloc (.cells #[.int .i64 0] 3)).alloc (.cells #[.slice none 0 0] 24)).alloc (.cells #[.bool false] 4)
    rw [World.size_alloc] at this
    exact this)
  obtain ⟨p0, p1, p2, p3, p4, p5, p6⟩ := row7_facts RA.out
  obtain ⟨q0, q1, q2, -, -, -⟩ := row3_facts RB.out
  rw [hW1] at p0 p1 p2 p3 p4 p5 p6 q0 q1 q2
  clear h k
  refine (callsIn_wide (n := 5)).1 ?_
  refine callsIn_of_wp_marks Try.func104 rfl trivial ?_ rfl
  simp only [Try.ntmps104, List.size_toArray, List.length_cons, List.length_nil, Nat.reduceAdd, Nat.reduceSub, Array.replicate_succ, Array.replicate_zero, List.push_toArray, List.append_toArray, List.nil_append, List.cons_append]
  gi_wp2_with fail
  refine ⟨trivial, ?_⟩
  rw [← hW1]
  clear hW1 p0 p1 p2 p3 p4 p5 p6 q0 q1 q2
  (with_reducible refine (callsIn_wide.2 runOf_any).mono ?_)
  rintro e w2 ⟨rfl, hx, hz, hc⟩
  have X2 := Lib.hid hx
  have C2 := Lib.hid hc
  have Z2 := Lib.hid (show w2.heap.size = w.heap.size + 8 by have := ZW.out; omega)
  have W2 := Lib.hid (EW.out.trans' hx)
  clear hx hz hc
  gi_wp2_with fail
  refine rangeRun (n := 5) (gf := 148) (X := []) (c := cntR M N r) (Rd := RdR M N) (by omega) rfl enters_run
    (runOf_stops (n := 5 - 1) (by omega) HM.out HN.out W2.out C2.out (by have := Z2.out; omega) (Nat.le_refl _) (by intro b hb; simp at hb) (by have := Z2.out; have := ZW.out; refine ⟨by omega, by simp⟩) (by have := Z2.out; have := ZW.out; refine ⟨by omega, by simp⟩) (by have := Z2.out; have := ZW.out; refine ⟨by omega, by simp⟩))
    (HAt w M N w2.heap.size (sept (.int .i64 M.deg) (.int .i64 M.sts) (.int .i64 M.msgs) (.slice a3 M.start.length c3) (.slice a4 M.send.length c4) (.slice a5 M.cls.length c5) (.slice a6 M.out.length c6))) (HIx w M N) (fun k W W' hi hk => hi.kc hk (by have := Z2.out; omega)) (fun _ _ _ _ hs hk => hs.kc hk (by have := Z2.out; omega)) (fun k v W0 W W' hr hk => hr.kc hk)
    ⟨W2.out, Nat.le_refl _, row_ext R2.out X2.out, row_ext R3.out X2.out, row_ext R4.out X2.out, fun j hj => absurd hj (by omega), row_ext RA.out X2.out⟩
    (fun k v => { tmps := #[.agg #[.int .i64 M.deg, .int .i64 M.sts, .int .i64 M.msgs, .slice a3 M.start.length c3, .slice a4 M.send.length c4, .slice a5 M.cls.length c5, .slice a6 M.out.length c6], .agg #[v0, v1, v2], .int .i64 r, .pointer (some ⟨w.heap.size, 0, none⟩), .pointer (some ⟨w.heap.size + 1, 0, none⟩), undef, .pointer (some ⟨w.heap.size + 1 + 1, 0, none⟩), .pointer (some ⟨w.heap.size + 1 + 1 + 1, 0, none⟩), .pointer (some ⟨w.heap.size + 1 + 1 + 1 + 1, 0, none⟩), .int .i64 (k : Int), v, undef,
      .agg #[.int .i64 M.deg, .int .i64 M.sts, .int .i64 M.msgs, .slice a3 M.start.length c3, .slice a4 M.send.length c4, .slice a5 M.cls.length c5, .slice a6 M.out.length c6], .agg #[v0, v1, v2], .int .i64 r, .func (.func 148) #[] #[.pointer (some ⟨W1.heap.size, 0, none⟩), .pointer (some ⟨W1.heap.size + 1, 0, none⟩), .pointer (some ⟨W1.heap.size + 1 + 1, 0, none⟩)], .int .i64 (k : Int), v, undef, undef, undef, undef, undef, undef, undef, undef], defers := [] }) ?assign ?body ?done ?stop
  case assign =>
    intro l k v W K hK
    gi_wp2
    exact hK
  case body =>
    rintro l k v W0 W hk hi0 hkc hr
    obtain ⟨a, q, bs, rfl, ho, hge⟩ := hr
    have hlo : LongOK M N r ∧ k ≤ r.toNat := by
      by_cases hl : LongOK M N r
      · rw [cntR_t hl] at hk; exact ⟨hl, by omega⟩
      · rw [cntR_f hl] at hk; omega
    obtain ⟨hx, hwb, r2, r3, r4, hno, rm⟩ := HAt.kc (B := w2.heap.size) hi0 hkc (by have := Z2.out; omega)
    have HX := Lib.hid hx
    have E2 := Lib.hid r2
    have E3 := Lib.hid r3
    have E4 := Lib.hid r4
    have HO := Lib.hid ho
    have HNO := Lib.hid hno
    have HL := Lib.hid hlo
    have HS := Lib.hid (run_sts hlo.1.1 k)
    have HWB := Lib.hid hwb
    have RM := Lib.hid rm
    obtain ⟨p0, p1, p2, p3, p4, p5, p6⟩ := row7_facts rm
    clear hx hwb r2 r3 r4 rm ho hno hlo hi0 hkc hge
    gi_wp2_with fail
    refine ⟨trivial, ?_⟩
    (with_reducible refine (CallsIn.inRound _ (callsIn_wide.2 (outputsOf_any (HM.out.ext HX.out) HO.out.read HS.out))).mono ?_)
    rintro e w3 ⟨v', bs3, rfl, hx, ho, hf⟩
    have X3 := Lib.hid hx
    have O3 := Lib.hid ho
    have F3 := Lib.hid hf
    have D3 := Lib.hid (halt_has HS.out)
    clear hx ho hf p0 p1 p2 p3 p4 p5 p6
    by_cases hh : Halt M (runL M N k)
    · have D := Lib.hid (dec_false (fun h => (D3.out.1 h) hh))
      have HH := Lib.hid hh
      clear hh
      have t2 := (row_ext E2.out X3.out).cell (i := 0) (by omega)
      have f2 := (row_ext E2.out X3.out).frozen 0
      have t3 := (row_ext E3.out X3.out).cell (i := 0) (by omega)
      have f3 := (row_ext E3.out X3.out).frozen 0
      have t4 := (row_ext E4.out X3.out).cell (i := 0) (by omega)
      have f4 := (row_ext E4.out X3.out).frozen 0
      obtain ⟨va, vq, rfl⟩ := O3.out.read.isSlice
      gi_wp2_with (refine ⟨trivial, ?_⟩; gi_at_call 110; (with_reducible refine (CallsIn.inRound _ (callsIn_wide.2 (contains_any _ O3.out.read))).mono ?_); rintro e w' ⟨rfl, rfl⟩; rw [D.out])
      have hD2 := Z2.out
      have G2 := Lib.hid (row3_set (c := w.heap.size + 1 + 1 + 1 + 1) (y := .bool true) (row3_set (c := w.heap.size + 1 + 1 + 1) (y := .slice va (thr M.out (runL M N k)).length vq) (row1_set (row_ext E2.out X3.out) (.int .i64 (k : Int))) (by omega)) (by omega))
      have G3 := Lib.hid (row3_set (c := w.heap.size + 1 + 1 + 1 + 1) (y := .bool true) (row1_set (row3_set (c := w.heap.size + 1 + 1) (y := .int .i64 (k : Int)) (row_ext E3.out X3.out) (by omega)) (.slice va (thr M.out (runL M N k)).length vq)) (by omega))
      have G4 := Lib.hid (row1_set (row3_set (c := w.heap.size + 1 + 1 + 1) (y := .slice va (thr M.out (runL M N k)).length vq) (row3_set (c := w.heap.size + 1 + 1) (y := .int .i64 (k : Int)) (row_ext E4.out X3.out) (by omega)) (by omega)) (.bool true))
      refine ⟨(((KeepsOthers.of_ext X3.out).trans (KeepsOthers.setCell _ _ _)).trans (KeepsOthers.setCell _ _ _)).trans (KeepsOthers.setCell _ _ _), rfl, (((HX.out.trans' X3.out).store (by show w.heap.size ≤ w.heap.size + 1 + 1; omega) _).store (by show w.heap.size ≤ w.heap.size + 1 + 1 + 1; omega) _).store (by show w.heap.size ≤ w.heap.size + 1 + 1 + 1 + 1; omega) _, HNO.out, HH.out, _, bs3, G2.out, G3.out, G4.out, ?_, F3.out.1, fun b hb => Nat.le_trans HX.out.size (F3.out.2 b hb)⟩
      have hb : ∀ b ∈ bs3, w2.heap.size ≤ b := fun b hb => Nat.le_trans HWB.out (F3.out.2 b hb)
      exact ((O3.out.keep fun b hm => Below.heap_setCell _ _ _ _ (by have := hb b hm; show b ≠ w.heap.size + 1 + 1; omega)).keep fun b hm => Below.heap_setCell _ _ _ _ (by have := hb b hm; show b ≠ w.heap.size + 1 + 1 + 1; omega)).keep fun b hm => Below.heap_setCell _ _ _ _ (by have := hb b hm; show b ≠ w.heap.size + 1 + 1 + 1 + 1; omega)
    · have D := Lib.hid (dec_true (D3.out.2 hh))
      have HH := Lib.hid hh
      clear hh
      gi_wp2_with (refine ⟨trivial, ?_⟩; gi_at_call 110; (with_reducible refine (CallsIn.inRound _ (callsIn_wide.2 (contains_any _ O3.out.read))).mono ?_); rintro e w' ⟨rfl, rfl⟩; rw [D.out])
      refine ⟨KeepsOthers.of_ext X3.out, KpT.of_ext X3.out HWB.out, HX.out.trans' X3.out, Nat.le_trans HWB.out X3.out.size, row_ext E2.out X3.out, row_ext E3.out X3.out, row_ext E4.out X3.out, fun j hj => ?_, row_ext RM.out X3.out⟩
      by_cases e : j = k
      · subst e; exact HH.out
      · exact HNO.out j (by omega)
  case done =>
    rintro D W hD hi hK
    obtain ⟨hx, hwb, r2, r3, r4, hno, -⟩ := hi
    have HNB := Lib.hid (show ¬ HaltB M N r from fun hb => hb.2 (haltI_none fun j hj => hno j (by rw [cntR_t hb.1]; omega)))
    have HX := Lib.hid hx
    have E2 := Lib.hid r2
    have E3 := Lib.hid r3
    have E4 := Lib.hid r4
    have t2 := r2.cell (i := 0) (by omega)
    have f2 := r2.frozen 0
    have t3 := r3.cell (i := 0) (by omega)
    have f3 := r3.frozen 0
    have t4 := r4.cell (i := 0) (by omega)
    have f4 := r4.frozen 0
    clear hx hwb r2 r3 r4 hno
    gi_wp2
    have hD2 := Z2.out
    have hK' : (((W.setCell ⟨w.heap.size + 1 + 1, 0, none⟩ (.int .i64 0)).setCell ⟨w.heap.size + 1 + 1 + 1, 0, none⟩ (.slice none 0 0)).setCell ⟨w.heap.size + 1 + 1 + 1 + 1, 0, none⟩ (.bool false)).heap[D]? = some (.deferred (some [])) :=
      (Below.heap_setCell _ _ _ _ (by show D ≠ w.heap.size + 1 + 1 + 1 + 1; omega)).trans ((Below.heap_setCell _ _ _ _ (by show D ≠ w.heap.size + 1 + 1 + 1; omega)).trans ((Below.heap_setCell _ _ _ _ (by show D ≠ w.heap.size + 1 + 1; omega)).trans hK))
    have KK := Lib.hid (Kc.put (B := w2.heap.size) (o' := .deferred none) hD hK' rfl)
    have G2 := Lib.hid (KK.out.row (row3_set (c := w.heap.size + 1 + 1 + 1 + 1) (y := .bool false) (row3_set (c := w.heap.size + 1 + 1 + 1) (y := .slice none 0 0) (row1_set E2.out (.int .i64 0)) (by omega)) (by omega)))
    have G3 := Lib.hid (KK.out.row (row3_set (c := w.heap.size + 1 + 1 + 1 + 1) (y := .bool false) (row1_set (row3_set (c := w.heap.size + 1 + 1) (y := .int .i64 0) E3.out (by omega)) (.slice none 0 0)) (by omega)))
    have G4 := Lib.hid (KK.out.row (row1_set (row3_set (c := w.heap.size + 1 + 1 + 1) (y := .slice none 0 0) (row3_set (c := w.heap.size + 1 + 1) (y := .int .i64 0) E4.out (by omega)) (by omega)) (.bool false)))
    refine ⟨by simp, .inl ⟨_, _, rfl, run_takeDeferred hK', ?_⟩⟩
    refine ⟨_, results_cell3 rfl _ _ rfl rfl rfl (run_loadVar1 _ Try.underlying3 rfl (G2.out.cell (i := 0) (by omega))) (run_loadVar1 _ Try.underlying24 rfl (G3.out.cell (i := 0) (by omega))) (run_loadVar1 _ Try.underlying4 rfl (G4.out.cell (i := 0) (by omega))), _, [], by rw [dec_false HNB.out, hrAns_f HNB.out], KK.out.ext (((HX.out.store (by show w.heap.size ≤ w.heap.size + 1 + 1; omega) _).store (by show w.heap.size ≤ w.heap.size + 1 + 1 + 1; omega) _).store (by show w.heap.size ≤ w.heap.size + 1 + 1 + 1 + 1; omega) _) (by omega), by rw [ooAns_f HNB.out]; exact own_nilI _, Fresh.nil _⟩
  case stop =>
    rintro D cd k W hD hk hh hK
    obtain ⟨rfl, hx, hno, hyes, v', bs, r2, r3, r4, ho, hf⟩ := hh
    have hlo : LongOK M N r ∧ k ≤ r.toNat := by
      by_cases hl : LongOK M N r
      · rw [cntR_t hl] at hk; exact ⟨hl, by omega⟩
      · rw [cntR_f hl] at hk; omega
    have HI := Lib.hid (haltI_hit hno hyes hlo.2)
    have HB := Lib.hid (show HaltB M N r from ⟨hlo.1, by rw [HI.out]; omega⟩)
    have KK := Lib.hid (Kc.put (B := w2.heap.size) (o' := .deferred none) hD hK rfl)
    have hD2 := Z2.out
    gi_wp2
    refine ⟨by simp, .inl ⟨_, _, rfl, run_takeDeferred hK, ?_⟩⟩
    refine ⟨_, results_cell3 rfl _ _ rfl rfl rfl (run_loadVar1 _ Try.underlying3 rfl ((KK.out.row r2).cell (i := 0) (by omega))) (run_loadVar1 _ Try.underlying24 rfl ((KK.out.row r3).cell (i := 0) (by omega))) (run_loadVar1 _ Try.underlying4 rfl ((KK.out.row r4).cell (i := 0) (by omega))), _, bs, by rw [dec_true HB.out, hrAns_t HB.out, HI.out], KK.out.ext hx (by omega), by rw [ooAns_t HB.out, HI.out, Int.toNat_natCast]; exact KK.out.keepI ho, hf⟩
end Go.Proofs.Ytdcgpodjoalokaa
