/- The program's StatesAfter and StartStates. -/
import Derived.Test.YtdcgpodjoalokaaMx
namespace Go.Proofs.Ytdcgpodjoalokaa
open Go.RowKit Go.Shelf
attribute [local go_sem] Oper.semAt_some

theorem runOf_any {w : World} {x0 x1 x2 x3 x4 x5 x6 v0 v1 v2 : Value} {r : Int} :
    Calls Try.prog 100 #[.agg #[x0, x1, x2, x3, x4, x5, x6], .agg #[v0, v1, v2], .int .i64 r] w fun e w' =>
      e = .returned (.func (.func 148) #[] #[.pointer (some ⟨w.heap.size, 0, none⟩), .pointer (some ⟨w.heap.size + 1, 0, none⟩), .pointer (some ⟨w.heap.size + 1 + 1, 0, none⟩)]) ∧
        Ext w w' ∧ w'.heap.size = w.heap.size + 3 ∧ Cap w' w.heap.size (w.heap.size + 1) (w.heap.size + 1 + 1) x0 x1 x2 x3 x4 x5 x6 v0 v1 v2 r := by
  go_enter Try.func100, Try.ntmps100
  go_wp2
  go_ret
  refine ⟨rfl, (((Ext.rfl' w).alloc' _).alloc' _).alloc' _, by simp, ((row7_made _ _ _ _ _ _ _ _ _).alloc _).alloc _, ?_, ?_⟩
  · have := (row3_made (w.alloc (.cells #[x0, x1, x2, x3, x4, x5, x6] 31)) v0 v1 v2 43).alloc (.cells #[.int .i64 r] 3)
    rw [World.size_alloc] at this
    exact this
  · have := row1_made ((w.alloc (.cells #[x0, x1, x2, x3, x4, x5, x6] 31)).alloc (.cells #[v0, v1, v2] 43)) (.int .i64 r) 3
    rw [World.size_alloc, World.size_alloc] at this
    exact this

theorem KpT.store {B : Nat} {X : List Nat} {W : World} {p : Addr} (hX : p.block ∈ X) (hB : p.block < B) (v : Value) : KpT B X W (W.setCell p v) := by
  have h := (Chg.rfl' W [p.block]).store (p := p) (by simp) v
  refine ⟨h.os, h.tape, h.output, h.size, fun b _ hm => Below.heap_setCell _ _ _ _ (fun e => hm (e ▸ hX)), fun b c z hb _ => Below.heap_setCell _ _ _ _ (fun e => by omega)⟩
theorem Kc.row {B : Nat} {W W' : World} {b t n : Nat} {f : Nat → Value} (h : Kc B W W') (hr : W.rowIs b t n f) : W'.rowIs b t n f := hr.of_block (by obtain ⟨cur, hc, -⟩ := hr; rw [h.cells b _ hc rfl, hc])
theorem row1_set {w : World} {b t : Nat} {x : Value} (h : w.rowIs b t 1 (fun _ => x)) (y : Value) : (w.setCell ⟨b, 0, none⟩ y).rowIs b t 1 (fun _ => y) :=
  (h.set 0 y).congr fun i hi => by
    have h : i < 1 := hi
    match i, h with
    | 0, _ => rfl

noncomputable def saAns (M : Mach) (N : Net) (r : Int) : List Int := if dec (LongOK M N r) = true then runL M N r.toNat else []
theorem saAns_t {M : Mach} {N : Net} {r : Int} (h : LongOK M N r) : saAns M N r = runL M N r.toNat := by unfold saAns; rw [if_pos (dec_true h)]
theorem saAns_f {M : Mach} {N : Net} {r : Int} (h : ¬ LongOK M N r) : saAns M N r = [] := by unfold saAns; rw [dec_false h]; rfl
theorem saAns_small (M : Mach) (N : Net) (r : Int) : (saAns M N r).length ≤ 1048576 := by
  by_cases h : LongOK M N r
  · rw [saAns_t h, length_runL]; have := h.1.2.1.1.2; omega
  · rw [saAns_f h]; simp

/-- The variable last, when k lists have come. -/
def LastAt (w : World) (M : Mach) (N : Net) (L : Nat) (k : Nat) (W : World) : Prop :=
  Ext w W ∧ ∃ v bs, W.rowIs L 24 1 (fun _ => v) ∧ (k = 0 → v = .slice none 0 0) ∧ (0 < k → (∃ a q, v = .slice a N.ends.length q) ∧ OwnI W v (runL M N (k - 1)) bs ∧ bs.Nodup ∧ ∀ b ∈ bs, w.heap.size ≤ b ∧ b ≠ L)
theorem LastAt.kc {w : World} {M : Mach} {N : Net} {L k B : Nat} {W W' : World} (h : LastAt w M N L k W) (hk : Kc B W W') (hB : w.heap.size ≤ B) : LastAt w M N L k W' := by
  obtain ⟨h1, v, bs, h2, h3, h4⟩ := h
  exact ⟨hk.ext h1 hB, v, bs, hk.row h2, h3, fun hp => ⟨(h4 hp).1, hk.keepI (h4 hp).2.1, (h4 hp).2.2⟩⟩

set_option maxHeartbeats 6400000 in
set_option maxRecDepth 100000 in
theorem implStatesAfter_any {w : World} {vm vn : Value} {M : Mach} {N : Net} (r : Int) (h : MachAt w vm M) (k : NetAt w vn N) :
    Calls Try.prog 49 #[vm, vn, .int .i64 r] w fun e w' => ∃ v' bs, e = .returned (.tuple #[v', .bool (dec (LongOK M N r))]) ∧ Ext w w' ∧ OwnI w' v' (saAns M N r) bs ∧ Fresh w bs := by
  have HM := Lib.hid h
  have HN := Lib.hid k
  obtain ⟨a3, c3, a4, c4, a5, c5, a6, c6, rfl⟩ := h.agg
  obtain ⟨v0, v1, v2, rfl⟩ := k.agg
  obtain ⟨W1, hW1⟩ : ∃ W1, W1 = ((w.alloc (.cells #[.int .i64 M.deg, .int .i64 M.sts, .int .i64 M.msgs, .slice a3 M.start.length c3, .slice a4 M.send.length c4, .slice a5 M.cls.length c5, .slice a6 M.out.length c6] 31)).alloc (.cells #[v0, v1, v2] 43)).alloc (.cells #[.slice none 0 0] 24) := ⟨_, rfl⟩
  have EW := Lib.hid (show Ext w W1 by rw [hW1]; exact (((Ext.rfl' w).alloc' _).alloc' _).alloc' _)
  have ZW := Lib.hid (show W1.heap.size = w.heap.size + 3 by rw [hW1]; simp)
  have RL := Lib.hid (show W1.rowIs (w.heap.size + 1 + 1) 24 1 (fun _ => .slice none 0 0) by
    rw [hW1]
    have := row1_made ((w.alloc (.cells #[.int .i64 M.deg, .int .i64 M.sts, .int .i64 M.msgs, .slice a3 M.start.length c3, .slice a4 M.send.length c4, .slice a5 M.cls.length c5, .slice a6 M.out.length c6] 31)).alloc (.cells #[v0, v1, v2] 43)) (.slice none 0 0) 24
    rw [World.size_alloc, World.size_alloc] at this
    exact this)
  have RA := Lib.hid (show W1.rowIs w.heap.size 31 7 (sept (.int .i64 M.deg) (.int .i64 M.sts) (.int .i64 M.msgs) (.slice a3 M.start.length c3) (.slice a4 M.send.length c4) (.slice a5 M.cls.length c5) (.slice a6 M.out.length c6)) by rw [hW1]; exact ((row7_made _ _ _ _ _ _ _ _ _).alloc _).alloc _)
  have RB := Lib.hid (show W1.rowIs (w.heap.size + 1) 43 3 (tri v0 v1 v2) by
    rw [hW1]
    have := (row3_made (w.alloc (.cells #[.int .i64 M.deg, .int .i64 M.sts, .int .i64 M.msgs, .slice a3 M.start.length c3, .slice a4 M.send.length c4, .slice a5 M.cls.length c5, .slice a6 M.out.length c6] 31)) v0 v1 v2 43).alloc (.cells #[.slice none 0 0] 24)
    rw [World.size_alloc] at this
    exact this)
  obtain ⟨p0, p1, p2, p3, p4, p5, p6⟩ := row7_facts RA.out
  obtain ⟨q0, q1, q2, -, -, -⟩ := row3_facts RB.out
  rw [hW1] at p0 p1 p2 p3 p4 p5 p6 q0 q1 q2
  clear h k
  refine (callsIn_wide (n := 5)).1 ?_
  refine callsIn_of_wp_marks Try.func49 rfl trivial ?_ rfl
  simp only [Try.ntmps49, List.size_toArray, List.length_cons, List.length_nil, Nat.reduceAdd, Nat.reduceSub, Array.replicate_succ, Array.replicate_zero, List.push_toArray, List.append_toArray, List.nil_append, List.cons_append]
  gi_wp2_with fail
  refine ⟨trivial, ?_⟩
  rw [← hW1]
  clear hW1 p0 p1 p2 p3 p4 p5 p6 q0 q1 q2
  (with_reducible refine (callsIn_wide.2 runOf_any).mono ?_)
  rintro e w2 ⟨rfl, hx, hz, hc⟩
  have X2 := Lib.hid hx
  have C2 := Lib.hid hc
  have Z2 := Lib.hid (show w2.heap.size = w.heap.size + 6 by have := ZW.out; omega)
  have W2 := Lib.hid (EW.out.trans' hx)
  clear hx hz hc
  gi_wp2_with fail
  refine rangeRun (n := 5) (gf := 148) (X := [w.heap.size + 1 + 1]) (c := cntR M N r) (Rd := RdR M N) (by omega) rfl enters_run
    (runOf_stops (n := 5 - 1) (by omega) HM.out HN.out W2.out C2.out (by have := Z2.out; omega) (Nat.le_refl _) (by intro b hb; simp at hb; omega) (by have := Z2.out; have := ZW.out; refine ⟨by omega, by simp; omega⟩) (by have := Z2.out; have := ZW.out; refine ⟨by omega, by simp; omega⟩) (by have := Z2.out; have := ZW.out; refine ⟨by omega, by simp; omega⟩))
    (LastAt w M N (w.heap.size + 1 + 1)) (fun _ _ _ => False) (fun k W W' hi hk => hi.kc hk (by have := Z2.out; omega)) (fun _ _ _ _ hs _ => hs) (fun k v W0 W W' hr hk => hr.kc hk)
    ⟨W2.out, .slice none 0 0, [], row_ext RL.out X2.out, fun _ => rfl, fun hp => absurd hp (by omega)⟩
    (fun k v => { tmps := #[.agg #[.int .i64 M.deg, .int .i64 M.sts, .int .i64 M.msgs, .slice a3 M.start.length c3, .slice a4 M.send.length c4, .slice a5 M.cls.length c5, .slice a6 M.out.length c6], .agg #[v0, v1, v2], .int .i64 r, .pointer (some ⟨w.heap.size, 0, none⟩), .pointer (some ⟨w.heap.size + 1, 0, none⟩), undef, .slice none 0 0, .bool false, .pointer (some ⟨w.heap.size + 1 + 1, 0, none⟩), undef, v,
      .agg #[.int .i64 M.deg, .int .i64 M.sts, .int .i64 M.msgs, .slice a3 M.start.length c3, .slice a4 M.send.length c4, .slice a5 M.cls.length c5, .slice a6 M.out.length c6], .agg #[v0, v1, v2], .int .i64 r, .func (.func 148) #[] #[.pointer (some ⟨W1.heap.size, 0, none⟩), .pointer (some ⟨W1.heap.size + 1, 0, none⟩), .pointer (some ⟨W1.heap.size + 1 + 1, 0, none⟩)], .int .i64 (k : Int), v, undef, undef, undef, undef, undef], defers := [] }) ?assign ?body ?done ?stop
  case assign =>
    intro l k v W K hK
    gi_wp2
    exact hK
  case body =>
    rintro l k v W0 W hk hi0 hkc hr
    obtain ⟨a, q, bs, rfl, ho, hge⟩ := hr
    have hiW := LastAt.kc (B := w2.heap.size) hi0 hkc (by have := Z2.out; omega)
    obtain ⟨hx0, u0, bs0, hrow0, -, -⟩ := hi0
    have hL0 := hrow0.lt
    obtain ⟨hx, u, bs1, hrow, -, -⟩ := hiW
    have c1 := hrow.cell (i := 0) (by omega)
    have c2 := hrow.frozen 0
    have HX := Lib.hid hx
    have HR := Lib.hid hrow
    have HO := Lib.hid ho
    have HG := Lib.hid hge
    clear hx hrow ho hge hkc hx0 hrow0
    gi_wp2
    refine ⟨KeepsOthers.setCell _ _ _, KpT.store (by simp) (by have := Z2.out; show w.heap.size + 1 + 1 < w2.heap.size; omega) _, HX.out.store (by show w.heap.size ≤ w.heap.size + 1 + 1; omega) _, _, bs, row1_set HR.out _, fun h => absurd h (by omega), fun _ => ⟨⟨a, q, rfl⟩, ?_, ?_, ?_⟩⟩
    · exact HO.out.keep fun b hb => Below.heap_setCell _ _ _ _ (by have := HG.out b hb; show b ≠ w.heap.size + 1 + 1; omega)
    · exact HO.out.1.nodup
    · intro b hb
      have := HG.out b hb
      omega
  case done =>
    rintro D W hD hi hK
    obtain ⟨hx, u, bs, hrow, hu0, hu1⟩ := hi
    have c1 := hrow.cell (i := 0) (by omega)
    by_cases hl : LongOK M N r
    · rw [cntR_t hl] at hu1
      obtain ⟨⟨a, q, rfl⟩, ho, hnd, hb⟩ := hu1 (by omega)
      have hpos : 0 < N.ends.length := hl.1.2.1.1.1
      have hdp : decide ((0 : Int) < (N.ends.length : Int)) = true := decide_eq_true (by omega)
      have D1 := Lib.hid (dec_true hl)
      have A1 := Lib.hid (saAns_t hl)
      have HX := Lib.hid hx
      have HO := Lib.hid ho
      have HB := Lib.hid hb
      clear hx hrow hu0 hu1 ho hb hl
      gi_wp2
      refine wpIn_wide.2 ?_
      go_quiet (fail)
      gi_wp2
      have hK' : (W.drewN nq).heap[D]? = some (.deferred (some [])) := by simpa using hK
      have KK := Lib.hid (Kc.put (B := w2.heap.size) (o' := .deferred none) hD hK' rfl)
      have KE := Lib.hid ((Ext.rfl' W).drewN' nq)
      refine ⟨by simp, .inl ⟨_, _, rfl, run_takeDeferred hK', ?_⟩⟩
      exact ⟨_, results_tmp2 rfl _ _ _, _, bs, by rw [D1.out]; rfl, KK.out.ext (HX.out.trans' KE.out) (by have := Z2.out; omega), by rw [A1.out]; exact KK.out.keepI (HO.out.ext KE.out), hnd, fun b hb => (HB.out b hb).1⟩
    · rw [cntR_f hl] at hu0
      obtain rfl := hu0 rfl
      have D1 := Lib.hid (dec_false hl)
      have A1 := Lib.hid (saAns_f hl)
      have HX := Lib.hid hx
      clear hx hrow hu0 hu1 hl
      gi_wp2
      refine wpIn_wide.2 ?_
      go_quiet (fail)
      gi_wp2
      have hK' : (W.drewN nq).heap[D]? = some (.deferred (some [])) := by simpa using hK
      have KK := Lib.hid (Kc.put (B := w2.heap.size) (o' := .deferred none) hD hK' rfl)
      have KE := Lib.hid ((Ext.rfl' W).drewN' nq)
      refine ⟨by simp, .inl ⟨_, _, rfl, run_takeDeferred hK', ?_⟩⟩
      exact ⟨_, results_tmp2 rfl _ _ _, _, [], by rw [D1.out]; rfl, KK.out.ext (HX.out.trans' KE.out) (by have := Z2.out; omega), by rw [A1.out]; exact own_nilI _, Fresh.nil _⟩
  case stop =>
    rintro D cd k W _ _ hh _
    exact hh.elim
end Go.Proofs.Ytdcgpodjoalokaa
