/- The program's runs: what runOf hands back is an iterator over the run. -/
import Derived.Test.YtdcgpodjoalokaaMw
import Derived.Test.YtdcgpodjoalokaaMu
namespace Go.Proofs.Ytdcgpodjoalokaa
open Go.RowKit Go.Shelf
attribute [local go_sem] Oper.semAt_some

/-- How many lists a run has. -/
def LongOK (M : Mach) (N : Net) (r : Int) : Prop := Asked M N ∧ InB r 0 2000
noncomputable def cntR (M : Mach) (N : Net) (r : Int) : Nat := if dec (LongOK M N r) = true then r.toNat + 1 else 0
theorem cntR_t {M : Mach} {N : Net} {r : Int} (h : LongOK M N r) : cntR M N r = r.toNat + 1 := by unfold cntR; rw [if_pos (dec_true h)]
theorem cntR_f {M : Mach} {N : Net} {r : Int} (h : ¬ LongOK M N r) : cntR M N r = 0 := by unfold cntR; rw [dec_false h]; rfl
/-- What is handed on: a list of states in memory that is new since the last round. -/
def RdR (M : Mach) (N : Net) (k : Nat) (v : Value) (W0 W : World) : Prop :=
  ∃ a q bs, v = .slice a N.ends.length q ∧ OwnI W (.slice a N.ends.length q) (runL M N k) bs ∧ ∀ b ∈ bs, W0.heap.size ≤ b
theorem RdR.kc {M : Mach} {N : Net} {B k : Nat} {v : Value} {W0 W W' : World} (h : RdR M N k v W0 W) (hk : Kc B W W') : RdR M N k v W0 W' := by
  obtain ⟨a, q, bs, rfl, h1, h2⟩ := h
  exact ⟨a, q, bs, rfl, hk.keepI h1, h2⟩
theorem KpT.keepI {B : Nat} {X : List Nat} {W W' : World} {v : Value} {l : List Int} {bs : List Nat} (h : KpT B X W W') (ho : OwnI W v l bs) (hb : ∀ b ∈ bs, B ≤ b) : OwnI W' v l bs :=
  ho.keep fun b hm => by
    obtain ⟨cur, hc⟩ := ho.1.typed b hm
    exact h.ints b _ _ (hb b hm) hc

/-- The three boxes that the iterator has captured. -/
def Cap (W : World) (c0 c1 c2 : Nat) (x0 x1 x2 x3 x4 x5 x6 v0 v1 v2 : Value) (r : Int) : Prop :=
  W.rowIs c0 31 7 (sept x0 x1 x2 x3 x4 x5 x6) ∧ W.rowIs c1 43 3 (tri v0 v1 v2) ∧ W.rowIs c2 3 1 (fun _ => .int .i64 r)
theorem Cap.ext {W W' : World} {c0 c1 c2 : Nat} {x0 x1 x2 x3 x4 x5 x6 v0 v1 v2 : Value} {r : Int} (h : Cap W c0 c1 c2 x0 x1 x2 x3 x4 x5 x6 v0 v1 v2 r) (he : Ext W W') : Cap W' c0 c1 c2 x0 x1 x2 x3 x4 x5 x6 v0 v1 v2 r :=
  ⟨row_ext h.1 he, row_ext h.2.1 he, row_ext h.2.2 he⟩
theorem Cap.keep {B : Nat} {X : List Nat} {W W' : World} {c0 c1 c2 : Nat} {x0 x1 x2 x3 x4 x5 x6 v0 v1 v2 : Value} {r : Int} (h : Cap W c0 c1 c2 x0 x1 x2 x3 x4 x5 x6 v0 v1 v2 r) (hk : KpT B X W W') (h0 : c0 < B ∧ c0 ∉ X) (h1 : c1 < B ∧ c1 ∉ X) (h2 : c2 < B ∧ c2 ∉ X) :
    Cap W' c0 c1 c2 x0 x1 x2 x3 x4 x5 x6 v0 v1 v2 r :=
  ⟨h.1.of_block (hk.low _ h0.1 h0.2), h.2.1.of_block (hk.low _ h1.1 h1.2), h.2.2.of_block (hk.low _ h2.1 h2.2)⟩
theorem Cap.facts {W : World} {c0 c1 c2 : Nat} {x0 x1 x2 x3 x4 x5 x6 v0 v1 v2 : Value} {r : Int} (h : Cap W c0 c1 c2 x0 x1 x2 x3 x4 x5 x6 v0 v1 v2 r) :
    (W.cell? ⟨c0, 0, none⟩ = some x0 ∧ W.cell? ⟨c0, 1, none⟩ = some x1 ∧ W.cell? ⟨c0, 2, none⟩ = some x2 ∧ W.cell? ⟨c0, 3, none⟩ = some x3 ∧ W.cell? ⟨c0, 4, none⟩ = some x4 ∧ W.cell? ⟨c0, 5, none⟩ = some x5 ∧ W.cell? ⟨c0, 6, none⟩ = some x6) ∧
      (W.cell? ⟨c1, 0, none⟩ = some v0 ∧ W.cell? ⟨c1, 1, none⟩ = some v1 ∧ W.cell? ⟨c1, 2, none⟩ = some v2) ∧ W.cell? ⟨c2, 0, none⟩ = some (.int .i64 r) := by
  obtain ⟨p, q, s⟩ := h
  obtain ⟨q0, q1, q2, -, -, -⟩ := row3_facts q
  exact ⟨row7_facts p, ⟨q0, q1, q2⟩, s.cell (i := 0) (by omega)⟩

theorem enters_run (args : Array Value) (w : World) : (callFunc 148 args).run Try.prog w = .ok (.enter 148 args) w := enters_of Try.func148 (by kernel_rfl) rfl args w

set_option maxHeartbeats 6400000 in
set_option maxRecDepth 100000 in
theorem runOf_stops {w Wst : World} {M : Mach} {N : Net} {r : Int} {n B c0 c1 c2 : Nat} {X : List Nat} {a3 a4 a5 a6 : Option Addr} {q3 q4 q5 q6 : Nat} {v0 v1 v2 : Value} (hn : 1 ≤ n)
    (h : MachAt w (.agg #[.int .i64 M.deg, .int .i64 M.sts, .int .i64 M.msgs, .slice a3 M.start.length q3, .slice a4 M.send.length q4, .slice a5 M.cls.length q5, .slice a6 M.out.length q6]) M) (k : NetAt w (.agg #[v0, v1, v2]) N) (hx : Ext w Wst)
    (hc : Cap Wst c0 c1 c2 (.int .i64 M.deg) (.int .i64 M.sts) (.int .i64 M.msgs) (.slice a3 M.start.length q3) (.slice a4 M.send.length q4) (.slice a5 M.cls.length q5) (.slice a6 M.out.length q6) v0 v1 v2 r)
    (hwB : w.heap.size ≤ B) (hB : B ≤ Wst.heap.size) (hX : ∀ b ∈ X, w.heap.size ≤ b) (h0 : c0 < B ∧ c0 ∉ X) (h1 : c1 < B ∧ c1 ∉ X) (h2 : c2 < B ∧ c2 ∉ X) :
    SeqRun n Try.prog 148 #[.pointer (some ⟨c0, 0, none⟩), .pointer (some ⟨c1, 0, none⟩), .pointer (some ⟨c2, 0, none⟩)] B X (cntR M N r) (RdR M N) Wst := by
  intro l J Jx W hW hJ hY hJ0
  have HM := Lib.hid h
  have HN := Lib.hid k
  have EW := Lib.hid (hx.trans' hW)
  have CW := Lib.hid (hc.ext hW)
  have HY := Lib.hid hY
  have HJ := Lib.hid hJ
  have J0 := Lib.hid hJ0
  have BW := Lib.hid (Nat.le_trans hB hW.size)
  have HX := Lib.hid hX
  have H0 := Lib.hid h0
  have H1 := Lib.hid h1
  have H2 := Lib.hid h2
  clear h k hx hc hY hJ hJ0 hB hX h0 h1 h2
  obtain ⟨⟨p0, p1, p2, p3, p4, p5, p6⟩, ⟨z0, z1, z2⟩, y0⟩ := CW.out.facts
  refine callsIn_of_wp Try.func148 rfl trivial ?_ rfl
  simp only [Try.ntmps148, List.size_toArray, List.length_cons, List.length_nil, Nat.reduceAdd, Nat.reduceSub, Array.replicate_succ, Array.replicate_zero, List.push_toArray, List.append_toArray, List.nil_append, List.cons_append]
  gi_wp2_with fail
  refine ⟨trivial, ?_⟩
  (with_reducible refine (callsIn_wide.2 (runsOn_any (HM.out.ext EW.out) (HN.out.ext EW.out))).mono ?_)
  rintro e w1 ⟨rfl, hx⟩
  have E1 := Lib.hid hx
  have C1 := Lib.hid (CW.out.ext hx)
  clear hx p0 p1 p2 p3 p4 p5 p6 z0 z1 z2 y0
  obtain ⟨⟨p0, p1, p2, p3, p4, p5, p6⟩, ⟨z0, z1, z2⟩, y0⟩ := C1.out.facts
  by_cases ha : Asked M N
  case neg =>
    have E := Lib.hid (cntR_f (r := r) (fun h : LongOK M N r => ha h.1))
    rw [dec_false ha]
    clear ha
    gi_wp2
    refine ⟨trivial, ?_⟩
    gi_wp2
    first | go_end0 | refine bodyPost_ret (results_none rfl _ _ _) rfl ?_
    exact ⟨⟨_, rfl⟩, .inl (by rw [E.out]; exact HJ.out _ _ _ J0.out E1.out)⟩
  rw [dec_true ha]
  have HA := Lib.hid ha
  clear ha
  by_cases hr : InB r 0 2000
  case neg =>
    have E := Lib.hid (cntR_f (M := M) (N := N) (r := r) (fun h => hr h.2))
    have D := Lib.hid (dec_false hr)
    clear hr
    gi_wp2_with (refine ⟨trivial, ?_⟩; gi_at_call 73; (with_reducible refine (callsIn_wide.2 (isBetweenK_any _ _ _ _)).mono ?_); rintro e w' ⟨rfl, rfl⟩; rw [D.out])
    refine bodyPost_ret (results_none rfl _ _ _) rfl ?_
    exact ⟨⟨_, rfl⟩, .inl (by rw [E.out]; exact HJ.out _ _ _ J0.out E1.out)⟩
  have HC := Lib.hid (cntR_t (M := M) (N := N) (r := r) ⟨HA.out, hr⟩)
  have D := Lib.hid (dec_true hr)
  obtain ⟨m, rfl⟩ := Int.eq_ofNat_of_zero_le hr.1
  have hm : m ≤ 2000 := by have := hr.2; omega
  clear hr
  gi_wp2_with (refine ⟨trivial, ?_⟩; gi_at_call 73; (with_reducible refine (callsIn_wide.2 (isBetweenK_any _ _ _ _)).mono ?_); rintro e w' ⟨rfl, rfl⟩; rw [D.out])
  refine ⟨trivial, ?_⟩
  (with_reducible refine (callsIn_wide.2 (startStates_any (HM.out.ext (EW.out.trans' E1.out)) (HN.out.ext (EW.out.trans' E1.out)) HA.out)).mono ?_)
  rintro e w2 ⟨sv, bs, rfl, hx, ho, hf⟩
  obtain ⟨sa, sq, rfl⟩ := ho.read.isSlice
  rw [length_startL] at ho ⊢
  have E2 := Lib.hid (E1.out.trans' hx)
  have HO := Lib.hid ho
  have HF := Lib.hid hf
  have C2 := Lib.hid (C1.out.ext hx)
  clear hx ho hf p0 p1 p2 p3 p4 p5 p6 z0 z1 z2 y0
  gi_wp2
  gi_loopw [7, 8] (fun s i wr => ∃ (k : Nat) (sa : Option Addr) (sq : Nat) (bs : List Nat) (W0 : World), k ≤ m ∧ i = .int .i64 k ∧ s = .slice sa N.ends.length sq ∧ Hid (J k W0 ∧ Ext W0 wr ∧ OwnI wr (.slice sa N.ends.length sq) (runL M N k) bs ∧ (∀ b ∈ bs, W0.heap.size ≤ b) ∧ B ≤ W0.heap.size ∧ Ext w wr ∧ Cap wr c0 c1 c2 (.int .i64 M.deg) (.int .i64 M.sts) (.int .i64 M.msgs) (.slice a3 M.start.length q3) (.slice a4 M.send.length q4) (.slice a5 M.cls.length q5) (.slice a6 M.out.length q6) v0 v1 v2 (m : Int))) (fun _ i _ => m + 1 - (intOf i).toNat)
  case atStart => exact ⟨0, sa, sq, bs, W, Nat.zero_le _, rfl, rfl, J0.out, E2.out, HO.out, fun b hb => Nat.le_trans E1.out.size (HF.out.2 b hb), BW.out, EW.out.trans' E2.out, C2.out⟩
  case round =>
    obtain ⟨k, sa, sq, bs, W0, hk, rfl, rfl, Hr⟩ := hrel
    obtain ⟨fn, tmps, assign, body, hy, hR⟩ := HY.out k (.slice sa N.ends.length sq) W0 wr (by rw [HC.out, Int.toNat_natCast]; omega) Hr.out.1 Hr.out.2.1 ⟨sa, sq, bs, rfl, Hr.out.2.2.1, Hr.out.2.2.2.1⟩
    obtain ⟨⟨p0, p1, p2, p3, p4, p5, p6⟩, ⟨z0, z1, z2⟩, y0⟩ := Hr.out.2.2.2.2.2.2.facts
    have HRR := Lib.hid hR
    clear hR p0 p1 p2 p3 p4 p5 p6 z0 z1 z2 y0
    by_cases hlt : k < m
    · have hdl : decide ((k : Int) < (m : Int)) = true := decide_eq_true (by omega)
      obtain ⟨⟨p0, p1, p2, p3, p4, p5, p6⟩, ⟨z0, z1, z2⟩, y0⟩ := Hr.out.2.2.2.2.2.2.facts
      clear p0 p1 p2 p3 p4 p5 p6 z0 z1 z2 y0
      gi_wp2_with fail
      refine HRR.out.mono ?_
      rintro e W3 (⟨rfl, hJ3, hk3⟩ | ⟨rfl, hJx3⟩)
      · obtain ⟨-, e01, ho, hb, hb0, hew, hcap⟩ := Hr.out
        have C3 := Lib.hid (hcap.keep hk3 H0.out H1.out H2.out)
        have O3 := Lib.hid (hk3.keepI ho fun b hm => Nat.le_trans hb0 (hb b hm))
        have X3 := Lib.hid (hk3.ext hew hwB HX.out)
        have J3 := Lib.hid hJ3
        have B3 := Lib.hid (show B ≤ W3.heap.size from Nat.le_trans hb0 (Nat.le_trans e01.size hk3.size))
        clear e01 ho hb hb0 hew hcap hJ3 hk3
        obtain ⟨⟨p0, p1, p2, p3, p4, p5, p6⟩, ⟨z0, z1, z2⟩, y0⟩ := C3.out.facts
        gi_wp2_with fail
        refine ⟨trivial, ?_⟩
        (with_reducible refine (callsIn_wide.2 (nextStates_any (HM.out.ext X3.out) (HN.out.ext X3.out) O3.out.read (run_sts HA.out k))).mono ?_)
        rintro e w4 ⟨sv', bs', rfl, hx, ho, hf⟩
        obtain ⟨sa', sq', rfl⟩ := ho.read.isSlice
        rw [length_stepL] at ho ⊢
        have E4 := Lib.hid hx
        have O4 := Lib.hid ho
        have F4 := Lib.hid hf
        have C4 := Lib.hid (C3.out.ext hx)
        clear hx ho hf p0 p1 p2 p3 p4 p5 p6 z0 z1 z2 y0
        gi_wp2
        go_roundw
        case rel => exact ⟨k + 1, sa', sq', bs', W3, by omega, by go_num, rfl, J3.out, E4.out, O4.out, F4.out.2, B3.out, X3.out.trans' E4.out, C4.out⟩
        case measure => simp [intOf]; omega
      · have JX := Lib.hid hJx3
        clear hJx3
        gi_wp2
        first | go_end0 | refine bodyPost_ret (results_none rfl _ _ _) rfl ?_
        exact ⟨⟨_, rfl⟩, .inr ⟨k, by rw [HC.out, Int.toNat_natCast]; omega, JX.out⟩⟩
    · obtain rfl : k = m := by omega
      have hdl : decide ((k : Int) < (k : Int)) = false := decide_eq_false (by omega)
      gi_wp2_with fail
      refine HRR.out.mono ?_
      rintro e W3 (⟨rfl, hJ3, hk3⟩ | ⟨rfl, hJx3⟩)
      · obtain ⟨-, e01, ho, hb, hb0, hew, hcap⟩ := Hr.out
        have C3 := Lib.hid (hcap.keep hk3 H0.out H1.out H2.out)
        have J3 := Lib.hid hJ3
        clear e01 ho hb hb0 hew hcap hJ3 hk3
        obtain ⟨⟨p0, p1, p2, p3, p4, p5, p6⟩, ⟨z0, z1, z2⟩, y0⟩ := C3.out.facts
        gi_wp2
        first | go_end0 | refine bodyPost_ret (results_none rfl _ _ _) rfl ?_
        exact ⟨⟨_, rfl⟩, .inl (by rw [HC.out, Int.toNat_natCast]; exact J3.out)⟩
      · have JX := Lib.hid hJx3
        clear hJx3
        gi_wp2
        first | go_end0 | refine bodyPost_ret (results_none rfl _ _ _) rfl ?_
        exact ⟨⟨_, rfl⟩, .inr ⟨k, by rw [HC.out, Int.toNat_natCast]; omega, JX.out⟩⟩
end Go.Proofs.Ytdcgpodjoalokaa
