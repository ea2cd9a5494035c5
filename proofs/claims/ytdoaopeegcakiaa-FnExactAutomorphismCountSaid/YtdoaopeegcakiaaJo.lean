/- The contracts of the program's walksOf and nodesWithCode. -/
import Derived.Test.YtdoaopeegcakiaaJg
namespace Go.Proofs.Ytdoaopeegcakiaa
open Go.RowKit

theorem Try.infoW : (Try.prog.info? 68).map (fun i => (i.zero, i.size, i.bytes)) = some (some (.agg #[.slice none 0 0, .slice none 0 0]), 2, 48) := by kernel_rfl

/-- The walks from the first k nodes and their codes, in a row. -/
def WalkAt (w : World) (b : Nat) (N : Net) (k : Nat) : Prop :=
  ∃ (R : Nat → Value) (T S : Nat → List Nat), w.rowIs b 68 (N.ends.length * 2) R ∧ ∀ i : Nat, i < k → OwnI w (R (i * 2)) (wk N (i : Int)) (T i) ∧ OwnI w (R (i * 2 + 1)) (code N (i : Int)) (S i)
theorem WalkAt.ext {w w' : World} {b k : Nat} {N : Net} (h : WalkAt w b N k) (he : Ext w w') : WalkAt w' b N k := by
  obtain ⟨R, T, S, h1, h2⟩ := h
  exact ⟨R, T, S, row_ext h1 he, fun i hi => ⟨(h2 i hi).1.ext he, (h2 i hi).2.ext he⟩⟩
theorem WalkAt.step {w : World} {b k : Nat} {N : Net} {vn vc : Value} {bn bc : List Nat} (h : WalkAt w b N k) (hn : OwnI w vn (wk N (k : Int)) bn) (hc : OwnI w vc (code N (k : Int)) bc) :
    WalkAt ((w.setCell ⟨b, k * 2, none⟩ vn).setCell ⟨b, k * 2 + 1, none⟩ vc) b N (k + 1) := by
  obtain ⟨R, T, S, h1, h2⟩ := h
  have keep : ∀ {x : Value} {l : List Int} {bs : List Nat}, OwnI w x l bs → OwnI ((w.setCell ⟨b, k * 2, none⟩ vn).setCell ⟨b, k * 2 + 1, none⟩ vc) x l bs := fun {x l bs} ho => by
    have hb : ∀ c ∈ bs, c ≠ b := fun c hc e => by
      subst e
      obtain ⟨c1, h3⟩ := ho.1.typed c hc
      obtain ⟨c2, h4⟩ := rowIs.blk h1
      exact type_ne h3 h4 (by decide) rfl
    exact ho.keep fun c hc => (Below.heap_setCell _ _ _ _ (hb c hc)).trans (Below.heap_setCell _ _ _ _ (hb c hc))
  refine ⟨fun i => if i = k * 2 + 1 then vc else if i = k * 2 then vn else R i, fun i => if i = k then bn else T i, fun i => if i = k then bc else S i, ((h1.set _ _).set _ _).congr fun i _ => rfl, fun i hi => ?_⟩
  by_cases e : i = k
  · subst e
    dsimp only
    rw [if_neg (show ¬ i * 2 = i * 2 + 1 by omega), if_pos rfl, if_pos rfl, if_pos rfl, if_pos rfl]
    exact ⟨keep hn, keep hc⟩
  · dsimp only
    simp only [show ¬ (i * 2 = k * 2 + 1) by omega, show ¬ (i * 2 = k * 2) by omega, show ¬ (i * 2 + 1 = k * 2 + 1) by omega, show ¬ (i * 2 + 1 = k * 2) by omega, e, if_false]
    exact ⟨keep (h2 i (by omega)).1, keep (h2 i (by omega)).2⟩
theorem WalkAt.at {w : World} {b k : Nat} {N : Net} (h : WalkAt w b N k) {i : Nat} (hi : i < k) (hn : i < N.ends.length) :
    ∃ na nc ca cc bn bc, w.cell? ⟨b, i * 2, none⟩ = some (.slice na (wk N (i : Int)).length nc) ∧ w.cell? ⟨b, i * 2 + 1, none⟩ = some (.slice ca (code N (i : Int)).length cc) ∧ OwnI w (.slice na (wk N (i : Int)).length nc) (wk N (i : Int)) bn ∧ OwnI w (.slice ca (code N (i : Int)).length cc) (code N (i : Int)) bc := by
  obtain ⟨R, T, S, h1, h2⟩ := h
  obtain ⟨o1, o2⟩ := h2 i hi
  obtain ⟨na, nc, e1⟩ := o1.1.slice
  obtain ⟨ca, cc, e2⟩ := o2.1.slice
  refine ⟨na, nc, ca, cc, T i, S i, ?_, ?_, by rw [← e1]; exact o1, by rw [← e2]; exact o2⟩
  · rw [h1.cell (by omega), e1]
  · rw [h1.cell (by omega), e2]
theorem wmade (w : World) (n : Nat) : (w.alloc (.cells (madeCells #[.slice none 0 0, .slice none 0 0] (n * 2)) 68)).rowIs w.heap.size 68 (n * 2) (fun _ => .slice none 0 0) :=
  ⟨_, Go.Deep.blk_alloc_new _ _, size_madeCells _ _, fun i hi => by
    simp only [madeCells]
    have h2 : i % 2 = 0 ∨ i % 2 = 1 := by omega
    rcases h2 with h2 | h2 <;> simp [hi, h2]⟩

set_option maxHeartbeats 1600000 in
set_option maxRecDepth 100000 in
theorem walksOf_any {w : World} {v : Value} {N : Net} (h : NetAt w v N) (hG : GoodW N) :
    Calls Try.prog 48 #[v] w fun e w' => ∃ b, e = .returned (.slice (some ⟨b, 0, none⟩) N.ends.length N.ends.length) ∧ Ext w w' ∧ WalkAt w' b N N.ends.length ∧ w.heap.size ≤ b := by
  have HN := Lib.hid h
  have HG := Lib.hid hG
  have h40 := hG.most
  clear hG
  obtain ⟨v0, v1, v2, rfl, hE, hI, hP⟩ := h
  obtain ⟨ea, eb, eo, ec, rfl, -, hel, hem, -⟩ := hE
  clear hI hP
  unfold maxLen at hem
  obtain ⟨n, hnn⟩ : ∃ n, n = N.ends.length := ⟨_, rfl⟩
  have HNN := Lib.hid hnn
  rw [← hnn] at h40 hel HN ⊢
  clear hnn
  obtain ⟨i0, hi, hz0, hz1, hz2⟩ := info_parts Try.infoW
  have hmk : ∀ u : World, (Instr.makeSlice 65 (.int .i64 (n : Int)) (.int .i64 (n : Int))).run Try.prog u =
      .ok (.slice (some ⟨u.heap.size, 0, none⟩) n n) (u.alloc (.cells (madeCells #[.slice none 0 0, .slice none 0 0] (n * 2)) 68)) := fun u => by
    have h := run_make (P := Try.prog) u 65 68 i0 _ Try.underlying65 hi hz0 .i64 .i64 n n (by omega) (Int.le_refl _) (by rw [hz2]; omega) (by omega)
    simpa [hz1, Value.cells] using h
  obtain ⟨WB, hWB⟩ : ∃ WB, WB = w.alloc (.cells #[.slice ea n ec, v1, v2] 31) := ⟨_, rfl⟩
  have EB := Lib.hid (show Ext w WB by rw [hWB]; exact boxed_ext _ _ _ _ _)
  have RB := Lib.hid (show WB.rowIs w.heap.size 31 3 (tri (.slice ea n ec) v1 v2) by rw [hWB]; exact boxed_row _ _ _ _ _)
  have ZB := Lib.hid (show WB.heap.size = w.heap.size + 1 by rw [hWB]; simp)
  obtain ⟨W0, hW0⟩ : ∃ W0, W0 = WB.alloc (.cells (madeCells #[.slice none 0 0, .slice none 0 0] (n * 2)) 68) := ⟨_, rfl⟩
  have E0 := Lib.hid (show Ext WB W0 by rw [hW0]; exact (Ext.rfl' _).alloc' _)
  have A0 := Lib.hid (show WalkAt W0 (w.heap.size + 1) N 0 by
    rw [hW0, ← ZB.out]
    exact ⟨_, fun _ => [], fun _ => [], by rw [← HNN.out]; exact wmade WB n, fun i hi => absurd hi (by omega)⟩)
  obtain ⟨p0, p1, p2, -, -, -⟩ := row3_facts RB.out
  rw [hWB] at p0 p1 p2
  go_enter Try.func48, Try.ntmps48
  go_wp2
  rw [← hWB, ← hW0]
  clear hmk hi hz0 hz1 hz2 p0 p1 p2 hWB hW0
  go_loopg [11] n (fun g i wr => ∃ k : Nat, k ≤ n ∧ g = n - k ∧ i = .int .i64 k ∧ Hid (Ext WB wr ∧ WalkAt wr (w.heap.size + 1) N k))
  case atStart => exact ⟨0, Nat.zero_le _, rfl, rfl, E0.out, A0.out⟩
  case round =>
    obtain ⟨k, hk, rfl, rfl, Hr⟩ := hrel
    by_cases hlt : k < n
    · obtain ⟨p0, p1, p2, -, -, -⟩ := row3_facts (row_ext RB.out Hr.out.1)
      go_wp2_with (first | (go_at_call 84; (with_reducible refine (walkFrom_any k (by have := HNN.out; omega) (HN.out.ext (EB.out.trans' Hr.out.1)) HG.out).mono ?_); rintro e w1 ⟨vn, vc, bn, bc, rfl, hx, on, oc, -⟩; have A1 := Lib.hid (Hr.out.2.ext hx); have K1 := Lib.hid (Hr.out.1.trans' hx); obtain ⟨na, nc, rfl⟩ := on.1.slice; obtain ⟨ca, cc, rfl⟩ := oc.1.slice; have ON := Lib.hid on; have OC := Lib.hid oc; obtain ⟨R, T, S, hrow, -⟩ := A1.out; obtain ⟨f1, f2, f3, f4⟩ := row_two hrow (show k * 2 + 1 < N.ends.length * 2 by have := HNN.out; omega); clear hx on oc hrow) | fail)
      go_roundg (n - (k + 1))
      case measure => omega
      case rel => exact ⟨k + 1, by omega, rfl, by go_num, (K1.out.store (by have := ZB.out; simp; omega) _).store (by have := ZB.out; simp; omega) _, A1.out.step ON.out OC.out⟩
    · go_wp2
      go_ret
      obtain rfl : k = n := by omega
      exact ⟨w.heap.size + 1, rfl, EB.out.trans' Hr.out.1, Hr.out.2, by omega⟩

set_option maxHeartbeats 1600000 in
set_option maxRecDepth 100000 in
theorem nodesWithCode_any {w : World} {b : Nat} {vc : Value} {N : Net} {c : List Int} (h : WalkAt w b N N.ends.length) (hc : IntSl w vc c) (h40 : N.ends.length ≤ 40) :
    Calls Try.prog 50 #[.slice (some ⟨b, 0, none⟩) N.ends.length N.ends.length, vc] w fun e w' => ∃ v' bs, e = .returned v' ∧ Ext w w' ∧ OwnI w' v' (withC N c) bs ∧ Fresh w bs := by
  have HW := Lib.hid h
  have HC := Lib.hid hc
  clear h hc
  obtain ⟨i0, hi, hz0, hz1, hz2⟩ := info_parts Try.info3
  have I0 := Lib.hid (And.intro hi (And.intro hz0 (And.intro hz1 hz2)))
  clear hi hz0 hz1 hz2
  obtain ⟨n, hnn⟩ : ∃ n, n = N.ends.length := ⟨_, rfl⟩
  have HNN := Lib.hid hnn
  rw [← hnn] at h40 HW ⊢
  clear hnn
  have G0 := Lib.hid (show GrowN w.heap.size (w.alloc (.cells #[] 3)) (.slice (some ⟨w.heap.size, 0, none⟩) 0 0) (withCd N c 0) from World.ownsRow_lit (base := w.heap.size) (e := 3) (size := 1) w #[] 0 (Nat.le_refl _) (by decide) (by simp))
  go_enter Try.func50, Try.ntmps50
  go_wp2
  go_loopg [5, 11] n (fun g s i wr => ∃ k : Nat, k ≤ n ∧ g = n - k ∧ i = .int .i64 k ∧ Hid (Ext w wr ∧ GrowN w.heap.size wr s (withCd N c k)))
  case atStart => exact ⟨0, Nat.zero_le _, rfl, rfl, (Ext.rfl' _).alloc' _, G0.out⟩
  case round =>
    obtain ⟨k, hk, rfl, rfl, Hr⟩ := hrel
    by_cases hlt : k < n
    · obtain ⟨na, nc, ca, cc, bn, bc, c1, c2, -, oc⟩ := (HW.out.ext Hr.out.1).at hlt (by have := HNN.out; omega)
      have hcl := withCd_len N c k
      have SZ := Lib.hid Hr.out.1.size
      have RC := Lib.hid (oc.read.ext ((Ext.rfl' wr).alloc' (.cells #[.slice na (wk N k).length nc, .slice ca (code N k).length cc] 68)))
      have RD := Lib.hid (HC.out.ext (Hr.out.1.alloc' (.cells #[.slice na (wk N k).length nc, .slice ca (code N k).length cc] 68)))
      clear oc
      by_cases he : code N (k : Int) = c
      · have HE := Lib.hid (show decide (code N (k : Int) = c) = true from decide_eq_true he)
        have HA := Lib.hid (show withCd N c (k + 1) = withCd N c k ++ [(k : Int)] by simp only [withCd]; rw [if_pos he])
        clear he
        go_wp2_with (first | (go_at_call 86; (with_reducible refine (sEqual_any RC.out RD.out).mono ?_); rintro e w1 ⟨rfl, hx⟩; rw [HE.out]; have X1 := Lib.hid ((Ext.alloc' (Ext.rfl' wr) (.cells #[.slice na (wk N k).length nc, .slice ca (code N k).length cc] 68)).trans' hx); clear hx) | (at_builtin; refine wpList_app2 rfl (.tmp 20) (.tmp 22) 23 rfl w.heap.size 3 i0 (.int .i64 0) 1 8 Try.underlying23 I0.out.1 I0.out.2.1 I0.out.2.2.1 I0.out.2.2.2 rfl (by decide) _ (withCd N c k).length (intCells (withCd N c k)) rfl (Hr.out.2.ext (X1.out.alloc' _)) (some ⟨w1.heap.size, 0, none⟩) 1 1 (intCells [(k : Int)]) rfl (src_lits w1 [(k : Int)] 1 rfl 3) (by unfold maxLen; omega) (by omega) (by have := X1.out.size; have := SZ.out; simp; omega) ?_))
        intro v' w3 hg
        have FI := Lib.hid (show Ext w w3 ∧ GrowN w.heap.size w3 v' (withCd N c k ++ [(k : Int)]) from ⟨grown_ext (Hr.out.1.trans' (X1.out.alloc' _)) (Nat.le_refl _) (Hr.out.2.ext (X1.out.alloc' _)) hg.1.2.1, GrowN.step hg.1 rfl⟩)
        clear hg
        go_wp2
        go_roundg (n - (k + 1))
        case measure => omega
        case rel => exact ⟨k + 1, by omega, rfl, by go_num, FI.out.1, by rw [HA.out]; exact FI.out.2⟩
      · have HE := Lib.hid (show decide (code N (k : Int) = c) = false from decide_eq_false he)
        have HA := Lib.hid (show withCd N c (k + 1) = withCd N c k by simp only [withCd]; rw [if_neg he])
        clear he
        go_wp2_with (first | (go_at_call 86; (with_reducible refine (sEqual_any RC.out RD.out).mono ?_); rintro e w1 ⟨rfl, hx⟩; rw [HE.out]; have X1 := Lib.hid ((Ext.alloc' (Ext.rfl' wr) (.cells #[.slice na (wk N k).length nc, .slice ca (code N k).length cc] 68)).trans' hx); clear hx) | fail)
        go_roundg (n - (k + 1))
        case measure => omega
        case rel => exact ⟨k + 1, by omega, rfl, by go_num, Hr.out.1.trans' X1.out, by rw [HA.out]; exact Hr.out.2.ext X1.out⟩
    · go_wp2
      go_ret
      obtain rfl : k = n := by omega
      obtain ⟨bs, ho, hn, hb⟩ := Hr.out.2.own fun i hi => by have := withCd_range N c k i hi; unfold inI64; omega
      exact ⟨_, bs, rfl, Hr.out.1, by unfold withC; rw [← HNN.out]; exact ho, hn, hb⟩
end Go.Proofs.Ytdoaopeegcakiaa
