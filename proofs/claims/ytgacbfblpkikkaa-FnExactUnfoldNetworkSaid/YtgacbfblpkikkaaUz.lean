/- The contract of the program's longerWalks. -/
import Derived.Test.YtgacbfblpkikkaaUy
namespace Go.Proofs.Ytgacbfblpkikkaa
open Go.RowKit

theorem Try.infoVW : (Try.prog.info? 80).map (fun i => (i.zero, i.size, i.bytes)) = some (some (.agg #[.int .i64 0, .int .i64 0, .int .i64 0, .int .i64 0, .int .i64 0]), 5, 40) := by kernel_rfl
theorem src_five {w : World} {q : Nat} (hq : w.heap.size = q) (x0 x1 x2 x3 x4 : Value) (t : TypeId) (h0 : x0.oneCell' = true) (h1 : x1.oneCell' = true) (h2 : x2.oneCell' = true) (h3 : x3.oneCell' = true) (h4 : x4.oneCell' = true) :
    SrcAt (w.alloc (.cells #[x0, x1, x2, x3, x4] t)) (some ⟨q, 0, none⟩) 1 5 [x0, x1, x2, x3, x4] := by
  subst hq
  refine ⟨rfl, fun h => by simp at h, fun ad e j c hc => ?_, fun c hc => by simp at hc; rcases hc with rfl | rfl | rfl | rfl | rfl <;> assumption⟩
  obtain rfl := Option.some.inj e
  rw [add_plain]
  match j with
  | 0 => simp at hc; subst hc; simp
  | 1 => simp at hc; subst hc; simp
  | 2 => simp at hc; subst hc; simp
  | 3 => simp at hc; subst hc; simp
  | 4 => simp at hc; subst hc; simp
  | j + 5 => simp at hc
/-- The walks through the first i ports. -/
def longerTo (N : Net) (k : Nat) (x : Wk) (i : Nat) : List Wk := ((List.range i).filter fun (i : Nat) => decide ((i : Int) ≠ x.came)).map (goOn N k x)
theorem longerTo_t {N : Net} {k i : Nat} {x : Wk} (h : ¬ (i : Int) = x.came) : longerTo N k x (i + 1) = longerTo N k x i ++ [goOn N k x i] := by simp [longerTo, List.range_succ, List.filter_append, h]
theorem longerTo_f {N : Net} {k i : Nat} {x : Wk} (h : (i : Int) = x.came) : longerTo N k x (i + 1) = longerTo N k x i := by simp [longerTo, List.range_succ, List.filter_append, h]
theorem longerTo_len (N : Net) (k : Nat) (x : Wk) (i : Nat) : (longerTo N k x i).length ≤ i := by
  rw [longerTo, List.length_map]
  exact Nat.le_trans (List.length_filter_le _ _) (by simp)
theorem goOn_cells {N : Net} {k i : Nat} {x : Wk} (h : 0 ≤ gn (gr N.ends x.node) i) : viewCells (goOn N k x i) = [.int .i64 ((x.steps : Int) + 1), .int .i64 (gn (gr N.ends x.node) i), .int .i64 (gp (gr N.ends x.node) i), .int .i64 (k : Int), .int .i64 (i : Int)] := by
  simp [viewCells, goOn]
  omega
def walkVal (x : Wk) : Value := .agg #[.int .i64 (x.steps : Int), .int .i64 (x.node : Int), .int .i64 x.came, .int .i64 (x.src : Int), .int .i64 (x.port : Int)]
set_option maxHeartbeats 3200000 in
set_option maxRecDepth 100000 in
theorem longerWalks_any {w : World} {v : Value} {N : Net} (k : Nat) (x : Wk) (hx : x.node < N.ends.length) (hs : x.steps ≤ 80) (hN : EndsOK N.ends) (h : NetAt w v N) :
    Calls Try.prog 68 #[walkVal x, v, .int .i64 k] w fun e w' => ∃ vq, e = .returned vq ∧ Ext w w' ∧ GrowW viewCells 80 (w.heap.size + 2) w' vq (longer N k x) := by
  obtain ⟨v0, v1, v2, rfl, hE, hI, hP⟩ := h
  clear hI hP
  obtain ⟨a, b, o, c, rfl, ha, hl, hm, hc⟩ := hE
  unfold maxLen at hm
  obtain ⟨z, hz, hz2⟩ := hc x.node hx
  obtain ⟨a', b', o', c', rfl, ha', hl', hm', hc'⟩ := hz2
  unfold maxLen at hm'
  obtain rfl := ha (by omega)
  obtain ⟨W0, hW0⟩ : ∃ W0, W0 = (w.alloc (.cells #[.int .i64 (x.steps : Int), .int .i64 (x.node : Int), .int .i64 x.came, .int .i64 (x.src : Int), .int .i64 (x.port : Int)] 80)).alloc (.cells #[.slice (some ⟨b, o, none⟩) N.ends.length c, v1, v2] 29) := ⟨_, rfl⟩
  have HX := Lib.hid (show Ext w W0 by rw [hW0]; exact ((Ext.rfl' w).alloc' _).alloc' _)
  have Z0 := Lib.hid (show W0.heap.size = w.heap.size + 2 by rw [hW0]; simp)
  have C0 := Lib.hid (show W0.cell? ⟨w.heap.size, 0, none⟩ = some (.int .i64 (x.steps : Int)) ∧ W0.cell? ⟨w.heap.size, 2, none⟩ = some (.int .i64 x.came) by rw [hW0]; constructor <;> simp)
  have hdeg := (hN x.node hx).1
  have HO := Lib.hid (fun i hi => ((hN x.node hx).2 i hi).1.1)
  have hz1 := ((Ext.rfl' W0).alloc' (.cells #[] 80)).cell' (HX.out.cell' hz)
  rw [hW0] at hz1
  have Hc := Lib.hid hc'
  have Ha := Lib.hid ha'
  have HS := Lib.hid (longerTo_len N k x)
  clear hc ha hc' ha' hz hN
  obtain ⟨i0, hi, hz0, hz1', hz2⟩ := info_parts Try.infoVW
  have I0 := Lib.hid (And.intro hi (And.intro hz0 (And.intro hz1' hz2)))
  clear hi hz0 hz1' hz2
  unfold walkVal
  go_enter Try.func68, Try.ntmps68
  go_wp2
  rw [← hW0]
  clear hz1 hW0
  go_loopg [7, 19] (gr N.ends x.node).length (fun g s i wr => ∃ j : Nat, j ≤ (gr N.ends x.node).length ∧ g = (gr N.ends x.node).length - j ∧ i = .int .i64 j ∧ Hid (Ext W0 wr ∧ GrowW viewCells 80 W0.heap.size wr s (longerTo N k x j)))
  case atStart => exact ⟨0, Nat.zero_le _, rfl, rfl, (Ext.rfl' _).alloc' _, by rw [show w.heap.size + 1 + 1 = W0.heap.size from by rw [Z0.out]]; exact owns_lit W0 80 5⟩
  case round =>
    obtain ⟨j, hj, rfl, rfl, Hr⟩ := hrel
    by_cases hlt : j < (gr N.ends x.node).length
    · obtain ⟨hc1, hc2, _⟩ := Hc.out j hlt
      obtain rfl := Ha.out (by omega)
      have q1 := Hr.out.1.cell' (HX.out.cell' hc1)
      have q2 := Hr.out.1.cell' (HX.out.cell' hc2)
      have q3 := ((Ext.rfl' wr).alloc' (.cells #[.int .i64 (gn (gr N.ends x.node) j), .int .i64 (gp (gr N.ends x.node) j)] 76)).cell' (Hr.out.1.cell' C0.out.1)
      have q4 := ((Ext.rfl' wr).alloc' (.cells #[.int .i64 (gn (gr N.ends x.node) j), .int .i64 (gp (gr N.ends x.node) j)] 76)).cell' (Hr.out.1.cell' C0.out.2)
      have HL := Lib.hid (HS.out j)
      clear hc1 hc2
      by_cases hcm : (j : Int) = x.came
      · have hb : ((j : Int) != x.came) = false := by simp [hcm]
        have LT := Lib.hid (longerTo_f (N := N) (k := k) hcm)
        clear hcm
        go_wp2_with fail
        go_roundg ((gr N.ends x.node).length - (j + 1))
        case measure => omega
        case rel => exact ⟨j + 1, by omega, rfl, by go_num, Hr.out.1.alloc' _, by rw [LT.out]; exact Hr.out.2.ext ((Ext.rfl' _).alloc' _)⟩
      · have hb : ((j : Int) != x.came) = true := by simp [hcm]
        have LT := Lib.hid (longerTo_t (N := N) (k := k) hcm)
        have LC := Lib.hid (goOn_cells (k := k) (HO.out j hlt))
        clear hcm
        go_wp2_with (at_builtin; refine wpList_app rfl (.tmp 29) (.tmp 38) 81 rfl W0.heap.size 80 i0 (.agg #[.int .i64 0, .int .i64 0, .int .i64 0, .int .i64 0, .int .i64 0]) 5 40 Try.underlying81 I0.out.1 I0.out.2.1 I0.out.2.2.1 I0.out.2.2.2 rfl (by decide) u7 (longerTo N k x j).length (cells5 viewCells (longerTo N k x j)) rfl (owns_ext Hr.out.2 (((Ext.rfl' wr).alloc' _).alloc' _)) (some ⟨wr.heap.size + 1, 0, none⟩) 1 1 [.int .i64 ((x.steps : Int) + 1), .int .i64 (gn (gr N.ends x.node) j), .int .i64 (gp (gr N.ends x.node) j), .int .i64 (k : Int), .int .i64 (j : Int)] rfl (src_five (by simp) _ _ _ _ _ _ rfl rfl rfl rfl rfl) (by have := HL.out; unfold maxLen; omega) (by have := HL.out; omega) (Nat.le_trans Hr.out.1.size (((Ext.rfl' wr).alloc' _).alloc' _).size) ?_; intro v' w3 hg; have E3 := Lib.hid (hg.ext ((Hr.out.1.alloc' _).alloc' _) fun b hb => (Hr.out.2.lt b hb).1); have G3 := Lib.hid (show GrowW viewCells 80 W0.heap.size w3 v' (longerTo N k x (j + 1)) by rw [LT.out]; unfold GrowW; rw [cells5_snoc, LC.out, List.length_append]; exact hg.1); clear hg)
        go_roundg ((gr N.ends x.node).length - (j + 1))
        case measure => omega
        case rel => exact ⟨j + 1, by omega, rfl, by go_num, E3.out, G3.out⟩
    · obtain rfl : j = (gr N.ends x.node).length := by omega
      go_wp2
      go_ret
      exact ⟨_, rfl, HX.out.trans' Hr.out.1, by rw [← Z0.out]; exact Hr.out.2⟩
end Go.Proofs.Ytgacbfblpkikkaa
