/- The program's removal of an edge: after answers cutNet. -/
import Derived.Test.YtkeiaahlifdbiaaCnt
import Derived.Test.YtkeiaahlifdbiaaPp
import Derived.Test.YtkeiaahlifdbiaaChG
import Derived.RegionTactic
namespace Go.Proofs.Ytkeiaahlifdbiaa
open Go.RowKit

/-- Whether port i of node v is neither the port y of node x nor joined with it. -/
def st0 (N : Net) (x y : Int) (v i : Nat) : Bool := !((v : Int) == x && (i : Int) == y) && !(gn (gr N.ends v) i == x && gp (gr N.ends v) i == y)

set_option maxHeartbeats 1600000 in
set_option maxRecDepth 100000 in
theorem stays0_any {w : World} {c : Value} {N : Net} {x y : Int} {l : List Int} (v i : Nat) (h : ChgAt w c 0 N x y l) (hv : v < N.ends.length) (hi : i < (gr N.ends v).length) :
    Calls Try.prog 165 #[c, .agg #[.int .i64 v, .int .i64 i]] w fun e w' => e = .returned (.bool (st0 N x y v i)) ∧ Ext w w' := by
  obtain ⟨v0, v1, v2, v3, rfl, ⟨_, _, _, h0, hE, hI, hP⟩, hL⟩ := h
  cases h0
  clear hI hP hL
  obtain ⟨a, b, o, c, rfl, ha, hl, hm, hc⟩ := hE
  unfold maxLen at hm
  obtain ⟨z, hz, hz2⟩ := hc v hv
  obtain ⟨a', b', o', c', rfl, ha', hl', hm', hc'⟩ := hz2
  unfold maxLen at hm'
  obtain ⟨q1, q2, _, _⟩ := hc' i hi
  obtain rfl := ha (by omega)
  obtain rfl := ha' (by omega)
  have hX := ((Ext.rfl' w).alloc' (.cells #[.int .i64 0, .slice (some ⟨b, o, none⟩) N.ends.length c, v1, v2, .int .i64 x, .int .i64 y, v3] 119)).alloc' (.cells #[.int .i64 v, .int .i64 i] 66)
  have z1 := hX.cell' hz
  have z2 := hX.cell' q1
  have z3 := hX.cell' q2
  have hY := (Ext.rfl' (w.alloc (.cells #[.int .i64 0, .slice (some ⟨b, o, none⟩) N.ends.length c, v1, v2, .int .i64 x, .int .i64 y, v3] 119))).alloc' (.cells #[.int .i64 v, .int .i64 i] 66)
  obtain ⟨c0, c1, -, -, c4, c5, -⟩ := chg_cells w 0 (.slice (some ⟨b, o, none⟩) N.ends.length c) v1 v2 v3 x y
  have c0 := hY.cell' c0
  have c1 := hY.cell' c1
  have c4 := hY.cell' c4
  have c5 := hY.cell' c5
  have d0 : ((w.alloc (.cells #[.int .i64 0, .slice (some ⟨b, o, none⟩) N.ends.length c, v1, v2, .int .i64 x, .int .i64 y, v3] 119)).alloc (.cells #[.int .i64 v, .int .i64 i] 66)).cell? ⟨w.heap.size + 1, 0, none⟩ = some (.int .i64 v) := by simp
  have d1 : ((w.alloc (.cells #[.int .i64 0, .slice (some ⟨b, o, none⟩) N.ends.length c, v1, v2, .int .i64 x, .int .i64 y, v3] 119)).alloc (.cells #[.int .i64 v, .int .i64 i] 66)).cell? ⟨w.heap.size + 1, 1, none⟩ = some (.int .i64 i) := by simp
  have HX := Lib.hid hX
  clear hc hc' ha ha' hX hY hz q1 q2
  obtain ⟨b1, hb1⟩ : ∃ b, ((v : Int) == x) = b := ⟨_, rfl⟩
  obtain ⟨b2, hb2⟩ : ∃ b, ((i : Int) == y) = b := ⟨_, rfl⟩
  obtain ⟨b3, hb3⟩ : ∃ b, (gn (gr N.ends v) i == x) = b := ⟨_, rfl⟩
  obtain ⟨b4, hb4⟩ : ∃ b, (gp (gr N.ends v) i == y) = b := ⟨_, rfl⟩
  have hst : st0 N x y v i = (!(b1 && b2) && !(b3 && b4)) := by unfold st0; rw [hb1, hb2, hb3, hb4]
  rw [hst]
  clear hst
  go_enter Try.func165, Try.ntmps165
  go_wp2_with fail
  generalize (w.alloc (.cells #[.int .i64 0, .slice (some ⟨b, o, none⟩) N.ends.length c, v1, v2, .int .i64 x, .int .i64 y, v3] 119)).alloc (.cells #[.int .i64 v, .int .i64 i] 66) = W0 at *
  have hA := (Ext.rfl' W0).alloc' (.cells #[.int .i64 0, .int .i64 0] 66)
  have hB := (Ext.rfl' W0).alloc' (.cells #[.int .i64 (gn (gr N.ends v) i), .int .i64 (gp (gr N.ends v) i)] 66)
  have f1 := hA.cell' c1
  have f2 := hA.cell' d0
  have f3 := hA.cell' d1
  have f4 := hA.cell' z1
  have f5 := hA.cell' z2
  have f6 := hA.cell' z3
  have hB := hB.drew'
  have g0 := hB.cell' c0
  have g4 := hB.cell' c4
  have g5 := hB.cell' c5
  have g6 := hB.cell' d0
  have g7 := hB.cell' d1
  have e0 : (W0.alloc (.cells #[.int .i64 (gn (gr N.ends v) i), .int .i64 (gp (gr N.ends v) i)] 66)).drew.cell? ⟨W0.heap.size, 0, none⟩ = some (.int .i64 (gn (gr N.ends v) i)) := by simp
  have e1 : (W0.alloc (.cells #[.int .i64 (gn (gr N.ends v) i), .int .i64 (gp (gr N.ends v) i)] 66)).drew.cell? ⟨W0.heap.size, 1, none⟩ = some (.int .i64 (gp (gr N.ends v) i)) := by simp
  have HY := Lib.hid (HX.out.trans' hB)
  clear hA hB
  go_region
  clear f1 f2 f3 f4 f5 f6 c0 c1 c4 c5 d0 d1 z1 z2 z3
  revert g0 g4 g5 g6 g7 e0 e1 HY
  generalize (W0.alloc (.cells #[.int .i64 (gn (gr N.ends v) i), .int .i64 (gp (gr N.ends v) i)] 66)).drew = W1
  intro g0 g4 g5 g6 g7 e0 e1 HY
  cases b1 <;> cases b2 <;> cases b3 <;> cases b4
  all_goals (go_wp2; go_ret; exact ⟨by simp, HY.out⟩)
end Go.Proofs.Ytkeiaahlifdbiaa
