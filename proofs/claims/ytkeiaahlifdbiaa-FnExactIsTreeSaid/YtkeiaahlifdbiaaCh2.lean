/- portAfter and nodeAfter for a change that renumbers the nodes. -/
import Derived.Test.YtkeiaahlifdbiaaCh
namespace Go.Proofs.Ytkeiaahlifdbiaa
open Go.RowKit

set_option maxHeartbeats 800000 in
set_option maxRecDepth 100000 in
theorem portAfter2_any {w : World} {c : Value} {N : Net} {x y : Int} {l : List Int} (v i : Nat) (h : ChgAt w c 2 N x y l) (hv : v < N.ends.length) (hi : i < (gr N.ends v).length) (hn : i ≤ 1048576) :
    Calls Try.prog 166 #[c, .agg #[.int .i64 v, .int .i64 i]] w fun e w' => e = .returned (.int .i64 i) ∧ Ext w w' := by
  have H := Lib.hid h
  obtain ⟨v0, v1, v2, v3, rfl, _, _⟩ := h
  have hX := ((Ext.rfl' w).alloc' (.cells #[.int .i64 2, v0, v1, v2, .int .i64 x, .int .i64 y, v3] 119)).alloc' (.cells #[.int .i64 v, .int .i64 i] 66)
  have HX := Lib.hid hX
  have hY := (Ext.rfl' (w.alloc (.cells #[.int .i64 2, v0, v1, v2, .int .i64 x, .int .i64 y, v3] 119))).alloc' (.cells #[.int .i64 v, .int .i64 i] 66)
  obtain ⟨c0, c1, c2, c3, c4, c5, c6⟩ := chg_cells w 2 v0 v1 v2 v3 x y
  have c0 := hY.cell' c0
  have c1 := hY.cell' c1
  have c2 := hY.cell' c2
  have c3 := hY.cell' c3
  have c4 := hY.cell' c4
  have c5 := hY.cell' c5
  have c6 := hY.cell' c6
  have d0 : ((w.alloc (.cells #[.int .i64 2, v0, v1, v2, .int .i64 x, .int .i64 y, v3] 119)).alloc (.cells #[.int .i64 v, .int .i64 i] 66)).cell? ⟨w.heap.size + 1, 0, none⟩ = some (.int .i64 v) := by simp
  have d1 : ((w.alloc (.cells #[.int .i64 2, v0, v1, v2, .int .i64 x, .int .i64 y, v3] 119)).alloc (.cells #[.int .i64 v, .int .i64 i] 66)).cell? ⟨w.heap.size + 1, 1, none⟩ = some (.int .i64 i) := by simp
  clear hX hY
  go_enter Try.func166, Try.ntmps166
  go_wp2_with (go_at_call 164; (with_reducible refine (stayingAll_any _ _ (H.out.ext HX.out) rfl rfl hv (Nat.le_of_lt hi) hn).mono ?_); rintro e w1 ⟨rfl, hw⟩; have K1 := Lib.hid (HX.out.trans' hw); clear hw)
  go_ret
  exact ⟨rfl, K1.out⟩

set_option maxHeartbeats 800000 in
set_option maxRecDepth 100000 in
theorem nodeAfter2_any {w : World} {c : Value} {N : Net} {x y : Int} {l : List Int} (v : Nat) (h : ChgAt w c 2 N x y l) (hv : v < l.length) :
    Calls Try.prog 160 #[c, .int .i64 v] w fun e w' => e = .returned (.int .i64 (gi l v)) ∧ Ext w w' := by
  obtain ⟨v0, v1, v2, v3, rfl, _, a, b, o, cc, rfl, ha, hl, hm, hc⟩ := h
  unfold maxLen at hm
  obtain ⟨_, hz, rfl, _⟩ := hc v hv
  obtain rfl := ha (by omega)
  have hX := (Ext.rfl' w).alloc' (.cells #[.int .i64 2, v0, v1, v2, .int .i64 x, .int .i64 y, .slice (some ⟨b, o, none⟩) l.length cc] 119)
  have HX := Lib.hid hX
  have z1 := hX.cell' hz
  obtain ⟨c0, c1, c2, c3, c4, c5, c6⟩ := chg_cells w 2 v0 v1 v2 (.slice (some ⟨b, o, none⟩) l.length cc) x y
  clear ha hc hz hX
  go_enter Try.func160, Try.ntmps160
  go_wp2
  go_ret
  exact ⟨rfl, HX.out⟩
end Go.Proofs.Ytkeiaahlifdbiaa
