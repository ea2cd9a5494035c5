import Derived.Test.YtkeiaahlifdbiaaPerm
namespace Go.Proofs.Ytkeiaahlifdbiaa
open Go.RowKit

/-- A change of a network: its kind, the network, a port, a list. -/
def ChgAt (w : World) (c : Value) (k : Int) (N : Net) (x y : Int) (l : List Int) : Prop :=
  ∃ v0 v1 v2 v3, c = .agg #[.int .i64 k, v0, v1, v2, .int .i64 x, .int .i64 y, v3] ∧ NetAt w (.agg #[v0, v1, v2]) N ∧ IntSl w v3 l
theorem ChgAt.ext {w w' : World} {c : Value} {k : Int} {N : Net} {x y : Int} {l : List Int} (h : ChgAt w c k N x y l) (he : Ext w w') : ChgAt w' c k N x y l := by
  obtain ⟨v0, v1, v2, v3, h1, h2, h3⟩ := h
  exact ⟨v0, v1, v2, v3, h1, h2.ext he, h3.ext he⟩

/-- The cells of a change that is boxed. -/
theorem chg_cells (w : World) (k : Int) (v0 v1 v2 v3 : Value) (x y : Int) :
    (w.alloc (.cells #[.int .i64 k, v0, v1, v2, .int .i64 x, .int .i64 y, v3] 119)).cell? ⟨w.heap.size, 0, none⟩ = some (.int .i64 k) ∧
    (w.alloc (.cells #[.int .i64 k, v0, v1, v2, .int .i64 x, .int .i64 y, v3] 119)).cell? ⟨w.heap.size, 1, none⟩ = some v0 ∧
    (w.alloc (.cells #[.int .i64 k, v0, v1, v2, .int .i64 x, .int .i64 y, v3] 119)).cell? ⟨w.heap.size, 2, none⟩ = some v1 ∧
    (w.alloc (.cells #[.int .i64 k, v0, v1, v2, .int .i64 x, .int .i64 y, v3] 119)).cell? ⟨w.heap.size, 3, none⟩ = some v2 ∧
    (w.alloc (.cells #[.int .i64 k, v0, v1, v2, .int .i64 x, .int .i64 y, v3] 119)).cell? ⟨w.heap.size, 4, none⟩ = some (.int .i64 x) ∧
    (w.alloc (.cells #[.int .i64 k, v0, v1, v2, .int .i64 x, .int .i64 y, v3] 119)).cell? ⟨w.heap.size, 5, none⟩ = some (.int .i64 y) ∧
    (w.alloc (.cells #[.int .i64 k, v0, v1, v2, .int .i64 x, .int .i64 y, v3] 119)).cell? ⟨w.heap.size, 6, none⟩ = some v3 := by
  refine ⟨?_, ?_, ?_, ?_, ?_, ?_, ?_⟩ <;> simp

set_option maxHeartbeats 800000 in
set_option maxRecDepth 100000 in
theorem staysAll_any {w : World} {c : Value} {k : Int} {N : Net} {x y : Int} {l : List Int} (v i : Nat) (h : ChgAt w c k N x y l) (hk0 : (k == 0) = false) (hk3 : (k == 3) = false) (hv : v < N.ends.length) (hi : i < (gr N.ends v).length) :
    Calls Try.prog 165 #[c, .agg #[.int .i64 v, .int .i64 i]] w fun e w' => e = .returned (.bool true) ∧ Ext w w' := by
  obtain ⟨v0, v1, v2, v3, rfl, ⟨_, _, _, h0, hE, hI, hP⟩, hL⟩ := h
  cases h0
  clear hI hP hL
  obtain ⟨a, b, o, c, rfl, ha, hl, hm, hc⟩ := hE
  unfold maxLen at hm
  obtain ⟨z, hz, hz2⟩ := hc v hv
  obtain ⟨a', b', o', c', rfl, ha', hl', hm', hc'⟩ := hz2
  unfold maxLen at hm'
  obtain ⟨q1, q2, _, _⟩ := hc' i hi
  obtain rfl := ha (by omega)
  obtain rfl := ha' (by omega)
  have hX := ((Ext.rfl' w).alloc' (.cells #[.int .i64 k, .slice (some ⟨b, o, none⟩) N.ends.length c, v1, v2, .int .i64 x, .int .i64 y, v3] 119)).alloc' (.cells #[.int .i64 v, .int .i64 i] 66)
  have z1 := hX.cell' hz
  have z2 := hX.cell' q1
  have z3 := hX.cell' q2
  have hY := (Ext.rfl' (w.alloc (.cells #[.int .i64 k, .slice (some ⟨b, o, none⟩) N.ends.length c, v1, v2, .int .i64 x, .int .i64 y, v3] 119))).alloc' (.cells #[.int .i64 v, .int .i64 i] 66)
  obtain ⟨c0, c1, _, _, _, _, _⟩ := chg_cells w k (.slice (some ⟨b, o, none⟩) N.ends.length c) v1 v2 v3 x y
  have c0 := hY.cell' c0
  have c1 := hY.cell' c1
  have d0 : ((w.alloc (.cells #[.int .i64 k, .slice (some ⟨b, o, none⟩) N.ends.length c, v1, v2, .int .i64 x, .int .i64 y, v3] 119)).alloc (.cells #[.int .i64 v, .int .i64 i] 66)).cell? ⟨w.heap.size + 1, 0, none⟩ = some (.int .i64 v) := by simp
  have d1 : ((w.alloc (.cells #[.int .i64 k, .slice (some ⟨b, o, none⟩) N.ends.length c, v1, v2, .int .i64 x, .int .i64 y, v3] 119)).alloc (.cells #[.int .i64 v, .int .i64 i] 66)).cell? ⟨w.heap.size + 1, 1, none⟩ = some (.int .i64 i) := by simp
  have HX := Lib.hid hX
  clear hc hc' ha ha' hX hY hz q1 q2
  go_enter Try.func165, Try.ntmps165
  go_wp2
  generalize (w.alloc (.cells #[.int .i64 k, .slice (some ⟨b, o, none⟩) N.ends.length c, v1, v2, .int .i64 x, .int .i64 y, v3] 119)).alloc (.cells #[.int .i64 v, .int .i64 i] 66) = W0 at *
  have mkS : ∀ w', Ext W0 w' → w'.cell? ⟨w.heap.size, 0, none⟩ = some (.int .i64 k) ∧ w'.cell? ⟨w.heap.size, 1, none⟩ = some (.slice (some ⟨b, o, none⟩) N.ends.length c) ∧ w'.cell? ⟨w.heap.size + 1, 0, none⟩ = some (.int .i64 v) ∧ w'.cell? ⟨w.heap.size + 1, 1, none⟩ = some (.int .i64 i) ∧ w'.cell? ⟨b, o + v, none⟩ = some (.slice (some ⟨b', o', none⟩) (gr N.ends v).length c') ∧ w'.cell? ⟨b', o' + i * 2, none⟩ = some (.int .i64 (gn (gr N.ends v) i)) ∧ w'.cell? ⟨b', o' + i * 2 + 1, none⟩ = some (.int .i64 (gp (gr N.ends v) i)) ∧ Hid (Ext W0 w') := fun w' h => ⟨h.cell' c0, h.cell' c1, h.cell' d0, h.cell' d1, h.cell' z1, h.cell' z2, h.cell' z3, h⟩
  go_region_held3 (fun w' => w'.cell? ⟨w.heap.size, 0, none⟩ = some (.int .i64 k) ∧ w'.cell? ⟨w.heap.size, 1, none⟩ = some (.slice (some ⟨b, o, none⟩) N.ends.length c) ∧ w'.cell? ⟨w.heap.size + 1, 0, none⟩ = some (.int .i64 v) ∧ w'.cell? ⟨w.heap.size + 1, 1, none⟩ = some (.int .i64 i) ∧ w'.cell? ⟨b, o + v, none⟩ = some (.slice (some ⟨b', o', none⟩) (gr N.ends v).length c') ∧ w'.cell? ⟨b', o' + i * 2, none⟩ = some (.int .i64 (gn (gr N.ends v) i)) ∧ w'.cell? ⟨b', o' + i * 2 + 1, none⟩ = some (.int .i64 (gp (gr N.ends v) i)) ∧ Hid (Ext W0 w'))
      (exact mkS _ (by repeat (first | exact Ext.rfl' _ | refine Ext.alloc' ?_ _ | refine Ext.drew' ?_ | refine Ext.store ?_ (by simp) _)))
      (first | fail)
  all_goals go_wp2
  go_ret
  exact ⟨rfl, (HX.out.trans' ((Ext.rfl' W0).alloc' _)).drew'⟩

set_option maxHeartbeats 800000 in
set_option maxRecDepth 100000 in
theorem stayingAll_any {w : World} {c : Value} {k : Int} {N : Net} {x y : Int} {l : List Int} (v n : Nat) (h : ChgAt w c k N x y l) (hk0 : (k == 0) = false) (hk3 : (k == 3) = false) (hv : v < N.ends.length) (hi : n ≤ (gr N.ends v).length) (hn : n ≤ 1048576) :
    Calls Try.prog 164 #[c, .int .i64 v, .int .i64 n] w fun e w' => e = .returned (.int .i64 n) ∧ Ext w w' := by
  have H := Lib.hid h
  have HK := Lib.hid (And.intro hk0 hk3)
  obtain ⟨v0, v1, v2, v3, rfl, _, _⟩ := h
  clear hk0 hk3
  have HC := Lib.hid (chg_cells w k v0 v1 v2 v3 x y)
  have HX := Lib.hid ((Ext.rfl' w).alloc' (.cells #[.int .i64 k, v0, v1, v2, .int .i64 x, .int .i64 y, v3] 119))
  go_enter Try.func164, Try.ntmps164
  go_wp2
  generalize w.alloc (.cells #[.int .i64 k, v0, v1, v2, .int .i64 x, .int .i64 y, v3] 119) = W0 at *
  go_loopg [7, 10] n (fun g t i wr => ∃ j : Nat, j ≤ n ∧ g = n - j ∧ i = .int .i64 j ∧ t = .int .i64 j ∧ Hid (Ext W0 wr))
  case atStart => exact ⟨0, Nat.zero_le _, rfl, rfl, rfl, Ext.rfl' _⟩
  case round =>
    obtain ⟨j, hj, rfl, rfl, rfl, Hr⟩ := hrel
    by_cases hlt : j < n
    · obtain ⟨c0, c1, c2, c3, c4, c5, c6⟩ := HC.out
      have c0 := Hr.out.cell' c0
      have c1 := Hr.out.cell' c1
      have c2 := Hr.out.cell' c2
      have c3 := Hr.out.cell' c3
      have c4 := Hr.out.cell' c4
      have c5 := Hr.out.cell' c5
      have c6 := Hr.out.cell' c6
      go_wp2_with (go_at_call 165; (with_reducible refine (staysAll_any _ _ (H.out.ext (HX.out.trans' Hr.out)) HK.out.1 HK.out.2 hv (by omega)).mono ?_); rintro e w1 ⟨rfl, hw⟩; have K1 := Lib.hid (Hr.out.trans' hw); clear hw)
      go_roundg (n - (j + 1))
      case measure => omega
      case rel => exact ⟨j + 1, by omega, rfl, by go_num, by go_num, K1.out⟩
    · obtain rfl : j = n := by omega
      go_wp2
      go_ret
      exact ⟨rfl, HX.out.trans' Hr.out⟩
end Go.Proofs.Ytkeiaahlifdbiaa
