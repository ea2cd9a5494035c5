/- The law of ParsePort. -/
import Derived.Test.YtecgajpjcaemmaaDoorSp
namespace Go.Proofs.YtecgajpjcaemmaaDoor
open Go.RowKit

theorem pair0 (w : World) (x y : Value) (t : TypeId) : (w.alloc (.cells #[x, y] t)).cell? ⟨w.heap.size, 0, none⟩ = some x := by simp
theorem pair1 (w : World) (x y : Value) (t : TypeId) : (w.alloc (.cells #[x, y] t)).cell? ⟨w.heap.size, 1, none⟩ = some y := by simp

set_option maxHeartbeats 400000 in
set_option maxRecDepth 100000 in
theorem specParse_as (l : Bs) (x y : Int) (b : Bool) (hT : ∀ w' : World, Calls Tryd.prog 43 #[.string (bs l)] w' fun e w'' => e = .returned (.tuple #[.agg #[.int .i64 x, .int .i64 y], .bool b]) ∧ Ext w' w'') (w : World) :
    Calls Tryd.prog 14 #[.string (bs l)] w fun e w' => e = .returned (.tuple #[.agg #[.int .i64 x, .int .i64 y], .bool b]) ∧ Ext w w' := by
  have HX := Lib.hid ((Ext.rfl' w).alloc' (.cells #[.int .i64 0, .int .i64 0] 26))
  have HB := Lib.hid (two_row w)
  have HT := Lib.hid hT
  clear hT
  go_enter Tryd.func14, Tryd.ntmps14
  go_wp2_with (go_at_call 43; (with_reducible refine (HT.out _).mono ?_); rintro e w1 ⟨rfl, hx⟩; have K1 := Lib.hid (HX.out.trans' hx); have KB := Lib.hid (row_ext HB.out hx); obtain ⟨f1, f2, f3, f4⟩ := row_two KB.out (i := 0) (by omega); simp only [Nat.zero_add] at f3 f4; have f5 := KB.out.cell (i := 1) (by omega); have f6 := KB.out.frozen 1; clear hx)
  refine bodyPost_ret (v := .tuple #[.agg #[.int .i64 x, .int .i64 y], .bool b]) (by simp [results, Tryd.results14, go_sem, f1, f5]) rfl ⟨rfl, ?_⟩
  exact (K1.out.store (Nat.le_refl _) _).store (Nat.le_refl _) _

set_option maxHeartbeats 400000 in
set_option maxRecDepth 100000 in
theorem law_ParsePort (l : Bs) (hl : l.length ≤ 1048576) (x y : Int) (b : Bool) (w : World) (hL : Lb w) (hS : ∀ w' : World, Calls Tryd.prog 14 #[.string (bs l)] w' fun e w'' => e = .returned (.tuple #[.agg #[.int .i64 x, .int .i64 y], .bool b]) ∧ Ext w' w'')
    (hI : ∀ w' : World, Lb w' → Calls Tryd.prog 15 #[.string (bs l)] w' fun e w'' => e = .returned (.tuple #[.agg #[.int .i64 x, .int .i64 y], .bool b]) ∧ Ext w' w'') :
    Calls Tryd.prog 4 #[.string (bs l)] w fun e w' => e = .returned (.bool true) ∧ Ext w w' := by
  have hsz := bs_size l
  have H := Lib.hid hL
  have HS := Lib.hid hS
  have HI := Lib.hid hI
  have hbb : (b != b) = false := by cases b <;> rfl
  clear hL hS hI
  go_enter Tryd.func4, Tryd.ntmps4
  go_wp2_with (go_at_call 14; (with_reducible refine (HS.out _).mono ?_); rintro e w1 ⟨rfl, hx⟩; have K1 := Lib.hid (hx.alloc' (.cells #[.int .i64 x, .int .i64 y] 26)); clear hx)
  go_wp2_with (go_at_call 15; (with_reducible refine (HI.out _ (H.out.ext K1.out)).mono ?_); rintro e w2 ⟨rfl, hx⟩; have K2 := Lib.hid ((K1.out.trans' hx).alloc' (.cells #[.int .i64 x, .int .i64 y] 26)); have E2 := (Ext.rfl' w2).alloc' (.cells #[.int .i64 x, .int .i64 y] 26); have g0 := E2.cell' (hx.cell' (pair0 _ _ _ _)); have g1 := E2.cell' (hx.cell' (pair1 _ _ _ _)); clear hx E2)
  go_wp2_with (go_at_call 16; (with_reducible refine (eqEnd_same x y _).mono ?_); rintro e w3 ⟨rfl, hx⟩; have K3 := Lib.hid (K2.out.trans' hx); clear hx)
  go_ret
  exact ⟨rfl, K3.out⟩

set_option maxRecDepth 100000 in
theorem walk_ParsePort (s : ByteArray) (hs : s.size ≤ maxLen) (w : World) (hL : Lb w) :
    Calls Tryd.prog 4 #[.string s] w fun e w' => e = .returned (.bool true) ∧ Ext w w' := by
  obtain ⟨l, rfl⟩ : ∃ l, s = bs l := ⟨s.data.toList, (Go.Lib.mk_data s).symm⟩
  by_cases hl : l.length ≤ 1048576
  · have hS : ∀ w' : World, Calls Tryd.prog 43 #[.string (bs l)] w' fun e w'' => e = ppAns l ∧ Ext w' w'' := fun w' => txPort_any l hl w'
    have hI : ∀ w' : World, Lb w' → Calls Tryd.prog 15 #[.string (bs l)] w' fun e w'' => e = ppAns l ∧ Ext w' w'' := fun w' h => implParse_any l hl w' h
    by_cases hp : PortTx l
    · rw [ppAns_t hp] at hS hI
      exact law_ParsePort l hl _ _ _ w hL (specParse_as l _ _ _ hS) hI
    · rw [ppAns_f hp] at hS hI
      exact law_ParsePort l hl _ _ _ w hL (specParse_as l _ _ _ hS) hI
  · have hsz := bs_size l
    rw [hsz] at hs
    unfold maxLen at hs
    have hl' : (1048576 : Int) < l.length := by omega
    clear hL
    go_enter Tryd.func4, Tryd.ntmps4
    go_wp2
    go_ret
    exact ⟨rfl, Ext.rfl' _⟩
end Go.Proofs.YtecgajpjcaemmaaDoor
