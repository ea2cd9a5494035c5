/- Lists of pairs as lists of two numbers, grown by append; when edges fit, reckoned. -/
import Derived.Test.YtpkgghkibgadnaaKi
import Derived.Test.YtpkgghkibgadnaaGa
namespace Go.Proofs.Ytpkgghkibgadnaa
open Go.RowKit

theorem own_pair (w : World) (x y : Int) (h : inI64 x ∧ inI64 y) : OwnI (w.alloc (.cells #[.int .i64 x, .int .i64 y] 3)) (.slice (some ⟨w.heap.size, 0, none⟩) 2 2) [x, y] [w.heap.size] := by
  refine ⟨⟨2, by simp, by unfold maxLen; omega, .inr ⟨w.heap.size, 2, fun j => .int .i64 (gi [x, y] j), rfl, rfl, by simp, World.rowIs_alloc w _ 3 _ fun j hj => ?_, fun j hj => rfl⟩⟩, fun j hj => ?_⟩
  · have h : j < 2 := hj
    match j, h with
    | 0, _ => rfl
    | 1, _ => rfl
  · have h' : j < 2 := hj
    match j, h' with
    | 0, _ => exact h.1
    | 1, _ => exact h.2
/-- A further pair: w2: the world ahead of it; w3: the one behind append. -/
theorem pair_step {B : Nat} {w2 w3 : World} {s v' : Value} {x y : Int} {E : List (Int × Int)} {R : Nat → Value} {T : Nat → List Nat} (h : inI64 x ∧ inI64 y) (hB : B ≤ w2.heap.size)
    (h1 : w2.ownsRow B 23 1 s (rowsOf E).length ((List.range (rowsOf E).length).map R)) (h2 : ∀ j, j < (rowsOf E).length → OwnI w2 (R j) (gr (rowsOf E ++ [[x, y]]) j) (T j)) (h3 : ((List.range (rowsOf E).length).flatMap T).Nodup) (h4 : ∀ b ∈ (List.range (rowsOf E).length).flatMap T, B ≤ b ∧ b < w2.heap.size)
    (hg : Grew ((w2.alloc (.cells #[.int .i64 x, .int .i64 y] 3)).alloc (.cells #[.slice (some ⟨w2.heap.size, 0, none⟩) 2 2] 23)) w3 B 23 1 s v' ((rowsOf E).length + 1) ((List.range (rowsOf E).length).map R ++ [.slice (some ⟨w2.heap.size, 0, none⟩) 2 2])) :
    GrowI B w3 v' (rowsOf (E ++ [(x, y)])) (rowsOf (E ++ [(x, y)])).length ∧ ∀ W : World, Ext W w2 → W.heap.size ≤ B → Ext W w3 := by
  have hx : Ext w2 ((w2.alloc (.cells #[.int .i64 x, .int .i64 y] 3)).alloc (.cells #[.slice (some ⟨w2.heap.size, 0, none⟩) 2 2] 23)) := ((Ext.rfl' w2).alloc' _).alloc' _
  have hq := (own_pair w2 x y h).ext ((Ext.rfl' _).alloc' (.cells #[.slice (some ⟨w2.heap.size, 0, none⟩) 2 2] 23))
  have hl : (rowsOf E ++ [[x, y]]).length = (rowsOf E).length + 1 := by simp
  rw [← rowsOf_snoc]
  refine ⟨?_, fun W hW hWB => hg.ext (hW.trans' hx) fun b hb => Nat.le_trans hWB (h1.lt b hb).1⟩
  rw [hl]
  refine GrowI.step (owns_ext h1 hx) (fun j hj => (h2 j hj).ext hx) h3 (fun b hb => (h4 b hb).1) (bs := [w2.heap.size]) (x := .slice (some ⟨w2.heap.size, 0, none⟩) 2 2) ?_ (fun b hb => ?_) hg
  · rw [gr_snoc, if_pos rfl]; exact hq
  · obtain rfl := List.mem_singleton.1 hb
    exact ⟨hB, fun hb' => by have := (h4 _ hb').2; omega⟩

/-- How many ports a list of edges gives to node v. -/
def degL (v : Nat) : List (Int × Int) → Nat
  | [] => 0
  | p :: t => (if p.1 = v then 1 else 0) + (if p.2 = v then 1 else 0) + degL v t
theorem degL_app (v : Nat) (b : List (Int × Int)) : ∀ a, degL v (a ++ b) = degL v a + degL v b
  | [] => by simp [degL]
  | p :: t => by rw [List.cons_append, degL, degL, degL_app v b t]; omega
theorem degTo_take (E : List (Int × Int)) (v : Nat) : ∀ i, i ≤ E.length → degTo E v i = degL v (E.take i)
  | 0, _ => by simp [degTo, degL]
  | i + 1, hi => by
    rw [degTo, degTo_take E v i (by omega), List.take_succ_eq_append_getElem (by omega), degL_app]
    have e1 : gn E i = (E[i]'(by omega)).1 := by simp [gn, List.getD, show i < E.length by omega]
    have e2 : gp E i = (E[i]'(by omega)).2 := by simp [gp, List.getD, show i < E.length by omega]
    rw [e1, e2]
    simp only [degL]
    omega
def edgesC (n : Nat) (E : List (Int × Int)) : Bool := E.all (fun p => decide (0 ≤ p.1 ∧ p.1 < n ∧ 0 ≤ p.2 ∧ p.2 < n)) && (List.range n).all (fun v => decide (degL v E ≤ 6))
theorem edgesC_ok {n : Nat} {E : List (Int × Int)} (h : edgesC n E = true) : EdgesOK n E := by
  unfold edgesC at h
  rw [Bool.and_eq_true, List.all_eq_true, List.all_eq_true] at h
  refine ⟨fun i hi => ?_, fun v hv => ?_⟩
  · have e1 : gn E i = E[i].1 := by simp [gn, List.getD, hi]
    have e2 : gp E i = E[i].2 := by simp [gp, List.getD, hi]
    rw [e1, e2]
    exact of_decide_eq_true (h.1 _ (List.getElem_mem hi))
  · rw [degTo_take E v _ (Nat.le_refl _), List.take_length]
    exact of_decide_eq_true (h.2 v (List.mem_range.2 hv))

/-- The same pairs by one number that counts through rows of D. -/
def catFlat (f : Nat → Nat → List (Int × Int)) (D : Nat) : Nat → List (Int × Int)
  | 0 => []
  | k + 1 => catFlat f D k ++ f (k / D) (k % D)
theorem catFlat_some (f : Nat → Nat → List (Int × Int)) {D : Nat} : ∀ v i, i ≤ D → catFlat f D (v * D + i) = catSome f D v i
  | 0, 0, _ => by simp [catFlat, catSome, catTo, catRow]
  | v + 1, 0, _ => by
    rw [catSome_zero, ← catSome_all, ← catFlat_some f v D (Nat.le_refl _), Nat.succ_mul]
    rfl
  | v, i + 1, hi => by
    have hd : 0 < D := by omega
    rw [catSome_succ, ← catFlat_some f v i (by omega), ← Nat.add_assoc, catFlat]
    rw [show (v * D + i) / D = v by rw [Nat.mul_comm, Nat.mul_add_div hd, Nat.div_eq_of_lt (by omega), Nat.add_zero], show (v * D + i) % D = i by rw [Nat.mul_comm, Nat.mul_add_mod, Nat.mod_eq_of_lt (by omega)]]
theorem catFlat_all (f : Nat → Nat → List (Int × Int)) (D v : Nat) : catFlat f D (v * D) = catTo f D v := by
  have := catFlat_some f (D := D) v 0 (Nat.zero_le _)
  rwa [Nat.add_zero, catSome_zero] at this
theorem catFlat_one {f : Nat → Nat → Int × Int} {D : Nat} : ∀ n, (catFlat (fun v i => [f v i]) D n).length = n ∧ ∀ k, k < n → gn (catFlat (fun v i => [f v i]) D n) k = (f (k / D) (k % D)).1 ∧ gp (catFlat (fun v i => [f v i]) D n) k = (f (k / D) (k % D)).2
  | 0 => ⟨rfl, fun k hk => absurd hk (by omega)⟩
  | n + 1 => by
    obtain ⟨h1, h2⟩ := catFlat_one (f := f) (D := D) n
    refine ⟨by rw [catFlat, List.length_append, h1]; rfl, fun k hk => ?_⟩
    rw [catFlat]
    by_cases e : k < n
    · rw [(gn_app_lt (by omega)).1, (gn_app_lt (by omega)).2]; exact h2 k e
    · obtain rfl : k = n := by omega
      rw [(gn_app_ge (by omega)).1, (gn_app_ge (by omega)).2, h1, Nat.sub_self]
      exact ⟨rfl, rfl⟩
end Go.Proofs.Ytpkgghkibgadnaa
