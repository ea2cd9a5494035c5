/- Balls: the indices of a list whose elements lie in a range; the contracts of nodesAround and meBall. -/
import Derived.Test.YtkpdbceglejbnaaZc
import Derived.Test.YtkpdbceglejbnaaZd
namespace Go.Proofs.Ytkpdbceglejbnaa
open Go.RowKit

set_option maxRecDepth 100000 in
theorem isBetween_any (n lo hi : Int) (w : World) : Calls Try.prog 140 #[.int .i64 n, .int .i64 lo, .int .i64 hi] w fun e w' => e = .returned (.bool (dec (InB n lo hi))) ∧ w = w' := by
  by_cases h1 : lo ≤ n
  · have d1 : decide (lo ≤ n) = true := by simpa using h1
    by_cases h2 : n ≤ hi
    · have e := Lib.hid (dec_true (p := InB n lo hi) ⟨h1, h2⟩)
      have d2 : decide (n ≤ hi) = true := by simpa using h2
      go_enter Try.func140, Try.ntmps140
      go_wp2
      go_ret
      exact ⟨ret_bool e.out.symm, rfl⟩
    · have e := Lib.hid (dec_false (p := InB n lo hi) (fun h => h2 h.2))
      have d2 : decide (n ≤ hi) = false := by simpa using h2
      go_enter Try.func140, Try.ntmps140
      go_wp2
      go_ret
      exact ⟨ret_bool e.out.symm, rfl⟩
  · have e := Lib.hid (dec_false (p := InB n lo hi) (fun h => h1 h.1))
    have d1 : decide (lo ≤ n) = false := by simpa using h1
    go_enter Try.func140, Try.ntmps140
    go_wp2
    go_ret
    exact ⟨ret_bool e.out.symm, rfl⟩
/-- The indices, among the first k, of elements in a range. -/
def idxs (l : List Int) (lo hi : Int) : Nat → List Int
  | 0 => []
  | k + 1 => if lo ≤ gi l k ∧ gi l k ≤ hi then idxs l lo hi k ++ [(k : Int)] else idxs l lo hi k
theorem idxs_len (l : List Int) (lo hi : Int) : ∀ k, (idxs l lo hi k).length ≤ k
  | 0 => by simp [idxs]
  | k + 1 => by
    have := idxs_len l lo hi k
    simp only [idxs]; split
    · simp; omega
    · omega
theorem idxs_mem (l : List Int) (lo hi : Int) : ∀ (k : Nat) (x : Int), x ∈ idxs l lo hi k ↔ ∃ v : Nat, v < k ∧ x = (v : Int) ∧ lo ≤ gi l v ∧ gi l v ≤ hi
  | 0, x => by simp [idxs]
  | k + 1, x => by
    have ih := idxs_mem l lo hi k x
    simp only [idxs]
    split
    · rename_i hc
      rw [List.mem_append, ih, List.mem_singleton]
      constructor
      · rintro (⟨v, h1, h2⟩ | rfl)
        · exact ⟨v, by omega, h2⟩
        · exact ⟨k, by omega, rfl, hc⟩
      · rintro ⟨v, h1, h2, h3⟩
        by_cases e : v = k
        · subst e; exact .inr h2
        · exact .inl ⟨v, by omega, h2, h3⟩
    · rename_i hc
      rw [ih]
      constructor
      · rintro ⟨v, h1, h2⟩; exact ⟨v, by omega, h2⟩
      · rintro ⟨v, h1, h2, h3⟩
        by_cases e : v = k
        · subst e; exact absurd h3 hc
        · exact ⟨v, by omega, h2, h3⟩
theorem idxs_range (l : List Int) (lo hi : Int) (k : Nat) : ∀ i, i < (idxs l lo hi k).length → 0 ≤ gi (idxs l lo hi k) i ∧ gi (idxs l lo hi k) i < (k : Int) := fun i hi' => by
  obtain ⟨v, h1, h2, -⟩ := (idxs_mem l lo hi k _).1 (gi_in hi')
  omega
def ball (N : Net) (x lo hi : Int) : List Int := idxs (dst N x) lo hi N.ends.length
theorem ball_len (N : Net) (x lo hi : Int) : (ball N x lo hi).length ≤ N.ends.length := idxs_len _ _ _ _

set_option maxHeartbeats 6400000 in
set_option maxRecDepth 100000 in
theorem nodesAround_any {w : World} {vn : Value} {N : Net} (x : Nat) (lo hi : Int) (hx : x < N.ends.length) (h : NetAt w vn N) (hG : GoodW N) :
    Calls Try.prog 156 #[vn, .int .i64 x, .int .i64 lo, .int .i64 hi] w fun e w' => ∃ v' bs, e = .returned v' ∧ Ext w w' ∧ OwnI w' v' (ball N x lo hi) bs ∧ Fresh w bs := by
  have HA := Lib.hid h
  have GA := Lib.hid hG
  obtain ⟨v0, v1, v2, rfl, hEa, -, -⟩ := h
  clear hEa hG
  have hA1 := GA.out.one
  have hA40 := GA.out.most
  have hxI : 0 ≤ (x : Int) ∧ (x : Int) < N.ends.length := by omega
  obtain ⟨i0, hi, hz0, hz1, hz2⟩ := info_parts Try.info3
  have I0 := Lib.hid (And.intro hi (And.intro hz0 (And.intro hz1 hz2)))
  clear hi hz0 hz1 hz2
  have DS := Lib.hid (dst_small GA.out hxI)
  obtain ⟨D, hD⟩ : ∃ D, D = dst N x := ⟨_, rfl⟩
  have HD := Lib.hid hD
  rw [← hD] at DS
  have HBA := Lib.hid (show ball N x lo hi = idxs D lo hi N.ends.length by rw [HD.out]; rfl)
  clear hD
  obtain ⟨n, hnn⟩ : ∃ n, n = N.ends.length := ⟨_, rfl⟩
  have HNN := Lib.hid hnn
  rw [← hnn] at hA1 hA40 hx DS HBA
  have hDl : D.length = n := DS.out.1
  have HDL := Lib.hid hDl
  clear hnn hDl hxI
  obtain ⟨W1, hW1⟩ : ∃ W1, W1 = w.alloc (.cells #[v0, v1, v2] 34) := ⟨_, rfl⟩
  have EW := Lib.hid (show Ext w W1 by rw [hW1]; exact boxed_ext _ _ _ _ _)
  have RA := Lib.hid (show W1.rowIs w.heap.size 34 3 (tri v0 v1 v2) by rw [hW1]; exact boxed_row _ _ _ _ _)
  have Z1 := Lib.hid (show W1.heap.size = w.heap.size + 1 by rw [hW1]; simp)
  obtain ⟨W2, hW2⟩ : ∃ W2, W2 = W1.alloc (.cells #[] 3) := ⟨_, rfl⟩
  have E2 := Lib.hid (show Ext W1 W2 by rw [hW2]; exact (Ext.rfl' _).alloc' _)
  have G0 := Lib.hid (show GrowN (w.heap.size + 1) W2 (.slice (some ⟨w.heap.size + 1, 0, none⟩) 0 0) (idxs D lo hi 0) by
    rw [hW2, ← Z1.out]; exact World.ownsRow_lit (base := W1.heap.size) (e := 3) (size := 1) W1 #[] 0 (Nat.le_refl _) (by decide) (by simp))
  have Z2 := Lib.hid (show W2.heap.size = w.heap.size + 2 by rw [hW2]; have := Z1.out; simp; omega)
  obtain ⟨p0, p1, p2, -, -, -⟩ := row3_facts (row_ext RA.out E2.out)
  rw [hW2, hW1] at p0 p1 p2
  go_enter Try.func156, Try.ntmps156
  go_wp2_with fail
  rw [← hW1, ← hW2]
  clear hW1 hW2 p0 p1 p2
  (with_reducible refine (distancesFrom_any x (by rw [← HNN.out]; exact hx) (HA.out.ext (EW.out.trans' E2.out)) GA.out).mono ?_)
  rintro e w3 ⟨ud, bn, rfl, hx3, ho, hfr⟩
  rw [← HD.out] at ho
  obtain ⟨na, nc, rfl⟩ := ho.1.slice
  rw [HDL.out] at ho ⊢
  have K3 := Lib.hid (E2.out.trans' hx3)
  have G3 := Lib.hid (G0.out.ext hx3)
  have O3 := Lib.hid ho
  have F3 := Lib.hid (show ∀ b ∈ bn, W2.heap.size ≤ b from hfr.2)
  clear hx3 ho hfr
  go_wp2_with fail
  go_loopg [9, 17] n (fun g s i wr => ∃ k : Nat, k ≤ n ∧ g = n - k ∧ i = .int .i64 k ∧ Hid (Ext W1 wr ∧ GrowN (w.heap.size + 1) wr s (idxs D lo hi k) ∧ OwnI wr (.slice na n nc) D bn ∧ Off s bn))
  case atStart => exact ⟨0, Nat.zero_le _, rfl, rfl, K3.out, G3.out, O3.out, fun b hb e => by have := F3.out b hb; have := Z2.out; simp only [Value.ownBlock, Option.some.injEq] at e; omega⟩
  case round =>
    obtain ⟨k, hk, rfl, rfl, Hr⟩ := hrel
    have RE := Lib.hid Hr.out.1
    have RG := Lib.hid Hr.out.2.1
    have RO := Lib.hid Hr.out.2.2.1
    have RF := Lib.hid Hr.out.2.2.2
    clear Hr
    by_cases hlt : k < n
    · obtain ⟨na', nb', no', nc', e, ha, hl, hm, hcn⟩ := RO.out.read
      simp only [Value.slice.injEq] at e
      obtain ⟨rfl, -, rfl⟩ := e
      rw [HDL.out] at ha hl
      obtain rfl := ha (by omega)
      obtain ⟨_, hn1, rfl, _⟩ := hcn k (by rw [HDL.out]; exact hlt)
      unfold maxLen at hm
      obtain ⟨d, hd⟩ : ∃ d, d = gi D k := ⟨_, rfl⟩
      rw [← hd] at hn1
      have HDD := Lib.hid hd
      have hlen := idxs_len D lo hi k
      have hsz := RE.out.size
      have hz1 := Z1.out
      clear hcn ha hd
      by_cases hin : InB d lo hi
      · have HB := Lib.hid (dec_true hin)
        have HAA := Lib.hid (show idxs D lo hi (k + 1) = idxs D lo hi k ++ [(k : Int)] by simp only [idxs]; rw [← HDD.out]; exact if_pos hin)
        clear hin
        go_wp2_with (first | (go_at_call 140; (with_reducible refine (isBetween_any _ _ _ _).mono ?_); rintro e w' ⟨rfl, rfl⟩; rw [HB.out]) | (at_builtin; refine wpList_app2 rfl (.tmp 26) (.tmp 28) 26 rfl (w.heap.size + 1) 3 i0 (.int .i64 0) 1 8 Try.underlying26 I0.out.1 I0.out.2.1 I0.out.2.2.1 I0.out.2.2.2 rfl (by decide) _ (idxs D lo hi k).length (intCells (idxs D lo hi k)) rfl (RG.out.ext ((Ext.rfl' _).alloc' _)) (some ⟨wr.heap.size, 0, none⟩) 1 1 (intCells [(k : Int)]) rfl (src_lits wr [(k : Int)] 1 rfl 3) (by unfold maxLen; omega) (by omega) (by simp; omega) ?_))
        intro v' w4 hg
        have gx := RG.out.ext ((Ext.rfl' wr).alloc' (.cells #[.int .i64 (k : Int)] 3))
        have FI := Lib.hid (show Ext W1 w4 ∧ GrowN (w.heap.size + 1) w4 v' (idxs D lo hi k ++ [(k : Int)]) ∧ OwnI w4 (.slice (some ⟨nb', no', none⟩) n nc) D bn ∧ Off v' bn from
          ⟨grown_ext (RE.out.alloc' _) (by omega) gx hg.1.2.1, GrowN.step hg.1 rfl, (RO.out.ext ((Ext.rfl' _).alloc' _)).other RF.out hg.1.2.1, RF.out.grew (w := wr.alloc (.cells #[.int .i64 (k : Int)] 3)) (fun b hb => by have := RO.out.1.lt b hb; simp; omega) hg.2⟩)
        clear hg gx
        go_wp2
        go_roundg (n - (k + 1))
        case measure => omega
        case rel => exact ⟨k + 1, by omega, rfl, by go_num, FI.out.1, by rw [HAA.out]; exact FI.out.2.1, FI.out.2.2.1, FI.out.2.2.2⟩
      · have HB := Lib.hid (dec_false hin)
        have HAA := Lib.hid (show idxs D lo hi (k + 1) = idxs D lo hi k by simp only [idxs]; rw [← HDD.out]; exact if_neg hin)
        clear hin
        go_wp2_with (first | (go_at_call 140; (with_reducible refine (isBetween_any _ _ _ _).mono ?_); rintro e w' ⟨rfl, rfl⟩; rw [HB.out]) | fail)
        go_roundg (n - (k + 1))
        case measure => omega
        case rel => exact ⟨k + 1, by omega, rfl, by go_num, RE.out, by rw [HAA.out]; exact RG.out, RO.out, RF.out⟩
    · obtain rfl : k = n := by omega
      have hlen := idxs_len D lo hi k
      go_wp2
      go_ret
      obtain ⟨bs, ho, hn, hb⟩ := RG.out.own fun i hi' => by have := idxs_range D lo hi k i hi'; unfold inI64; omega
      exact ⟨_, bs, rfl, EW.out.trans' RE.out, by rw [HBA.out]; exact ho, hn, fun b hb' => by have := hb b hb'; omega⟩

end Go.Proofs.Ytkpdbceglejbnaa
