/- The table of sums of the model. -/
import Derived.Test.YtcjiejbndmnjaaaI6
namespace Go.Proofs.Ytcjiejbndmnjaaa
open Go.RowKit

theorem Try.info4 : (Try.prog.info? 4).map (fun i => (i.zero, i.size, i.bytes)) = some (some (.bool false), 1, 1) := by kernel_rfl
/-- Numbers from 1 to 40. -/
def LenP (l : List Int) : Prop := ∀ k, k < l.length → 1 ≤ gi l k ∧ gi l k ≤ 40
theorem lenP_get {l : List Int} (h : LenP l) {k : Nat} (hk : k < l.length) : ∃ x : Nat, gi l k = x ∧ 0 < x ∧ x ≤ 40 := by
  obtain ⟨h1, h2⟩ := h k hk
  exact ⟨(gi l k).toNat, by omega, by omega, by omega⟩
theorem LenOK.len {l : List Int} (h : LenOK l) : LenP l := fun k hk => (h.2 k hk).1

/-- One of the first j lengths leaves a sum. -/
def Part (l : List Int) (n j : Nat) : Prop := ∃ c ∈ (ln l).take j, c ≤ n ∧ Sum (ln l) (n - c)
theorem part_zero (l : List Int) (n : Nat) : ¬Part l n 0 := fun ⟨c, h, _⟩ => by simp at h
theorem part_old {l : List Int} {n j : Nat} (h : Part l n j) : Part l n (j + 1) := by
  obtain ⟨c, h1, h2⟩ := h
  exact ⟨c, List.mem_of_mem_take (i := j) (by rw [List.take_take, Nat.min_eq_left (by omega)]; exact h1), h2⟩
theorem take_ln {l : List Int} {j x : Nat} (hj : j < l.length) (hx : gi l j = x) : (ln l).take (j + 1) = (ln l).take j ++ [x] := by
  rw [List.take_succ_eq_append_getElem (by rw [ln_length]; exact hj), ln_get hj, hx]
  simp
theorem part_new {l : List Int} {n j x : Nat} (hj : j < l.length) (hx : gi l j = x) (h : ¬Part l n j) : Part l n (j + 1) ↔ x ≤ n ∧ Sum (ln l) (n - x) := by
  constructor
  · rintro ⟨c, h1, h2⟩
    rw [take_ln hj hx] at h1
    rcases List.mem_append.1 h1 with h1 | h1
    · exact absurd ⟨c, h1, h2⟩ h
    · obtain rfl := List.mem_singleton.1 h1
      exact h2
  · intro h2
    exact ⟨x, by rw [take_ln hj hx]; simp, h2⟩
theorem part_all {l : List Int} {n : Nat} (hn : 0 < n) : Part l n l.length ↔ Sum (ln l) n := by
  unfold Part
  rw [← ln_length l, List.take_length]
  exact (sum_any hn).symm

/-- The table at number n, where j lengths have been looked at. -/
noncomputable def sumRow (l : List Int) (n j i : Nat) : Value := .bool (if i < n then dec (Sum (ln l) i) else if i = n then dec (Part l n j) else false)
noncomputable def sumAll (l : List Int) (i : Nat) : Value := .bool (dec (Sum (ln l) i))
theorem sumRow_lt {l : List Int} {n j i : Nat} (h : i < n) : sumRow l n j i = .bool (dec (Sum (ln l) i)) := by unfold sumRow; rw [if_pos h]
theorem sumRow_at (l : List Int) (n j : Nat) : sumRow l n j n = .bool (dec (Part l n j)) := by unfold sumRow; rw [if_neg (by omega), if_pos rfl]
theorem sumRow_set {w : World} {l : List Int} {b n j m : Nat} {q : Bool} (h : w.rowIs b 4 m (sumRow l n j)) (hq : q = dec (Part l n (j + 1))) : (w.setCell ⟨b, n, none⟩ (.bool q)).rowIs b 4 m (sumRow l n (j + 1)) :=
  (h.set n _).congr fun i _ => by
    by_cases e : i = n
    · subst e; rw [if_pos rfl, sumRow_at, hq]
    · rw [if_neg e]
      unfold sumRow
      by_cases hlt : i < n
      · rw [if_pos hlt, if_pos hlt]
      · rw [if_neg hlt, if_neg e, if_neg hlt, if_neg e]
theorem sumRow_next {l : List Int} {n i : Nat} (hn : 0 < n) : sumRow l n l.length i = sumRow l (n + 1) 0 i := by
  unfold sumRow
  by_cases hlt : i < n
  · rw [if_pos hlt, if_pos (by omega)]
  · rw [if_neg hlt]
    by_cases e : i = n
    · subst e
      rw [if_pos rfl, if_pos (by omega), dec_congr (part_all hn)]
    · rw [if_neg e, if_neg (by omega)]
      by_cases e2 : i = n + 1
      · subst e2
        rw [if_pos rfl, dec_false (part_zero _ _)]
      · rw [if_neg e2]

set_option maxHeartbeats 3200000 in
set_option maxRecDepth 100000 in
theorem nuSums_any {w : World} {v : Value} {l : List Int} (most : Nat) (h : IntSl w v l) (hl : LenP l) (hlen : l.length ≤ 1048576) (hmost : most ≤ 100000) :
    Calls Try.prog 67 #[v, .int .i64 most] w fun e w' => e = .returned (.slice (some ⟨w.heap.size, 0, none⟩) (most + 1) (most + 1)) ∧ Ext w w' ∧ w'.rowIs w.heap.size 4 (most + 1) (sumAll l) := by
  have HL := Lib.hid hl
  obtain ⟨a, b, o, c, rfl, ha, hl', hm, hc⟩ := h
  unfold maxLen at hm
  have Hc := Lib.hid hc
  have Ha := Lib.hid ha
  clear hc ha hl
  have hmk := run_make_row' (P := Try.prog) 52 4 (.bool false) 1 Try.underlying52 Try.info4 rfl .i64 .i64 (most + 1) (by omega) (by omega)
  have hcast : ((most + 1 : Nat) : Int) = (most : Int) + 1 := rfl
  rw [hcast] at hmk
  clear hcast
  have hrow := World.rowIs_made w (.bool false) (most + 1) 4
  have p0 := hrow.cell (i := 0) (by omega)
  have p1 := hrow.frozen 0
  have hr1 := hrow.set 0 (.bool true)
  rw [World.setCell_alloc_at _ _ _ _ _ rfl] at hr1
  have HR := Lib.hid hr1
  clear hrow hr1
  go_enter Try.func67, Try.ntmps67
  go_wp2
  clear hmk p0 p1
  go_loopg [6] most (fun g m wr => ∃ n : Nat, 1 ≤ n ∧ n ≤ most + 1 ∧ g = most + 1 - n ∧ m = .int .i64 (n : Int) ∧ Hid (Ext w wr ∧ wr.rowIs w.heap.size 4 (most + 1) (sumRow l n 0)))
  case atStart =>
    refine ⟨1, by omega, by omega, by omega, rfl, (Ext.rfl' w).alloc' _, HR.out.congr fun i _ => ?_⟩
    by_cases e : i = 0
    · subst e
      rw [if_pos rfl, sumRow_lt (by omega), dec_true .zero]
    · rw [if_neg e]
      unfold sumRow
      rw [if_neg (by omega)]
      by_cases e2 : i = 1
      · subst e2
        rw [if_pos rfl, dec_false (part_zero _ _)]
      · rw [if_neg e2]
  case round =>
    obtain ⟨n, hn1, hn2, hg, rfl, Hr⟩ := hrel
    have HG := Lib.hid hg
    clear hg
    by_cases hlt : n ≤ most
    · obtain ⟨wo, rfl⟩ : ∃ wo : World, wo = wr := ⟨_, rfl⟩
      have HO := Lib.hid Hr.out
      clear Hr
      go_wp2
      go_loopg [21] l.length (fun g i wr => ∃ j : Nat, j ≤ l.length ∧ g = l.length - j ∧ i = .int .i64 (j : Int) ∧ Hid (Ext w wr ∧ wr.rowIs w.heap.size 4 (most + 1) (sumRow l n j)))
      case atStart => exact ⟨0, Nat.zero_le _, rfl, rfl, HO.out⟩
      case round =>
        obtain ⟨j, hj, rfl, rfl, Hr⟩ := hrel
        by_cases hjl : j < l.length
        · obtain ⟨y, hc, rfl, _⟩ := Hc.out j hjl
          obtain rfl := Ha.out (by omega)
          obtain ⟨x, hx, hx0, hx1⟩ := lenP_get HL.out hjl
          rw [hx] at hc
          have HX := Lib.hid hx
          have hc' := Hr.out.1.cell' hc
          have c1 := Hr.out.2.cell (i := n) (by omega)
          have c2 := Hr.out.2.frozen n
          rw [sumRow_at] at c1
          clear hc hx
          by_cases hp : Part l n j
          · rw [dec_true hp] at c1
            have HS := Lib.hid (And.intro (Hr.out.1.store (Nat.le_refl _) (p := ⟨w.heap.size, n, none⟩) (.bool true)) (sumRow_set (q := true) Hr.out.2 (dec_true (part_old hp)).symm))
            clear hp
            go_wp2
            go_roundg (l.length - (j + 1))
            case measure => omega
            case rel => exact ⟨j + 1, by omega, rfl, by go_num, HS.out⟩
          · rw [dec_false hp] at c1
            by_cases hxn : x ≤ n
            · have c3 := Hr.out.2.cell (i := n - x) (by omega)
              rw [sumRow_lt (by omega)] at c3
              have HS := Lib.hid (And.intro (Hr.out.1.store (Nat.le_refl _) (p := ⟨w.heap.size, n, none⟩) (.bool (dec (Sum (ln l) (n - x))))) (sumRow_set (q := dec (Sum (ln l) (n - x))) Hr.out.2 (dec_congr ((part_new hjl HX.out hp).trans (and_iff_right hxn)).symm)))
              have en : (n : Int) - (x : Int) = ((n - x : Nat) : Int) := by omega
              clear hp
              go_wp2
              go_roundg (l.length - (j + 1))
              case measure => omega
              case rel => exact ⟨j + 1, by omega, rfl, by go_num, HS.out⟩
            · have HS := Lib.hid (And.intro (Hr.out.1.store (Nat.le_refl _) (p := ⟨w.heap.size, n, none⟩) (.bool false)) (sumRow_set (q := false) Hr.out.2 (dec_false (fun h => hxn ((part_new hjl HX.out hp).1 h).1)).symm))
              clear hp
              go_wp2
              go_roundg (l.length - (j + 1))
              case measure => omega
              case rel => exact ⟨j + 1, by omega, rfl, by go_num, HS.out⟩
        · obtain rfl : j = l.length := by omega
          have HS := Lib.hid (And.intro Hr.out.1 (Hr.out.2.congr (g := sumRow l (n + 1) 0) fun i _ => sumRow_next (by omega)))
          go_wp2
          go_roundg (most + 1 - (n + 1))
          case measure => have := HG.out; omega
          case rel => exact ⟨n + 1, by omega, by omega, rfl, by go_num, HS.out⟩
    · obtain rfl : n = most + 1 := by omega
      go_wp2
      go_ret
      exact ⟨rfl, Hr.out.1, Hr.out.2.congr fun i hi => by rw [sumRow_lt hi]; rfl⟩
end Go.Proofs.Ytcjiejbndmnjaaa
