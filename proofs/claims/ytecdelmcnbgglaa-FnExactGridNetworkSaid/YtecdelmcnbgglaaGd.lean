/- The contracts of the small functions on grids and corners, and of buSides. -/
import Derived.Test.YtecdelmcnbgglaaGa
namespace Go.Proofs.Ytecdelmcnbgglaa
open Go.RowKit

def FitsOK (x y : Int) : Prop := (InB x 1 40 ∧ InB y 1 40) ∧ x * y ≤ 40

set_option maxHeartbeats 1600000 in
set_option maxRecDepth 100000 in
theorem fits_any {w : World} (x y : Int) : Calls Try.prog 58 #[.agg #[.int .i64 x, .int .i64 y]] w fun e w' => e = .returned (.bool (dec (FitsOK x y))) ∧ Ext w w' := by
  have HX := Lib.hid ((Ext.rfl' w).alloc' (.cells #[.int .i64 x, .int .i64 y] 58))
  by_cases h1 : InB x 1 40
  · by_cases h2 : InB y 1 40
    · have D1 := Lib.hid (dec_true h1)
      have D2 := Lib.hid (dec_true h2)
      obtain ⟨a, rfl⟩ := Int.eq_ofNat_of_zero_le (a := x) (by have := h1.1; omega)
      obtain ⟨b, rfl⟩ := Int.eq_ofNat_of_zero_le (a := y) (by have := h2.1; omega)
      have hm := mul_1600 (a := a) (b := b) (by have := h1.2; omega) (by have := h2.2; omega)
      obtain ⟨N, hN⟩ : ∃ N : Nat, N = a * b := ⟨_, rfl⟩
      have hmn : (a : Int) * (b : Int) = (N : Int) := by rw [mul_nat, hN]
      rw [← hN] at hm
      have E := Lib.hid (show decide ((N : Int) ≤ 40) = dec (FitsOK a b) by
        unfold FitsOK
        rw [hmn]
        by_cases h3 : (N : Int) ≤ 40
        · rw [dec_true ⟨⟨h1, h2⟩, h3⟩]; exact decide_eq_true h3
        · rw [dec_false fun h => h3 h.2]; exact decide_eq_false h3)
      clear h1 h2 hN
      go_enter Try.func58, Try.ntmps58
      go_wp2_with (first | (go_at_call 55; (with_reducible refine (isBetween_any (a : Int) _ _ _).mono ?_); rintro e w' ⟨rfl, rfl⟩; rw [D1.out]) | (go_at_call 55; (with_reducible refine (isBetween_any (b : Int) _ _ _).mono ?_); rintro e w' ⟨rfl, rfl⟩; rw [D2.out]) | fail)
      go_ret
      exact ⟨ret_bool E.out, HX.out⟩
    · have D1 := Lib.hid (dec_true h1)
      have D2 := Lib.hid (dec_false h2)
      have D := Lib.hid (dec_false (p := FitsOK x y) fun h => h2 h.1.2)
      clear h1 h2
      go_enter Try.func58, Try.ntmps58
      go_wp2_with (first | (go_at_call 55; (with_reducible refine (isBetween_any x _ _ _).mono ?_); rintro e w' ⟨rfl, rfl⟩; rw [D1.out]) | (go_at_call 55; (with_reducible refine (isBetween_any y _ _ _).mono ?_); rintro e w' ⟨rfl, rfl⟩; rw [D2.out]) | fail)
      go_ret
      exact ⟨ret_bool D.out.symm, HX.out⟩
  · have D1 := Lib.hid (dec_false h1)
    have D := Lib.hid (dec_false (p := FitsOK x y) fun h => h1 h.1.1)
    clear h1
    go_enter Try.func58, Try.ntmps58
    go_wp2_with (first | (go_at_call 55; (with_reducible refine (isBetween_any x _ _ _).mono ?_); rintro e w' ⟨rfl, rfl⟩; rw [D1.out]) | fail)
    go_ret
    exact ⟨ret_bool D.out.symm, HX.out⟩

set_option maxHeartbeats 1600000 in
set_option maxRecDepth 100000 in
theorem buSides_any {w : World} (x y : Int) : Calls Try.prog 57 #[.int .i64 x, .int .i64 y] w fun e w' => e = .returned (.bool (dec (FitsOK x y))) ∧ w = w' := by
  by_cases h1 : InB x 1 40
  · by_cases h2 : InB y 1 40
    · have D1 := Lib.hid (dec_true h1)
      have D2 := Lib.hid (dec_true h2)
      obtain ⟨a, rfl⟩ := Int.eq_ofNat_of_zero_le (a := x) (by have := h1.1; omega)
      obtain ⟨b, rfl⟩ := Int.eq_ofNat_of_zero_le (a := y) (by have := h2.1; omega)
      have hm := mul_1600 (a := a) (b := b) (by have := h1.2; omega) (by have := h2.2; omega)
      obtain ⟨N, hN⟩ : ∃ N : Nat, N = a * b := ⟨_, rfl⟩
      have hmn : (a : Int) * (b : Int) = (N : Int) := by rw [mul_nat, hN]
      rw [← hN] at hm
      have E := Lib.hid (show decide ((N : Int) ≤ 40) = dec (FitsOK a b) by
        unfold FitsOK
        rw [hmn]
        by_cases h3 : (N : Int) ≤ 40
        · rw [dec_true ⟨⟨h1, h2⟩, h3⟩]; exact decide_eq_true h3
        · rw [dec_false fun h => h3 h.2]; exact decide_eq_false h3)
      clear h1 h2 hN
      go_enter Try.func57, Try.ntmps57
      go_wp2_with (first | (go_at_call 47; (with_reducible refine (l1In_any (a : Int) _ _ _).mono ?_); rintro e w' ⟨rfl, rfl⟩; rw [D1.out]) | (go_at_call 47; (with_reducible refine (l1In_any (b : Int) _ _ _).mono ?_); rintro e w' ⟨rfl, rfl⟩; rw [D2.out]) | fail)
      go_ret
      exact ⟨ret_bool E.out, rfl⟩
    · have D1 := Lib.hid (dec_true h1)
      have D2 := Lib.hid (dec_false h2)
      have D := Lib.hid (dec_false (p := FitsOK x y) fun h => h2 h.1.2)
      clear h1 h2
      go_enter Try.func57, Try.ntmps57
      go_wp2_with (first | (go_at_call 47; (with_reducible refine (l1In_any x _ _ _).mono ?_); rintro e w' ⟨rfl, rfl⟩; rw [D1.out]) | (go_at_call 47; (with_reducible refine (l1In_any y _ _ _).mono ?_); rintro e w' ⟨rfl, rfl⟩; rw [D2.out]) | fail)
      go_ret
      exact ⟨ret_bool D.out.symm, rfl⟩
  · have D1 := Lib.hid (dec_false h1)
    have D := Lib.hid (dec_false (p := FitsOK x y) fun h => h1 h.1.1)
    clear h1
    go_enter Try.func57, Try.ntmps57
    go_wp2_with (first | (go_at_call 47; (with_reducible refine (l1In_any x _ _ _).mono ?_); rintro e w' ⟨rfl, rfl⟩; rw [D1.out]) | fail)
    go_ret
    exact ⟨ret_bool D.out.symm, rfl⟩

set_option maxHeartbeats 800000 in
set_option maxRecDepth 100000 in
theorem node_any {w : World} {b s r : Int} {a : Value} (hb : 0 ≤ b ∧ b ≤ 1000) (hs : 0 ≤ s ∧ s ≤ 1000) (hr : 0 ≤ r ∧ r ≤ 1000) :
    Calls Try.prog 61 #[.agg #[.int .i64 b, a], .agg #[.int .i64 s, .int .i64 r]] w fun e w' => e = .returned (.int .i64 (r * b + s)) ∧ Ext w w' := by
  have HX := Lib.hid (((Ext.rfl' w).alloc' (.cells #[.int .i64 b, a] 58)).alloc' (.cells #[.int .i64 s, .int .i64 r] 63))
  have hm0 : 0 ≤ r * b := Int.mul_nonneg hr.1 hb.1
  have hm : r * b ≤ 1000 * 1000 := Int.mul_le_mul hr.2 hb.2 hb.1 (by omega)
  go_enter Try.func61, Try.ntmps61
  go_wp2
  go_ret
  exact ⟨rfl, HX.out⟩

set_option maxHeartbeats 800000 in
set_option maxRecDepth 100000 in
theorem next0_any {w : World} (s r : Nat) (hs : s ≤ 1000) : Calls Try.prog 60 #[.agg #[.int .i64 s, .int .i64 r], .int .i64 0] w fun e w' => e = .returned (.agg #[.int .i64 ((s : Int) + 1), .int .i64 r]) ∧ Ext w w' := by
  have HX := Lib.hid (((Ext.rfl' w).alloc' (.cells #[.int .i64 ((s : Int) + 1), .int .i64 r] 63)).alloc' (.cells #[.int .i64 ((s : Int) + 1), .int .i64 r] 63))
  go_enter Try.func60, Try.ntmps60
  go_wp2
  refine bodyPost_ret (v := .agg #[.int .i64 ((s : Int) + 1), .int .i64 r]) (by simp [results, Try.results60, go_sem]) rfl ⟨rfl, ?_⟩
  exact HX.out
set_option maxHeartbeats 800000 in
set_option maxRecDepth 100000 in
theorem next1_any {w : World} (s r : Nat) (hs : r ≤ 1000) : Calls Try.prog 60 #[.agg #[.int .i64 s, .int .i64 r], .int .i64 1] w fun e w' => e = .returned (.agg #[.int .i64 s, .int .i64 ((r : Int) + 1)]) ∧ Ext w w' := by
  have HX := Lib.hid (((Ext.rfl' w).alloc' (.cells #[.int .i64 s, .int .i64 ((r : Int) + 1)] 63)).alloc' (.cells #[.int .i64 s, .int .i64 ((r : Int) + 1)] 63))
  go_enter Try.func60, Try.ntmps60
  go_wp2
  refine bodyPost_ret (v := .agg #[.int .i64 s, .int .i64 ((r : Int) + 1)]) (by simp [results, Try.results60, go_sem]) rfl ⟨rfl, ?_⟩
  exact HX.out

/-- The corners of the first rows of b corners each. -/
def cornerAt (r s : Nat) : List (Int × Int) := [((s : Int), (r : Int))]

set_option maxHeartbeats 3200000 in
set_option maxRecDepth 100000 in
theorem corners_any {w : World} (b a : Nat) (hb : b ≤ 40) (ha : a ≤ 40) :
    Calls Try.prog 59 #[.agg #[.int .i64 b, .int .i64 a]] w fun e w' => ∃ v', e = .returned v' ∧ Ext w w' ∧ FlatSl w' v' (a * b) (catTo cornerAt b a) := by
  obtain ⟨i4, hi, hz0, hz1, hz2⟩ := info_parts Try.infoTC
  have I4 := Lib.hid (And.intro hi (And.intro hz0 (And.intro hz1 hz2)))
  have HX := Lib.hid ((Ext.rfl' w).alloc' (.cells #[.int .i64 b, .int .i64 a] 58))
  have HC := Lib.hid (duo_made w (.int .i64 b) (.int .i64 a) 58)
  have HW := Lib.hid (show (w.alloc (.cells #[.int .i64 b, .int .i64 a] 58)).heap.size = w.heap.size + 1 by simp)
  have hab := mul_1600 ha hb
  have hlen : ∀ v i, (cornerAt v i).length = 1 := fun _ _ => rfl
  clear hi hz0 hz1 hz2
  go_enter Try.func59, Try.ntmps59
  go_wp2_with fail
  generalize w.alloc (.cells #[.int .i64 b, .int .i64 a] 58) = W0 at *
  go_loopg [3, 9] a (fun g s i wr => ∃ r : Nat, r ≤ a ∧ g = a - r ∧ i = .int .i64 r ∧ Hid (Ext W0 wr ∧ wr.ownsRow W0.heap.size 63 2 s (r * b) (endCells (catTo cornerAt b r))))
  case atStart => exact ⟨0, Nat.zero_le _, rfl, rfl, (Ext.rfl' W0).alloc' _, by rw [Nat.zero_mul, ← HW.out]; exact owns_lit W0 _ _⟩
  case round =>
    obtain ⟨r, hr, rfl, rfl, Hr⟩ := hrel
    by_cases hlt : r < a
    · obtain ⟨d0, d1, -, -⟩ := duo_facts (row_ext HC.out Hr.out.1)
      go_wp2
      clear d0 d1
      have hw0 : ∃ wo : World, wo = wr := ⟨_, rfl⟩
      obtain ⟨wo, rfl⟩ := hw0
      go_loopg [3, 14] b (fun g s i wx => ∃ j : Nat, j ≤ b ∧ g = b - j ∧ i = .int .i64 j ∧ Hid (Ext W0 wx ∧ wx.ownsRow W0.heap.size 63 2 s (r * b + j) (endCells (catSome cornerAt b r j))))
      case atStart => exact ⟨0, Nat.zero_le _, rfl, rfl, Hr.out.1, by rw [catSome_zero]; exact Hr.out.2⟩
      case round =>
        obtain ⟨j, hj, rfl, rfl, Hs⟩ := hrel
        by_cases hjt : j < b
        · have hrb : r * b ≤ 1600 := mul_1600 (by omega) hb
          have HZ := Lib.hid Hs.out.1.size
          go_wp2_with (at_builtin; refine wpList_app rfl (.tmp 17) (.tmp 21) 61 rfl W0.heap.size 63 i4 (.agg #[.int .i64 0, .int .i64 0]) 2 16 Try.underlying61 I4.out.1 I4.out.2.1 I4.out.2.2.1 I4.out.2.2.2 rfl (by decide) u3 (r * b + j) (endCells (catSome cornerAt b r j)) rfl (owns_ext Hs.out.2 ((Ext.rfl' _).alloc' _)) (some ⟨wr.heap.size, 0, none⟩) 1 1 [.int .i64 j, .int .i64 r] rfl (src_two _ _ _ _ rfl rfl) (by unfold maxLen; omega) (by omega) ?_ ?_)
          · have := HZ.out; simp; omega
          intro v' w3 hg
          obtain ⟨g5, g6⟩ := flat_step2 ((Ext.rfl' _).alloc' _) Hs.out.2 hg
          have G5 := Lib.hid g5
          have G6 := Lib.hid (g6 W0 Hs.out.1 (Nat.le_refl _))
          clear hg g5 g6
          go_wp2
          go_roundg (b - (j + 1))
          case measure => omega
          case rel => exact ⟨j + 1, by omega, rfl, by go_num, G6.out, by rw [catSome_succ]; exact G5.out⟩
        · obtain rfl : j = b := by omega
          go_wp2
          go_roundg (a - (r + 1))
          case measure => omega
          case rel => exact ⟨r + 1, by omega, rfl, by go_num, Hs.out.1, by rw [← catSome_all, Nat.succ_mul]; exact Hs.out.2⟩
    · obtain rfl : r = a := by omega
      have F := Lib.hid (flat_of_owns Hr.out.2 (by rw [catTo_len hlen]; omega) (catTo_in r fun u j hu hj => pairs_one (by unfold inI64; omega) (by unfold inI64; omega)))
      go_wp2
      go_ret
      exact ⟨_, rfl, HX.out.trans' Hr.out.1, F.out⟩
end Go.Proofs.Ytecdelmcnbgglaa
