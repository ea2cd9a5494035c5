/- Grids as plain data; the contract of the model's GridNetwork, whatever the arguments. -/
import Derived.Test.YtecdelmcnbgglaaPa
namespace Go.Proofs.Ytecdelmcnbgglaa
open Go.RowKit

/-- The edges that begin at the corner r, s. -/
def grEdge (a b r s : Nat) : List (Int × Int) := (if s + 1 < b then [(((r * b + s : Nat) : Int), ((r * b + s : Nat) : Int) + 1)] else []) ++ (if r + 1 < a then [(((r * b + s : Nat) : Int), ((r * b + s : Nat) : Int) + (b : Int))] else [])
def grList (a b : Nat) : List (Int × Int) := catTo (grEdge a b) b a
theorem gr_fits : ∀ a, a ≤ 40 → ∀ b, b ≤ 40 → a * b ≤ 40 → edgesC (a * b) (grList a b) = true := by decide +kernel
theorem grEdge_len (a b r s : Nat) : (grEdge a b r s).length ≤ 2 := by
  unfold grEdge
  split <;> split <;> simp
theorem grRow_len (a b r : Nat) : ∀ s, (catRow (grEdge a b) r s).length ≤ 2 * s
  | 0 => by simp [catRow]
  | s + 1 => by have h1 := grRow_len a b r s; have h2 := grEdge_len a b r s; rw [catRow, List.length_append]; omega
theorem grTo_len (a b : Nat) : ∀ r, (catTo (grEdge a b) b r).length ≤ 2 * (r * b)
  | 0 => by simp [catTo]
  | r + 1 => by have h1 := grTo_len a b r; have h2 := grRow_len a b r b; have h3 : (r + 1) * b = r * b + b := Nat.succ_mul r b; rw [catTo, List.length_append, h3]; omega
theorem grSome_len (a b r s : Nat) : (catSome (grEdge a b) b r s).length ≤ 2 * (r * b) + 2 * s := by
  have h1 := grTo_len a b r; have h2 := grRow_len a b r s; rw [catSome, List.length_append]; omega
theorem fits_nat {x y : Int} (h : FitsOK x y) : ∃ a b : Nat, x = a ∧ y = b ∧ 1 ≤ a ∧ a ≤ 40 ∧ 1 ≤ b ∧ b ≤ 40 ∧ a * b ≤ 40 ∧ 1 ≤ a * b := by
  obtain ⟨⟨h1, h2⟩, h3⟩ := h
  obtain ⟨a, rfl⟩ := Int.eq_ofNat_of_zero_le (a := x) (by have := h1.1; omega)
  obtain ⟨b, rfl⟩ := Int.eq_ofNat_of_zero_le (a := y) (by have := h2.1; omega)
  rw [mul_nat] at h3
  have ha : 1 ≤ a := by have := h1.1; omega
  have hb : 1 ≤ b := by have := h2.1; omega
  exact ⟨a, b, rfl, rfl, ha, by have := h1.2; omega, hb, by have := h2.2; omega, by omega, Nat.mul_le_mul ha hb⟩
noncomputable def grAns (x y : Int) : Net := if dec (FitsOK x y) = true then madeNet (x.toNat * y.toNat) (grList x.toNat y.toNat) else zeroNet
theorem grAns_t {x y : Int} (h : FitsOK x y) : grAns x y = madeNet (x.toNat * y.toNat) (grList x.toNat y.toNat) := by simp [grAns, dec_true h]
theorem grAns_f {x y : Int} (h : ¬ FitsOK x y) : grAns x y = zeroNet := by simp [grAns, dec_false h]
theorem grAns_small (x y : Int) : (grAns x y).small := by
  by_cases h : FitsOK x y
  · rw [grAns_t h]
    obtain ⟨a, b, rfl, rfl, h1, h2, h3, h4, h5, h6⟩ := fits_nat h
    exact good_small (madeNet_good h6 h5 (gr_fits a h2 b h4 h5))
  · rw [grAns_f h]; exact zero_small

set_option maxHeartbeats 6400000 in
set_option maxRecDepth 100000 in
theorem specGrid_any {w : World} (n m : Int) :
    Calls Try.prog 26 #[.int .i64 n, .int .i64 m] w fun e w' => ∃ v' bs, e = .returned (.tuple #[v', .bool (dec (FitsOK n m))]) ∧ Ext w w' ∧ OwnNet w' v' (grAns n m) bs ∧ Fresh w bs := by
  have HX := Lib.hid ((Ext.rfl' w).alloc' (.cells #[.slice none 0 0, .slice none 0 0, .slice none 0 0] 25))
  have HR := Lib.hid (And.intro (row3_made w (.slice none 0 0) (.slice none 0 0) (.slice none 0 0) 25) (show (w.alloc (.cells #[.slice none 0 0, .slice none 0 0, .slice none 0 0] 25)).heap.size = w.heap.size + 1 by simp))
  by_cases h : FitsOK n m
  · have D := Lib.hid (dec_true h)
    have A0 := grAns_t h
    obtain ⟨a, b, rfl, rfl, ha1, ha2, hb1, hb2, hab, hab1⟩ := fits_nat h
    simp only [Int.toNat_natCast] at A0
    have A := Lib.hid A0
    have HF := Lib.hid (edgesC_ok (gr_fits a ha2 b hb2 hab))
    obtain ⟨N, hN⟩ : ∃ N : Nat, N = a * b := ⟨_, rfl⟩
    rw [← hN] at A HF hab hab1
    have hab2 : (a : Int) * (b : Int) = (N : Int) := by rw [mul_nat, hN]
    have HN := Lib.hid hN
    obtain ⟨i0, hi, hz0, hz1, hz2⟩ := info_parts Try.info23
    have I0 := Lib.hid (And.intro hi (And.intro hz0 (And.intro hz1 hz2)))
    clear hi hz0 hz1 hz2 A0 h hN
    go_enter Try.func26, Try.ntmps26
    go_wp2_with (first | (go_at_call 57; (with_reducible refine (buSides_any (a : Int) (b : Int)).mono ?_); rintro e w' ⟨rfl, rfl⟩; rw [D.out]) | fail)
    generalize w.alloc (.cells #[.slice none 0 0, .slice none 0 0, .slice none 0 0] 25) = W0 at *
    go_loopg [6, 7] a (fun g s i wr => ∃ r : Nat, r ≤ a ∧ g = a - r ∧ i = .int .i64 r ∧ Hid (Ext W0 wr ∧ GrowI W0.heap.size wr s (rowsOf (catTo (grEdge a b) b r)) (rowsOf (catTo (grEdge a b) b r)).length))
    case atStart => exact ⟨0, Nat.zero_le _, rfl, rfl, Ext.rfl' W0, GrowI.nil _ _ _⟩
    case round =>
      obtain ⟨r, hr, rfl, rfl, Hr⟩ := hrel
      by_cases hlt : r < a
      · go_wp2
        have hw0 : ∃ wo : World, wo = wr := ⟨_, rfl⟩
        obtain ⟨wo, rfl⟩ := hw0
        go_loopg [6, 8] b (fun g sl i wx => ∃ s : Nat, s ≤ b ∧ g = b - s ∧ i = .int .i64 s ∧ Hid (Ext W0 wx ∧ GrowI W0.heap.size wx sl (rowsOf (catSome (grEdge a b) b r s)) (rowsOf (catSome (grEdge a b) b r s)).length))
        case atStart => exact ⟨0, Nat.zero_le _, rfl, rfl, Hr.out.1, by rw [catSome_zero]; exact Hr.out.2⟩
        case round =>
          obtain ⟨s, hs, rfl, rfl, Hs⟩ := hrel
          by_cases hst : s < b
          · obtain ⟨x, hx⟩ : ∃ x : Nat, x = r * b + s := ⟨_, rfl⟩
            have hrb := mul_1600 (a := r) (b := b) (by omega) hb2
            have hX : (r : Int) * (b : Int) + (s : Int) = (x : Int) := by rw [mul_nat, hx]; omega
            have hm0 : 0 ≤ (r : Int) * (b : Int) := by rw [mul_nat]; omega
            have hm1 : (r : Int) * (b : Int) ≤ 1600 := by rw [mul_nat]; omega
            have HLen := Lib.hid (show (catSome (grEdge a b) b r s).length ≤ 3280 by have := grSome_len a b r s; omega)
            have hx1 : x ≤ 1640 := by omega
            have HXX := Lib.hid hx
            clear hx
            by_cases h1 : s + 1 < b
            · have hd1 : (s : Int) + 1 < (b : Int) := by omega
              by_cases h2 : r + 1 < a
              · have hd2 : (r : Int) + 1 < (a : Int) := by omega
                go_wp2_with (first | (at_builtin; have hLw3 : (rowsOf (catSome (grEdge a b) b r s)).length ≤ 100000 := (by rw [rowsOf_len]; have := HLen.out; (try simp only [List.length_append, List.length_singleton]); omega); have HIw3 := Lib.hid (show inI64 ((x : Int)) ∧ inI64 ((x : Int) + 1) from ⟨by unfold inI64; omega, by unfold inI64; omega⟩); obtain ⟨R, T, g1, g2, g3, g4⟩ := Hs.out.2.parts [(x : Int), (x : Int) + 1]; have G1 := Lib.hid g1; have G3 := Lib.hid (And.intro g2 (And.intro g3 g4)); have HZ := Lib.hid Hs.out.1.size; clear g1 g2 g3 g4; refine wpList_app rfl (.tmp 28) (.tmp 41) 46 rfl W0.heap.size 23 i0 (.slice none 0 0) 1 24 Try.underlying46 I0.out.1 I0.out.2.1 I0.out.2.2.1 I0.out.2.2.2 rfl (by decide) u6 (rowsOf (catSome (grEdge a b) b r s)).length ((List.range (rowsOf (catSome (grEdge a b) b r s)).length).map R) rfl (owns_ext G1.out (((Ext.rfl' wr).alloc' _).alloc' _)) (some ⟨wr.heap.size + 1, 0, none⟩) 1 1 [.slice (some ⟨wr.heap.size, 0, none⟩) 2 2] rfl (by simpa using src_one (wr.alloc (.cells #[.int .i64 ((x : Int)), .int .i64 ((x : Int) + 1)] 3)) (.slice (some ⟨wr.heap.size, 0, none⟩) 2 2) 23 rfl) (by unfold maxLen; omega) (by omega) (Nat.le_trans HZ.out (((Ext.rfl' wr).alloc' _).alloc' _).size) ?_; intro vw3 w3 hg; obtain ⟨g5, g6⟩ := pair_step HIw3.out HZ.out G1.out G3.out.1 G3.out.2.1 G3.out.2.2 hg; have Hw3 := Lib.hid (And.intro (g6 _ Hs.out.1 (Nat.le_refl _)) g5); clear hg g5 g6 G1 G3 HZ) | (at_builtin; have hLw4 : (rowsOf (catSome (grEdge a b) b r s ++ [((x : Int), (x : Int) + 1)])).length ≤ 100000 := (by rw [rowsOf_len]; have := HLen.out; (try simp only [List.length_append, List.length_singleton]); omega); have HIw4 := Lib.hid (show inI64 ((x : Int)) ∧ inI64 ((x : Int) + (b : Int)) from ⟨by unfold inI64; omega, by unfold inI64; omega⟩); obtain ⟨R, T, g1, g2, g3, g4⟩ := Hw3.out.2.parts [(x : Int), (x : Int) + (b : Int)]; have G1 := Lib.hid g1; have G3 := Lib.hid (And.intro g2 (And.intro g3 g4)); have HZ := Lib.hid Hw3.out.1.size; clear g1 g2 g3 g4; refine wpList_app rfl (.tmp 47) (.tmp 61) 46 rfl W0.heap.size 23 i0 (.slice none 0 0) 1 24 Try.underlying46 I0.out.1 I0.out.2.1 I0.out.2.2.1 I0.out.2.2.2 rfl (by decide) vw3 (rowsOf (catSome (grEdge a b) b r s ++ [((x : Int), (x : Int) + 1)])).length ((List.range (rowsOf (catSome (grEdge a b) b r s ++ [((x : Int), (x : Int) + 1)])).length).map R) rfl (owns_ext G1.out (((Ext.rfl' w3).alloc' _).alloc' _)) (some ⟨w3.heap.size + 1, 0, none⟩) 1 1 [.slice (some ⟨w3.heap.size, 0, none⟩) 2 2] rfl (by simpa using src_one (w3.alloc (.cells #[.int .i64 ((x : Int)), .int .i64 ((x : Int) + (b : Int))] 3)) (.slice (some ⟨w3.heap.size, 0, none⟩) 2 2) 23 rfl) (by unfold maxLen; omega) (by omega) (Nat.le_trans HZ.out (((Ext.rfl' w3).alloc' _).alloc' _).size) ?_; intro vw4 w4 hg; obtain ⟨g5, g6⟩ := pair_step HIw4.out HZ.out G1.out G3.out.1 G3.out.2.1 G3.out.2.2 hg; have Hw4 := Lib.hid (And.intro (g6 _ Hw3.out.1 (Nat.le_refl _)) g5); clear hg g5 g6 G1 G3 HZ))
                go_roundg (b - (s + 1))
                case measure => omega
                case rel => exact ⟨s + 1, by omega, rfl, by go_num, by rw [catSome_succ, grEdge, if_pos h1, if_pos h2, ← HXX.out]; simpa only [List.append_nil, List.nil_append, List.append_assoc] using Hw4⟩
              · have hd2 : ¬ (r : Int) + 1 < (a : Int) := by omega
                go_wp2_with (at_builtin; have hLw3 : (rowsOf (catSome (grEdge a b) b r s)).length ≤ 100000 := (by rw [rowsOf_len]; have := HLen.out; (try simp only [List.length_append, List.length_singleton]); omega); have HIw3 := Lib.hid (show inI64 ((x : Int)) ∧ inI64 ((x : Int) + 1) from ⟨by unfold inI64; omega, by unfold inI64; omega⟩); obtain ⟨R, T, g1, g2, g3, g4⟩ := Hs.out.2.parts [(x : Int), (x : Int) + 1]; have G1 := Lib.hid g1; have G3 := Lib.hid (And.intro g2 (And.intro g3 g4)); have HZ := Lib.hid Hs.out.1.size; clear g1 g2 g3 g4; refine wpList_app rfl (.tmp 28) (.tmp 41) 46 rfl W0.heap.size 23 i0 (.slice none 0 0) 1 24 Try.underlying46 I0.out.1 I0.out.2.1 I0.out.2.2.1 I0.out.2.2.2 rfl (by decide) u6 (rowsOf (catSome (grEdge a b) b r s)).length ((List.range (rowsOf (catSome (grEdge a b) b r s)).length).map R) rfl (owns_ext G1.out (((Ext.rfl' wr).alloc' _).alloc' _)) (some ⟨wr.heap.size + 1, 0, none⟩) 1 1 [.slice (some ⟨wr.heap.size, 0, none⟩) 2 2] rfl (by simpa using src_one (wr.alloc (.cells #[.int .i64 ((x : Int)), .int .i64 ((x : Int) + 1)] 3)) (.slice (some ⟨wr.heap.size, 0, none⟩) 2 2) 23 rfl) (by unfold maxLen; omega) (by omega) (Nat.le_trans HZ.out (((Ext.rfl' wr).alloc' _).alloc' _).size) ?_; intro vw3 w3 hg; obtain ⟨g5, g6⟩ := pair_step HIw3.out HZ.out G1.out G3.out.1 G3.out.2.1 G3.out.2.2 hg; have Hw3 := Lib.hid (And.intro (g6 _ Hs.out.1 (Nat.le_refl _)) g5); clear hg g5 g6 G1 G3 HZ)
                go_roundg (b - (s + 1))
                case measure => omega
                case rel => exact ⟨s + 1, by omega, rfl, by go_num, by rw [catSome_succ, grEdge, if_pos h1, if_neg h2, ← HXX.out]; simpa only [List.append_nil, List.nil_append, List.append_assoc] using Hw3⟩
            · have hd1 : ¬ (s : Int) + 1 < (b : Int) := by omega
              by_cases h2 : r + 1 < a
              · have hd2 : (r : Int) + 1 < (a : Int) := by omega
                go_wp2_with (at_builtin; have hLw4 : (rowsOf (catSome (grEdge a b) b r s)).length ≤ 100000 := (by rw [rowsOf_len]; have := HLen.out; (try simp only [List.length_append, List.length_singleton]); omega); have HIw4 := Lib.hid (show inI64 ((x : Int)) ∧ inI64 ((x : Int) + (b : Int)) from ⟨by unfold inI64; omega, by unfold inI64; omega⟩); obtain ⟨R, T, g1, g2, g3, g4⟩ := Hs.out.2.parts [(x : Int), (x : Int) + (b : Int)]; have G1 := Lib.hid g1; have G3 := Lib.hid (And.intro g2 (And.intro g3 g4)); have HZ := Lib.hid Hs.out.1.size; clear g1 g2 g3 g4; refine wpList_app rfl (.tmp 47) (.tmp 61) 46 rfl W0.heap.size 23 i0 (.slice none 0 0) 1 24 Try.underlying46 I0.out.1 I0.out.2.1 I0.out.2.2.1 I0.out.2.2.2 rfl (by decide) u6 (rowsOf (catSome (grEdge a b) b r s)).length ((List.range (rowsOf (catSome (grEdge a b) b r s)).length).map R) rfl (owns_ext G1.out (((Ext.rfl' wr).alloc' _).alloc' _)) (some ⟨wr.heap.size + 1, 0, none⟩) 1 1 [.slice (some ⟨wr.heap.size, 0, none⟩) 2 2] rfl (by simpa using src_one (wr.alloc (.cells #[.int .i64 ((x : Int)), .int .i64 ((x : Int) + (b : Int))] 3)) (.slice (some ⟨wr.heap.size, 0, none⟩) 2 2) 23 rfl) (by unfold maxLen; omega) (by omega) (Nat.le_trans HZ.out (((Ext.rfl' wr).alloc' _).alloc' _).size) ?_; intro vw4 w4 hg; obtain ⟨g5, g6⟩ := pair_step HIw4.out HZ.out G1.out G3.out.1 G3.out.2.1 G3.out.2.2 hg; have Hw4 := Lib.hid (And.intro (g6 _ Hs.out.1 (Nat.le_refl _)) g5); clear hg g5 g6 G1 G3 HZ)
                go_roundg (b - (s + 1))
                case measure => omega
                case rel => exact ⟨s + 1, by omega, rfl, by go_num, by rw [catSome_succ, grEdge, if_neg h1, if_pos h2, ← HXX.out]; simpa only [List.append_nil, List.nil_append, List.append_assoc] using Hw4⟩
              · have hd2 : ¬ (r : Int) + 1 < (a : Int) := by omega
                go_wp2_with fail
                go_roundg (b - (s + 1))
                case measure => omega
                case rel => exact ⟨s + 1, by omega, rfl, by go_num, by rw [catSome_succ, grEdge, if_neg h1, if_neg h2]; simpa only [List.append_nil, List.nil_append, List.append_assoc] using Hs⟩
          · obtain rfl : s = b := by omega
            go_wp2
            go_roundg (a - (r + 1))
            case measure => omega
            case rel => exact ⟨r + 1, by omega, rfl, by go_num, Hs.out⟩
      · obtain rfl : r = a := by omega
        obtain ⟨bs, ho, hnd, hge⟩ := Hr.out.2.done
        have HO := Lib.hid ho.read
        have HWZ := Lib.hid HR.out.2
        clear ho hnd hge
        go_wp2_with fail
        (with_reducible refine (buMade_any N hab1 hab HF.out HO.out).mono ?_)
        rintro e w4 ⟨v', bs, rfl, hw, ho, hf⟩
        obtain ⟨a0, c0, a1, c1, a2, c2, rfl⟩ := ho.agg
        have E4 := Lib.hid ((HX.out.trans' Hr.out.1).trans' hw)
        have O4 := Lib.hid ho
        have F4 := Lib.hid hf.1
        have S4 := Lib.hid (show ∀ b ∈ bs, w.heap.size ≤ b ∧ b ≠ w.heap.size from fun b hb => by have := hf.2 b hb; have := Hr.out.1.size; have := HWZ.out; omega)
        obtain ⟨s0, s1, s2, t0, t1, t2⟩ := row3_facts (row_ext HR.out.1 (Hr.out.1.trans' hw))
        clear hw ho hf
        go_wp2
        have hc := close_at E4.out (Nat.le_refl _) O4.out F4.out S4.out
        refine bodyPost_ret (v := .tuple #[.agg #[.slice a0 (madeNet N (grList r b)).ends.length c0, .slice a1 (madeNet N (grList r b)).ids.length c1, .slice a2 (madeNet N (grList r b)).inputs.length c2], .bool true]) (by simp [results, Try.results26, go_sem, s0, s1, s2, madeNet, grList]) rfl ⟨_, bs, ret_net D.out.symm, hc.1, by rw [A.out]; exact hc.2.1, hc.2.2⟩
  · have D := Lib.hid (dec_false h)
    have A := Lib.hid (grAns_f h)
    clear h
    go_enter Try.func26, Try.ntmps26
    go_wp2_with (first | (go_at_call 57; (with_reducible refine (buSides_any n m).mono ?_); rintro e w' ⟨rfl, rfl⟩; rw [D.out]) | fail)
    refine bodyPost_ret (v := .tuple #[znet, .bool false]) (by simp [results, Try.results26, go_sem, znet]) rfl ⟨_, [], ret_net D.out.symm, (by first | exact HX.out | exact store3_ext HX.out (Nat.le_refl _) _ _ _), by rw [A.out]; exact own_zero _, Fresh.nil _⟩
end Go.Proofs.Ytecdelmcnbgglaa
