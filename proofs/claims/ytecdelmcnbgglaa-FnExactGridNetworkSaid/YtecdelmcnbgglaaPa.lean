/- The contract of the model's PathNetwork, whatever the argument. -/
import Derived.Test.YtecdelmcnbgglaaEp
import Derived.Test.YtecdelmcnbgglaaGd
namespace Go.Proofs.Ytecdelmcnbgglaa
open Go.RowKit

def pathEdges : Nat → List (Int × Int)
  | 0 => []
  | j + 1 => pathEdges j ++ [((j : Int), (j : Int) + 1)]
theorem pathEdges_len : ∀ j, (pathEdges j).length = j
  | 0 => rfl
  | j + 1 => by rw [pathEdges, List.length_append, pathEdges_len j]; rfl
theorem path_fits : ∀ k, k ≤ 40 → edgesC k (pathEdges (k - 1)) = true := by decide +kernel
def madeNet (n : Nat) (E : List (Int × Int)) : Net := madeTo (blank n 0) E E.length
theorem madeNet_good {n : Nat} {E : List (Int × Int)} (h1 : 1 ≤ n) (h2 : n ≤ 40) (h : edgesC n E = true) : Good (madeNet n E) := (made_good h1 h2 (edgesC_ok h) _ (Nat.le_refl _)).1
noncomputable def paAns (n : Int) : Net := if dec (InB n 1 40) = true then madeNet n.toNat (pathEdges (n.toNat - 1)) else zeroNet
theorem paAns_t {n : Int} (h : InB n 1 40) : paAns n = madeNet n.toNat (pathEdges (n.toNat - 1)) := by simp [paAns, dec_true h]
theorem paAns_f {n : Int} (h : ¬ InB n 1 40) : paAns n = zeroNet := by simp [paAns, dec_false h]
theorem paAns_small (n : Int) : (paAns n).small := by
  by_cases h : InB n 1 40
  · rw [paAns_t h]; exact good_small (madeNet_good (by have := h.1; omega) (by have := h.2; omega) (path_fits _ (by have := h.2; omega)))
  · rw [paAns_f h]; exact zero_small

set_option maxHeartbeats 3200000 in
set_option maxRecDepth 100000 in
theorem specPath_any {w : World} (n : Int) :
    Calls Try.prog 15 #[.int .i64 n] w fun e w' => ∃ v' bs, e = .returned (.tuple #[v', .bool (dec (InB n 1 40))]) ∧ Ext w w' ∧ OwnNet w' v' (paAns n) bs ∧ Fresh w bs := by
  have HX := Lib.hid ((Ext.rfl' w).alloc' (.cells #[.slice none 0 0, .slice none 0 0, .slice none 0 0] 25))
  have HR := Lib.hid (And.intro (row3_made w (.slice none 0 0) (.slice none 0 0) (.slice none 0 0) 25) (show (w.alloc (.cells #[.slice none 0 0, .slice none 0 0, .slice none 0 0] 25)).heap.size = w.heap.size + 1 by simp))
  by_cases h : InB n 1 40
  · have D := Lib.hid (dec_true h)
    have A0 := paAns_t h
    obtain ⟨k, rfl⟩ := Int.eq_ofNat_of_zero_le (a := n) (by have := h.1; omega)
    have h1 : 1 ≤ k := by have := h.1; omega
    have h40 : k ≤ 40 := by have := h.2; omega
    simp only [Int.toNat_natCast] at A0
    have A := Lib.hid A0
    obtain ⟨i0, hi, hz0, hz1, hz2⟩ := info_parts Try.info23
    have I0 := Lib.hid (And.intro hi (And.intro hz0 (And.intro hz1 hz2)))
    clear hi hz0 hz1 hz2 A0 h
    go_enter Try.func15, Try.ntmps15
    go_wp2_with (first | (go_at_call 47; (with_reducible refine (l1In_any (k : Int) _ _ _).mono ?_); rintro e w' ⟨rfl, rfl⟩; rw [D.out]) | fail)
    generalize w.alloc (.cells #[.slice none 0 0, .slice none 0 0, .slice none 0 0] 25) = W0 at *
    go_loopg [4, 5] (k - 1) (fun g s i wr => ∃ j : Nat, j ≤ k - 1 ∧ g = k - 1 - j ∧ i = .int .i64 j ∧ Hid (Ext W0 wr ∧ GrowI W0.heap.size wr s (rowsOf (pathEdges j)) (rowsOf (pathEdges j)).length))
    case atStart => exact ⟨0, Nat.zero_le _, rfl, rfl, Ext.rfl' W0, GrowI.nil _ _ _⟩
    case round =>
      obtain ⟨j, hj, rfl, rfl, Hs⟩ := hrel
      by_cases hjt : j < k - 1
      · have HI := Lib.hid (show inI64 (j : Int) ∧ inI64 ((j : Int) + 1) from ⟨by unfold inI64; omega, by unfold inI64; omega⟩)
        have hlt : (j : Int) + 1 < (k : Int) := by omega
        obtain ⟨R, T, g1, g2, g3, g4⟩ := Hs.out.2.parts [(j : Int), (j : Int) + 1]
        have G1 := Lib.hid g1
        have G3 := Lib.hid (And.intro g2 (And.intro g3 g4))
        have hL : (rowsOf (pathEdges j)).length = j := by rw [rowsOf_len, pathEdges_len]
        have HZ := Lib.hid Hs.out.1.size
        clear g1 g2 g3 g4
        go_wp2_with (at_builtin; (refine wpList_app rfl (.tmp 16) (.tmp 21) 46 rfl W0.heap.size 23 i0 (.slice none 0 0) 1 24 Try.underlying46 I0.out.1 I0.out.2.1 I0.out.2.2.1 I0.out.2.2.2 rfl (by decide) u4 (rowsOf (pathEdges j)).length ((List.range (rowsOf (pathEdges j)).length).map R) rfl (owns_ext G1.out (((Ext.rfl' wr).alloc' _).alloc' _)) (some ⟨wr.heap.size + 1, 0, none⟩) 1 1 [.slice (some ⟨wr.heap.size, 0, none⟩) 2 2] rfl (by simpa using src_one (wr.alloc (.cells #[.int .i64 (j : Int), .int .i64 ((j : Int) + 1)] 3)) (.slice (some ⟨wr.heap.size, 0, none⟩) 2 2) 23 rfl) (by unfold maxLen; omega) (by omega) (Nat.le_trans HZ.out (((Ext.rfl' wr).alloc' _).alloc' _).size) ?_; intro v' w3 hg; obtain ⟨g5, g6⟩ := pair_step HI.out HZ.out G1.out G3.out.1 G3.out.2.1 G3.out.2.2 hg; have G5 := Lib.hid g5; have G6 := Lib.hid (g6 _ Hs.out.1 (Nat.le_refl _)); clear hg g5 g6))
        go_roundg (k - 1 - (j + 1))
        case measure => omega
        case rel => exact ⟨j + 1, by omega, rfl, by go_num, G6.out, G5.out⟩
      · obtain rfl : j = k - 1 := by omega
        have hlt : ¬ ((k - 1 : Nat) : Int) + 1 < (k : Int) := by omega
        obtain ⟨bs, ho, hnd, hge⟩ := Hs.out.2.done
        have HO := Lib.hid ho.read
        have hwz : W0.heap.size = w.heap.size + 1 := HR.out.2
        have HWZ := Lib.hid hwz
        obtain ⟨s0, s1, s2, t0, t1, t2⟩ := row3_facts (row_ext HR.out.1 Hs.out.1)
        clear ho hnd hge s0 s1 s2 t0 t1 t2 hwz
        go_wp2_with fail
        (with_reducible refine (buMade_any k h1 h40 (edgesC_ok (path_fits k h40)) HO.out).mono ?_)
        rintro e w4 ⟨v', bs, rfl, hw, ho, hf⟩
        obtain ⟨a0, c0, a1, c1, a2, c2, rfl⟩ := ho.agg
        have E4 := Lib.hid ((HX.out.trans' Hs.out.1).trans' hw)
        have O4 := Lib.hid ho
        have F4 := Lib.hid hf.1
        have hz4 := (HX.out.trans' Hs.out.1).size
        have S4 := Lib.hid (show ∀ b ∈ bs, w.heap.size ≤ b ∧ b ≠ w.heap.size from fun b hb => by have := hf.2 b hb; have := Hs.out.1.size; have := HWZ.out; omega)
        obtain ⟨s0, s1, s2, t0, t1, t2⟩ := row3_facts (row_ext HR.out.1 (Hs.out.1.trans' hw))
        clear hw ho hf hz4
        go_wp2
        have hc := close_at E4.out (Nat.le_refl _) O4.out F4.out S4.out
        refine bodyPost_ret (v := .tuple #[.agg #[.slice a0 (madeNet k (pathEdges (k - 1))).ends.length c0, .slice a1 (madeNet k (pathEdges (k - 1))).ids.length c1, .slice a2 (madeNet k (pathEdges (k - 1))).inputs.length c2], .bool true]) (by simp [results, Try.results15, go_sem, s0, s1, s2, madeNet]) rfl ⟨_, bs, ret_net D.out.symm, hc.1, by rw [A.out]; exact hc.2.1, hc.2.2⟩
  · have D := Lib.hid (dec_false h)
    have A := Lib.hid (paAns_f h)
    clear h
    go_enter Try.func15, Try.ntmps15
    go_wp2_with (first | (go_at_call 47; (with_reducible refine (l1In_any n _ _ _).mono ?_); rintro e w' ⟨rfl, rfl⟩; rw [D.out]) | fail)
    refine bodyPost_ret (v := .tuple #[znet, .bool false]) (by simp [results, Try.results15, go_sem, znet]) rfl ⟨_, [], ret_net D.out.symm, (by first | exact HX.out | exact store3_ext HX.out (Nat.le_refl _) _ _ _), by rw [A.out]; exact own_zero _, Fresh.nil _⟩
end Go.Proofs.Ytecdelmcnbgglaa
