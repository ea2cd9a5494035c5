/- Hypercubes: as plain data, and the contract of the program's HypercubeNetwork, whatever the argument. -/
import Derived.Test.YtecdelmcnbgglaaGa
namespace Go.Proofs.Ytecdelmcnbgglaa
open Go.RowKit

def hcEdge (v i : Nat) : List (Int × Int) := [((v : Int), (i : Int)), (((v ^^^ 2 ^ i : Nat) : Int), (i : Int))]
def hcList (d : Nat) : List (Int × Int) := catTo hcEdge d (2 ^ d)
def hcEnd (v i : Nat) : Int × Int := (((v ^^^ 2 ^ i : Nat) : Int), (i : Int))
def hcNet (d : Nat) : Net := growTo hcEnd (blank (2 ^ d) 0) d (2 ^ d)
theorem hc_same : ∀ d, d ≤ 5 → linkTo (blank (2 ^ d) d) (hcList d) (2 ^ d * d) = hcNet d ∧ EndsOK (hcNet d).ends ∧ (hcNet d).ids = [] ∧ (hcNet d).inputs = List.replicate (2 ^ d) 0 := by
  decide +kernel
theorem hc_ports : ∀ d, d ≤ 6 → PortsOK (blank (2 ^ d) d) (hcList d) := by decide +kernel
theorem pow_le : ∀ d, d ≤ 6 → 1 ≤ 2 ^ d ∧ 2 ^ d ≤ 64 := by decide
theorem pow_40 : ∀ d, d ≤ 5 → 2 ^ d ≤ 40 := by decide
theorem hc_good {d : Nat} (h : d ≤ 5) : Good (hcNet d) :=
  good_plain (pow_le d (by omega)).1 (pow_40 d h) (by rw [hcNet, growTo_len]; simp [blank]) (hc_same d h).2.2.1 (hc_same d h).2.2.2 (hc_same d h).2.1
noncomputable def hcAns (n : Int) : Net := if dec (InB n 0 5) = true then hcNet n.toNat else zeroNet
theorem hcAns_t {n : Int} (h : InB n 0 5) : hcAns n = hcNet n.toNat := by simp [hcAns, dec_true h]
theorem hcAns_f {n : Int} (h : ¬ InB n 0 5) : hcAns n = zeroNet := by simp [hcAns, dec_false h]
theorem hcAns_small (n : Int) : (hcAns n).small := by
  by_cases h : InB n 0 5
  · rw [hcAns_t h]; exact good_small (hc_good (by have := h.2; omega))
  · rw [hcAns_f h]; exact zero_small
theorem hc_xor : ∀ v : Nat, v < 64 → ∀ i : Nat, i < 6 → bits .xor .i64 (v : Int) ((2 : Int) ^ i) = ((v ^^^ 2 ^ i : Nat) : Int) := by decide +kernel
theorem hc_xlt : ∀ v : Nat, v < 64 → ∀ i : Nat, i < 6 → v ^^^ 2 ^ i < 64 := by decide +kernel
theorem hc_pow (i : Nat) : (2 : Int) ^ i = ((2 ^ i : Nat) : Int) := by simp
theorem hc_ans {d : Nat} (h : d ≤ 6) : dec (Good (linkTo (blank (2 ^ d) d) (hcList d) (2 ^ d * d))) = dec (InB (d : Int) 0 5) ∧ goodOr (linkTo (blank (2 ^ d) d) (hcList d) (2 ^ d * d)) = hcAns d := by
  by_cases h5 : d ≤ 5
  · have hb : InB (d : Int) 0 5 := ⟨by omega, by omega⟩
    rw [(hc_same d h5).1, dec_true (hc_good h5), goodOr_t (hc_good h5), dec_true hb, hcAns_t hb]
    exact ⟨rfl, rfl⟩
  · obtain rfl : d = 6 := by omega
    have hb : ¬ InB ((6 : Nat) : Int) 0 5 := fun h => absurd h.2 (by omega)
    have hn : ¬ Good (linkTo (blank (2 ^ 6) 6) (hcList 6) (2 ^ 6 * 6)) := fun g => absurd g.1.2 (by rw [linkTo_len]; simp [blank])
    rw [dec_false hn, goodOr_f hn, dec_false hb, hcAns_f hb]
    exact ⟨rfl, rfl⟩

set_option maxHeartbeats 3200000 in
set_option maxRecDepth 100000 in
theorem hypercube_any {w : World} (n : Int) :
    Calls Try.prog 31 #[.int .i64 n] w fun e w' => ∃ v' bs, e = .returned (.tuple #[v', .bool (dec (InB n 0 5))]) ∧ Ext w w' ∧ OwnNet w' v' (hcAns n) bs ∧ Fresh w bs := by
  have HX := Lib.hid ((Ext.rfl' w).alloc' (.cells #[.slice none 0 0, .slice none 0 0, .slice none 0 0] 25))
  have HR := Lib.hid (And.intro (row3_made w (.slice none 0 0) (.slice none 0 0) (.slice none 0 0) 25) (show (w.alloc (.cells #[.slice none 0 0, .slice none 0 0, .slice none 0 0] 25)).heap.size = w.heap.size + 1 by simp))
  by_cases h : InB n 0 6
  · have D := Lib.hid (dec_true h)
    obtain ⟨d, rfl⟩ := Int.eq_ofNat_of_zero_le (a := n) (by have := h.1; omega)
    have h6 : d ≤ 6 := by have := h.2; omega
    obtain ⟨i4, hi, hz0, hz1, hz2⟩ := info_parts Try.infoTEE
    have I4 := Lib.hid (And.intro hi (And.intro hz0 (And.intro hz1 hz2)))
    obtain ⟨P, hP⟩ : ∃ P : Nat, P = 2 ^ d := ⟨_, rfl⟩
    have hpow : (2 : Int) ^ d = (P : Int) := by rw [hc_pow, hP]
    have hP64 : 1 ≤ P ∧ P ≤ 64 := by rw [hP]; exact pow_le d h6
    have hmin : min d 64 = d := by omega
    have HPP := Lib.hid hP
    clear hi hz0 hz1 hz2 h hP
    go_enter Try.func31, Try.ntmps31
    go_wp2_with (first | (go_at_call 55; (with_reducible refine (isBetween_any (d : Int) _ _ _).mono ?_); rintro e w' ⟨rfl, rfl⟩; rw [D.out]) | fail)
    generalize w.alloc (.cells #[.slice none 0 0, .slice none 0 0, .slice none 0 0] 25) = W0 at *
    go_loopg [4, 14] P (fun g s i wr => ∃ v : Nat, v ≤ P ∧ g = P - v ∧ i = .int .i64 v ∧ Hid (Ext W0 wr ∧ wr.ownsRow W0.heap.size 55 4 s (v * d) (endCells (catTo hcEdge d v))))
    case atStart => exact ⟨0, Nat.zero_le _, rfl, rfl, (Ext.rfl' W0).alloc' _, by rw [Nat.zero_mul, ← HR.out.2]; exact owns_lit W0 _ _⟩
    case round =>
      obtain ⟨v, hv, rfl, rfl, Hr⟩ := hrel
      by_cases hlt : v < P
      · go_wp2
        have hw0 : ∃ wo : World, wo = wr := ⟨_, rfl⟩
        obtain ⟨wo, rfl⟩ := hw0
        go_loopg [4, 18] d (fun g s i wx => ∃ j : Nat, j ≤ d ∧ g = d - j ∧ i = .int .i64 j ∧ Hid (Ext W0 wx ∧ wx.ownsRow W0.heap.size 55 4 s (v * d + j) (endCells (catSome hcEdge d v j))))
        case atStart => exact ⟨0, Nat.zero_le _, rfl, rfl, Hr.out.1, by rw [catSome_zero]; exact Hr.out.2⟩
        case round =>
          obtain ⟨j, hj, rfl, rfl, Hs⟩ := hrel
          by_cases hjt : j < d
          · have hvk : v * d ≤ 384 := Nat.le_trans (Nat.mul_le_mul (show v ≤ 64 by omega) h6) (by omega)
            have HZ := Lib.hid Hs.out.1.size
            have hxor := hc_xor v (by omega) j (by omega)
            have hxlt := hc_xlt v (by omega) j (by omega)
            have hE : hcEdge v j = [((v : Int), (j : Int)), (((v ^^^ 2 ^ j : Nat) : Int), (j : Int))] := rfl
            obtain ⟨q, hq⟩ : ∃ q : Int, q = (2 : Int) ^ j := ⟨_, rfl⟩
            have hq64 : 1 ≤ q ∧ q ≤ 64 := by rw [hq, hc_pow]; have := pow_le j (by omega); omega
            rw [← hq] at hxor
            have hq2 : (2 : Int) ^ j = q := hq.symm
            generalize v ^^^ 2 ^ j = x at hxor hxlt hE
            have HE := Lib.hid hE
            have hminj : min j 64 = j := by omega
            clear hq hE
            go_wp2_with (at_builtin; refine wpList_app rfl (.tmp 21) (.tmp 32) 54 rfl W0.heap.size 55 i4 (.agg #[.int .i64 0, .int .i64 0, .int .i64 0, .int .i64 0]) 4 32 Try.underlying54 I4.out.1 I4.out.2.1 I4.out.2.2.1 I4.out.2.2.2 rfl (by decide) u4 (v * d + j) (endCells (catSome hcEdge d v j)) rfl (owns_ext Hs.out.2 ((Ext.rfl' _).alloc' _)) (some ⟨wr.heap.size, 0, none⟩) 1 1 [.int .i64 v, .int .i64 j, .int .i64 x, .int .i64 j] rfl (src_four _ _ _ _ _ _ rfl rfl rfl rfl) (by unfold maxLen; omega) (by omega) (Nat.le_trans HZ.out ((Ext.rfl' wr).alloc' _).size) ?_; intro v' w3 hg; obtain ⟨g5, g6⟩ := flat_step4 ((Ext.rfl' _).alloc' _) Hs.out.2 hg; have G5 := Lib.hid g5; have G6 := Lib.hid (g6 W0 Hs.out.1 (Nat.le_refl _)); clear hg g5 g6)
            go_roundg (d - (j + 1))
            case measure => omega
            case rel => exact ⟨j + 1, by omega, rfl, by go_num, G6.out, by rw [catSome_succ, HE.out]; exact G5.out⟩
          · obtain rfl : j = d := by omega
            go_wp2
            go_roundg (P - (v + 1))
            case measure => omega
            case rel => exact ⟨v + 1, by omega, rfl, by go_num, Hs.out.1, by rw [← catSome_all, Nat.succ_mul]; exact Hs.out.2⟩
      · obtain rfl : v = P := by omega
        have F := Lib.hid (flat_of_owns Hr.out.2 (by rw [catTo_len (c := 2) (fun _ _ => rfl)]; omega) (catTo_in v fun u j hu hj => by
          have := hc_xlt u (by omega) j (by omega)
          exact pairs_two (by unfold inI64; omega) (by unfold inI64; omega) (by unfold inI64; omega) (by unfold inI64; omega)))
        have L := Lib.hid (show (catTo hcEdge d v).length = 2 * (v * d) from catTo_len (c := 2) (fun _ _ => rfl) _ _)
        have DD := Lib.hid (show dec (Good (linkTo (blank v d) (catTo hcEdge d v) (v * d))) = dec (InB (d : Int) 0 5) ∧ goodOr (linkTo (blank v d) (catTo hcEdge d v) (v * d)) = hcAns d by rw [HPP.out]; exact hc_ans h6)
        have PO := Lib.hid (show PortsOK (blank v d) (catTo hcEdge d v) by rw [HPP.out]; exact hc_ports d h6)
        have HWZ := Lib.hid HR.out.2
        go_wp2_with fail
        (with_reducible refine (regular_any v d (v * d) (by omega) (by omega) L.out F.out PO.out).mono ?_)
        rintro e w4 ⟨v', bs, rfl, hw, ho, hf⟩
        rw [DD.out.1, DD.out.2] at *
        obtain ⟨a0, c0, a1, c1, a2, c2, rfl⟩ := ho.agg
        have E4 := Lib.hid ((HX.out.trans' Hr.out.1).trans' hw)
        have O4 := Lib.hid ho
        have F4 := Lib.hid hf.1
        have S4 := Lib.hid (show ∀ b ∈ bs, w.heap.size ≤ b ∧ b ≠ w.heap.size from fun b hb => by have := hf.2 b hb; have := Hr.out.1.size; have := HWZ.out; omega)
        obtain ⟨s0, s1, s2, t0, t1, t2⟩ := row3_facts (row_ext HR.out.1 (Hr.out.1.trans' hw))
        clear hw ho hf
        go_wp2
        have hc := close_at E4.out (Nat.le_refl _) O4.out F4.out S4.out
        refine bodyPost_ret (v := .tuple #[.agg #[.slice a0 (hcAns d).ends.length c0, .slice a1 (hcAns d).ids.length c1, .slice a2 (hcAns d).inputs.length c2], .bool (dec (InB (d : Int) 0 5))]) (by simp [results, Try.results31, go_sem, s0, s1, s2]) rfl ⟨_, bs, rfl, hc.1, hc.2.1, hc.2.2⟩
  · have D0 := Lib.hid (dec_false h)
    have D := Lib.hid (dec_false (p := InB n 0 5) fun j => h ⟨j.1, by have := j.2; omega⟩)
    have A := Lib.hid (hcAns_f (n := n) fun j => h ⟨j.1, by have := j.2; omega⟩)
    clear h
    go_enter Try.func31, Try.ntmps31
    go_wp2_with (first | (go_at_call 55; (with_reducible refine (isBetween_any n _ _ _).mono ?_); rintro e w' ⟨rfl, rfl⟩; rw [D0.out]) | fail)
    refine bodyPost_ret (v := .tuple #[znet, .bool false]) (by simp [results, Try.results31, go_sem, znet]) rfl ⟨_, [], ret_net D.out.symm, (by first | exact HX.out | exact store3_ext HX.out (Nat.le_refl _) _ _ _), by rw [A.out]; exact own_zero _, Fresh.nil _⟩
end Go.Proofs.Ytecdelmcnbgglaa
