/- Complete networks: the contracts of both CompleteNetwork, whatever the argument. -/
import Derived.Test.YtecdelmcnbgglaaGa
namespace Go.Proofs.Ytecdelmcnbgglaa
open Go.RowKit

/-- The edge of port i of node v, as the program lists it. -/
def coEdge (k v i : Nat) : List (Int × Int) := [((v : Int), (i : Int)), (((v + 1 + i) % k : Nat), (k : Int) - 2 - i)]
def coList (k : Nat) : List (Int × Int) := catTo (coEdge k) (k - 1) k
/-- The end of port i of node v, as the model reckons it. -/
def coEnd (k v i : Nat) : Int × Int := (((v + 1 + i) % k : Nat), ((v + 2 * k - (v + 1 + i) % k - 1) % k : Nat))
def coNet (k : Nat) : Net := growTo (coEnd k) (blank k 0) (k - 1) k
theorem co_same : ∀ k, k ≤ 7 → 1 ≤ k → linkTo (blank k (k - 1)) (coList k) (k * (k - 1)) = coNet k ∧ EndsOK (coNet k).ends ∧ PortsOK (blank k (k - 1)) (coList k) ∧ (coNet k).ids = [] ∧ (coNet k).inputs = List.replicate k 0 := by
  decide +kernel
theorem co_good {k : Nat} (h1 : 1 ≤ k) (h2 : k ≤ 7) : Good (coNet k) :=
  good_plain h1 (by omega) (by rw [coNet, growTo_len]; simp [blank]) (co_same k h2 h1).2.2.2.1 (co_same k h2 h1).2.2.2.2 (co_same k h2 h1).2.1
noncomputable def coAns (n : Int) : Net := if dec (InB n 1 7) = true then coNet n.toNat else zeroNet
theorem coAns_t {n : Int} (h : InB n 1 7) : coAns n = coNet n.toNat := by simp [coAns, dec_true h]
theorem coAns_f {n : Int} (h : ¬ InB n 1 7) : coAns n = zeroNet := by simp [coAns, dec_false h]
theorem coAns_small (n : Int) : (coAns n).small := by
  by_cases h : InB n 1 7
  · rw [coAns_t h]; exact good_small (co_good (by have := h.1; omega) (by have := h.2; omega))
  · rw [coAns_f h]; exact zero_small

set_option maxHeartbeats 3200000 in
set_option maxRecDepth 100000 in
theorem complete_any {w : World} (n : Int) :
    Calls Try.prog 23 #[.int .i64 n] w fun e w' => ∃ v' bs, e = .returned (.tuple #[v', .bool (dec (InB n 1 7))]) ∧ Ext w w' ∧ OwnNet w' v' (coAns n) bs ∧ Fresh w bs := by
  have HX := Lib.hid ((Ext.rfl' w).alloc' (.cells #[.slice none 0 0, .slice none 0 0, .slice none 0 0] 25))
  have HR := Lib.hid (And.intro (row3_made w (.slice none 0 0) (.slice none 0 0) (.slice none 0 0) 25) (show (w.alloc (.cells #[.slice none 0 0, .slice none 0 0, .slice none 0 0] 25)).heap.size = w.heap.size + 1 by simp))
  by_cases h : InB n 1 7
  · have D := Lib.hid (dec_true h)
    have A0 := coAns_t h
    obtain ⟨k, rfl⟩ := Int.eq_ofNat_of_zero_le (a := n) (by have := h.1; omega)
    have h1 : 1 ≤ k := by have := h.1; omega
    have h7 : k ≤ 7 := by have := h.2; omega
    simp only [Int.toNat_natCast] at A0
    have A := Lib.hid A0
    obtain ⟨i4, hi, hz0, hz1, hz2⟩ := info_parts Try.infoTEE
    have I4 := Lib.hid (And.intro hi (And.intro hz0 (And.intro hz1 hz2)))
    clear hi hz0 hz1 hz2 A0 h
    go_enter Try.func23, Try.ntmps23
    go_wp2_with (first | (go_at_call 55; (with_reducible refine (isBetween_any (k : Int) _ _ _).mono ?_); rintro e w' ⟨rfl, rfl⟩; rw [D.out]) | fail)
    generalize w.alloc (.cells #[.slice none 0 0, .slice none 0 0, .slice none 0 0] 25) = W0 at *
    go_loopg [4, 13] k (fun g s i wr => ∃ v : Nat, v ≤ k ∧ g = k - v ∧ i = .int .i64 v ∧ Hid (Ext W0 wr ∧ wr.ownsRow W0.heap.size 55 4 s (v * (k - 1)) (endCells (catTo (coEdge k) (k - 1) v))))
    case atStart => exact ⟨0, Nat.zero_le _, rfl, rfl, (Ext.rfl' W0).alloc' _, by rw [Nat.zero_mul, ← HR.out.2]; exact owns_lit W0 _ _⟩
    case round =>
      obtain ⟨v, hv, rfl, rfl, Hr⟩ := hrel
      by_cases hlt : v < k
      · have hk1 : (k : Int) - 1 = ((k - 1 : Nat) : Int) := by omega
        go_wp2
        have hw0 : ∃ wo : World, wo = wr := ⟨_, rfl⟩
        obtain ⟨wo, rfl⟩ := hw0
        go_loopg [4, 18] (k - 1) (fun g s i wx => ∃ j : Nat, j ≤ k - 1 ∧ g = k - 1 - j ∧ i = .int .i64 j ∧ Hid (Ext W0 wx ∧ wx.ownsRow W0.heap.size 55 4 s (v * (k - 1) + j) (endCells (catSome (coEdge k) (k - 1) v j))))
        case atStart => exact ⟨0, Nat.zero_le _, rfl, rfl, Hr.out.1, by rw [catSome_zero]; exact Hr.out.2⟩
        case round =>
          obtain ⟨j, hj, rfl, rfl, Hs⟩ := hrel
          by_cases hjt : j < k - 1
          · have hvk : v * (k - 1) ≤ 1600 := mul_1600 (by omega) (by omega)
            have HZ := Lib.hid Hs.out.1.size
            have hmod : ((v : Int) + 1 + (j : Int)) % (k : Int) = (((v + 1 + j) % k : Nat) : Int) := mod_nat (by omega)
            obtain ⟨x, hx⟩ : ∃ x : Nat, x = (v + 1 + j) % k := ⟨_, rfl⟩
            rw [← hx] at hmod
            have hk0 : (k : Int) ≠ 0 := by omega
            have hxk : x < k := by rw [hx]; exact Nat.mod_lt _ (by omega)
            have HXX := Lib.hid hx
            clear hx
            go_wp2_with (at_builtin; refine wpList_app rfl (.tmp 21) (.tmp 37) 54 rfl W0.heap.size 55 i4 (.agg #[.int .i64 0, .int .i64 0, .int .i64 0, .int .i64 0]) 4 32 Try.underlying54 I4.out.1 I4.out.2.1 I4.out.2.2.1 I4.out.2.2.2 rfl (by decide) u4 (v * (k - 1) + j) (endCells (catSome (coEdge k) (k - 1) v j)) rfl (owns_ext Hs.out.2 ((Ext.rfl' _).alloc' _)) (some ⟨wr.heap.size, 0, none⟩) 1 1 [.int .i64 v, .int .i64 j, .int .i64 x, .int .i64 ((k : Int) - 2 - j)] rfl (src_four _ _ _ _ _ _ rfl rfl rfl rfl) (by unfold maxLen; omega) (by omega) (Nat.le_trans HZ.out ((Ext.rfl' wr).alloc' _).size) ?_; intro v' w3 hg; obtain ⟨g5, g6⟩ := flat_step4 ((Ext.rfl' _).alloc' _) Hs.out.2 hg; have G5 := Lib.hid g5; have G6 := Lib.hid (g6 W0 Hs.out.1 (Nat.le_refl _)); clear hg g5 g6)
            go_roundg (k - 1 - (j + 1))
            case measure => omega
            case rel => exact ⟨j + 1, by omega, rfl, by go_num, G6.out, by rw [catSome_succ, coEdge, ← HXX.out]; exact G5.out⟩
          · obtain rfl : j = k - 1 := by omega
            go_wp2
            go_roundg (k - (v + 1))
            case measure => omega
            case rel => exact ⟨v + 1, by omega, rfl, by go_num, Hs.out.1, by rw [← catSome_all, Nat.succ_mul]; exact Hs.out.2⟩
      · obtain rfl : v = k := by omega
        have hk1 : (v : Int) - 1 = ((v - 1 : Nat) : Int) := by omega
        have hs := co_same v h7 h1
        have F := Lib.hid (flat_of_owns Hr.out.2 (by rw [catTo_len (c := 2) (fun _ _ => rfl)]; omega) (catTo_in v fun u j hu hj => by
          have := Nat.mod_lt (u + 1 + j) (show 0 < v by omega)
          exact pairs_two (by unfold inI64; omega) (by unfold inI64; omega) (by unfold inI64; omega) (by unfold inI64; omega)))
        have L := Lib.hid (show (coList v).length = 2 * (v * (v - 1)) from catTo_len (c := 2) (fun _ _ => rfl) _ _)
        have DD := Lib.hid (show dec (Good (linkTo (blank v (v - 1)) (coList v) (v * (v - 1)))) = dec (InB (v : Int) 1 7) ∧ goodOr (linkTo (blank v (v - 1)) (coList v) (v * (v - 1))) = coAns v by
          rw [hs.1, dec_true (co_good h1 h7), goodOr_t (co_good h1 h7), D.out, A.out]; exact ⟨rfl, rfl⟩)
        have P := Lib.hid hs.2.2.1
        have HWZ := Lib.hid HR.out.2
        clear hs
        go_wp2_with fail
        (with_reducible refine (regular_any v (v - 1) (v * (v - 1)) (by omega) (by omega) L.out F.out P.out).mono ?_)
        rintro e w4 ⟨v', bs, rfl, hw, ho, hf⟩
        rw [DD.out.1, DD.out.2] at *
        obtain ⟨a0, c0, a1, c1, a2, c2, rfl⟩ := ho.agg
        have E4 := Lib.hid ((HX.out.trans' Hr.out.1).trans' hw)
        have O4 := Lib.hid ho
        have F4 := Lib.hid hf.1
        have S4 := Lib.hid (show ∀ b ∈ bs, w.heap.size ≤ b ∧ b ≠ w.heap.size from fun b hb => by have := hf.2 b hb; have := Hr.out.1.size; have := HWZ.out; omega)
        obtain ⟨s0, s1, s2, t0, t1, t2⟩ := row3_facts (row_ext HR.out.1 (Hr.out.1.trans' hw))
        clear hw ho hf
        go_wp2
        have hc := close_at E4.out (Nat.le_refl _) O4.out F4.out S4.out
        refine bodyPost_ret (v := .tuple #[.agg #[.slice a0 (coAns v).ends.length c0, .slice a1 (coAns v).ids.length c1, .slice a2 (coAns v).inputs.length c2], .bool (dec (InB (v : Int) 1 7))]) (by simp [results, Try.results23, go_sem, s0, s1, s2]) rfl ⟨_, bs, rfl, hc.1, hc.2.1, hc.2.2⟩
  · have D := Lib.hid (dec_false h)
    have A := Lib.hid (coAns_f h)
    clear h
    go_enter Try.func23, Try.ntmps23
    go_wp2_with (first | (go_at_call 55; (with_reducible refine (isBetween_any n _ _ _).mono ?_); rintro e w' ⟨rfl, rfl⟩; rw [D.out]) | fail)
    refine bodyPost_ret (v := .tuple #[znet, .bool false]) (by simp [results, Try.results23, go_sem, znet]) rfl ⟨_, [], ret_net D.out.symm, (by first | exact HX.out | exact store3_ext HX.out (Nat.le_refl _) _ _ _), by rw [A.out]; exact own_zero _, Fresh.nil _⟩
end Go.Proofs.Ytecdelmcnbgglaa
