/- The contract of the model's CycleNetwork, whatever the argument. -/
import Derived.Test.YtecdelmcnbgglaaCy
namespace Go.Proofs.Ytecdelmcnbgglaa
open Go.RowKit

theorem own_row2 (w : World) (x0 y0 x1 y1 : Int) (h : PairsIn [(x0, y0), (x1, y1)]) :
    OwnE (w.alloc (.cells #[.int .i64 x0, .int .i64 y0, .int .i64 x1, .int .i64 y1] 53)) (.slice (some ⟨w.heap.size, 0, none⟩) 2 2) [(x0, y0), (x1, y1)] [w.heap.size] := by
  refine ⟨⟨2, by simp, by unfold maxLen; omega, .inr ⟨w.heap.size, 4, fun j => ecell [(x0, y0), (x1, y1)] j, rfl, rfl, by simp, World.rowIs_alloc w _ 53 _ fun j hj => ?_, fun j hj => rfl⟩⟩, h⟩
  have h : j < 4 := hj
  match j, h with
  | 0, _ => rfl
  | 1, _ => rfl
  | 2, _ => rfl
  | 3, _ => rfl

set_option maxHeartbeats 6400000 in
set_option maxRecDepth 100000 in
theorem buCycle_any {w : World} (k : Nat) (h1 : 1 ≤ k) (h2 : k ≤ 40) :
    Calls Try.prog 53 #[.int .i64 k] w fun e w' => ∃ v' bs, e = .returned v' ∧ Ext w w' ∧ OwnNet w' v' (ciNet k [((1 % k : Nat) : Int)]) bs ∧ Fresh w bs := by
  have HX := Lib.hid ((Ext.rfl' w).alloc' (.cells #[.slice none 0 0, .slice none 0 0, .slice none 0 0] 25))
  have HR := Lib.hid (And.intro (row3_made w (.slice none 0 0) (.slice none 0 0) (.slice none 0 0) 25) (show (w.alloc (.cells #[.slice none 0 0, .slice none 0 0, .slice none 0 0] 25)).heap.size = w.heap.size + 1 by simp))
  have A := Lib.hid (cyTo_all h1)
  go_enter Try.func53, Try.ntmps53
  go_wp2_with fail
  generalize w.alloc (.cells #[.slice none 0 0, .slice none 0 0, .slice none 0 0] 25) = W0 at *
  (with_reducible refine (neEmpty_any k (by omega)).mono ?_)
  rintro e w1 ⟨v', bs, rfl, hw, ho, hf⟩
  obtain ⟨a0, c0, a1, c1, a2, c2, rfl⟩ := ho.agg_blank
  have H1 := Lib.hid (show HNet W0 _ (cyTo k 0) w1.heap.size (.slice a0 k c0) (.slice a1 0 c1) (.slice a2 k c2) from HNet.made hw ho hf)
  clear hw ho hf
  go_wp2_with fail
  go_loopg [10] k (fun g i wr => ∃ v : Nat, v ≤ k ∧ g = k - v ∧ i = .int .i64 v ∧ Hid (HNet W0 wr (cyTo k v) w1.heap.size (.slice a0 k c0) (.slice a1 0 c1) (.slice a2 k c2)))
  case atStart => exact ⟨0, Nat.zero_le _, rfl, rfl, H1.out⟩
  case round =>
    obtain ⟨v, hv, rfl, rfl, Hr⟩ := hrel
    by_cases hlt : v < k
    · have hlen := (cyTo_parts k v).1
      have hs1 : ((v : Int) + 1) % (k : Int) = (((v + 1) % k : Nat) : Int) := mod_nat (by omega)
      have hs0 : ((v : Int) + (k : Int) - 1) % (k : Int) = (((v + k - 1) % k : Nat) : Int) := mod_nat (by omega)
      have l1 : (v + 1) % k < k := Nat.mod_lt _ (by omega)
      have l2 : (v + k - 1) % k < k := Nat.mod_lt _ (by omega)
      have hE : cyRow k v = [((((v + 1) % k : Nat) : Int), 1), ((((v + k - 1) % k : Nat) : Int), 0)] := rfl
      generalize (v + 1) % k = s1 at hs1 l1 hE
      generalize (v + k - 1) % k = s0 at hs0 l2 hE
      have hL := Lib.hid (show cyTo k (v + 1) = setRow (cyTo k v) v (cyRow k v) from rfl)
      have hE2 := Lib.hid hE
      have hpi := Lib.hid (show PairsIn [((s1 : Int), (1 : Int)), ((s0 : Int), 0)] from pairs_two (by unfold inI64; omega) (by unfold inI64; omega) (by unfold inI64; omega) (by unfold inI64; omega))
      have hbz : (k : Int) ≠ 0 := by omega
      clear hE
      go_upto_region 5 with fail
      obtain ⟨bb, c, ax, cx, hv', hx, hf, hb1', hb2', hb3', hback⟩ := Hr.out.row (k := v) (by rw [hlen]; exact hlt)
      rw [hlen] at hv'
      obtain ⟨rfl, rfl⟩ : a0 = some ⟨bb, 0, none⟩ ∧ c0 = c := by simp at hv'; exact ⟨hv'.1, hv'.2⟩
      have hxa := (Ext.rfl' wr).alloc' (.cells #[.int .i64 (s1 : Int), .int .i64 1, .int .i64 (s0 : Int), .int .i64 0] 53)
      obtain ⟨q0, q1, q2, -, -, -⟩ := row3_facts Hr.out.box
      have hx2 := hxa.cell' hx
      have qa := hxa.cell' q0
      have hk0 : k ≠ 0 := by omega
      have hw1 : IntKind.i64.wrap ((v : Int) + 1) = (v : Int) + 1 := IntWalk.i64_in _ (by omega)
      have hw2 : IntKind.i64.wrap ((v : Int) + (k : Int)) = (v : Int) + (k : Int) := IntWalk.i64_in _ (by omega)
      have hw3 : IntKind.i64.wrap ((v : Int) + (k : Int) - 1) = (v : Int) + (k : Int) - 1 := IntWalk.i64_in _ (by omega)
      have hm1 : ((v : Int) + 1).tmod (k : Int) = (s1 : Int) := by rw [Int.tmod_eq_emod_of_nonneg (by omega)]; exact hs1
      have hm2 : ((v : Int) + (k : Int) - 1).tmod (k : Int) = (s0 : Int) := by rw [Int.tmod_eq_emod_of_nonneg (by omega)]; exact hs0
      have hf2 : (wr.alloc (.cells #[.int .i64 (s1 : Int), .int .i64 1, .int .i64 (s0 : Int), .int .i64 0] 53)).frozen? ⟨bb, v, none⟩ = false := by rw [World.frozen?_of_block (hxa.block bb hb3')]; exact hf
      have H2 := Lib.hid (hback _ (.slice (some ⟨wr.heap.size, 0, none⟩) 2 2) _ [wr.heap.size] hxa (own_row2 wr _ _ _ _ hpi.out) (by simp))
      clear hback hxa hv' hb3' hb1' hb2' hlen
      go_region
      go_wp2
      go_roundg (k - (v + 1))
      case measure => omega
      case rel => exact ⟨v + 1, by omega, rfl, by go_num, by rw [hL.out, hE2.out]; exact H2.out.mono (Ext.rfl' _).drew'⟩
    · obtain rfl : v = k := by omega
      obtain ⟨bs, ho, hnd, hge⟩ := Hr.out.net
      rw [A.out] at ho
      have HO := Lib.hid ho
      have HND := Lib.hid hnd
      have HGE := Lib.hid (show ∀ b ∈ bs, w.heap.size ≤ b ∧ b ≠ w.heap.size from fun b hb => by have := (hge b hb).1; have := HR.out.2; omega)
      have EX := Lib.hid (HX.out.trans' Hr.out.ext)
      obtain ⟨p0, p1, p2, -, -, -⟩ := row3_facts Hr.out.box
      obtain ⟨s0, s1, s2, t0, t1, t2⟩ := row3_facts (row_ext HR.out.1 Hr.out.ext)
      clear ho hnd hge
      go_wp2
      have hc := close_at EX.out (Nat.le_refl _) HO.out HND.out HGE.out
      refine bodyPost_ret (v := .agg #[.slice a0 v c0, .slice a1 0 c1, .slice a2 v c2]) (by simp [results, Try.results53, go_sem, s0, s1, s2]) rfl ⟨_, bs, rfl, hc.1, hc.2.1, hc.2.2⟩

set_option maxHeartbeats 1600000 in
set_option maxRecDepth 100000 in
theorem specCycle_any {w : World} (n : Int) :
    Calls Try.prog 20 #[.int .i64 n] w fun e w' => ∃ v' bs, e = .returned (.tuple #[v', .bool (dec (InB n 1 40))]) ∧ Ext w w' ∧ OwnNet w' v' (cyAns n) bs ∧ Fresh w bs := by
  have HX := Lib.hid ((Ext.rfl' w).alloc' (.cells #[.slice none 0 0, .slice none 0 0, .slice none 0 0] 25))
  have HR := Lib.hid (And.intro (row3_made w (.slice none 0 0) (.slice none 0 0) (.slice none 0 0) 25) (show (w.alloc (.cells #[.slice none 0 0, .slice none 0 0, .slice none 0 0] 25)).heap.size = w.heap.size + 1 by simp))
  by_cases h : InB n 1 40
  · have D := Lib.hid (dec_true h)
    have A0 := cyAns_t h
    obtain ⟨k, rfl⟩ := Int.eq_ofNat_of_zero_le (a := n) (by have := h.1; omega)
    have h1 : 1 ≤ k := by have := h.1; omega
    have h2 : k ≤ 40 := by have := h.2; omega
    simp only [Int.toNat_natCast] at A0
    have A := Lib.hid A0
    clear A0 h
    go_enter Try.func20, Try.ntmps20
    go_wp2_with (first | (go_at_call 47; (with_reducible refine (l1In_any (k : Int) _ _ _).mono ?_); rintro e w' ⟨rfl, rfl⟩; rw [D.out]) | fail)
    generalize w.alloc (.cells #[.slice none 0 0, .slice none 0 0, .slice none 0 0] 25) = W0 at *
    (with_reducible refine (buCycle_any k h1 h2).mono ?_)
    rintro e w4 ⟨v', bs, rfl, hw, ho, hf⟩
    rw [← A.out] at ho
    obtain ⟨a0, c0, a1, c1, a2, c2, rfl⟩ := ho.agg
    have HWZ := Lib.hid HR.out.2
    have E4 := Lib.hid (HX.out.trans' hw)
    have O4 := Lib.hid ho
    have F4 := Lib.hid hf.1
    have S4 := Lib.hid (show ∀ b ∈ bs, w.heap.size ≤ b ∧ b ≠ w.heap.size from fun b hb => by have := hf.2 b hb; have := HWZ.out; omega)
    obtain ⟨s0, s1, s2, t0, t1, t2⟩ := row3_facts (row_ext HR.out.1 hw)
    clear hw ho hf
    go_wp2
    have hc := close_at E4.out (Nat.le_refl _) O4.out F4.out S4.out
    refine bodyPost_ret (v := .tuple #[.agg #[.slice a0 (cyAns k).ends.length c0, .slice a1 (cyAns k).ids.length c1, .slice a2 (cyAns k).inputs.length c2], .bool true]) (by simp [results, Try.results20, go_sem, s0, s1, s2]) rfl ⟨_, bs, ret_net D.out.symm, hc.1, hc.2.1, hc.2.2⟩
  · have D := Lib.hid (dec_false h)
    have A := Lib.hid (cyAns_f h)
    clear h
    go_enter Try.func20, Try.ntmps20
    go_wp2_with (first | (go_at_call 47; (with_reducible refine (l1In_any n _ _ _).mono ?_); rintro e w' ⟨rfl, rfl⟩; rw [D.out]) | fail)
    refine bodyPost_ret (v := .tuple #[znet, .bool false]) (by simp [results, Try.results20, go_sem, znet]) rfl ⟨_, [], ret_net D.out.symm, (by first | exact HX.out | exact store3_ext HX.out (Nat.le_refl _) _ _ _), by rw [A.out]; exact own_zero _, Fresh.nil _⟩
end Go.Proofs.Ytecdelmcnbgglaa
