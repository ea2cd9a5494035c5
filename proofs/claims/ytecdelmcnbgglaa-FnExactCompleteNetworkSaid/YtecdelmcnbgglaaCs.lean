/- The contract of the model's CompleteNetwork, whatever the argument. -/
import Derived.Test.YtecdelmcnbgglaaCn
import Derived.Test.YtecdelmcnbgglaaGb
namespace Go.Proofs.Ytecdelmcnbgglaa
open Go.RowKit

set_option maxHeartbeats 6400000 in
set_option maxRecDepth 100000 in
theorem specComplete_any {w : World} (n : Int) :
    Calls Try.prog 22 #[.int .i64 n] w fun e w' => ∃ v' bs, e = .returned (.tuple #[v', .bool (dec (InB n 1 7))]) ∧ Ext w w' ∧ OwnNet w' v' (coAns n) bs ∧ Fresh w bs := by
  have HX := Lib.hid ((Ext.rfl' w).alloc' (.cells #[.slice none 0 0, .slice none 0 0, .slice none 0 0] 25))
  have HR := Lib.hid (And.intro (row3_made w (.slice none 0 0) (.slice none 0 0) (.slice none 0 0) 25) (show (w.alloc (.cells #[.slice none 0 0, .slice none 0 0, .slice none 0 0] 25)).heap.size = w.heap.size + 1 by simp))
  by_cases h : InB n 1 7
  · have D := Lib.hid (dec_true h)
    have A0 := coAns_t h
    obtain ⟨k, rfl⟩ := Int.eq_ofNat_of_zero_le (a := n) (by have := h.1; omega)
    have h1 : 1 ≤ k := by have := h.1; omega
    have h7 : k ≤ 7 := by have := h.2; omega
    simp only [Int.toNat_natCast] at A0
    have A := Lib.hid A0
    obtain ⟨i1, hi, hz0, hz1, hz2⟩ := info_parts Try.info44
    have I1 := Lib.hid (And.intro hi (And.intro hz0 (And.intro hz1 hz2)))
    clear hi hz0 hz1 hz2 A0 h
    go_enter Try.func22, Try.ntmps22
    go_wp2_with (first | (go_at_call 47; (with_reducible refine (l1In_any (k : Int) _ _ _).mono ?_); rintro e w' ⟨rfl, rfl⟩; rw [D.out]) | fail)
    generalize w.alloc (.cells #[.slice none 0 0, .slice none 0 0, .slice none 0 0] 25) = W0 at *
    (with_reducible refine (neEmpty_any k (by omega)).mono ?_)
    rintro e w1 ⟨v', bs, rfl, hw, ho, hf⟩
    obtain ⟨a0, c0, a1, c1, a2, c2, rfl⟩ := ho.agg_blank
    have H1 := Lib.hid (HNet.made hw ho hf)
    clear hw ho hf
    go_wp2_with fail
    go_loopg [17] k (fun g i wr => ∃ v : Nat, v ≤ k ∧ g = k - v ∧ i = .int .i64 v ∧ Hid (HNet W0 wr (growTo (coEnd k) (blank k 0) (k - 1) v) w1.heap.size (.slice a0 k c0) (.slice a1 0 c1) (.slice a2 k c2)))
    case atStart => exact ⟨0, Nat.zero_le _, rfl, rfl, H1.out⟩
    case round =>
      obtain ⟨v, hv, rfl, rfl, Hr⟩ := hrel
      by_cases hlt : v < k
      · go_wp2
        have hw0 : ∃ wo : World, wo = wr := ⟨_, rfl⟩
        obtain ⟨wo, rfl⟩ := hw0
        go_loopg [6] (k - 1) (fun g i wx => ∃ j : Nat, j ≤ k - 1 ∧ g = k - 1 - j ∧ i = .int .i64 j ∧ Hid (HNet W0 wx (growRow (coEnd k) (growTo (coEnd k) (blank k 0) (k - 1) v) v j) w1.heap.size (.slice a0 k c0) (.slice a1 0 c1) (.slice a2 k c2)))
        case atStart => exact ⟨0, Nat.zero_le _, rfl, rfl, Hr.out⟩
        case round =>
          obtain ⟨j, hj, rfl, rfl, HN⟩ := hrel
          by_cases hjt : j < k - 1
          · have hlen0 : (growTo (coEnd k) (blank k 0) (k - 1) v).ends.length = k := by rw [growTo_len]; simp [blank]
            have hlen1 : (growRow (coEnd k) (growTo (coEnd k) (blank k 0) (k - 1) v) v j).ends.length = k := by rw [growRow_len]; exact hlen0
            have hrow : (gr (growRow (coEnd k) (growTo (coEnd k) (blank k 0) (k - 1) v) v j).ends v).length ≤ 64 := by
              rw [growRow_deg _ _ _ _ (by omega), growTo_deg _ _ _ _ _ (by simp [blank]; omega), show gr (blank k 0).ends v = [] from gr_replicate _ _ _ hlt, if_pos rfl, if_neg (by omega)]
              simp; omega
            have hmod : ((v : Int) + 1 + (j : Int)) % (k : Int) = (((v + 1 + j) % k : Nat) : Int) := mod_nat (by omega)
            have hxk : (v + 1 + j) % k < k := Nat.mod_lt _ (by omega)
            have hmod2 : ((v : Int) + 2 * (k : Int) - (((v + 1 + j) % k : Nat) : Int) - 1) % (k : Int) = (((v + 2 * k - (v + 1 + j) % k - 1) % k : Nat) : Int) := mod_nat (by omega)
            have hyk : (v + 2 * k - (v + 1 + j) % k - 1) % k < k := Nat.mod_lt _ (by omega)
            have hE : coEnd k v j = ((((v + 1 + j) % k : Nat) : Int), (((v + 2 * k - (v + 1 + j) % k - 1) % k : Nat) : Int)) := rfl
            generalize (v + 2 * k - (v + 1 + j) % k - 1) % k = y at hmod2 hyk hE
            generalize (v + 1 + j) % k = x at hmod hxk hmod2 hE
            have HE := Lib.hid hE
            have HM := Lib.hid (show growRow (coEnd k) (growTo (coEnd k) (blank k 0) (k - 1) v) v (j + 1) = addEnd (growRow (coEnd k) (growTo (coEnd k) (blank k 0) (k - 1) v) v j) v ((x : Int), (y : Int)) by rw [growRow, hE])
            generalize growRow (coEnd k) (growTo (coEnd k) (blank k 0) (k - 1) v) v j = M at HN HM hlen1 hrow
            have HP := Lib.hid (show inI64 (x : Int) ∧ inI64 (y : Int) from ⟨by unfold inI64; omega, by unfold inI64; omega⟩)
            obtain ⟨bs, b, c, ax, cx, t, hv2, hat, hm0, hge⟩ := HN.out.at (k := v) (by omega)
            obtain ⟨rfl, rfl⟩ : a0 = some ⟨b, 0, none⟩ ∧ c0 = c := by simp at hv2; exact ⟨hv2.1, hv2.2.2⟩
            have FA := Lib.hid hat
            have hm := Lib.hid hm0
            have HGE := Lib.hid hge
            have hw1 : IntKind.i64.wrap (2 * (k : Int)) = 2 * (k : Int) := IntWalk.i64_in _ (by omega)
            have hw2 : IntKind.i64.wrap ((v : Int) + 2 * (k : Int)) = (v : Int) + 2 * (k : Int) := IntWalk.i64_in _ (by omega)
            have hw3 : IntKind.i64.wrap ((v : Int) + 2 * (k : Int) - (x : Int)) = (v : Int) + 2 * (k : Int) - (x : Int) := IntWalk.i64_in _ (by omega)
            have hw4 : IntKind.i64.wrap ((v : Int) + 2 * (k : Int) - (x : Int) - 1) = (v : Int) + 2 * (k : Int) - (x : Int) - 1 := IntWalk.i64_in _ (by omega)
            have hm3 : ((v : Int) + 2 * (k : Int) - (x : Int) - 1).tmod (k : Int) = (y : Int) := by rw [Int.tmod_eq_emod_of_nonneg (by omega)]; exact hmod2
            have hkz : (k = 0) = False := eq_false (by omega)
            have hk0 : (k : Int) ≠ 0 := by omega
            clear hat hm0 hge hv2 hlen0 hlen1 hE
            go_upto_region 11 with fail
            have mkS : ∀ w' : World, Ext wr w' → w'.cell? ⟨w1.heap.size, 0, none⟩ = some (.slice (some ⟨b, 0, none⟩) k c0) ∧ w'.cell? ⟨b, v, none⟩ = some (.slice ax (gr (M).ends v).length cx) := fun w' h => ⟨h.cell' (row3_facts HN.out.box).1, h.cell' FA.out.cell⟩
            refine wp_region_gate (n := 22) (S := fun w' => w'.cell? ⟨w1.heap.size, 0, none⟩ = some (.slice (some ⟨b, 0, none⟩) k c0) ∧ w'.cell? ⟨b, v, none⟩ = some (.slice ax (gr (M).ends v).length cx)) (by kernel_rfl) (mkS _ (Ext.rfl' wr).drew') (fun hHeld => ?_)
            iterate 19 (
              (first
                | refine wpAnyG_take (i := 0) (v := ?_) rfl (by decide +kernel) (by kernel_rfl) (by decide) (by kernel_rfl) (by kernel_rfl) (fun _ _ _ h => h) (Or.inl ⟨by rfl, ?_⟩) hHeld ?_
                | refine wpAnyG_take (i := 1) (v := ?_) rfl (by decide +kernel) (by kernel_rfl) (by decide) (by kernel_rfl) (by kernel_rfl) (fun _ _ _ h => h) (Or.inl ⟨by rfl, ?_⟩) hHeld ?_
                | refine wpAnyG_take (i := 2) (v := ?_) rfl (by decide +kernel) (by kernel_rfl) (by decide) (by kernel_rfl) (by kernel_rfl) (fun _ _ _ h => h) (Or.inl ⟨by rfl, ?_⟩) hHeld ?_
                | refine wpAnyG_take (i := 3) (v := ?_) rfl (by decide +kernel) (by kernel_rfl) (by decide) (by kernel_rfl) (by kernel_rfl) (fun _ _ _ h => h) (Or.inl ⟨by rfl, ?_⟩) hHeld ?_
                | refine wpAnyG_take (i := 4) (v := ?_) rfl (by decide +kernel) (by kernel_rfl) (by decide) (by kernel_rfl) (by kernel_rfl) (fun _ _ _ h => h) (Or.inl ⟨by rfl, ?_⟩) hHeld ?_
                | refine wpAnyG_take (i := 5) (v := ?_) rfl (by decide +kernel) (by kernel_rfl) (by decide) (by kernel_rfl) (by kernel_rfl) (fun _ _ _ h => h) (Or.inl ⟨by rfl, ?_⟩) hHeld ?_
                | refine wpAnyG_take (i := 6) (v := ?_) rfl (by decide +kernel) (by kernel_rfl) (by decide) (by kernel_rfl) (by kernel_rfl) (fun _ _ _ h => h) (Or.inl ⟨by rfl, ?_⟩) hHeld ?_
                | refine wpAnyG_take (i := 7) (v := ?_) rfl (by decide +kernel) (by kernel_rfl) (by decide) (by kernel_rfl) (by kernel_rfl) (fun _ _ _ h => h) (Or.inl ⟨by rfl, ?_⟩) hHeld ?_
                | refine wpAnyG_take (i := 8) (v := ?_) rfl (by decide +kernel) (by kernel_rfl) (by decide) (by kernel_rfl) (by kernel_rfl) (fun _ _ _ h => h) (Or.inl ⟨by rfl, ?_⟩) hHeld ?_
                | refine wpAnyG_take (i := 9) (v := ?_) rfl (by decide +kernel) (by kernel_rfl) (by decide) (by kernel_rfl) (by kernel_rfl) (fun _ _ _ h => h) (Or.inl ⟨by rfl, ?_⟩) hHeld ?_
                | refine wpAnyG_take (i := 10) (v := ?_) rfl (by decide +kernel) (by kernel_rfl) (by decide) (by kernel_rfl) (by kernel_rfl) (fun _ _ _ h => h) (Or.inl ⟨by rfl, ?_⟩) hHeld ?_
                | refine wpAnyG_take (i := 11) (v := ?_) rfl (by decide +kernel) (by kernel_rfl) (by decide) (by kernel_rfl) (by kernel_rfl) (fun _ _ _ h => h) (Or.inl ⟨by rfl, ?_⟩) hHeld ?_
                | refine wpAnyG_take (i := 12) (v := ?_) rfl (by decide +kernel) (by kernel_rfl) (by decide) (by kernel_rfl) (by kernel_rfl) (fun _ _ _ h => h) (Or.inl ⟨by rfl, ?_⟩) hHeld ?_
                | refine wpAnyG_take (i := 13) (v := ?_) rfl (by decide +kernel) (by kernel_rfl) (by decide) (by kernel_rfl) (by kernel_rfl) (fun _ _ _ h => h) (Or.inl ⟨by rfl, ?_⟩) hHeld ?_
                | refine wpAnyG_take (i := 14) (v := ?_) rfl (by decide +kernel) (by kernel_rfl) (by decide) (by kernel_rfl) (by kernel_rfl) (fun _ _ _ h => h) (Or.inl ⟨by rfl, ?_⟩) hHeld ?_
                | refine wpAnyG_take (i := 15) (v := ?_) rfl (by decide +kernel) (by kernel_rfl) (by decide) (by kernel_rfl) (by kernel_rfl) (fun _ _ _ h => h) (Or.inl ⟨by rfl, ?_⟩) hHeld ?_
                | refine wpAnyG_take (i := 16) (v := ?_) rfl (by decide +kernel) (by kernel_rfl) (by decide) (by kernel_rfl) (by kernel_rfl) (fun _ _ _ h => h) (Or.inl ⟨by rfl, ?_⟩) hHeld ?_
                | refine wpAnyG_take (i := 17) (v := ?_) rfl (by decide +kernel) (by kernel_rfl) (by decide) (by kernel_rfl) (by kernel_rfl) (fun _ _ _ h => h) (Or.inl ⟨by rfl, ?_⟩) hHeld ?_
                | refine wpAnyG_take (i := 18) (v := ?_) rfl (by decide +kernel) (by kernel_rfl) (by decide) (by kernel_rfl) (by kernel_rfl) (fun _ _ _ h => h) (Or.inl ⟨by rfl, ?_⟩) hHeld ?_
              )
              rotate_left 1
              · (intro w' hSw; (try dsimp only at hSw); go_simp; (try simp only [hw1, hw2, hw3, hw4, hm3, hkz, if_false])) <;> with_reducible rfl
              simp only [Act.put, List.setIfInBounds_toArray])
            refine wpAnyG_one (i := 19) rfl (by kernel_rfl) rfl (fun K hK => ?_)
            go_simp
            refine hK.out _ _ (fun _ => mkS _ (by first | exact (Ext.rfl' wr).drew'.alloc' _ | exact ((Ext.rfl' wr).alloc' _).drew')) (fun _ => ?_)
            clear hK K
            refine wpAnyG_one (i := 20) rfl (by kernel_rfl) rfl (fun K hK => ?_)
            refine wp_app2 (.tmp 39) (.tmp 51) 51 rfl 0 53 i1 (.agg #[.int .i64 0, .int .i64 0]) 2 16 Try.underlying51 I1.out.1 I1.out.2.1 I1.out.2.2.1 I1.out.2.2.2 rfl (by decide) (.slice ax (gr (M).ends v).length cx) (gr (M).ends v).length (endCells (gr (M).ends v)) rfl ((FA.out.row.ext (by first | exact (Ext.rfl' wr).drew'.alloc' _ | exact ((Ext.rfl' wr).alloc' _).drew')).owns (fun _ _ => Nat.zero_le _)) (some ⟨wr.heap.size, 0, none⟩) 1 1 [.int .i64 ((x : Int)), .int .i64 ((y : Int))] rfl (by first | exact src_two wr.drew _ _ 53 rfl rfl | exact src_two wr _ _ 53 rfl rfl | exact src_drew (src_two wr _ _ 53 rfl rfl)) (by unfold maxLen; omega) (by omega) (Nat.zero_le _) ?_
            intro v' w1s hg
            have PUs := Lib.hid (FA.out.put (p := ((x : Int), (y : Int))) (by first | exact (Ext.rfl' wr).drew'.alloc' _ | exact ((Ext.rfl' wr).alloc' _).drew') HP.out hg)
            obtain ⟨ays, cys, rfl⟩ := PUs.out.form
            have MZ := Lib.hid (PUs.out.row hm.out HN.out.box)
            have cz := (row3_facts MZ.out.1).1
            have f1 := PUs.out.cell
            have f2 := PUs.out.frozen
            clear hg
            refine hK.out _ _ (fun _ => ⟨cz, f1⟩) (fun hHeld' => ?_)
            have hHeld := hHeld' (by decide)
            clear hK K hHeld'
            (
              (first
                | refine wpAnyG_take (i := 21) (v := ?_) rfl (by decide +kernel) (by kernel_rfl) (by decide) (by kernel_rfl) (by kernel_rfl) (fun _ _ _ h => h) (Or.inl ⟨by rfl, ?_⟩) hHeld ?_
              )
              rotate_left 1
              · (intro w' hSw; (try dsimp only at hSw); go_simp) <;> with_reducible rfl
              simp only [Act.put, List.setIfInBounds_toArray])
            refine wpAnyG_one (i := 22) rfl (by kernel_rfl) rfl (fun K hK => ?_)
            go_simp
            refine hK.out _ _ (fun h => absurd rfl h) (fun _ => ?_)
            clear hK K
            refine wpAnyG_done (by kernel_rfl) ?_ _
            clear hHeld cz f1 f2 mkS MZ
            have H2 := Lib.hid (HN.out.put hm.out HGE.out PUs.out)
            clear PUs
            go_wp2
            go_roundg (k - 1 - (j + 1))
            case measure => omega
            case rel => exact ⟨j + 1, by omega, rfl, by go_num, by rw [HM.out]; exact H2.out⟩
          · obtain rfl : j = k - 1 := by omega
            have hjn : ¬ ((k - 1 : Nat) : Int) + 1 < (k : Int) := by omega
            go_wp2
            go_roundg (k - (v + 1))
            case measure => omega
            case rel => exact ⟨v + 1, by omega, rfl, by go_num, HN.out⟩
      · obtain rfl : v = k := by omega
        obtain ⟨bs, ho, hnd, hge⟩ := Hr.out.net
        have HO := Lib.hid ho
        have HND := Lib.hid hnd
        have HGE := Lib.hid (show ∀ b ∈ bs, w.heap.size ≤ b ∧ b ≠ w.heap.size from fun b hb => by have := (hge b hb).1; have := HR.out.2; omega)
        have EX := Lib.hid (HX.out.trans' Hr.out.ext)
        obtain ⟨p0, p1, p2, -, -, -⟩ := row3_facts Hr.out.box
        obtain ⟨s0, s1, s2, t0, t1, t2⟩ := row3_facts (row_ext HR.out.1 Hr.out.ext)
        clear ho hnd hge
        go_wp2
        have hc := close_at EX.out (Nat.le_refl _) HO.out HND.out HGE.out
        refine bodyPost_ret (v := .tuple #[.agg #[.slice a0 v c0, .slice a1 0 c1, .slice a2 v c2], .bool true]) (by simp [results, Try.results22, go_sem, s0, s1, s2]) rfl ⟨_, bs, ret_net D.out.symm, hc.1, by rw [A.out]; exact hc.2.1, hc.2.2⟩
  · have D := Lib.hid (dec_false h)
    have A := Lib.hid (coAns_f h)
    clear h
    go_enter Try.func22, Try.ntmps22
    go_wp2_with (first | (go_at_call 47; (with_reducible refine (l1In_any n _ _ _).mono ?_); rintro e w' ⟨rfl, rfl⟩; rw [D.out]) | fail)
    refine bodyPost_ret (v := .tuple #[znet, .bool false]) (by simp [results, Try.results22, go_sem, znet]) rfl ⟨_, [], ret_net D.out.symm, (by first | exact HX.out | exact store3_ext HX.out (Nat.le_refl _) _ _ _), by rw [A.out]; exact own_zero _, Fresh.nil _⟩
end Go.Proofs.Ytecdelmcnbgglaa
