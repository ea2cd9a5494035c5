/- The contract of the model's HypercubeNetwork, whatever the argument. -/
import Derived.Test.YtecdelmcnbgglaaHc
import Derived.Test.YtecdelmcnbgglaaGb
namespace Go.Proofs.Ytecdelmcnbgglaa
open Go.RowKit

set_option maxHeartbeats 6400000 in
set_option maxRecDepth 100000 in
theorem specHypercube_any {w : World} (n : Int) :
    Calls Try.prog 30 #[.int .i64 n] w fun e w' => ∃ v' bs, e = .returned (.tuple #[v', .bool (dec (InB n 0 5))]) ∧ Ext w w' ∧ OwnNet w' v' (hcAns n) bs ∧ Fresh w bs := by
  have HX := Lib.hid ((Ext.rfl' w).alloc' (.cells #[.slice none 0 0, .slice none 0 0, .slice none 0 0] 25))
  have HR := Lib.hid (And.intro (row3_made w (.slice none 0 0) (.slice none 0 0) (.slice none 0 0) 25) (show (w.alloc (.cells #[.slice none 0 0, .slice none 0 0, .slice none 0 0] 25)).heap.size = w.heap.size + 1 by simp))
  by_cases h : InB n 0 5
  · have D := Lib.hid (dec_true h)
    have A0 := hcAns_t h
    obtain ⟨d, rfl⟩ := Int.eq_ofNat_of_zero_le (a := n) (by have := h.1; omega)
    have h5 : d ≤ 5 := by have := h.2; omega
    simp only [Int.toNat_natCast] at A0
    have A := Lib.hid A0
    obtain ⟨i1, hi, hz0, hz1, hz2⟩ := info_parts Try.info44
    have I1 := Lib.hid (And.intro hi (And.intro hz0 (And.intro hz1 hz2)))
    obtain ⟨P, hP⟩ : ∃ P : Nat, P = 2 ^ d := ⟨_, rfl⟩
    have hpow : (2 : Int) ^ d = (P : Int) := by rw [hc_pow, hP]
    have hP64 : 1 ≤ P ∧ P ≤ 64 := by rw [hP]; exact pow_le d (by omega)
    have hmin : min d 64 = d := by omega
    have HPP := Lib.hid hP
    clear hi hz0 hz1 hz2 A0 h hP
    go_enter Try.func30, Try.ntmps30
    go_wp2_with (first | (go_at_call 47; (with_reducible refine (l1In_any (d : Int) _ _ _).mono ?_); rintro e w' ⟨rfl, rfl⟩; rw [D.out]) | fail)
    generalize w.alloc (.cells #[.slice none 0 0, .slice none 0 0, .slice none 0 0] 25) = W0 at *
    (with_reducible refine (neEmpty_any P (by omega)).mono ?_)
    rintro e w1 ⟨v', bs, rfl, hw, ho, hf⟩
    obtain ⟨a0, c0, a1, c1, a2, c2, rfl⟩ := ho.agg_blank
    have H1 := Lib.hid (HNet.made hw ho hf)
    clear hw ho hf
    go_wp2_with fail
    go_loopg [17] P (fun g i wr => ∃ v : Nat, v ≤ P ∧ g = P - v ∧ i = .int .i64 v ∧ Hid (HNet W0 wr (growTo hcEnd (blank P 0) d v) w1.heap.size (.slice a0 P c0) (.slice a1 0 c1) (.slice a2 P c2)))
    case atStart => exact ⟨0, Nat.zero_le _, rfl, rfl, H1.out⟩
    case round =>
      obtain ⟨v, hv, rfl, rfl, Hr⟩ := hrel
      by_cases hlt : v < P
      · go_wp2
        have hw0 : ∃ wo : World, wo = wr := ⟨_, rfl⟩
        obtain ⟨wo, rfl⟩ := hw0
        go_loopg [6] d (fun g i wx => ∃ j : Nat, j ≤ d ∧ g = d - j ∧ i = .int .i64 j ∧ Hid (HNet W0 wx (growRow hcEnd (growTo hcEnd (blank P 0) d v) v j) w1.heap.size (.slice a0 P c0) (.slice a1 0 c1) (.slice a2 P c2)))
        case atStart => exact ⟨0, Nat.zero_le _, rfl, rfl, Hr.out⟩
        case round =>
          obtain ⟨j, hj, rfl, rfl, HN⟩ := hrel
          by_cases hjt : j < d
          · have hlen0 : (growTo hcEnd (blank P 0) d v).ends.length = P := by rw [growTo_len]; simp [blank]
            have hlen1 : (growRow hcEnd (growTo hcEnd (blank P 0) d v) v j).ends.length = P := by rw [growRow_len]; exact hlen0
            have hrow : (gr (growRow hcEnd (growTo hcEnd (blank P 0) d v) v j).ends v).length ≤ 64 := by
              rw [growRow_deg _ _ _ _ (by omega), growTo_deg _ _ _ _ _ (by simp [blank]; omega), show gr (blank P 0).ends v = [] from gr_replicate _ _ _ hlt, if_pos rfl, if_neg (by omega)]
              simp; omega
            have hxor := hc_xor v (by omega) j (by omega)
            have hxlt := hc_xlt v (by omega) j (by omega)
            obtain ⟨q, hq⟩ : ∃ q : Int, q = (2 : Int) ^ j := ⟨_, rfl⟩
            have hq64 : 1 ≤ q ∧ q ≤ 64 := by rw [hq, hc_pow]; have := pow_le j (by omega); omega
            rw [← hq] at hxor
            have hq2 : (2 : Int) ^ j = q := hq.symm
            have hE : hcEnd v j = (((v ^^^ 2 ^ j : Nat) : Int), (j : Int)) := rfl
            generalize v ^^^ 2 ^ j = x at hxor hxlt hE
            have hminj : min j 64 = j := by omega
            have hwq : IntKind.i64.wrap q = q := IntWalk.i64_in _ (by omega)
            have hwx : IntKind.i64.wrap (x : Int) = (x : Int) := IntWalk.i64_in _ (by omega)
            have hjz : ((j : Int) < 0) = False := eq_false (by omega)
            have hone : 1 * q = q := Int.one_mul q
            clear hq
            have HE := Lib.hid hE
            have HM := Lib.hid (show growRow hcEnd (growTo hcEnd (blank P 0) d v) v (j + 1) = addEnd (growRow hcEnd (growTo hcEnd (blank P 0) d v) v j) v ((x : Int), (j : Int)) by rw [growRow, hE])
            generalize growRow hcEnd (growTo hcEnd (blank P 0) d v) v j = M at HN HM hlen1 hrow
            have HP := Lib.hid (show inI64 (x : Int) ∧ inI64 (j : Int) from ⟨by unfold inI64; omega, by unfold inI64; omega⟩)
            obtain ⟨bs, b, c, ax, cx, t, hv2, hat, hm0, hge⟩ := HN.out.at (k := v) (by omega)
            obtain ⟨rfl, rfl⟩ : a0 = some ⟨b, 0, none⟩ ∧ c0 = c := by simp at hv2; exact ⟨hv2.1, hv2.2.2⟩
            have FA := Lib.hid hat
            have hm := Lib.hid hm0
            have HGE := Lib.hid hge
            clear hat hm0 hge hv2 hlen0 hlen1 hE
            go_upto_region 10 with fail
            have mkS : ∀ w' : World, Ext wr w' → w'.cell? ⟨w1.heap.size, 0, none⟩ = some (.slice (some ⟨b, 0, none⟩) P c0) ∧ w'.cell? ⟨b, v, none⟩ = some (.slice ax (gr (M).ends v).length cx) := fun w' h => ⟨h.cell' (row3_facts HN.out.box).1, h.cell' FA.out.cell⟩
            refine wp_region_gate (n := 17) (S := fun w' => w'.cell? ⟨w1.heap.size, 0, none⟩ = some (.slice (some ⟨b, 0, none⟩) P c0) ∧ w'.cell? ⟨b, v, none⟩ = some (.slice ax (gr (M).ends v).length cx)) (by kernel_rfl) (mkS _ (Ext.rfl' wr).drew') (fun hHeld => ?_)
            iterate 14 (
              (first
                | refine wpAnyG_take (i := 0) (v := ?_) rfl (by decide +kernel) (by kernel_rfl) (by decide) (by kernel_rfl) (by kernel_rfl) (fun _ _ _ h => h) (Or.inl ⟨by rfl, ?_⟩) hHeld ?_
                | refine wpAnyG_take (i := 1) (v := ?_) rfl (by decide +kernel) (by kernel_rfl) (by decide) (by kernel_rfl) (by kernel_rfl) (fun _ _ _ h => h) (Or.inl ⟨by rfl, ?_⟩) hHeld ?_
                | refine wpAnyG_take (i := 2) (v := ?_) rfl (by decide +kernel) (by kernel_rfl) (by decide) (by kernel_rfl) (by kernel_rfl) (fun _ _ _ h => h) (Or.inl ⟨by rfl, ?_⟩) hHeld ?_
                | refine wpAnyG_take (i := 3) (v := ?_) rfl (by decide +kernel) (by kernel_rfl) (by decide) (by kernel_rfl) (by kernel_rfl) (fun _ _ _ h => h) (Or.inl ⟨by rfl, ?_⟩) hHeld ?_
                | refine wpAnyG_take (i := 4) (v := ?_) rfl (by decide +kernel) (by kernel_rfl) (by decide) (by kernel_rfl) (by kernel_rfl) (fun _ _ _ h => h) (Or.inl ⟨by rfl, ?_⟩) hHeld ?_
                | refine wpAnyG_take (i := 5) (v := ?_) rfl (by decide +kernel) (by kernel_rfl) (by decide) (by kernel_rfl) (by kernel_rfl) (fun _ _ _ h => h) (Or.inl ⟨by rfl, ?_⟩) hHeld ?_
                | refine wpAnyG_take (i := 6) (v := ?_) rfl (by decide +kernel) (by kernel_rfl) (by decide) (by kernel_rfl) (by kernel_rfl) (fun _ _ _ h => h) (Or.inl ⟨by rfl, ?_⟩) hHeld ?_
                | refine wpAnyG_take (i := 7) (v := ?_) rfl (by decide +kernel) (by kernel_rfl) (by decide) (by kernel_rfl) (by kernel_rfl) (fun _ _ _ h => h) (Or.inl ⟨by rfl, ?_⟩) hHeld ?_
                | refine wpAnyG_take (i := 8) (v := ?_) rfl (by decide +kernel) (by kernel_rfl) (by decide) (by kernel_rfl) (by kernel_rfl) (fun _ _ _ h => h) (Or.inl ⟨by rfl, ?_⟩) hHeld ?_
                | refine wpAnyG_take (i := 9) (v := ?_) rfl (by decide +kernel) (by kernel_rfl) (by decide) (by kernel_rfl) (by kernel_rfl) (fun _ _ _ h => h) (Or.inl ⟨by rfl, ?_⟩) hHeld ?_
                | refine wpAnyG_take (i := 10) (v := ?_) rfl (by decide +kernel) (by kernel_rfl) (by decide) (by kernel_rfl) (by kernel_rfl) (fun _ _ _ h => h) (Or.inl ⟨by rfl, ?_⟩) hHeld ?_
                | refine wpAnyG_take (i := 11) (v := ?_) rfl (by decide +kernel) (by kernel_rfl) (by decide) (by kernel_rfl) (by kernel_rfl) (fun _ _ _ h => h) (Or.inl ⟨by rfl, ?_⟩) hHeld ?_
                | refine wpAnyG_take (i := 12) (v := ?_) rfl (by decide +kernel) (by kernel_rfl) (by decide) (by kernel_rfl) (by kernel_rfl) (fun _ _ _ h => h) (Or.inl ⟨by rfl, ?_⟩) hHeld ?_
                | refine wpAnyG_take (i := 13) (v := ?_) rfl (by decide +kernel) (by kernel_rfl) (by decide) (by kernel_rfl) (by kernel_rfl) (fun _ _ _ h => h) (Or.inl ⟨by rfl, ?_⟩) hHeld ?_
              )
              rotate_left 1
              · (intro w' hSw; (try dsimp only at hSw); go_simp; (try simp only [hjz, hminj, hq2, hone, hwq, hxor, hwx, if_false])) <;> with_reducible rfl
              simp only [Act.put, List.setIfInBounds_toArray])
            refine wpAnyG_one (i := 14) rfl (by kernel_rfl) rfl (fun K hK => ?_)
            go_simp
            refine hK.out _ _ (fun _ => mkS _ (by first | exact (Ext.rfl' wr).drew'.alloc' _ | exact ((Ext.rfl' wr).alloc' _).drew')) (fun _ => ?_)
            clear hK K
            refine wpAnyG_one (i := 15) rfl (by kernel_rfl) rfl (fun K hK => ?_)
            refine wp_app2 (.tmp 32) (.tmp 39) 51 rfl 0 53 i1 (.agg #[.int .i64 0, .int .i64 0]) 2 16 Try.underlying51 I1.out.1 I1.out.2.1 I1.out.2.2.1 I1.out.2.2.2 rfl (by decide) (.slice ax (gr (M).ends v).length cx) (gr (M).ends v).length (endCells (gr (M).ends v)) rfl ((FA.out.row.ext (by first | exact (Ext.rfl' wr).drew'.alloc' _ | exact ((Ext.rfl' wr).alloc' _).drew')).owns (fun _ _ => Nat.zero_le _)) (some ⟨wr.heap.size, 0, none⟩) 1 1 [.int .i64 ((x : Int)), .int .i64 ((j : Int))] rfl (by first | exact src_two wr.drew _ _ 53 rfl rfl | exact src_two wr _ _ 53 rfl rfl | exact src_drew (src_two wr _ _ 53 rfl rfl)) (by unfold maxLen; omega) (by omega) (Nat.zero_le _) ?_
            intro v' w1s hg
            have PUs := Lib.hid (FA.out.put (p := ((x : Int), (j : Int))) (by first | exact (Ext.rfl' wr).drew'.alloc' _ | exact ((Ext.rfl' wr).alloc' _).drew') HP.out hg)
            obtain ⟨ays, cys, rfl⟩ := PUs.out.form
            have MZ := Lib.hid (PUs.out.row hm.out HN.out.box)
            have cz := (row3_facts MZ.out.1).1
            have f1 := PUs.out.cell
            have f2 := PUs.out.frozen
            clear hg
            refine hK.out _ _ (fun _ => ⟨cz, f1⟩) (fun hHeld' => ?_)
            have hHeld := hHeld' (by decide)
            clear hK K hHeld'
            (
              (first
                | refine wpAnyG_take (i := 16) (v := ?_) rfl (by decide +kernel) (by kernel_rfl) (by decide) (by kernel_rfl) (by kernel_rfl) (fun _ _ _ h => h) (Or.inl ⟨by rfl, ?_⟩) hHeld ?_
              )
              rotate_left 1
              · (intro w' hSw; (try dsimp only at hSw); go_simp) <;> with_reducible rfl
              simp only [Act.put, List.setIfInBounds_toArray])
            refine wpAnyG_one (i := 17) rfl (by kernel_rfl) rfl (fun K hK => ?_)
            go_simp
            refine hK.out _ _ (fun h => absurd rfl h) (fun _ => ?_)
            clear hK K
            refine wpAnyG_done (by kernel_rfl) ?_ _
            clear hHeld cz f1 f2 mkS MZ
            have H2 := Lib.hid (HN.out.put hm.out HGE.out PUs.out)
            clear PUs
            go_wp2
            go_roundg (d - (j + 1))
            case measure => omega
            case rel => exact ⟨j + 1, by omega, rfl, by go_num, by rw [HM.out]; exact H2.out⟩
          · obtain rfl : j = d := by omega
            go_wp2
            go_roundg (P - (v + 1))
            case measure => omega
            case rel => exact ⟨v + 1, by omega, rfl, by go_num, HN.out⟩
      · obtain rfl : v = P := by omega
        obtain ⟨bs, ho, hnd, hge⟩ := Hr.out.net
        have HO := Lib.hid ho
        have HND := Lib.hid hnd
        have HGE := Lib.hid (show ∀ b ∈ bs, w.heap.size ≤ b ∧ b ≠ w.heap.size from fun b hb => by have := (hge b hb).1; have := HR.out.2; omega)
        have EX := Lib.hid (HX.out.trans' Hr.out.ext)
        obtain ⟨p0, p1, p2, -, -, -⟩ := row3_facts Hr.out.box
        obtain ⟨s0, s1, s2, t0, t1, t2⟩ := row3_facts (row_ext HR.out.1 Hr.out.ext)
        clear ho hnd hge
        go_wp2
        have hc := close_at EX.out (Nat.le_refl _) HO.out HND.out HGE.out
        refine bodyPost_ret (v := .tuple #[.agg #[.slice a0 v c0, .slice a1 0 c1, .slice a2 v c2], .bool true]) (by simp [results, Try.results30, go_sem, s0, s1, s2]) rfl ⟨_, bs, ret_net D.out.symm, hc.1, by rw [A.out, hcNet, ← HPP.out]; exact hc.2.1, hc.2.2⟩
  · have D := Lib.hid (dec_false h)
    have A := Lib.hid (hcAns_f h)
    clear h
    go_enter Try.func30, Try.ntmps30
    go_wp2_with (first | (go_at_call 47; (with_reducible refine (l1In_any n _ _ _).mono ?_); rintro e w' ⟨rfl, rfl⟩; rw [D.out]) | fail)
    refine bodyPost_ret (v := .tuple #[znet, .bool false]) (by simp [results, Try.results30, go_sem, znet]) rfl ⟨_, [], ret_net D.out.symm, (by first | exact HX.out | exact store3_ext HX.out (Nat.le_refl _) _ _ _), by rw [A.out]; exact own_zero _, Fresh.nil _⟩
end Go.Proofs.Ytecdelmcnbgglaa
