/- The contract of the model's CirculantNetwork, whatever the arguments. -/
import Derived.Test.YtecdelmcnbgglaaPt
namespace Go.Proofs.Ytecdelmcnbgglaa
open Go.RowKit

set_option maxHeartbeats 6400000 in
set_option maxRecDepth 100000 in
theorem specCirc_any {w : World} {vl : Value} {l : List Int} (n : Int) (hsl : IntSl w vl l) (hll : l.length ≤ 1048576) :
    Calls Try.prog 34 #[.int .i64 n, vl] w fun e w' => ∃ v' bs, e = .returned (.tuple #[v', .bool (dec (CiOK n l))]) ∧ Ext w w' ∧ OwnNet w' v' (ciAns n l) bs ∧ Fresh w bs := by
  have HSL0 := Lib.hid hsl
  obtain ⟨a, b, o, c, rfl, ha, -, hm, hc⟩ := hsl
  unfold maxLen at hm
  have Hc := Lib.hid hc
  have Ha := Lib.hid ha
  clear hc ha
  have HX := Lib.hid ((Ext.rfl' w).alloc' (.cells #[.slice none 0 0, .slice none 0 0, .slice none 0 0] 25))
  have HSL := Lib.hid (HSL0.out.ext HX.out)
  have HR := Lib.hid (And.intro (row3_made w (.slice none 0 0) (.slice none 0 0) (.slice none 0 0) 25) (show (w.alloc (.cells #[.slice none 0 0, .slice none 0 0, .slice none 0 0] 25)).heap.size = w.heap.size + 1 by simp))
  by_cases h : InB n 1 40
  · have D := Lib.hid (dec_true h)
    obtain ⟨k, rfl⟩ := Int.eq_ofNat_of_zero_le (a := n) (by have := h.1; omega)
    have h1 : 1 ≤ k := by have := h.1; omega
    have h7 : k ≤ 40 := by have := h.2; omega
    have HB := Lib.hid h
    clear h
    by_cases h3 : l.length ≤ 3
    · by_cases hb : AllIn l 0 ((k : Int) - 1)
      · have D1 := Lib.hid (dec_true hb)
        have hok : CiOK (k : Int) l := ⟨HB.out, h3, hb⟩
        have HO0 := Lib.hid (hok.steps)
        have HAL := Lib.hid hb
        have DK := Lib.hid (dec_true hok)
        have A := Lib.hid (show ciAns (k : Int) l = cuTo k l k by rw [ciAns_t hok, cuTo_all]; rfl)
        obtain ⟨i1, hi, hz0, hz1, hz2⟩ := info_parts Try.info44
        have I1 := Lib.hid (And.intro hi (And.intro hz0 (And.intro hz1 hz2)))
        clear hi hz0 hz1 hz2 hb hok
        go_enter Try.func34, Try.ntmps34
        go_wp2_with (first | (go_at_call 47; (with_reducible refine (l1In_any (k : Int) _ _ _).mono ?_); rintro e w' ⟨rfl, rfl⟩; rw [D.out]) | (go_at_call 64; (with_reducible refine (l1All_any _ _ HSL.out).mono ?_); rintro e w' ⟨rfl, rfl⟩; rw [D1.out]) | fail)
        generalize w.alloc (.cells #[.slice none 0 0, .slice none 0 0, .slice none 0 0] 25) = W0 at *
        (with_reducible refine (neEmpty_any k (by omega)).mono ?_)
        rintro e w1 ⟨v', bs, rfl, hw, ho, hf⟩
        obtain ⟨a0, c0, a1, c1, a2, c2, rfl⟩ := ho.agg_blank
        have H1 := Lib.hid (show HNet W0 _ (cuTo k l 0) w1.heap.size (.slice a0 k c0) (.slice a1 0 c1) (.slice a2 k c2) from HNet.made hw ho hf)
        clear hw ho hf
        go_wp2_with fail
        go_loopg [32] k (fun g i wr => ∃ v : Nat, v ≤ k ∧ g = k - v ∧ i = .int .i64 v ∧ Hid (HNet W0 wr (cuTo k l v) w1.heap.size (.slice a0 k c0) (.slice a1 0 c1) (.slice a2 k c2)))
        case atStart => exact ⟨0, Nat.zero_le _, rfl, rfl, H1.out⟩
        case round =>
          obtain ⟨v, hv, rfl, rfl, Hr⟩ := hrel
          by_cases hlt : v < k
          · go_wp2
            have hw0 : ∃ wo : World, wo = wr := ⟨_, rfl⟩
            obtain ⟨wo, rfl⟩ := hw0
            go_loopg [37] l.length (fun g i wx => ∃ t : Nat, t ≤ l.length ∧ g = l.length - t ∧ i = .int .i64 t ∧ Hid (HNet W0 wx (cuRow k l (cuTo k l v) v t) w1.heap.size (.slice a0 k c0) (.slice a1 0 c1) (.slice a2 k c2)))
            case atStart => exact ⟨0, Nat.zero_le _, rfl, rfl, Hr.out⟩
            case round =>
              obtain ⟨t, ht, rfl, rfl, HN⟩ := hrel
              by_cases hjt : t < l.length
              · have hrow : (gr (cuRow k l (cuTo k l v) v t).ends v).length ≤ 64 := by rw [cuRow_deg l hlt]; omega
                have hlen1 : (cuRow k l (cuTo k l v) v t).ends.length = k := by rw [(cuRow_parts k l _ v t).1, (cuTo_parts k l v).1]
                obtain ⟨y, hc, rfl, _⟩ := Hc.out t hjt
                obtain rfl := Ha.out (by omega)
                have hc' := (HX.out.trans' HN.out.ext).cell' hc
                clear hc
                obtain ⟨s, hst⟩ := Int.eq_ofNat_of_zero_le (a := gi l t) (HAL.out t hjt).1
                have hsk : s < k := by have := (HAL.out t hjt).2; omega
                have hss : stepAt l t = s := by unfold stepAt; rw [hst]; rfl
                rw [hst] at hc'
                clear hst
                have hmod : ((v : Int) + (s : Int)) % (k : Int) = (((v + s) % k : Nat) : Int) := by rw [Int.natCast_emod, Int.natCast_add]
                have hmod2 : ((v : Int) + (k : Int) - (s : Int)) % (k : Int) = (((v + k - s) % k : Nat) : Int) := mod_nat (by omega)
                have hxk : (v + s) % k < k := Nat.mod_lt _ (by omega)
                have hyk : (v + k - s) % k < k := Nat.mod_lt _ (by omega)
                have HM0 : cuRow k l (cuTo k l v) v (t + 1) = add2 (cuRow k l (cuTo k l v) v t) v ((((v + s) % k : Nat) : Int), ((2 * t + 1 : Nat) : Int)) ((((v + k - s) % k : Nat) : Int), ((2 * t : Nat) : Int)) := by rw [cuRow, hss]
                rw [show ((2 * t : Nat) : Int) = 2 * (t : Int) by omega, show ((2 * t + 1 : Nat) : Int) = 2 * (t : Int) + 1 by omega] at HM0
                generalize (v + s) % k = x at hmod hxk HM0
                generalize (v + k - s) % k = y at hmod2 hyk HM0
                have HM := Lib.hid HM0
                clear HM0 hss
                generalize cuRow k l (cuTo k l v) v t = M at HN HM hlen1 hrow
                have HP := Lib.hid (show PairsIn [((x : Int), 2 * (t : Int) + 1), ((y : Int), 2 * (t : Int))] from pairs_two (by unfold inI64; omega) (by unfold inI64; omega) (by unfold inI64; omega) (by unfold inI64; omega))
                obtain ⟨bs, bb, cc, ax, cx, tt, hv2, hat, hm0, hge⟩ := HN.out.at (k := v) (by omega)
                obtain ⟨rfl, rfl⟩ : a0 = some ⟨bb, 0, none⟩ ∧ c0 = cc := by simp at hv2; exact ⟨hv2.1, hv2.2.2⟩
                have FA := Lib.hid hat
                have hm := Lib.hid hm0
                have HGE := Lib.hid hge
                have hw1 : IntKind.i64.wrap (2 * (t : Int)) = 2 * (t : Int) := IntWalk.i64_in _ (by omega)
                have hw2 : IntKind.i64.wrap (2 * (t : Int) + 1) = 2 * (t : Int) + 1 := IntWalk.i64_in _ (by omega)
                have hw3 : IntKind.i64.wrap ((v : Int) + (s : Int)) = (v : Int) + (s : Int) := IntWalk.i64_in _ (by omega)
                have hw4 : IntKind.i64.wrap ((v : Int) + (k : Int)) = (v : Int) + (k : Int) := IntWalk.i64_in _ (by omega)
                have hw5 : IntKind.i64.wrap ((v : Int) + (k : Int) - (s : Int)) = (v : Int) + (k : Int) - (s : Int) := IntWalk.i64_in _ (by omega)
                have hm3 : ((v : Int) + (s : Int)).tmod (k : Int) = (x : Int) := by rw [Int.tmod_eq_emod_of_nonneg (by omega)]; exact hmod
                have hm4 : ((v : Int) + (k : Int) - (s : Int)).tmod (k : Int) = (y : Int) := by rw [Int.tmod_eq_emod_of_nonneg (by omega)]; exact hmod2
                have hkz : (k = 0) = False := eq_false (by omega)
                have hk0 : (k : Int) ≠ 0 := by omega
                clear hat hm0 hge hv2 hlen1
                go_upto_region 10 with fail
                have mkS : ∀ w' : World, Ext wr w' → w'.cell? ⟨w1.heap.size, 0, none⟩ = some (.slice (some ⟨bb, 0, none⟩) k c0) ∧ w'.cell? ⟨bb, v, none⟩ = some (.slice ax (gr (M).ends v).length cx) := fun w' h => ⟨h.cell' (row3_facts HN.out.box).1, h.cell' FA.out.cell⟩
                refine wp_region_gate (n := 30) (S := fun w' => w'.cell? ⟨w1.heap.size, 0, none⟩ = some (.slice (some ⟨bb, 0, none⟩) k c0) ∧ w'.cell? ⟨bb, v, none⟩ = some (.slice ax (gr (M).ends v).length cx)) (by kernel_rfl) (mkS _ (Ext.rfl' wr).drew') (fun hHeld => ?_)
                iterate 27 (
                  (first
                    | refine wpAnyG_take (i := 0) (v := ?_) rfl (by decide +kernel) (by kernel_rfl) (by decide) (by kernel_rfl) (by kernel_rfl) (fun _ _ _ h => h) (Or.inl ⟨by rfl, ?_⟩) hHeld ?_
                    | refine wpAnyG_take (i := 1) (v := ?_) rfl (by decide +kernel) (by kernel_rfl) (by decide) (by kernel_rfl) (by kernel_rfl) (fun _ _ _ h => h) (Or.inl ⟨by rfl, ?_⟩) hHeld ?_
                    | refine wpAnyG_take (i := 2) (v := ?_) rfl (by decide +kernel) (by kernel_rfl) (by decide) (by kernel_rfl) (by kernel_rfl) (fun _ _ _ h => h) (Or.inl ⟨by rfl, ?_⟩) hHeld ?_
                    | refine wpAnyG_take (i := 3) (v := ?_) rfl (by decide +kernel) (by kernel_rfl) (by decide) (by kernel_rfl) (by kernel_rfl) (fun _ _ _ h => h) (Or.inl ⟨by rfl, ?_⟩) hHeld ?_
                    | refine wpAnyG_take (i := 4) (v := ?_) rfl (by decide +kernel) (by kernel_rfl) (by decide) (by kernel_rfl) (by kernel_rfl) (fun _ _ _ h => h) (Or.inl ⟨by rfl, ?_⟩) hHeld ?_
                    | refine wpAnyG_take (i := 5) (v := ?_) rfl (by decide +kernel) (by kernel_rfl) (by decide) (by kernel_rfl) (by kernel_rfl) (fun _ _ _ h => h) (Or.inl ⟨by rfl, ?_⟩) hHeld ?_
                    | refine wpAnyG_take (i := 6) (v := ?_) rfl (by decide +kernel) (by kernel_rfl) (by decide) (by kernel_rfl) (by kernel_rfl) (fun _ _ _ h => h) (Or.inl ⟨by rfl, ?_⟩) hHeld ?_
                    | refine wpAnyG_take (i := 7) (v := ?_) rfl (by decide +kernel) (by kernel_rfl) (by decide) (by kernel_rfl) (by kernel_rfl) (fun _ _ _ h => h) (Or.inl ⟨by rfl, ?_⟩) hHeld ?_
                    | refine wpAnyG_take (i := 8) (v := ?_) rfl (by decide +kernel) (by kernel_rfl) (by decide) (by kernel_rfl) (by kernel_rfl) (fun _ _ _ h => h) (Or.inl ⟨by rfl, ?_⟩) hHeld ?_
                    | refine wpAnyG_take (i := 9) (v := ?_) rfl (by decide +kernel) (by kernel_rfl) (by decide) (by kernel_rfl) (by kernel_rfl) (fun _ _ _ h => h) (Or.inl ⟨by rfl, ?_⟩) hHeld ?_
                    | refine wpAnyG_take (i := 10) (v := ?_) rfl (by decide +kernel) (by kernel_rfl) (by decide) (by kernel_rfl) (by kernel_rfl) (fun _ _ _ h => h) (Or.inl ⟨by rfl, ?_⟩) hHeld ?_
                    | refine wpAnyG_take (i := 11) (v := ?_) rfl (by decide +kernel) (by kernel_rfl) (by decide) (by kernel_rfl) (by kernel_rfl) (fun _ _ _ h => h) (Or.inl ⟨by rfl, ?_⟩) hHeld ?_
                    | refine wpAnyG_take (i := 12) (v := ?_) rfl (by decide +kernel) (by kernel_rfl) (by decide) (by kernel_rfl) (by kernel_rfl) (fun _ _ _ h => h) (Or.inl ⟨by rfl, ?_⟩) hHeld ?_
                    | refine wpAnyG_take (i := 13) (v := ?_) rfl (by decide +kernel) (by kernel_rfl) (by decide) (by kernel_rfl) (by kernel_rfl) (fun _ _ _ h => h) (Or.inl ⟨by rfl, ?_⟩) hHeld ?_
                    | refine wpAnyG_take (i := 14) (v := ?_) rfl (by decide +kernel) (by kernel_rfl) (by decide) (by kernel_rfl) (by kernel_rfl) (fun _ _ _ h => h) (Or.inl ⟨by rfl, ?_⟩) hHeld ?_
                    | refine wpAnyG_take (i := 15) (v := ?_) rfl (by decide +kernel) (by kernel_rfl) (by decide) (by kernel_rfl) (by kernel_rfl) (fun _ _ _ h => h) (Or.inl ⟨by rfl, ?_⟩) hHeld ?_
                    | refine wpAnyG_take (i := 16) (v := ?_) rfl (by decide +kernel) (by kernel_rfl) (by decide) (by kernel_rfl) (by kernel_rfl) (fun _ _ _ h => h) (Or.inl ⟨by rfl, ?_⟩) hHeld ?_
                    | refine wpAnyG_take (i := 17) (v := ?_) rfl (by decide +kernel) (by kernel_rfl) (by decide) (by kernel_rfl) (by kernel_rfl) (fun _ _ _ h => h) (Or.inl ⟨by rfl, ?_⟩) hHeld ?_
                    | refine wpAnyG_take (i := 18) (v := ?_) rfl (by decide +kernel) (by kernel_rfl) (by decide) (by kernel_rfl) (by kernel_rfl) (fun _ _ _ h => h) (Or.inl ⟨by rfl, ?_⟩) hHeld ?_
                    | refine wpAnyG_take (i := 19) (v := ?_) rfl (by decide +kernel) (by kernel_rfl) (by decide) (by kernel_rfl) (by kernel_rfl) (fun _ _ _ h => h) (Or.inl ⟨by rfl, ?_⟩) hHeld ?_
                    | refine wpAnyG_take (i := 20) (v := ?_) rfl (by decide +kernel) (by kernel_rfl) (by decide) (by kernel_rfl) (by kernel_rfl) (fun _ _ _ h => h) (Or.inl ⟨by rfl, ?_⟩) hHeld ?_
                    | refine wpAnyG_take (i := 21) (v := ?_) rfl (by decide +kernel) (by kernel_rfl) (by decide) (by kernel_rfl) (by kernel_rfl) (fun _ _ _ h => h) (Or.inl ⟨by rfl, ?_⟩) hHeld ?_
                    | refine wpAnyG_take (i := 22) (v := ?_) rfl (by decide +kernel) (by kernel_rfl) (by decide) (by kernel_rfl) (by kernel_rfl) (fun _ _ _ h => h) (Or.inl ⟨by rfl, ?_⟩) hHeld ?_
                    | refine wpAnyG_take (i := 23) (v := ?_) rfl (by decide +kernel) (by kernel_rfl) (by decide) (by kernel_rfl) (by kernel_rfl) (fun _ _ _ h => h) (Or.inl ⟨by rfl, ?_⟩) hHeld ?_
                    | refine wpAnyG_take (i := 24) (v := ?_) rfl (by decide +kernel) (by kernel_rfl) (by decide) (by kernel_rfl) (by kernel_rfl) (fun _ _ _ h => h) (Or.inl ⟨by rfl, ?_⟩) hHeld ?_
                    | refine wpAnyG_take (i := 25) (v := ?_) rfl (by decide +kernel) (by kernel_rfl) (by decide) (by kernel_rfl) (by kernel_rfl) (fun _ _ _ h => h) (Or.inl ⟨by rfl, ?_⟩) hHeld ?_
                    | refine wpAnyG_take (i := 26) (v := ?_) rfl (by decide +kernel) (by kernel_rfl) (by decide) (by kernel_rfl) (by kernel_rfl) (fun _ _ _ h => h) (Or.inl ⟨by rfl, ?_⟩) hHeld ?_
                  )
                  rotate_left 1
                  · (intro w' hSw; (try dsimp only at hSw); go_simp; (try simp only [hw1, hw2, hw3, hw4, hw5, hm3, hm4, hkz, if_false])) <;> with_reducible rfl
                  simp only [Act.put, List.setIfInBounds_toArray])
                refine wpAnyG_one (i := 27) rfl (by kernel_rfl) rfl (fun K hK => ?_)
                go_simp
                refine hK.out _ _ (fun _ => mkS _ (by first | exact (Ext.rfl' wr).drew'.alloc' _ | exact ((Ext.rfl' wr).alloc' _).drew')) (fun _ => ?_)
                clear hK K
                refine wpAnyG_one (i := 28) rfl (by kernel_rfl) rfl (fun K hK => ?_)
                refine wp_app2 (.tmp 49) (.tmp 69) 51 rfl 0 53 i1 (.agg #[.int .i64 0, .int .i64 0]) 2 16 Try.underlying51 I1.out.1 I1.out.2.1 I1.out.2.2.1 I1.out.2.2.2 rfl (by decide) (.slice ax (gr (M).ends v).length cx) (gr (M).ends v).length (endCells (gr (M).ends v)) rfl ((FA.out.row.ext (by first | exact (Ext.rfl' wr).drew'.alloc' _ | exact ((Ext.rfl' wr).alloc' _).drew')).owns (fun _ _ => Nat.zero_le _)) (some ⟨wr.heap.size, 0, none⟩) 2 2 [.int .i64 ((x : Int)), .int .i64 (2 * (t : Int) + 1), .int .i64 ((y : Int)), .int .i64 (2 * (t : Int))] rfl (by first | exact src_two2 wr.drew _ _ _ _ 53 rfl rfl rfl rfl | exact src_two2 wr _ _ _ _ 53 rfl rfl rfl rfl | exact src_drew (src_two2 wr _ _ _ _ 53 rfl rfl rfl rfl)) (by unfold maxLen; omega) (by omega) (Nat.zero_le _) ?_
                intro v' w1s hg
                have PUs := Lib.hid (FA.out.put2 (p := ((x : Int), 2 * (t : Int) + 1)) (q := ((y : Int), 2 * (t : Int))) (by first | exact (Ext.rfl' wr).drew'.alloc' _ | exact ((Ext.rfl' wr).alloc' _).drew') HP.out hg)
                obtain ⟨ays, cys, rfl⟩ := PUs.out.form
                have MZ := Lib.hid (PUs.out.row hm.out HN.out.box)
                have cz := (row3_facts MZ.out.1).1
                have f1 := PUs.out.cell
                have f2 := PUs.out.frozen
                clear hg
                refine hK.out _ _ (fun _ => ⟨cz, f1⟩) (fun hHeld' => ?_)
                have hHeld := hHeld' (by decide)
                clear hK K hHeld'
                (
                  (first
                    | refine wpAnyG_take (i := 29) (v := ?_) rfl (by decide +kernel) (by kernel_rfl) (by decide) (by kernel_rfl) (by kernel_rfl) (fun _ _ _ h => h) (Or.inl ⟨by rfl, ?_⟩) hHeld ?_
                  )
                  rotate_left 1
                  · (intro w' hSw; (try dsimp only at hSw); go_simp) <;> with_reducible rfl
                  simp only [Act.put, List.setIfInBounds_toArray])
                refine wpAnyG_one (i := 30) rfl (by kernel_rfl) rfl (fun K hK => ?_)
                go_simp
                refine hK.out _ _ (fun h => absurd rfl h) (fun _ => ?_)
                clear hK K
                refine wpAnyG_done (by kernel_rfl) ?_ _
                clear hHeld cz f1 f2 mkS MZ
                have H2 := Lib.hid (HN.out.put2 hm.out HGE.out PUs.out)
                clear PUs
                go_wp2
                go_roundg (l.length - (t + 1))
                case measure => omega
                case rel => exact ⟨t + 1, by omega, rfl, by go_num, by rw [HM.out]; exact H2.out⟩
              · obtain rfl : t = l.length := by omega
                go_wp2
                go_roundg (k - (v + 1))
                case measure => omega
                case rel => exact ⟨v + 1, by omega, rfl, by go_num, HN.out⟩
          · obtain rfl : v = k := by omega
            obtain ⟨bs, ho, hnd, hge⟩ := Hr.out.net
            have HO := Lib.hid ho
            have HND := Lib.hid hnd
            have HGE := Lib.hid (show ∀ b ∈ bs, w.heap.size ≤ b ∧ b ≠ w.heap.size from fun b hb => by have := (hge b hb).1; have := HR.out.2; omega)
            have EX := Lib.hid (HX.out.trans' Hr.out.ext)
            obtain ⟨p0, p1, p2, -, -, -⟩ := row3_facts Hr.out.box
            obtain ⟨s0, s1, s2, t0, t1, t2⟩ := row3_facts (row_ext HR.out.1 Hr.out.ext)
            clear ho hnd hge
            go_wp2
            have hc := close_at EX.out (Nat.le_refl _) HO.out HND.out HGE.out
            refine bodyPost_ret (v := .tuple #[.agg #[.slice a0 v c0, .slice a1 0 c1, .slice a2 v c2], .bool true]) (by simp [results, Try.results34, go_sem, s0, s1, s2]) rfl ⟨_, bs, ret_net DK.out.symm, hc.1, by rw [A.out]; exact hc.2.1, hc.2.2⟩
      · have D1 := Lib.hid (dec_false hb)
        have HNN := Lib.hid (show ¬ CiOK (k : Int) l from fun q => hb q.2.2)
        have DF := Lib.hid (dec_false HNN.out)
        have A := Lib.hid (ciAns_f HNN.out)
        clear hb
        go_enter Try.func34, Try.ntmps34
        go_wp2_with (first | (go_at_call 47; (with_reducible refine (l1In_any (k : Int) _ _ _).mono ?_); rintro e w' ⟨rfl, rfl⟩; rw [D.out]) | (go_at_call 64; (with_reducible refine (l1All_any _ _ HSL.out).mono ?_); rintro e w' ⟨rfl, rfl⟩; rw [D1.out]) | fail)
        refine bodyPost_ret (v := .tuple #[znet, .bool false]) (by simp [results, Try.results34, go_sem, znet]) rfl ⟨_, [], ret_net DF.out.symm, (by first | exact HX.out | exact store3_ext HX.out (Nat.le_refl _) _ _ _), by rw [A.out]; exact own_zero _, Fresh.nil _⟩
    · have hwl : IntKind.i64.wrap (2 * (l.length : Int)) = 2 * (l.length : Int) := IntWalk.i64_in _ (by omega)
      have hgt : ¬ 2 * (l.length : Int) ≤ 6 := by omega
      have hgt2 : 6 < 2 * (l.length : Int) := by omega
      have HNN := Lib.hid (show ¬ CiOK (k : Int) l from fun q => h3 q.2.1)
      have DF := Lib.hid (dec_false HNN.out)
      have A := Lib.hid (ciAns_f HNN.out)
      go_enter Try.func34, Try.ntmps34
      go_wp2_with (first | (go_at_call 47; (with_reducible refine (l1In_any (k : Int) _ _ _).mono ?_); rintro e w' ⟨rfl, rfl⟩; rw [D.out]) | fail)
      refine bodyPost_ret (v := .tuple #[znet, .bool false]) (by simp [results, Try.results34, go_sem, znet]) rfl ⟨_, [], ret_net DF.out.symm, (by first | exact HX.out | exact store3_ext HX.out (Nat.le_refl _) _ _ _), by rw [A.out]; exact own_zero _, Fresh.nil _⟩
  · have D := Lib.hid (dec_false h)
    have DF := Lib.hid (dec_false (p := CiOK n l) fun q => h q.1)
    have A := Lib.hid (ciAns_f (l := l) fun q => h q.1)
    clear h
    go_enter Try.func34, Try.ntmps34
    go_wp2_with (first | (go_at_call 47; (with_reducible refine (l1In_any n _ _ _).mono ?_); rintro e w' ⟨rfl, rfl⟩; rw [D.out]) | fail)
    refine bodyPost_ret (v := .tuple #[znet, .bool false]) (by simp [results, Try.results34, go_sem, znet]) rfl ⟨_, [], ret_net DF.out.symm, (by first | exact HX.out | exact store3_ext HX.out (Nat.le_refl _) _ _ _), by rw [A.out]; exact own_zero _, Fresh.nil _⟩
end Go.Proofs.Ytecdelmcnbgglaa
