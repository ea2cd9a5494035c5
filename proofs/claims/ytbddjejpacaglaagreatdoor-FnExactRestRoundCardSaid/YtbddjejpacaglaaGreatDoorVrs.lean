/- rulesOf once more: what it hands back is a slice, valid or not. -/
import Derived.Test.YtbddjejpacaglaaGreatDoorVpf
namespace Go.Proofs.YtbddjejpacaglaaGreatDoor
open Go.RowKit

set_option maxHeartbeats 3200000 in
set_option maxRecDepth 100000 in
theorem rulesOfS_any {w : World} {v : Value} {l : List (Int × Int)} (h : EndSl w v l) (hP : Pw w) :
    Calls Tryz.prog 37 #[v] w fun e w' => ∃ ra rn rc, e = .returned (.tuple #[.slice ra rn rc, .bool (dec (ProgOK l))]) ∧ Ext w w' ∧ (ProgOK l → RulesAt w w' (.slice ra rn rc) l) := by
  obtain ⟨a, b, o, c, rfl, ha, h3, h4, hc⟩ := h
  unfold maxLen at h4
  have Hc := Lib.hid hc
  have Ha := Lib.hid ha
  have HP := Lib.hid hP
  clear hc ha hP
  by_cases hb : InB l.length 1 40
  · have Hb := Lib.hid (dec_true hb)
    have HB := Lib.hid hb
    have hlen : l.length ≤ 40 := by have := hb.2; omega
    clear hb
    obtain ⟨i0, hi, hz0, hz1, hz2⟩ := info_parts Tryz.infoVR
    have hmk : ∀ u : World, (Instr.makeSlice 63 (.int .i64 (l.length : Int)) (.int .i64 (l.length : Int))).run Tryz.prog u =
        .ok (.slice (some ⟨u.heap.size, 0, none⟩) l.length l.length) (u.alloc (.cells (madeCells #[.int .i64 0, .string { data := #[] }, .int .i64 0, .nilFunc] (l.length * 4)) 92)) := fun u => by
      have h := run_make (P := Tryz.prog) u 63 92 i0 _ Tryz.underlying63 hi hz0 .i64 .i64 l.length l.length (by omega) (Int.le_refl _) (by rw [hz2]; omega) (by omega)
      simpa [hz1, zrule, Value.cells] using h
    go_enter Tryz.func37, Tryz.ntmps37
    go_wp2_with (go_at_call 39; (with_reducible refine (isBetweenK_any _ _ _ _).mono ?_); rintro e _ ⟨rfl, rfl⟩; rw [Hb.out])
    clear hmk hi hz0 hz1 hz2
    have HG := Lib.hid (show RGrow (w.heap.size + 1) (w.alloc (.cells (madeCells #[.int .i64 0, .string { data := #[] }, .int .i64 0, .nilFunc] (l.length * 4)) 92)) w.heap.size l.length l 0 from ⟨_, vmade w l.length, fun j hj => absurd hj (by omega)⟩)
    go_loopg [5, 19] l.length (fun g d i wr => ∃ k : Nat, k ≤ l.length ∧ g = l.length - k ∧ d = .int .i64 (hg l k) ∧ i = .int .i64 (k : Int) ∧ Hid (Ext w wr ∧ w.heap.size + 1 ≤ wr.heap.size ∧ OpsTo l k ∧ RGrow (w.heap.size + 1) wr w.heap.size l.length l k))
    case atStart => exact ⟨0, Nat.zero_le _, rfl, rfl, rfl, (Ext.rfl' w).alloc' _, by simp, fun j hj => absurd hj (by omega), HG.out⟩
    case round =>
      obtain ⟨k, hk, rfl, rfl, rfl, Hr⟩ := hrel
      by_cases hlt : k < l.length
      · obtain ⟨q1, q2, -, hy⟩ := Hc.out k hlt
        obtain rfl := Ha.out (by omega)
        have s1 := Hr.out.1.cell' q1
        have s2 := Hr.out.1.cell' q2
        clear q1 q2
        have hg1 := hg_hi l k
        have hg2 := hg_lo l k
        have hn3 := nd_le' (gn l k)
        have HX := Lib.hid ((Ext.rfl' wr).alloc' (.cells #[.int .i64 (gn l k), .int .i64 (gp l k)] 59))
        by_cases ha : OpOK (gn l k) (gp l k)
        · have E1 := Lib.hid (dec_true ha)
          have HA := Lib.hid ha
          clear ha
          by_cases hn : (nd (gn l k) : Int) ≤ hg l k
          · have HS := Lib.hid (show hg l k + (1 - (nd (gn l k) : Int)) = hg l (k + 1) from rfl)
            have HO := Lib.hid (Hr.out.2.2.1.step ⟨HA.out, hn⟩)
            go_wp2_with fail
            (with_reducible refine (ruleOf_any (gn l k) (gp l k) hy (HP.out.ext (Hr.out.1.trans' HX.out))).mono ?_)
            rintro e w1 ⟨rv, rfl, hx, -, hr⟩
            rw [E1.out]
            obtain ⟨m, p, hm, hxm, rfl, hcp, hpl⟩ := hr HA.out
            have hnm : nd (gn l k) = nd ((m : Int) + 1) := by rw [hxm]
            have hy1 := (Ext.rfl' w1).alloc' (.cells #[.int .i64 ((m : Int) + 1), .string (bs (vword (gp l k) m)), .int .i64 (nd ((m : Int) + 1)), .func (.func (vf m)) #[] (vcap p m)] 92)
            have KX := Lib.hid (((Hr.out.1.trans' HX.out).trans' hx).trans' hy1)
            have KS := Lib.hid (show w.heap.size + 1 ≤ (w1.alloc (.cells #[.int .i64 ((m : Int) + 1), .string (bs (vword (gp l k) m)), .int .i64 (nd ((m : Int) + 1)), .func (.func (vf m)) #[] (vcap p m)] 92)).heap.size from Nat.le_trans Hr.out.2.1 (Nat.le_trans HX.out.size (Nat.le_trans hx.size hy1.size)))
            have KG := Lib.hid ((Hr.out.2.2.2.ext (HX.out.trans' hx)).ext hy1)
            have KR := Lib.hid (show RuleIs (w.heap.size + 1) (w1.alloc (.cells #[.int .i64 ((m : Int) + 1), .string (bs (vword (gp l k) m)), .int .i64 (nd ((m : Int) + 1)), .func (.func (vf m)) #[] (vcap p m)] 92)) (gn l k) (gp l k) (.agg #[.int .i64 ((m : Int) + 1), .string (bs (vword (gp l k) m)), .int .i64 (nd ((m : Int) + 1)), .func (.func (vf m)) #[] (vcap p m)]) from
              ⟨m, p, hm, hxm, rfl, hy1.cell' hcp, Nat.le_trans Hr.out.2.1 (Nat.le_trans HX.out.size hpl)⟩)
            obtain ⟨f, hf, -⟩ := KG.out
            unfold ruleV
            obtain ⟨c0, d0, c1, d1, c2, d2, c3, d3⟩ := row_four hf (i := k * 4) (by omega) (.int .i64 ((m : Int) + 1)) (.string (bs (vword (gp l k) m))) (.int .i64 (nd ((m : Int) + 1)))
            rw [hnm] at hn hn3 HS
            have b4 : decide (hg l k < (nd ((m : Int) + 1) : Int)) = false := by simp; omega
            have KP := Lib.hid (KG.out.put (Nat.lt_succ_self _) KR.out)
            have KE := Lib.hid (KX.out.storeR (Nat.le_refl _) (k * 4) (k * 4 + 1) (k * 4 + 2) (k * 4 + 3) (.int .i64 ((m : Int) + 1)) (.string (bs (vword (gp l k) m))) (.int .i64 (nd ((m : Int) + 1))) (.func (.func (vf m)) #[] (vcap p m)))
            have c9 : (((((w1.alloc (.cells #[.int .i64 ((m : Int) + 1), .string (bs (vword (gp l k) m)), .int .i64 (nd ((m : Int) + 1)), .func (.func (vf m)) #[] (vcap p m)] 92)).setCell ⟨w.heap.size, k * 4, none⟩ (.int .i64 ((m : Int) + 1))).setCell ⟨w.heap.size, k * 4 + 1, none⟩ (.string (bs (vword (gp l k) m)))).setCell ⟨w.heap.size, k * 4 + 2, none⟩ (.int .i64 (nd ((m : Int) + 1)))).setCell ⟨w.heap.size, k * 4 + 3, none⟩ (.func (.func (vf m)) #[] (vcap p m))).cell? ⟨w1.heap.size, 2, none⟩ = some (.int .i64 (nd ((m : Int) + 1))) := by
              have h1 := Hr.out.2.1
              have h2 := HX.out.size
              have h3 := hx.size
              rw [cell4_far (by omega)]
              exact (row4_facts (row4_made w1 _ _ _ _ _)).2.2.1
            clear hx hr hcp hpl hy1 hnm hxm hm hf
            generalize vword (gp l k) m = vw at *
            generalize vcap p m = vc at *
            generalize vf m = vk at *
            generalize nd ((m : Int) + 1) = vn at *
            go_wp2_with fail
            go_roundg (l.length - (k + 1))
            case measure => omega
            case rel => exact ⟨k + 1, by omega, rfl, by rw [← HS.out], by go_num, KE.out, by simpa using KS.out, HO.out, KP.out⟩
          · have HN := Lib.hid (not_prog_at hlt (fun h => hn h.2))
            go_wp2_with fail
            (with_reducible refine (ruleOf_any (gn l k) (gp l k) hy (HP.out.ext (Hr.out.1.trans' HX.out))).mono ?_)
            rintro e w1 ⟨rv, rfl, hx, -, hr⟩
            rw [E1.out]
            obtain ⟨m, p, hm, hxm, rfl, hcp, hpl⟩ := hr HA.out
            have hnm : nd (gn l k) = nd ((m : Int) + 1) := by rw [hxm]
            have hy1 := (Ext.rfl' w1).alloc' (.cells #[.int .i64 ((m : Int) + 1), .string (bs (vword (gp l k) m)), .int .i64 (nd ((m : Int) + 1)), .func (.func (vf m)) #[] (vcap p m)] 92)
            have KX := Lib.hid (((Hr.out.1.trans' HX.out).trans' hx).trans' hy1)
            have KS := Lib.hid (show w.heap.size + 1 ≤ (w1.alloc (.cells #[.int .i64 ((m : Int) + 1), .string (bs (vword (gp l k) m)), .int .i64 (nd ((m : Int) + 1)), .func (.func (vf m)) #[] (vcap p m)] 92)).heap.size from Nat.le_trans Hr.out.2.1 (Nat.le_trans HX.out.size (Nat.le_trans hx.size hy1.size)))
            have KG := Lib.hid ((Hr.out.2.2.2.ext (HX.out.trans' hx)).ext hy1)
            have KR := Lib.hid (show RuleIs (w.heap.size + 1) (w1.alloc (.cells #[.int .i64 ((m : Int) + 1), .string (bs (vword (gp l k) m)), .int .i64 (nd ((m : Int) + 1)), .func (.func (vf m)) #[] (vcap p m)] 92)) (gn l k) (gp l k) (.agg #[.int .i64 ((m : Int) + 1), .string (bs (vword (gp l k) m)), .int .i64 (nd ((m : Int) + 1)), .func (.func (vf m)) #[] (vcap p m)]) from
              ⟨m, p, hm, hxm, rfl, hy1.cell' hcp, Nat.le_trans Hr.out.2.1 (Nat.le_trans HX.out.size hpl)⟩)
            obtain ⟨f, hf, -⟩ := KG.out
            unfold ruleV
            rw [hnm] at hn hn3
            have b4 : decide (hg l k < (nd ((m : Int) + 1) : Int)) = true := by simp; omega
            clear hx hr hcp hpl hy1 hnm hxm hm hf
            generalize vword (gp l k) m = vw at *
            generalize vcap p m = vc at *
            generalize vf m = vk at *
            generalize nd ((m : Int) + 1) = vn at *
            go_wp2_with fail
            go_ret2
            exact ⟨_, _, _, by rw [dec_false HN.out]; rfl, KX.out, fun h => absurd h HN.out⟩
        · have E1 := Lib.hid (dec_false ha)
          have HN := Lib.hid (not_prog_at hlt (fun h => ha h.1))
          have HA := Lib.hid ha
          clear ha
          go_wp2_with fail
          (with_reducible refine (ruleOf_any (gn l k) (gp l k) hy (HP.out.ext (Hr.out.1.trans' HX.out))).mono ?_)
          rintro e w1 ⟨rv, rfl, hx, hz, -⟩
          rw [E1.out]
          obtain rfl := hz HA.out
          have KX := Lib.hid (((Hr.out.1.trans' HX.out).trans' hx).alloc' (.cells #[.int .i64 0, .string { data := #[] }, .int .i64 0, .nilFunc] 92))
          clear hx
          unfold zrule
          go_wp2_with fail
          go_ret2
          exact ⟨_, _, _, by rw [dec_false HN.out]; rfl, KX.out, fun h => absurd h HN.out⟩
      · obtain rfl : k = l.length := by omega
        by_cases e : hg l l.length = 1
        · have HN := Lib.hid ((prog_end HB.out Hr.out.2.2.1).2 e)
          have b : (hg l l.length == 1) = true := beq_iff_eq.2 e
          clear e
          go_wp2
          go_ret2
          exact ⟨_, _, _, by rw [dec_true HN.out]; rfl, Hr.out.1, fun _ => ⟨_, _, rfl, Nat.lt_succ_self _, Nat.le_refl _, Hr.out.2.2.2⟩⟩
        · have HN := Lib.hid (fun p => e ((prog_end HB.out Hr.out.2.2.1).1 p))
          have b : (hg l l.length == 1) = false := beq_eq_false_iff_ne.2 e
          clear e
          go_wp2
          go_ret2
          exact ⟨_, _, _, by rw [dec_false HN.out]; rfl, Hr.out.1, fun h => absurd h HN.out⟩
  · have Hb := Lib.hid (dec_false hb)
    have HN := Lib.hid (not_prog_len hb)
    clear hb
    go_enter Tryz.func37, Tryz.ntmps37
    go_wp2_with (go_at_call 39; (with_reducible refine (isBetweenK_any _ _ _ _).mono ?_); rintro e _ ⟨rfl, rfl⟩; rw [Hb.out])
    go_ret2
    exact ⟨_, _, _, by rw [dec_false HN.out]; rfl, Ext.rfl' w, fun h => absurd h HN.out⟩
end Go.Proofs.YtbddjejpacaglaaGreatDoor
