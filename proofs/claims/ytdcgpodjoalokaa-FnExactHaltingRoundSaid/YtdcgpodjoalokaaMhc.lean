/- HaltingRound and OutputsOf: the contracts that their laws take. -/
import Derived.Test.YtdcgpodjoalokaaMhb
namespace Go.Proofs.Ytdcgpodjoalokaa
open Go.RowKit

theorem MachAt.outs {w : World} {M : Mach} {x0 x1 x2 x3 x4 x5 x6 : Value} (h : MachAt w (.agg #[x0, x1, x2, x3, x4, x5, x6]) M) : IntSl w x6 M.out := by
  obtain ⟨b3, d3, b4, d4, b5, d5, b6, d6, e, -, -, -, h6, -⟩ := h
  simp only [Value.agg.injEq, Array.mk.injEq, List.cons.injEq] at e
  obtain ⟨-, -, -, -, -, -, rfl, -⟩ := e
  exact h6
def HaltTo (M : Mach) (l : List Int) (j : Nat) : Prop := ∀ v, v < j → 0 ≤ gi (thr M.out l) v
theorem haltTo_step {M : Mach} {l : List Int} {j : Nat} (h : HaltTo M l j) (hj : 0 ≤ gi (thr M.out l) j) : HaltTo M l (j + 1) := fun v hv => by
  by_cases e : v = j
  · subst e; exact hj
  · exact h v (by omega)
noncomputable def hsAns (M : Mach) (N : Net) (r : Int) : List Int := if dec (HaltB M N r) = true then runL M N (haltI M N r).toNat else []
theorem hsAns_t {M : Mach} {N : Net} {r : Int} (h : HaltB M N r) : hsAns M N r = runL M N (haltI M N r).toNat := by unfold hsAns; rw [if_pos (dec_true h)]
theorem hsAns_f {M : Mach} {N : Net} {r : Int} (h : ¬ HaltB M N r) : hsAns M N r = [] := by unfold hsAns; rw [dec_false h]; rfl
theorem ret_vib {v : Value} {x y : Int} {b c : Bool} (h : x = y) (k : b = c) : Ending.returned (.tuple #[v, .int .i64 x, .bool b]) = .returned (.tuple #[v, .int .i64 y, .bool c]) := by rw [h, k]
theorem thr_nil (l : List Int) : thr l [] = [] := rfl
theorem thr_hs (M : Mach) (N : Net) (r : Int) : thr M.out (hsAns M N r) = ooAns M N r := by
  by_cases h : HaltB M N r
  · rw [hsAns_t h, ooAns_t h]
  · rw [hsAns_f h, ooAns_f h, thr_nil]
theorem hs_im (M : Mach) (N : Net) (r : Int) : ImIn (hsAns M N r) M.out.length ∧ (hsAns M N r).length ≤ 1048576 := by
  by_cases h : HaltB M N r
  · rw [hsAns_t h]; exact ⟨sts_im (run_sts h.1.1 _), by rw [length_runL]; have := h.1.1.2.1.1.2; omega⟩
  · rw [hsAns_f h]; exact ⟨fun v hv => absurd hv (by simp), by simp⟩

set_option maxHeartbeats 6400000 in
set_option maxRecDepth 100000 in
theorem maHalt_any {w : World} {vm vn : Value} {M : Mach} {N : Net} (m : Nat) (hm : m ≤ 2000) (h : MachAt w vm M) (k : NetAt w vn N) (ha : Asked M N) : Calls Try.prog 103 #[vm, vn, .int .i64 (m : Int)] w fun e w' => ∃ v' bs, e = .returned (.tuple #[v', .int .i64 (hrAns M N (m : Int)), .bool (dec (HaltB M N (m : Int)))]) ∧ Ext w w' ∧ OwnI w' v' (hsAns M N (m : Int)) bs ∧ Fresh w bs := by
  have HA := Lib.hid ha
  have HLO := Lib.hid (show LongOK M N (m : Int) from ⟨ha, by unfold InB; omega⟩)
  have hn40 : N.ends.length ≤ 40 := ha.2.1.1.2
  clear ha
  have HM := Lib.hid h
  have HN := Lib.hid k
  obtain ⟨a3, c3, a4, c4, a5, c5, a6, c6, rfl, h3, h4, -⟩ := h
  obtain ⟨v0, v1, v2, rfl, hE, -, hP⟩ := k
  obtain ⟨W1, hW1⟩ : ∃ W1, W1 = twoBox w (.int .i64 M.deg) (.int .i64 M.sts) (.int .i64 M.msgs) (.slice a3 M.start.length c3) (.slice a4 M.send.length c4) (.slice a5 M.cls.length c5) (.slice a6 M.out.length c6) v0 v1 v2 := ⟨_, rfl⟩
  have EW := Lib.hid (show Ext w W1 by rw [hW1]; exact twoBox_ext _ _ _ _ _ _ _ _ _ _ _)
  have RA := Lib.hid (show W1.rowIs w.heap.size 31 7 (sept (.int .i64 M.deg) (.int .i64 M.sts) (.int .i64 M.msgs) (.slice a3 M.start.length c3) (.slice a4 M.send.length c4) (.slice a5 M.cls.length c5) (.slice a6 M.out.length c6)) by rw [hW1]; exact twoBox_m _ _ _ _ _ _ _ _ _ _ _)
  have RB := Lib.hid (show W1.rowIs (w.heap.size + 1) 43 3 (tri v0 v1 v2) by rw [hW1]; exact twoBox_n _ _ _ _ _ _ _ _ _ _ _)
  have hsz : W1.heap.size = w.heap.size + 2 := by rw [hW1]; simp [twoBox]
  have HSZ := Lib.hid hsz
  have HE3 := Lib.hid (h3.ext EW.out)
  have HE4 := Lib.hid (h4.ext EW.out)
  have HNE := Lib.hid (hE.ext EW.out)
  have HNP := Lib.hid (hP.ext EW.out)
  obtain ⟨-, ms3, ns3⟩ := ssLen h3
  obtain ⟨-, ms4, ns4⟩ := ssLen h4
  unfold maxLen at ms3 ms4
  clear h3 h4 hE hP hsz
  obtain ⟨p0, p1, p2, p3, p4, p5, p6⟩ := row7_facts RA.out
  obtain ⟨q0, q1, q2, -, -, -⟩ := row3_facts RB.out
  unfold twoBox at hW1
  have HO6 := Lib.hid (HM.out.outs.ext EW.out)
  obtain ⟨-, m6, n6⟩ := isLen HO6.out
  unfold maxLen at m6
  go_enter Try.func103, Try.ntmps103
  go_upto_region 1 with fail
  rw [← hW1]
  clear hW1
  go_wp2_with fail
  (with_reducible refine (maStart_any (HM.out.ext EW.out) (HN.out.ext EW.out) HA.out).mono ?_)
  rintro e w2 ⟨sv, bs0, rfl, hx, ho, hf⟩
  obtain ⟨sa, sq, rfl⟩ := ho.read.isSlice
  rw [length_startL] at ho ⊢
  have X2 := Lib.hid hx
  have O2 := Lib.hid ho
  have F2 := Lib.hid (hf.of EW.out.size)
  clear hx ho hf p0 p1 p2 p3 p4 p5 p6 q0 q1 q2
  go_wp2
  go_loopg [9, 10] (m + 1) (fun g0 s i wr => ∃ (k : Nat) (sa : Option Addr) (sq : Nat) (bs : List Nat), k ≤ m ∧ g0 = m + 1 - k ∧ i = .int .i64 k ∧ s = .slice sa N.ends.length sq ∧ Hid (Ext W1 wr ∧ OwnI wr (.slice sa N.ends.length sq) (runL M N k) bs ∧ Fresh w bs ∧ ∀ j, j < k → ¬ Halt M (runL M N j)))
  case atStart => exact ⟨0, sa, sq, bs0, Nat.zero_le _, rfl, rfl, rfl, X2.out, O2.out, F2.out, fun j hj => absurd hj (by omega)⟩
  case round =>
    obtain ⟨k, sa, sq, bs, hk, rfl, rfl, rfl, Hr⟩ := hrel
    obtain ⟨l, hl⟩ : ∃ l, l = runL M N k := ⟨_, rfl⟩
    have HL := Lib.hid hl
    have hll : l.length = N.ends.length := by rw [hl, length_runL]
    have HLL := Lib.hid hll
    have HS := Lib.hid (show Sts M N l by rw [hl]; exact run_sts HA.out k)
    have KR := Lib.hid (EW.out.trans' Hr.out.1)
    have RA2 := Lib.hid (row_ext RA.out Hr.out.1)
    have RB2 := Lib.hid (row_ext RB.out Hr.out.1)
    obtain ⟨p0, p1, p2, p3, p4, p5, p6⟩ := row7_facts RA2.out
    obtain ⟨q0, q1, q2, -, -, -⟩ := row3_facts RB2.out
    obtain ⟨oa, ob, oo, oc, e, hoa, hol, hom, hoc⟩ := HO6.out.ext Hr.out.1
    simp only [Value.slice.injEq] at e
    obtain ⟨rfl, -, rfl⟩ := e
    obtain ⟨ga, gb, go, gc, e, hga, hgl, hgm, hgc⟩ := Hr.out.2.1.read
    simp only [Value.slice.injEq] at e
    obtain ⟨rfl, -, rfl⟩ := e
    unfold maxLen at hom hgm
    rw [← hl, hll] at hgl hga
    rw [← hl] at hgc
    have HOA := Lib.hid hoa
    have HOC := Lib.hid hoc
    have HGA := Lib.hid hga
    have HGC := Lib.hid hgc
    clear hl hll hoa hoc hga hgc
    obtain ⟨WR, hWR⟩ : ∃ W : World, W = wr := ⟨_, rfl⟩
    subst hWR
    go_wp2
    go_loopg [11, 22] N.ends.length (fun g0 t i wx => ∃ j : Nat, j ≤ N.ends.length ∧ g0 = N.ends.length - j ∧ i = .int .i64 j ∧ t = .bool (dec (HaltTo M l j)) ∧ WR = wx)
    case atStart => exact ⟨0, Nat.zero_le _, rfl, rfl, by rw [show dec (HaltTo M l 0) = true from dec_true fun v hv => absurd hv (by omega)], rfl⟩
    case round =>
      obtain ⟨j, hj, rfl, rfl, rfl, rfl⟩ := hrel
      by_cases hlt : j < N.ends.length
      · obtain ⟨_, hgy, rfl, -⟩ := HGC.out j (by rw [HLL.out]; exact hlt)
        obtain ⟨hz0, hz1⟩ := sts_im HS.out j (by rw [HLL.out]; exact hlt)
        obtain ⟨z, hz⟩ := Int.eq_ofNat_of_zero_le hz0
        have hzl : z < M.out.length := by omega
        rw [hz] at hgy
        have HZ := Lib.hid (show gi (thr M.out l) j = gi M.out z by rw [gi_thr _ _ _ (by rw [HLL.out]; exact hlt), hz, Int.toNat_natCast])
        clear hz hz0 hz1
        obtain rfl := HGA.out (by omega)
        obtain rfl := HOA.out (by omega)
        obtain ⟨_, hly, rfl, -⟩ := HOC.out z hzl
        obtain ⟨x, hx⟩ : ∃ x, gi M.out z = x := ⟨_, rfl⟩
        rw [hx] at hly HZ
        clear hx
        by_cases e1 : HaltTo M l j
        · rw [dec_true e1]
          by_cases e2 : 0 ≤ x
          · have b2 : decide ((0 : Int) ≤ x) = true := decide_eq_true e2
            have D := Lib.hid (dec_true (haltTo_step e1 (by rw [HZ.out]; exact e2)))
            clear e1 e2
            go_wp2
            go_roundg (N.ends.length - (j + 1))
            case measure => omega
            case rel => exact ⟨j + 1, by omega, rfl, by go_num, by rw [D.out], rfl⟩
          · have b2 : decide ((0 : Int) ≤ x) = false := decide_eq_false e2
            have D := Lib.hid (dec_false (p := HaltTo M l (j + 1)) fun h => e2 (by rw [← HZ.out]; exact h j (by omega)))
            clear e1 e2
            go_wp2
            go_roundg (N.ends.length - (j + 1))
            case measure => omega
            case rel => exact ⟨j + 1, by omega, rfl, by go_num, by rw [D.out], rfl⟩
        · rw [dec_false e1]
          have D := Lib.hid (dec_false (p := HaltTo M l (j + 1)) fun h => e1 fun v hv => h v (by omega))
          clear e1
          go_wp2
          go_roundg (N.ends.length - (j + 1))
          case measure => omega
          case rel => exact ⟨j + 1, by omega, rfl, by go_num, by rw [D.out], rfl⟩
      · obtain rfl : j = N.ends.length := by omega
        have HQ := Lib.hid (show HaltTo M l N.ends.length ↔ Halt M (runL M N k) by rw [← HL.out]; unfold Halt HaltTo; rw [HLL.out])
        by_cases e1 : HaltTo M l N.ends.length
        · rw [dec_true e1]
          have HI := Lib.hid (haltI_hit (r := (m : Int)) Hr.out.2.2.2 (HQ.out.1 e1) (by omega))
          have HB := Lib.hid (show HaltB M N (m : Int) from ⟨HLO.out, by rw [HI.out]; omega⟩)
          clear e1
          go_wp2
          go_ret3
          exact ⟨_, bs, ret_vib (by rw [hrAns_t HB.out, HI.out]) (dec_true HB.out).symm, EW.out.trans' Hr.out.1, by rw [hsAns_t HB.out, HI.out, Int.toNat_natCast]; exact Hr.out.2.1, Hr.out.2.2.1⟩
        · rw [dec_false e1]
          have HNH := Lib.hid (show ¬ Halt M (runL M N k) from fun h => e1 (HQ.out.2 h))
          clear e1
          go_wp2_with fail
          (with_reducible refine (maStep_any (HM.out.ext KR.out) (HN.out.ext KR.out) Hr.out.2.1.read (run_sts HA.out k)).mono ?_)
          rintro e w4 ⟨v4, bs4, rfl, hx, ho, hf⟩
          obtain ⟨sa4, sq4, rfl⟩ := ho.read.isSlice
          rw [length_stepL] at ho ⊢
          have X4 := Lib.hid hx
          have O4 := Lib.hid ho
          have F4 := Lib.hid (hf.of (show w.heap.size ≤ WR.heap.size from KR.out.size))
          clear hx ho hf p0 p1 p2 p3 p4 p5 p6 q0 q1 q2
          by_cases hkm : k = m
          · subst hkm
            have HNB := Lib.hid (show ¬ HaltB M N (k : Int) from fun hb => hb.2 (haltI_none fun j hj => by
              by_cases e : j = k
              · subst e; exact HNH.out
              · exact Hr.out.2.2.2 j (by rw [Int.toNat_natCast] at hj; omega)))
            go_wp2
            go_ret3
            exact ⟨_, [], ret_vib (hrAns_f HNB.out).symm (dec_false HNB.out).symm, KR.out.trans' X4.out, by rw [hsAns_f HNB.out]; exact own_nilI _, Fresh.nil _⟩
          · have b3 : ((k : Int) == (m : Int)) = false := beq_eq_false_iff_ne.2 (by omega)
            by_cases hs : stepL M N (runL M N k) = runL M N k
            · have HNB := Lib.hid (show ¬ HaltB M N (m : Int) from fun hb => hb.2 (haltI_none fun j hj => by
                by_cases e : j < k
                · exact Hr.out.2.2.2 j e
                · obtain ⟨i, rfl⟩ : ∃ i, j = k + i := ⟨j - k, by omega⟩
                  rw [run_stays hs i]
                  exact HNH.out))
              have Dd := Lib.hid (decide_eq_true hs)
              clear hs
              go_wp2_with (go_at_call 102; (with_reducible refine (l1Same_any O4.out.read (Hr.out.2.1.ext X4.out).read).mono ?_); rintro e w5 ⟨rfl, hx⟩; rw [Dd.out])
              go_ret3
              exact ⟨_, [], ret_vib (hrAns_f HNB.out).symm (dec_false HNB.out).symm, KR.out.trans' (X4.out.trans' hx), by rw [hsAns_f HNB.out]; exact own_nilI _, Fresh.nil _⟩
            · have Dd := Lib.hid (decide_eq_false hs)
              clear hs
              go_wp2_with (go_at_call 102; (with_reducible refine (l1Same_any O4.out.read (Hr.out.2.1.ext X4.out).read).mono ?_); rintro e w5 ⟨rfl, hx⟩; rw [Dd.out])
              go_roundg (m + 1 - (k + 1))
              case measure => omega
              case rel =>
                exact ⟨k + 1, sa4, sq4, bs4, by omega, rfl, by go_num, rfl, Hr.out.1.trans' (X4.out.trans' hx), O4.out.ext hx, F4.out, fun j hj => by
                  by_cases e : j = k
                  · subst e; exact HNH.out
                  · exact Hr.out.2.2.2 j (by omega)⟩

end Go.Proofs.Ytdcgpodjoalokaa
