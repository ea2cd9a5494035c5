/- The contract of the model's UnionOf; markNetwork from any mark on. -/
import Derived.Test.YtapkmhicajalaaaUo
import Derived.Test.YtapkmhicajalaaaNeUn
import Derived.Test.YtapkmhicajalaaaKc
namespace Go.Proofs.Ytapkmhicajalaaa
open Go.RowKit

set_option maxHeartbeats 1600000 in
set_option maxRecDepth 100000 in
theorem markEndSS_at {w : World} {v : Value} {l : List (List (Int × Int))} {bs : List Nat} (k : Int) (h : OwnSS w v l bs) (hnd : bs.Nodup) (hs : l.length ≤ 1048576) (hs2 : ∀ i, (gr l i).length ≤ 1048576) (h0 : 0 ≤ k) (h1 : k ≤ 17592186044416) :
    Calls Try.prog 67 #[v, .int .i64 k] w fun e w' => ∃ r : Int, e = .returned (.int .i64 r) ∧ k ≤ r ∧ r ≤ k + 2097152 * l.length ∧ Chg w w' bs := by
  obtain ⟨R, b0, T, ⟨c, hc1, hc2, h⟩, hrows, rfl⟩ := h
  rcases h with ⟨hn, rfl, a, hac, rfl⟩ | ⟨b, m, g, rfl, rfl, ⟨hm, hmc⟩, hrow, hg⟩
  · have HZ := Lib.hid hn
    have HAC := Lib.hid hac
    clear hn hac
    go_enter Try.func67, Try.ntmps67
    go_wp2
    go_loop [1, 5] (fun t i => i = .int .i64 0 ∧ t = .int .i64 k) (fun _ _ => 0)
    case atStart => exact ⟨rfl, rfl⟩
    case round =>
      obtain ⟨rfl, rfl⟩ := hrel
      go_wp2
      go_ret
      exact ⟨k, rfl, by omega, by omega, Chg.rfl' _ _⟩
  · unfold maxLen at hc2
    have HMC := Lib.hid hmc
    clear hmc
    have HR := Lib.hid hrow
    have HT := Lib.hid hrows
    have HD := Lib.hid (nodup_rows hnd)
    have HS := Lib.hid hs2
    have Hg := Lib.hid hg
    clear hrow hrows hnd hs2 hg
    go_enter Try.func67, Try.ntmps67
    go_wp2
    go_loopg [1, 5] l.length (fun gh t i wr => ∃ (j : Nat) (r : Int), j ≤ l.length ∧ gh = l.length - j ∧ i = .int .i64 j ∧ t = .int .i64 r ∧ k ≤ r ∧ r ≤ k + 2097152 * j ∧ Hid (Chg w wr ([b] ++ (List.range l.length).flatMap T) ∧ wr.rowIs b 77 m g ∧ ∀ i, j ≤ i → i < l.length → OwnE wr (R i) (gr l i) (T i)))
    case atStart => exact ⟨0, k, Nat.zero_le _, rfl, rfl, rfl, by omega, by omega, Chg.rfl' _ _, HR.out, fun i _ hi => HT.out i hi⟩
    case round =>
      obtain ⟨j, r, hj, rfl, rfl, rfl, hr1, hr2, Hr⟩ := hrel
      by_cases hlt : j < l.length
      · have f1 := Hr.out.2.1.cell (i := j) (by omega)
        rw [Hg.out j (by omega)] at f1
        go_wp2_with (go_at_call 114; (with_reducible refine (markEndS_any _ (Hr.out.2.2 j (Nat.le_refl _) hlt) (HS.out _) (by omega) (by omega)).mono ?_); rintro e w1 ⟨rfl, hch, _⟩; have HC := Lib.hid hch; clear hch)
        have hl := HS.out j
        go_roundg (l.length - (j + 1))
        case measure => omega
        case rel =>
          refine ⟨j + 1, r + 2 * (gr l j).length, by omega, rfl, by go_num, rfl, by omega, by omega, ?_, ?_, fun i hi1 hi2 => ?_⟩
          · exact Hr.out.1.trans' (HC.out.mono fun x hx => List.mem_append.2 (.inr (List.mem_flatMap.2 ⟨j, List.mem_range.2 hlt, hx⟩)))
          · exact Hr.out.2.1.of_block (HC.out.block b Hr.out.2.1.lt (HD.out.1 j hlt b (by simp)))
          · have ho := Hr.out.2.2 i (by omega) hi2
            exact ho.keep fun x hx => HC.out.block x (ho.1.lt x hx) (HD.out.2 i j hi2 hlt (by omega) x hx)
      · obtain rfl : j = l.length := by omega
        go_wp2
        go_ret
        exact ⟨r, rfl, hr1, hr2, Hr.out.1⟩

set_option maxHeartbeats 1600000 in
set_option maxRecDepth 100000 in
theorem markNetwork_at {w : World} {v : Value} {N : Net} {bs : List Nat} (k : Int) (h : OwnNet w v N bs) (hnd : bs.Nodup) (hs : N.small) (h0 : 0 ≤ k) (h1 : k ≤ 17592186044416) :
    Calls Try.prog 24 #[v, .int .i64 k] w fun e w' => ∃ r : Int, e = .returned (.int .i64 r) ∧ 0 ≤ r ∧ r ≤ k + 4398046511104 ∧ Chg w w' bs := by
  obtain ⟨v0, v1, v2, b0, b1, b2, rfl, hE, hI, hP, rfl⟩ := h
  obtain ⟨s1, s2, s3, s4⟩ := hs
  have hnd0 := (List.nodup_append.1 hnd).1
  have hd0 : ∀ x ∈ b1 ++ b2, x ∉ b0 := fun x hx hx' => (List.nodup_append.1 hnd).2.2 x hx' x hx rfl
  have hd1 : ∀ x ∈ b2, x ∉ b1 := fun x hx hx' => (List.nodup_append.1 (List.nodup_append.1 hnd).2.1).2.2 x hx' x hx rfl
  have hX := (Ext.rfl' w).alloc' (.cells #[v0, v1, v2] 31)
  have A := Lib.hid (hE.ext hX)
  have B := Lib.hid (hI.ext hX)
  have C := Lib.hid (hP.ext hX)
  have LA := Lib.hid hE.lt
  have LB := Lib.hid hI.1.lt
  have LC := Lib.hid hP.1.lt
  have HX := Lib.hid (Chg.of_ext hX (b0 ++ (b1 ++ b2)))
  have HR := Lib.hid (row3_made w v0 v1 v2 31)
  have HD := Lib.hid (And.intro hnd0 (And.intro hd0 hd1))
  have S := Lib.hid s2
  clear hE hI hP hX hnd0 hd0 hd1 hnd s2
  go_enter Try.func24, Try.ntmps24
  go_wp2_with fail
  (with_reducible refine (markEndSS_at _ A.out HD.out.1 s1 S.out (by omega) (by omega)).mono ?_)
  rintro e w1 ⟨r1, rfl, h11, h12, hc1⟩
  have K1 := Lib.hid (HX.out.trans' (hc1.mono fun x hx => by simp [hx]))
  have R1 := Lib.hid (HR.out.of_block (hc1.block _ HR.out.lt fun hx => by have := LA.out _ hx; omega))
  have B1 := Lib.hid (B.out.keep fun x hx => hc1.block x (B.out.1.lt x hx) (HD.out.2.1 x (by simp [hx])))
  have C1 := Lib.hid (C.out.keep fun x hx => hc1.block x (C.out.1.lt x hx) (HD.out.2.1 x (by simp [hx])))
  obtain ⟨p0, p1, p2, _, _, _⟩ := row3_facts R1.out
  clear hc1
  go_wp2_with fail
  (with_reducible refine (markIntS_any _ B1.out s3 (by omega) (by omega)).mono ?_)
  rintro e w2 ⟨rfl, hc2, _⟩
  have K2 := Lib.hid (K1.out.trans' (hc2.mono fun x hx => by simp [hx]))
  have R2 := Lib.hid (R1.out.of_block (hc2.block _ R1.out.lt fun hx => by have := LB.out _ hx; omega))
  have C2 := Lib.hid (C1.out.keep fun x hx => hc2.block x (C1.out.1.lt x hx) (HD.out.2.2 x hx))
  clear hc2 p0 p1 p2
  obtain ⟨p0, p1, p2, _, _, _⟩ := row3_facts R2.out
  go_wp2_with fail
  (with_reducible refine (markIntS_any _ C2.out s4 (by omega) (by omega)).mono ?_)
  rintro e w3 ⟨rfl, hc3, _⟩
  have K3 := Lib.hid (K2.out.trans' (hc3.mono fun x hx => by simp [hx]))
  clear hc3
  go_wp2
  go_ret
  exact ⟨_, rfl, by omega, by omega, K3.out⟩

set_option maxHeartbeats 3200000 in
set_option maxRecDepth 100000 in
theorem specUnionOf_any {w : World} {v u : Value} {A B : Net} (h : NetAt w v A) (k : NetAt w u B) :
    Calls Try.prog 44 #[v, u] w fun e w' => ∃ v' bs, e = .returned (.tuple #[v', .bool (dec (UnionB A B))]) ∧ Ext w w' ∧ OwnNet w' v' (unionAns A B) bs ∧ Fresh w bs := by
  have HA := Lib.hid h
  have HB := Lib.hid k
  obtain ⟨v0, v1, v2, rfl, hE, hI, hP⟩ := h
  obtain ⟨av, _, _, cv, rfl, -, -, cvm, -⟩ := hE
  obtain ⟨ia, _, _, ic, rfl, -, -, icm, -⟩ := hI
  clear hP
  obtain ⟨u0, u1, u2, rfl, hE, hI, hP⟩ := k
  have HIB := Lib.hid hI
  have HPB := Lib.hid hP
  have HIr := Lib.hid hI.range
  have HPr := Lib.hid hP.range
  obtain ⟨bi, _, _, ci, rfl, -, -, cim, -⟩ := hI
  obtain ⟨bp, _, _, cp, rfl, -, -, cpm, -⟩ := hP
  obtain ⟨bu, eb, eo, cu, rfl, ha, hl, hm, hc⟩ := hE
  unfold maxLen at icm cvm cim cpm hm
  have Hc := Lib.hid hc
  have Ha := Lib.hid ha
  clear hc ha
  obtain ⟨i3, hi, hz0, hz1, hz2⟩ := info_parts Try.info3
  obtain ⟨i44, hj, hy0, hy1, hy2⟩ := info_parts Try.info44
  obtain ⟨i70, hk, hx0, hx1, hx2⟩ := info_parts Try.info70
  have I3 := Lib.hid (And.intro hi (And.intro hz0 (And.intro hz1 hz2)))
  have I44 := Lib.hid (And.intro hj (And.intro hy0 (And.intro hy1 hy2)))
  have I70 := Lib.hid (And.intro hk (And.intro hx0 (And.intro hx1 hx2)))
  clear hi hz0 hz1 hz2 hj hy0 hy1 hy2 hk hx0 hx1 hx2
  obtain ⟨W0, hW0⟩ : ∃ W0, W0 = (((boxed (boxed w (.slice av A.ends.length cv) (.slice ia A.ids.length ic) v2 31) (.slice bu B.ends.length cu) (.slice bi B.ids.length ci) (.slice bp B.inputs.length cp) 31).alloc (.cells #[.slice none 0 0, .slice none 0 0, .slice none 0 0] 31))) := ⟨_, rfl⟩
  have EW : Hid (Ext w W0) := by rw [hW0]; exact ((boxed_ext _ _ _ _ _).trans' (boxed_ext _ _ _ _ _)).alloc' _
  have RA : Hid (W0.rowIs w.heap.size 31 3 (tri (.slice av A.ends.length cv) (.slice ia A.ids.length ic) v2)) := by rw [hW0]; exact ((boxed_row _ _ _ _ _).alloc _).alloc _
  have RB : Hid (W0.rowIs (w.heap.size + 1) 31 3 (tri (.slice bu B.ends.length cu) (.slice bi B.ids.length ci) (.slice bp B.inputs.length cp))) := by rw [hW0]; exact (show World.rowIs _ _ _ _ _ by simpa using boxed_row (boxed w (.slice av A.ends.length cv) (.slice ia A.ids.length ic) v2 31) (.slice bu B.ends.length cu) (.slice bi B.ids.length ci) (.slice bp B.inputs.length cp) 31).alloc _
  have RQ := Lib.hid (show W0.rowIs (w.heap.size + 2) 31 3 (tri (.slice none 0 0) (.slice none 0 0) (.slice none 0 0)) from (show W0.rowIs (w.heap.size + 1 + 1) 31 3 (tri (.slice none 0 0) (.slice none 0 0) (.slice none 0 0)) by rw [hW0]; simpa using row3_made (boxed (boxed w (.slice av A.ends.length cv) (.slice ia A.ids.length ic) v2 31) (.slice bu B.ends.length cu) (.slice bi B.ids.length ci) (.slice bp B.inputs.length cp) 31) (.slice none 0 0) (.slice none 0 0) (.slice none 0 0) 31))
  have hW0s : w.heap.size + 3 = W0.heap.size := by rw [hW0]; simp
  have ZW := Lib.hid hW0s
  clear hW0s
  by_cases hA : Good A
  case neg =>
    have G := Lib.hid (dec_false hA)
    have D : Hid (dec (UnionB A B) = false) := dec_false fun j => hA j.1
    have E : Hid (unionAns A B = zeroNet) := unionAns_f fun j => hA j.1
    clear hA
    go_enter Try.func44, Try.ntmps44
    go_wp2_with fail
    rw [← hW0]
    clear hW0
    (with_reducible refine (neGood_any (HA.out.ext EW.out)).mono ?_)
    rintro e w1 ⟨rfl, hw⟩
    rw [G.out]
    have X1 := Lib.hid hw
    obtain ⟨q0, q1, q2, t0, t1, t2⟩ := row3_facts (row_ext RQ.out hw)
    clear hw
    go_wp2
    refine bodyPost_ret (v := .tuple #[znet, .bool false]) (by simp [results, Try.results44, go_sem, q0, q1, q2, znet]) rfl ⟨_, [], ret_net D.out.symm, store3_ext (EW.out.trans' X1.out) (by omega) _ _ _, by rw [E.out]; exact own_zero _, Fresh.nil _⟩
  have GA1 := Lib.hid (dec_true hA)
  by_cases hB : Good B
  case neg =>
    have G := Lib.hid (dec_false hB)
    have D : Hid (dec (UnionB A B) = false) := dec_false fun j => hB j.2.1
    have E : Hid (unionAns A B = zeroNet) := unionAns_f fun j => hB j.2.1
    clear hB
    go_enter Try.func44, Try.ntmps44
    go_wp2_with fail
    rw [← hW0]
    clear hW0
    (with_reducible refine (neGood_any (HA.out.ext EW.out)).mono ?_)
    rintro e w1 ⟨rfl, hw⟩
    rw [GA1.out]
    have X1 := Lib.hid hw
    obtain ⟨q0, q1, q2, _, _, _⟩ := row3_facts (row_ext RB.out hw)
    clear hw
    go_wp2_with fail
    (with_reducible refine (neGood_any (HB.out.ext (EW.out.trans' X1.out))).mono ?_)
    rintro e w2 ⟨rfl, hw⟩
    rw [G.out]
    have X2 := Lib.hid (X1.out.trans' hw)
    clear q0 q1 q2 hw
    obtain ⟨q0, q1, q2, t0, t1, t2⟩ := row3_facts (row_ext RQ.out X2.out)
    go_wp2
    refine bodyPost_ret (v := .tuple #[znet, .bool false]) (by simp [results, Try.results44, go_sem, q0, q1, q2, znet]) rfl ⟨_, [], ret_net D.out.symm, store3_ext (EW.out.trans' X2.out) (by omega) _ _ _, by rw [E.out]; exact own_zero _, Fresh.nil _⟩
  have GB1 := Lib.hid (dec_true hB)
  by_cases hI : ((A.ids.length : Int) == 0) = ((B.ids.length : Int) == 0)
  case neg =>
    have hne : (!(((A.ids.length : Int) == 0) == ((B.ids.length : Int) == 0))) = true := by simpa using hI
    have D : Hid (dec (UnionB A B) = false) := dec_false fun j => hI j.2.2.1
    have E : Hid (unionAns A B = zeroNet) := unionAns_f fun j => hI j.2.2.1
    clear hI
    go_enter Try.func44, Try.ntmps44
    go_wp2_with fail
    rw [← hW0]
    clear hW0
    (with_reducible refine (neGood_any (HA.out.ext EW.out)).mono ?_)
    rintro e w1 ⟨rfl, hw⟩
    rw [GA1.out]
    have X1 := Lib.hid hw
    obtain ⟨q0, q1, q2, _, _, _⟩ := row3_facts (row_ext RB.out hw)
    clear hw
    go_wp2_with fail
    (with_reducible refine (neGood_any (HB.out.ext (EW.out.trans' X1.out))).mono ?_)
    rintro e w2 ⟨rfl, hw⟩
    rw [GB1.out]
    have X2 := Lib.hid (X1.out.trans' hw)
    clear q0 q1 q2 hw
    obtain ⟨q0, q1, q2, _, _, _⟩ := row3_facts (row_ext RB.out X2.out)
    obtain ⟨p0, p1, p2, _, _, _⟩ := row3_facts (row_ext RA.out X2.out)
    obtain ⟨r0, r1, r2, t0, t1, t2⟩ := row3_facts (row_ext RQ.out X2.out)
    go_wp2
    refine bodyPost_ret (v := .tuple #[znet, .bool false]) (by simp [results, Try.results44, go_sem, r0, r1, r2, znet]) rfl ⟨_, [], ret_net D.out.symm, store3_ext (EW.out.trans' X2.out) (by omega) _ _ _, by rw [E.out]; exact own_zero _, Fresh.nil _⟩
  have hne : (!(((A.ids.length : Int) == 0) == ((B.ids.length : Int) == 0))) = false := by rw [hI]; simp
  have GU : Hid (Good (unionNet A B) ↔ UnionB A B) := ⟨fun j => ⟨hA, hB, hI, j⟩, fun j => j.2.2.2⟩
  have GS := Lib.hid (And.intro hA hB)
  clear hA hB hI
  go_enter Try.func44, Try.ntmps44
  go_wp2_with fail
  rw [← hW0]
  clear hW0
  (with_reducible refine (neGood_any (HA.out.ext EW.out)).mono ?_)
  rintro e w1 ⟨rfl, hw⟩
  rw [GA1.out]
  have X1 := Lib.hid hw
  obtain ⟨q0, q1, q2, _, _, _⟩ := row3_facts (row_ext RB.out hw)
  clear hw
  go_wp2_with fail
  (with_reducible refine (neGood_any (HB.out.ext (EW.out.trans' X1.out))).mono ?_)
  rintro e w2 ⟨rfl, hw⟩
  rw [GB1.out]
  have X2 := Lib.hid (X1.out.trans' hw)
  clear q0 q1 q2 hw
  obtain ⟨q0, q1, q2, _, _, _⟩ := row3_facts (row_ext RB.out X2.out)
  obtain ⟨p0, p1, p2, _, _, _⟩ := row3_facts (row_ext RA.out X2.out)
  go_wp2_with fail
  (with_reducible refine (neUnion_any (HA.out.ext (EW.out.trans' X2.out)) (HB.out.ext (EW.out.trans' X2.out)) GS.out.1 GS.out.2).mono ?_)
  rintro e w3 ⟨y, bs, rfl, hw, ho, hf⟩
  clear hne p0 p1 p2 q0 q1 q2
  obtain ⟨a0, c0, a1, c1, a2, c2, rfl⟩ := ho.agg
  have X3 := Lib.hid (EW.out.trans' (X2.out.trans' hw))
  have RQ3 := Lib.hid (row_ext RQ.out (X2.out.trans' hw))
  have O3 := Lib.hid ho
  have F3 : Hid (bs.Nodup ∧ ∀ b ∈ bs, w.heap.size + 2 + 1 ≤ b) := ⟨hf.1, fun b hb => by have := hf.2 b hb; have := X2.out.size; have := ZW.out; omega⟩
  clear hw ho hf
  by_cases hb : UnionB A B
  case pos =>
    have Bt := Lib.hid hb
    clear hb
    go_wp2_with fail
    (with_reducible refine (neIf_t O3.out.read (GU.out.2 Bt.out)).mono ?_)
    rintro e w7 ⟨rfl, hw⟩
    have K7 := Lib.hid (X3.out.trans' hw)
    obtain ⟨u0, u1, u2, v0, v1, v2⟩ := row3_facts (row_ext RQ3.out hw)
    have O7 := Lib.hid (O3.out.ext hw)
    have D := Lib.hid (dec_true Bt.out)
    have E := Lib.hid (unionAns_t Bt.out)
    clear hw
    go_wp2
    refine bodyPost_ret (v := .tuple #[.agg #[.slice a0 (unionNet A B).ends.length c0, .slice a1 (unionNet A B).ids.length c1, .slice a2 (unionNet A B).inputs.length c2], .bool true]) (by simp [results, Try.results44, go_sem, u0, u1, u2]) rfl ?_
    have hc := close_at K7.out (by omega) O7.out F3.out.1 (q := w.heap.size + 2) F3.out.2
    exact ⟨_, _, ret_net D.out.symm, hc.1, by rw [E.out]; exact hc.2.1, hc.2.2⟩
  case neg =>
    have Bt := Lib.hid hb
    clear hb
    go_wp2_with fail
    (with_reducible refine (neIf_f O3.out.read (fun j => absurd (GU.out.1 j) Bt.out)).mono ?_)
    rintro e w7 ⟨rfl, hw⟩
    unfold znet
    have K7 := Lib.hid (X3.out.trans' hw)
    obtain ⟨u0, u1, u2, v0, v1, v2⟩ := row3_facts (row_ext RQ3.out hw)
    have D := Lib.hid (dec_false Bt.out)
    have E := Lib.hid (unionAns_f Bt.out)
    clear hw
    go_wp2
    refine bodyPost_ret (v := .tuple #[znet, .bool false]) (by simp [results, Try.results44, go_sem, u0, u1, u2, znet]) rfl ⟨_, [], ret_net D.out.symm, store3_ext K7.out (by omega) _ _ _, by rw [E.out]; exact own_zero _, Fresh.nil _⟩
end Go.Proofs.Ytapkmhicajalaaa
