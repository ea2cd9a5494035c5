/- StartStates and StatesAfter: the contracts that their laws take. -/
import Derived.Test.YtdcgpodjoalokaaMy
import Derived.Test.YtdcgpodjoalokaaSme
import Derived.Test.YtdcgpodjoalokaaMs
namespace Go.Proofs.Ytdcgpodjoalokaa
open Go.RowKit

set_option maxRecDepth 100000 in
theorem maLong_any (r : Int) (w : World) : Calls Try.prog 101 #[.int .i64 r] w fun e w' => e = .returned (.bool (dec (InB r 0 2000))) ∧ w = w' := by
  go_enter Try.func101, Try.ntmps101
  go_wp2_with (go_at_call 93; (with_reducible refine (l1In_any _ _ _ _).mono ?_); rintro e w' ⟨rfl, rfl⟩)
  go_ret
  exact ⟨rfl, rfl⟩
theorem run_stays {M : Mach} {N : Net} {k : Nat} (h : stepL M N (runL M N k) = runL M N k) : ∀ j, runL M N (k + j) = runL M N k
  | 0 => rfl
  | j + 1 => by
    show stepL M N (runL M N (k + j)) = runL M N k
    rw [run_stays h j, h]
noncomputable def ssAns (M : Mach) (N : Net) : List Int := if dec (Asked M N) = true then startL M N else []
theorem ssAns_t {M : Mach} {N : Net} (h : Asked M N) : ssAns M N = startL M N := by unfold ssAns; rw [if_pos (dec_true h)]
theorem ssAns_f {M : Mach} {N : Net} (h : ¬ Asked M N) : ssAns M N = [] := by unfold ssAns; rw [dec_false h]; rfl
theorem ssAns_small (M : Mach) (N : Net) : (ssAns M N).length ≤ 1048576 := by
  by_cases h : Asked M N
  · rw [ssAns_t h, length_startL]; have := h.2.1.1.2; omega
  · rw [ssAns_f h]; simp
theorem long0 {M : Mach} {N : Net} : LongOK M N 0 ↔ Asked M N := ⟨fun h => h.1, fun h => ⟨h, by unfold InB; omega⟩⟩
theorem sa0 (M : Mach) (N : Net) : saAns M N 0 = ssAns M N := by
  by_cases h : Asked M N
  · rw [saAns_t (long0.2 h), ssAns_t h]; rfl
  · rw [saAns_f (fun k => h k.1), ssAns_f h]

set_option maxHeartbeats 6400000 in
set_option maxRecDepth 100000 in
theorem specStartStates_any {w : World} {vm vn : Value} {M : Mach} {N : Net}  (h : MachAt w vm M) (k : NetAt w vn N) : Calls Try.prog 29 #[vm, vn] w fun e w' => ∃ v' bs, e = .returned (.tuple #[v', .bool (dec (Asked M N))]) ∧ Ext w w' ∧ OwnI w' v' (ssAns M N) bs ∧ Fresh w bs := by
  have HM := Lib.hid h
  have HN := Lib.hid k
  obtain ⟨a3, c3, a4, c4, a5, c5, a6, c6, rfl, h3, h4, -⟩ := h
  obtain ⟨v0, v1, v2, rfl, hE, -, hP⟩ := k
  obtain ⟨W1, hW1⟩ : ∃ W1, W1 = twoBox w (.int .i64 M.deg) (.int .i64 M.sts) (.int .i64 M.msgs) (.slice a3 M.start.length c3) (.slice a4 M.send.length c4) (.slice a5 M.cls.length c5) (.slice a6 M.out.length c6) v0 v1 v2 := ⟨_, rfl⟩
  have EW := Lib.hid (show Ext w W1 by rw [hW1]; exact twoBox_ext _ _ _ _ _ _ _ _ _ _ _)
  have RA := Lib.hid (show W1.rowIs w.heap.size 31 7 (sept (.int .i64 M.deg) (.int .i64 M.sts) (.int .i64 M.msgs) (.slice a3 M.start.length c3) (.slice a4 M.send.length c4) (.slice a5 M.cls.length c5) (.slice a6 M.out.length c6)) by rw [hW1]; exact twoBox_m _ _ _ _ _ _ _ _ _ _ _)
  have RB := Lib.hid (show W1.rowIs (w.heap.size + 1) 43 3 (tri v0 v1 v2) by rw [hW1]; exact twoBox_n _ _ _ _ _ _ _ _ _ _ _)
  have hsz : W1.heap.size = w.heap.size + 2 := by rw [hW1]; simp [twoBox]
  have HSZ := Lib.hid hsz
  have HE3 := Lib.hid (h3.ext EW.out)
  have HE4 := Lib.hid (h4.ext EW.out)
  have HNE := Lib.hid (hE.ext EW.out)
  have HNP := Lib.hid (hP.ext EW.out)
  obtain ⟨-, ms3, ns3⟩ := ssLen h3
  obtain ⟨-, ms4, ns4⟩ := ssLen h4
  unfold maxLen at ms3 ms4
  clear h3 h4 hE hP hsz
  obtain ⟨p0, p1, p2, p3, p4, p5, p6⟩ := row7_facts RA.out
  obtain ⟨q0, q1, q2, -, -, -⟩ := row3_facts RB.out
  unfold twoBox at hW1
  go_enter Try.func29, Try.ntmps29
  go_upto_region 1 with fail
  rw [← hW1]
  clear hW1
  go_wp2_with fail
  (with_reducible refine (maAsked_any (HM.out.ext EW.out) (HN.out.ext EW.out)).mono ?_)
  rintro e w2 ⟨rfl, hx⟩
  have Y1 := Lib.hid hx
  clear hx p0 p1 p2 p3 p4 p5 p6 q0 q1 q2
  obtain ⟨p0, p1, p2, p3, p4, p5, p6⟩ := row7_facts (row_ext RA.out Y1.out)
  obtain ⟨q0, q1, q2, -, -, -⟩ := row3_facts (row_ext RB.out Y1.out)
  have K1 := Lib.hid (EW.out.trans' Y1.out)
  by_cases ha : Asked M N
  case neg =>
    rw [dec_false ha]
    have DA := Lib.hid (dec_false ha)
    have AA := Lib.hid (ssAns_f ha)
    clear ha
    go_wp2
    go_ret2
    exact ⟨_, [], ret_vb (DA.out).symm, K1.out, by rw [AA.out]; exact own_nilI _, Fresh.nil _⟩
  rw [dec_true ha]
  have HA := Lib.hid ha
  clear ha
  go_wp2_with fail
  (with_reducible refine (maStart_any (HM.out.ext K1.out) (HN.out.ext K1.out) HA.out).mono ?_)
  rintro e w3 ⟨v', bs, rfl, hx, ho, hf⟩
  have K3 := Lib.hid (K1.out.trans' hx)
  have HO := Lib.hid ho
  have HF := Lib.hid (hf.of K1.out.size)
  clear hx ho hf
  go_wp2
  go_ret2
  exact ⟨_, bs, ret_vb (dec_true HA.out).symm, K3.out, by rw [ssAns_t HA.out]; exact HO.out, HF.out⟩

set_option maxHeartbeats 6400000 in
set_option maxRecDepth 100000 in
theorem implStartStates_any {w : World} {vm vn : Value} {M : Mach} {N : Net}  (h : MachAt w vm M) (k : NetAt w vn N) : Calls Try.prog 30 #[vm, vn] w fun e w' => ∃ v' bs, e = .returned (.tuple #[v', .bool (dec (Asked M N))]) ∧ Ext w w' ∧ OwnI w' v' (ssAns M N) bs ∧ Fresh w bs := by
  have HM := Lib.hid h
  have HN := Lib.hid k
  obtain ⟨a3, c3, a4, c4, a5, c5, a6, c6, rfl, h3, h4, -⟩ := h
  obtain ⟨v0, v1, v2, rfl, hE, -, hP⟩ := k
  obtain ⟨W1, hW1⟩ : ∃ W1, W1 = twoBox w (.int .i64 M.deg) (.int .i64 M.sts) (.int .i64 M.msgs) (.slice a3 M.start.length c3) (.slice a4 M.send.length c4) (.slice a5 M.cls.length c5) (.slice a6 M.out.length c6) v0 v1 v2 := ⟨_, rfl⟩
  have EW := Lib.hid (show Ext w W1 by rw [hW1]; exact twoBox_ext _ _ _ _ _ _ _ _ _ _ _)
  have RA := Lib.hid (show W1.rowIs w.heap.size 31 7 (sept (.int .i64 M.deg) (.int .i64 M.sts) (.int .i64 M.msgs) (.slice a3 M.start.length c3) (.slice a4 M.send.length c4) (.slice a5 M.cls.length c5) (.slice a6 M.out.length c6)) by rw [hW1]; exact twoBox_m _ _ _ _ _ _ _ _ _ _ _)
  have RB := Lib.hid (show W1.rowIs (w.heap.size + 1) 43 3 (tri v0 v1 v2) by rw [hW1]; exact twoBox_n _ _ _ _ _ _ _ _ _ _ _)
  have hsz : W1.heap.size = w.heap.size + 2 := by rw [hW1]; simp [twoBox]
  have HSZ := Lib.hid hsz
  have HE3 := Lib.hid (h3.ext EW.out)
  have HE4 := Lib.hid (h4.ext EW.out)
  have HNE := Lib.hid (hE.ext EW.out)
  have HNP := Lib.hid (hP.ext EW.out)
  obtain ⟨-, ms3, ns3⟩ := ssLen h3
  obtain ⟨-, ms4, ns4⟩ := ssLen h4
  unfold maxLen at ms3 ms4
  clear h3 h4 hE hP hsz
  obtain ⟨p0, p1, p2, p3, p4, p5, p6⟩ := row7_facts RA.out
  obtain ⟨q0, q1, q2, -, -, -⟩ := row3_facts RB.out
  unfold twoBox at hW1
  go_enter Try.func30, Try.ntmps30
  go_upto_region 1 with fail
  rw [← hW1]
  clear hW1
  go_wp2_with fail
  (with_reducible refine (implStatesAfter_any 0 (HM.out.ext EW.out) (HN.out.ext EW.out)).mono ?_)
  rintro e w2 ⟨v', bs, rfl, hx, ho, hf⟩
  have K3 := Lib.hid (EW.out.trans' hx)
  have HO := Lib.hid ho
  have HF := Lib.hid (hf.of EW.out.size)
  have D := Lib.hid (dec_congr (long0 (M := M) (N := N)))
  clear hx ho hf
  go_wp2
  go_ret2
  exact ⟨_, bs, ret_vb D.out, K3.out, by rw [← sa0]; exact HO.out, HF.out⟩

set_option maxHeartbeats 6400000 in
set_option maxRecDepth 100000 in
theorem specStatesAfter_any {w : World} {vm vn : Value} {M : Mach} {N : Net} (r : Int) (h : MachAt w vm M) (k : NetAt w vn N) : Calls Try.prog 48 #[vm, vn, .int .i64 r] w fun e w' => ∃ v' bs, e = .returned (.tuple #[v', .bool (dec (LongOK M N r))]) ∧ Ext w w' ∧ OwnI w' v' (saAns M N r) bs ∧ Fresh w bs := by
  have HM := Lib.hid h
  have HN := Lib.hid k
  obtain ⟨a3, c3, a4, c4, a5, c5, a6, c6, rfl, h3, h4, -⟩ := h
  obtain ⟨v0, v1, v2, rfl, hE, -, hP⟩ := k
  obtain ⟨W1, hW1⟩ : ∃ W1, W1 = twoBox w (.int .i64 M.deg) (.int .i64 M.sts) (.int .i64 M.msgs) (.slice a3 M.start.length c3) (.slice a4 M.send.length c4) (.slice a5 M.cls.length c5) (.slice a6 M.out.length c6) v0 v1 v2 := ⟨_, rfl⟩
  have EW := Lib.hid (show Ext w W1 by rw [hW1]; exact twoBox_ext _ _ _ _ _ _ _ _ _ _ _)
  have RA := Lib.hid (show W1.rowIs w.heap.size 31 7 (sept (.int .i64 M.deg) (.int .i64 M.sts) (.int .i64 M.msgs) (.slice a3 M.start.length c3) (.slice a4 M.send.length c4) (.slice a5 M.cls.length c5) (.slice a6 M.out.length c6)) by rw [hW1]; exact twoBox_m _ _ _ _ _ _ _ _ _ _ _)
  have RB := Lib.hid (show W1.rowIs (w.heap.size + 1) 43 3 (tri v0 v1 v2) by rw [hW1]; exact twoBox_n _ _ _ _ _ _ _ _ _ _ _)
  have hsz : W1.heap.size = w.heap.size + 2 := by rw [hW1]; simp [twoBox]
  have HSZ := Lib.hid hsz
  have HE3 := Lib.hid (h3.ext EW.out)
  have HE4 := Lib.hid (h4.ext EW.out)
  have HNE := Lib.hid (hE.ext EW.out)
  have HNP := Lib.hid (hP.ext EW.out)
  obtain ⟨-, ms3, ns3⟩ := ssLen h3
  obtain ⟨-, ms4, ns4⟩ := ssLen h4
  unfold maxLen at ms3 ms4
  clear h3 h4 hE hP hsz
  obtain ⟨p0, p1, p2, p3, p4, p5, p6⟩ := row7_facts RA.out
  obtain ⟨q0, q1, q2, -, -, -⟩ := row3_facts RB.out
  unfold twoBox at hW1
  go_enter Try.func48, Try.ntmps48
  go_upto_region 1 with fail
  rw [← hW1]
  clear hW1
  go_wp2_with fail
  (with_reducible refine (maAsked_any (HM.out.ext EW.out) (HN.out.ext EW.out)).mono ?_)
  rintro e w2 ⟨rfl, hx⟩
  have Y1 := Lib.hid hx
  clear hx p0 p1 p2 p3 p4 p5 p6 q0 q1 q2
  obtain ⟨p0, p1, p2, p3, p4, p5, p6⟩ := row7_facts (row_ext RA.out Y1.out)
  obtain ⟨q0, q1, q2, -, -, -⟩ := row3_facts (row_ext RB.out Y1.out)
  have K1 := Lib.hid (EW.out.trans' Y1.out)
  by_cases ha : Asked M N
  case neg =>
    rw [dec_false ha]
    have DA := Lib.hid (show ¬ LongOK M N r from fun h => ha h.1)
    clear ha
    go_wp2
    go_ret2
    exact ⟨_, [], ret_vb (dec_false DA.out).symm, K1.out, by rw [saAns_f DA.out]; exact own_nilI _, Fresh.nil _⟩
  rw [dec_true ha]
  have HA := Lib.hid ha
  clear ha
  by_cases hr : InB r 0 2000
  case neg =>
    have D := Lib.hid (dec_false hr)
    have DA := Lib.hid (show ¬ LongOK M N r from fun h => hr h.2)
    clear hr
    go_wp2_with (go_at_call 101; (with_reducible refine (maLong_any _ _).mono ?_); rintro e w' ⟨rfl, rfl⟩; rw [D.out])
    go_ret2
    exact ⟨_, [], ret_vb (dec_false DA.out).symm, K1.out, by rw [saAns_f DA.out]; exact own_nilI _, Fresh.nil _⟩
  have HR := Lib.hid hr
  have D := Lib.hid (dec_true hr)
  obtain ⟨m, rfl⟩ := Int.eq_ofNat_of_zero_le hr.1
  have hm : m ≤ 2000 := by have := hr.2; omega
  clear hr
  have HL := Lib.hid (show LongOK M N (m : Int) from ⟨HA.out, HR.out⟩)
  have hn40 : N.ends.length ≤ 40 := HA.out.2.1.1.2
  go_wp2_with (go_at_call 101; (with_reducible refine (maLong_any _ _).mono ?_); rintro e w' ⟨rfl, rfl⟩; rw [D.out])
  (with_reducible refine (maStart_any (HM.out.ext K1.out) (HN.out.ext K1.out) HA.out).mono ?_)
  rintro e w3 ⟨v', bs, rfl, hx, ho, hf⟩
  obtain ⟨sa, sq, rfl⟩ := ho.read.isSlice
  rw [length_startL] at ho ⊢
  have X3 := Lib.hid hx
  have HO := Lib.hid ho
  have HF := Lib.hid (hf.of K1.out.size)
  clear hx ho hf p0 p1 p2 p3 p4 p5 p6 q0 q1 q2
  go_wp2
  go_loopg [8, 9] (m + 1) (fun g s i wr => ∃ (k : Nat) (sa : Option Addr) (sq : Nat) (bs : List Nat), k ≤ m ∧ g = m + 1 - k ∧ i = .int .i64 k ∧ s = .slice sa N.ends.length sq ∧ Hid (Ext w2 wr ∧ OwnI wr (.slice sa N.ends.length sq) (runL M N k) bs ∧ Fresh w bs))
  case atStart => exact ⟨0, sa, sq, bs, Nat.zero_le _, rfl, rfl, rfl, X3.out, HO.out, HF.out⟩
  case round =>
    obtain ⟨k, sa, sq, bs, hk, rfl, rfl, rfl, Hr⟩ := hrel
    by_cases hlt : k < m
    · have KR := Lib.hid (K1.out.trans' Hr.out.1)
      obtain ⟨t0, t1, t2, t3, t4, t5, t6⟩ := row7_facts (row_ext RA.out (Y1.out.trans' Hr.out.1))
      obtain ⟨z0, z1, z2, -, -, -⟩ := row3_facts (row_ext RB.out (Y1.out.trans' Hr.out.1))
      go_wp2_with fail
      (with_reducible refine (maStep_any (HM.out.ext KR.out) (HN.out.ext KR.out) Hr.out.2.1.read (run_sts HA.out k)).mono ?_)
      rintro e w4 ⟨v4, bs4, rfl, hx, ho, hf⟩
      obtain ⟨sa4, sq4, rfl⟩ := ho.read.isSlice
      rw [length_stepL] at ho ⊢
      have X4 := Lib.hid hx
      have O4 := Lib.hid ho
      have F4 := Lib.hid (hf.of (show w.heap.size ≤ wr.heap.size from KR.out.size))
      clear hx ho hf t0 t1 t2 t3 t4 t5 t6 z0 z1 z2
      go_wp2_with fail
      (with_reducible refine (l1Same_any O4.out.read (Hr.out.2.1.ext X4.out).read).mono ?_)
      rintro e w5 ⟨rfl, hx⟩
      have X5 := Lib.hid (X4.out.trans' hx)
      have HX5 := Lib.hid hx
      clear hx
      by_cases hs : stepL M N (runL M N k) = runL M N k
      · have E := Lib.hid (show runL M N m = runL M N k by obtain ⟨j, hj⟩ : ∃ j, m = k + j := ⟨m - k, by omega⟩; rw [hj]; exact run_stays hs j)
        have Dd := Lib.hid (decide_eq_true hs)
        rw [Dd.out]
        clear hs
        go_wp2
        go_ret2
        exact ⟨_, bs, ret_vb (dec_true HL.out).symm, KR.out.trans' X5.out, by rw [saAns_t HL.out, Int.toNat_natCast, E.out]; exact Hr.out.2.1.ext X5.out, Hr.out.2.2⟩
      · have Dd := Lib.hid (decide_eq_false hs)
        rw [Dd.out]
        clear hs
        go_wp2
        go_roundg (m + 1 - (k + 1))
        case measure => omega
        case rel => exact ⟨k + 1, sa4, sq4, bs4, by omega, rfl, by go_num, rfl, Hr.out.1.trans' X5.out, O4.out.ext HX5.out, F4.out⟩
    · obtain rfl : k = m := by omega
      go_wp2
      go_ret2
      exact ⟨_, bs, ret_vb (dec_true HL.out).symm, K1.out.trans' Hr.out.1, by rw [saAns_t HL.out, Int.toNat_natCast]; exact Hr.out.2.1, Hr.out.2.2⟩

end Go.Proofs.Ytdcgpodjoalokaa
