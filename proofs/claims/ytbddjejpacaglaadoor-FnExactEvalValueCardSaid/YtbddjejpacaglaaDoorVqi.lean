/- EvalValue: what the program and the model answer. -/
import Derived.Test.YtbddjejpacaglaaDoorVqh
namespace Go.Proofs.YtbddjejpacaglaaDoor
open Go.RowKit

/-- What EvalValue asks beside a valid program. -/
def EvS (S : Sg) : Prop := AllIn [S.own] (-1000000) 1000000 ∧ InB S.id 0 999999 ∧ InB S.inp 0 9 ∧ InB S.rnd 1 2000 ∧ S.near.length ≤ 6 ∧ AllIn S.near (-1000000) 1000000
theorem EvS.ok {S : Sg} (h : EvS S) : SgOK S := ⟨h.1 0 (by simp), h.2.2.2.2.1, h.2.2.2.2.2⟩
theorem areValues_any {w : World} {v : Value} {l : List Int} (h : IntSl w v l) :
    Calls Tryd.prog 42 #[v] w fun e w' => e = .returned (.bool (dec (AllIn l (-1000000) 1000000))) ∧ w = w' := by
  go_enter Tryd.func42, Tryd.ntmps42
  go_wp2_with (go_at_call 50; (with_reducible refine (areBetween_any _ _ h).mono ?_); rintro e _ ⟨rfl, rfl⟩)
  go_ret
  exact ⟨rfl, rfl⟩
theorem vaValues_any {w : World} {v : Value} {l : List Int} (h : IntSl w v l) :
    Calls Tryd.prog 26 #[v] w fun e w' => e = .returned (.bool (dec (AllIn l (-1000000) 1000000))) ∧ w = w' := by
  go_enter Tryd.func26, Tryd.ntmps26
  go_wp2_with (go_at_call 36; (with_reducible refine (l1All_any _ _ h).mono ?_); rintro e _ ⟨rfl, rfl⟩)
  go_ret
  exact ⟨rfl, rfl⟩

set_option maxHeartbeats 3200000 in
set_option maxRecDepth 100000 in
theorem isSight_any {w : World} {sv : Value} {S : Sg} (hs : SightAt w sv S) (ho : inI64 S.own) :
    Calls Tryd.prog 29 #[sv] w fun e w' => e = .returned (.bool (dec (EvS S))) ∧ Ext w w' := by
  obtain ⟨a, c, rfl, hn⟩ := hs
  have hb := row5_made w (.int .i64 S.own) (.int .i64 S.id) (.int .i64 S.inp) (.int .i64 S.rnd) (.slice a S.near.length c) 53
  have hx := (Ext.rfl' w).alloc' (.cells #[.int .i64 S.own, .int .i64 S.id, .int .i64 S.inp, .int .i64 S.rnd, .slice a S.near.length c] 53)
  have hu := (Ext.rfl' (w.alloc (.cells #[.int .i64 S.own, .int .i64 S.id, .int .i64 S.inp, .int .i64 S.rnd, .slice a S.near.length c] 53))).alloc' (.cells #[.int .i64 S.own] 3)
  have HX := Lib.hid (hx.trans' hu)
  have H1 := one_sl (w := w.alloc (.cells #[.int .i64 S.own, .int .i64 S.id, .int .i64 S.inp, .int .i64 S.rnd, .slice a S.near.length c] 53)) S.own ho 3
  rw [show (w.alloc (.cells #[.int .i64 S.own, .int .i64 S.id, .int .i64 S.inp, .int .i64 S.rnd, .slice a S.near.length c] 53)).heap.size = w.heap.size + 1 by simp] at H1
  have H1 := Lib.hid H1
  have H2 := Lib.hid (hn.ext HX.out)
  have q1 := hu.cell' hb.2.1
  have q2 := hu.cell' hb.2.2.1
  have q3 := hu.cell' hb.2.2.2.1
  have q4 := hu.cell' hb.2.2.2.2
  obtain ⟨_, _, _, _, e, -, hl, hm, -⟩ := hn
  cases e
  unfold maxLen at hm
  clear hb hx hu
  by_cases h1 : AllIn [S.own] (-1000000) 1000000
  · have E1 := Lib.hid (dec_true h1)
    by_cases h2 : InB S.id 0 999999
    · have E2 := Lib.hid (dec_true h2)
      by_cases h3 : InB S.inp 0 9
      · have E3 := Lib.hid (dec_true h3)
        by_cases h4 : InB S.rnd 1 2000
        · have E4 := Lib.hid (dec_true h4)
          by_cases h5 : S.near.length ≤ 6
          · have d5 : decide ((S.near.length : Int) ≤ 6) = true := by simpa using (show (S.near.length : Int) ≤ 6 by omega)
            by_cases h6 : AllIn S.near (-1000000) 1000000
            · have E6 := Lib.hid (dec_true h6)
              have HN := Lib.hid (dec_true (p := EvS S) ⟨h1, h2, h3, h4, h5, h6⟩)
              clear h1 h2 h3 h4 h5 h6
              go_enter Tryd.func29, Tryd.ntmps29
              go_wp2_with (first | (go_at_call 32; (with_reducible refine (isBetweenK_any _ _ _ _).mono ?_); rintro e _ ⟨rfl, rfl⟩; first | rw [E2.out] | rw [E3.out] | rw [E4.out]) | (go_at_call 42; (with_reducible refine (areValues_any H1.out).mono ?_); rintro e _ ⟨rfl, rfl⟩; rw [E1.out]) | (go_at_call 42; (with_reducible refine (areValues_any H2.out).mono ?_); rintro e _ ⟨rfl, rfl⟩; rw [E6.out]))
              go_ret
              exact ⟨ret_bool HN.out.symm, HX.out⟩
            · have E6 := Lib.hid (dec_false h6)
              have HN := Lib.hid (dec_false (p := EvS S) (fun h => h6 h.2.2.2.2.2))
              clear h1 h2 h3 h4 h5 h6
              go_enter Tryd.func29, Tryd.ntmps29
              go_wp2_with (first | (go_at_call 32; (with_reducible refine (isBetweenK_any _ _ _ _).mono ?_); rintro e _ ⟨rfl, rfl⟩; first | rw [E2.out] | rw [E3.out] | rw [E4.out]) | (go_at_call 42; (with_reducible refine (areValues_any H1.out).mono ?_); rintro e _ ⟨rfl, rfl⟩; rw [E1.out]) | (go_at_call 42; (with_reducible refine (areValues_any H2.out).mono ?_); rintro e _ ⟨rfl, rfl⟩; rw [E6.out]))
              go_ret
              exact ⟨ret_bool HN.out.symm, HX.out⟩
          · have d5 : decide ((S.near.length : Int) ≤ 6) = false := by simpa using (show ¬ (S.near.length : Int) ≤ 6 by omega)
            have HN := Lib.hid (dec_false (p := EvS S) (fun h => h5 h.2.2.2.2.1))
            clear h1 h2 h3 h4 h5
            go_enter Tryd.func29, Tryd.ntmps29
            go_wp2_with (first | (go_at_call 32; (with_reducible refine (isBetweenK_any _ _ _ _).mono ?_); rintro e _ ⟨rfl, rfl⟩; first | rw [E2.out] | rw [E3.out] | rw [E4.out]) | (go_at_call 42; (with_reducible refine (areValues_any H1.out).mono ?_); rintro e _ ⟨rfl, rfl⟩; rw [E1.out]))
            go_ret
            exact ⟨ret_bool HN.out.symm, HX.out⟩
        · have E4 := Lib.hid (dec_false h4)
          have HN := Lib.hid (dec_false (p := EvS S) (fun h => h4 h.2.2.2.1))
          clear h1 h2 h3 h4
          go_enter Tryd.func29, Tryd.ntmps29
          go_wp2_with (first | (go_at_call 32; (with_reducible refine (isBetweenK_any _ _ _ _).mono ?_); rintro e _ ⟨rfl, rfl⟩; first | rw [E2.out] | rw [E3.out] | rw [E4.out]) | (go_at_call 42; (with_reducible refine (areValues_any H1.out).mono ?_); rintro e _ ⟨rfl, rfl⟩; rw [E1.out]))
          go_ret
          exact ⟨ret_bool HN.out.symm, HX.out⟩
      · have E3 := Lib.hid (dec_false h3)
        have HN := Lib.hid (dec_false (p := EvS S) (fun h => h3 h.2.2.1))
        clear h1 h2 h3
        go_enter Tryd.func29, Tryd.ntmps29
        go_wp2_with (first | (go_at_call 32; (with_reducible refine (isBetweenK_any _ _ _ _).mono ?_); rintro e _ ⟨rfl, rfl⟩; first | rw [E2.out] | rw [E3.out]) | (go_at_call 42; (with_reducible refine (areValues_any H1.out).mono ?_); rintro e _ ⟨rfl, rfl⟩; rw [E1.out]))
        go_ret
        exact ⟨ret_bool HN.out.symm, HX.out⟩
    · have E2 := Lib.hid (dec_false h2)
      have HN := Lib.hid (dec_false (p := EvS S) (fun h => h2 h.2.1))
      clear h1 h2
      go_enter Tryd.func29, Tryd.ntmps29
      go_wp2_with (first | (go_at_call 32; (with_reducible refine (isBetweenK_any _ _ _ _).mono ?_); rintro e _ ⟨rfl, rfl⟩; first | rw [E2.out]) | (go_at_call 42; (with_reducible refine (areValues_any H1.out).mono ?_); rintro e _ ⟨rfl, rfl⟩; rw [E1.out]))
      go_ret
      exact ⟨ret_bool HN.out.symm, HX.out⟩
  · have E1 := Lib.hid (dec_false h1)
    have HN := Lib.hid (dec_false (p := EvS S) (fun h => h1 h.1))
    clear h1
    go_enter Tryd.func29, Tryd.ntmps29
    go_wp2_with (first | (go_at_call 42; (with_reducible refine (areValues_any H1.out).mono ?_); rintro e _ ⟨rfl, rfl⟩; rw [E1.out]))
    go_ret
    exact ⟨ret_bool HN.out.symm, HX.out⟩

/-- The arguments of EvalValue are as it asks. -/
def EvB (S : Sg) (l : List (Int × Int)) : Prop := ProgOK l ∧ EvS S
noncomputable def evA (S : Sg) (l : List (Int × Int)) : Int := if dec (EvB S l) = true then evl S l else 0
theorem evA_t {S : Sg} {l : List (Int × Int)} (h : dec (EvB S l) = true) : evA S l = evl S l := if_pos h
theorem evA_f {S : Sg} {l : List (Int × Int)} (h : dec (EvB S l) = false) : evA S l = 0 := if_neg (by rw [h]; simp)

set_option maxHeartbeats 3200000 in
set_option maxRecDepth 100000 in
theorem specEvalValue_any {w : World} {pv nv : Value} {l : List (Int × Int)} (S : Sg) (h0 : EndSl w pv l) (hn : IntSl w nv S.near) (ho : inI64 S.own) :
    Calls Tryd.prog 16 #[pv, .int .i64 S.own, .int .i64 S.id, .int .i64 S.inp, .int .i64 S.rnd, nv] w fun e w' => e = .returned (.tuple #[.int .i64 (evA S l), .bool (dec (EvB S l))]) ∧ Ext w w' := by
  have HNE := Lib.hid hn
  obtain ⟨a, _, _, c, rfl, -, hl, hm, -⟩ := hn
  unfold maxLen at hm
  have HSV := Lib.hid (show SightAt w (.agg #[.int .i64 S.own, .int .i64 S.id, .int .i64 S.inp, .int .i64 S.rnd, .slice a S.near.length c]) S from ⟨a, c, rfl, HNE.out⟩)
  by_cases hp : ProgOK l
  · have E0 := Lib.hid (dec_true hp)
    by_cases h1 : AllIn [S.own] (-1000000) 1000000
    · have E1 := Lib.hid (dec_true h1)
      by_cases h2 : InB S.id 0 999999
      · have E2 := Lib.hid (dec_true h2)
        by_cases h3 : InB S.inp 0 9
        · have E3 := Lib.hid (dec_true h3)
          by_cases h4 : InB S.rnd 1 2000
          · have E4 := Lib.hid (dec_true h4)
            by_cases h5 : S.near.length ≤ 6
            · have d5 : decide (6 < (S.near.length : Int)) = false := by simp; omega
              by_cases h6 : AllIn S.near (-1000000) 1000000
              · have E6 := Lib.hid (dec_true h6)
                have HN := Lib.hid (And.intro (dec_true (p := EvB S l) ⟨hp, h1, h2, h3, h4, h5, h6⟩) (And.intro (EvS.ok ⟨h1, h2, h3, h4, h5, h6⟩) hp))
                clear hp h1 h2 h3 h4 h5 h6
                go_enter Tryd.func16, Tryd.ntmps16
                go_wp2_with (first | (go_at_call 27; (with_reducible refine (l1In_any _ _ _ _).mono ?_); rintro e _ ⟨rfl, rfl⟩; first | rw [E2.out] | rw [E3.out] | rw [E4.out]) | (go_at_call 20; (with_reducible refine (vaGood_any h0).mono ?_); rintro e w1 ⟨rfl, hx⟩; rw [E0.out]; have K1 := Lib.hid hx; have H1 := Lib.hid (one_sl (w := w1) S.own ho 3); have K2 := Lib.hid (hx.alloc' (.cells #[.int .i64 S.own] 3)); have H2 := Lib.hid (HNE.out.ext K2.out); clear hx) | (go_at_call 26; (with_reducible refine (vaValues_any H1.out).mono ?_); rintro e _ ⟨rfl, rfl⟩; rw [E1.out]) | (go_at_call 26; (with_reducible refine (vaValues_any H2.out).mono ?_); rintro e _ ⟨rfl, rfl⟩; rw [E6.out]) | (go_at_call 28; (with_reducible refine (vaEval_any (h0.ext K2.out) HN.out.2.2 (show SightAt _ (.agg #[.int .i64 S.own, .int .i64 S.id, .int .i64 S.inp, .int .i64 S.rnd, .slice a S.near.length c]) S from (HSV.out).ext K2.out) HN.out.2.1).mono ?_); rintro e w2 ⟨rfl, hx⟩; have K3 := Lib.hid (K2.out.trans' hx); clear hx))
                go_ret2
                exact ⟨by rw [evA_t HN.out.1, HN.out.1]; rfl, K3.out⟩
              · have E6 := Lib.hid (dec_false h6)
                have HN := Lib.hid (dec_false (p := EvB S l) (fun h => h6 h.2.2.2.2.2.2))
                clear hp h1 h2 h3 h4 h5 h6
                go_enter Tryd.func16, Tryd.ntmps16
                go_wp2_with (first | (go_at_call 27; (with_reducible refine (l1In_any _ _ _ _).mono ?_); rintro e _ ⟨rfl, rfl⟩; first | rw [E2.out] | rw [E3.out] | rw [E4.out]) | (go_at_call 20; (with_reducible refine (vaGood_any h0).mono ?_); rintro e w1 ⟨rfl, hx⟩; rw [E0.out]; have K1 := Lib.hid hx; have H1 := Lib.hid (one_sl (w := w1) S.own ho 3); have K2 := Lib.hid (hx.alloc' (.cells #[.int .i64 S.own] 3)); have H2 := Lib.hid (HNE.out.ext K2.out); clear hx) | (go_at_call 26; (with_reducible refine (vaValues_any H1.out).mono ?_); rintro e _ ⟨rfl, rfl⟩; rw [E1.out]) | (go_at_call 26; (with_reducible refine (vaValues_any H2.out).mono ?_); rintro e _ ⟨rfl, rfl⟩; rw [E6.out]))
                go_ret2
                exact ⟨by rw [evA_f HN.out, HN.out]; rfl, K2.out⟩
            · have d5 : decide (6 < (S.near.length : Int)) = true := by simp; omega
              have HN := Lib.hid (dec_false (p := EvB S l) (fun h => h5 h.2.2.2.2.2.1))
              clear hp h1 h2 h3 h4 h5
              go_enter Tryd.func16, Tryd.ntmps16
              go_wp2_with (first | (go_at_call 27; (with_reducible refine (l1In_any _ _ _ _).mono ?_); rintro e _ ⟨rfl, rfl⟩; first | rw [E2.out] | rw [E3.out] | rw [E4.out]) | (go_at_call 20; (with_reducible refine (vaGood_any h0).mono ?_); rintro e w1 ⟨rfl, hx⟩; rw [E0.out]; have K1 := Lib.hid hx; have H1 := Lib.hid (one_sl (w := w1) S.own ho 3); have K2 := Lib.hid (hx.alloc' (.cells #[.int .i64 S.own] 3)); have H2 := Lib.hid (HNE.out.ext K2.out); clear hx) | (go_at_call 26; (with_reducible refine (vaValues_any H1.out).mono ?_); rintro e _ ⟨rfl, rfl⟩; rw [E1.out]))
              go_ret2
              exact ⟨by rw [evA_f HN.out, HN.out]; rfl, K2.out⟩
          · have E4 := Lib.hid (dec_false h4)
            have HN := Lib.hid (dec_false (p := EvB S l) (fun h => h4 h.2.2.2.2.1))
            clear hp h1 h2 h3 h4
            go_enter Tryd.func16, Tryd.ntmps16
            go_wp2_with (first | (go_at_call 27; (with_reducible refine (l1In_any _ _ _ _).mono ?_); rintro e _ ⟨rfl, rfl⟩; first | rw [E2.out] | rw [E3.out] | rw [E4.out]) | (go_at_call 20; (with_reducible refine (vaGood_any h0).mono ?_); rintro e w1 ⟨rfl, hx⟩; rw [E0.out]; have K1 := Lib.hid hx; have H1 := Lib.hid (one_sl (w := w1) S.own ho 3); have K2 := Lib.hid (hx.alloc' (.cells #[.int .i64 S.own] 3)); have H2 := Lib.hid (HNE.out.ext K2.out); clear hx) | (go_at_call 26; (with_reducible refine (vaValues_any H1.out).mono ?_); rintro e _ ⟨rfl, rfl⟩; rw [E1.out]))
            go_ret2
            exact ⟨by rw [evA_f HN.out, HN.out]; rfl, K2.out⟩
        · have E3 := Lib.hid (dec_false h3)
          have HN := Lib.hid (dec_false (p := EvB S l) (fun h => h3 h.2.2.2.1))
          clear hp h1 h2 h3
          go_enter Tryd.func16, Tryd.ntmps16
          go_wp2_with (first | (go_at_call 27; (with_reducible refine (l1In_any _ _ _ _).mono ?_); rintro e _ ⟨rfl, rfl⟩; first | rw [E2.out] | rw [E3.out]) | (go_at_call 20; (with_reducible refine (vaGood_any h0).mono ?_); rintro e w1 ⟨rfl, hx⟩; rw [E0.out]; have K1 := Lib.hid hx; have H1 := Lib.hid (one_sl (w := w1) S.own ho 3); have K2 := Lib.hid (hx.alloc' (.cells #[.int .i64 S.own] 3)); have H2 := Lib.hid (HNE.out.ext K2.out); clear hx) | (go_at_call 26; (with_reducible refine (vaValues_any H1.out).mono ?_); rintro e _ ⟨rfl, rfl⟩; rw [E1.out]))
          go_ret2
          exact ⟨by rw [evA_f HN.out, HN.out]; rfl, K2.out⟩
      · have E2 := Lib.hid (dec_false h2)
        have HN := Lib.hid (dec_false (p := EvB S l) (fun h => h2 h.2.2.1))
        clear hp h1 h2
        go_enter Tryd.func16, Tryd.ntmps16
        go_wp2_with (first | (go_at_call 27; (with_reducible refine (l1In_any _ _ _ _).mono ?_); rintro e _ ⟨rfl, rfl⟩; first | rw [E2.out]) | (go_at_call 20; (with_reducible refine (vaGood_any h0).mono ?_); rintro e w1 ⟨rfl, hx⟩; rw [E0.out]; have K1 := Lib.hid hx; have H1 := Lib.hid (one_sl (w := w1) S.own ho 3); have K2 := Lib.hid (hx.alloc' (.cells #[.int .i64 S.own] 3)); have H2 := Lib.hid (HNE.out.ext K2.out); clear hx) | (go_at_call 26; (with_reducible refine (vaValues_any H1.out).mono ?_); rintro e _ ⟨rfl, rfl⟩; rw [E1.out]))
        go_ret2
        exact ⟨by rw [evA_f HN.out, HN.out]; rfl, K2.out⟩
    · have E1 := Lib.hid (dec_false h1)
      have HN := Lib.hid (dec_false (p := EvB S l) (fun h => h1 h.2.1))
      clear hp h1
      go_enter Tryd.func16, Tryd.ntmps16
      go_wp2_with (first | (go_at_call 20; (with_reducible refine (vaGood_any h0).mono ?_); rintro e w1 ⟨rfl, hx⟩; rw [E0.out]; have K1 := Lib.hid hx; have H1 := Lib.hid (one_sl (w := w1) S.own ho 3); have K2 := Lib.hid (hx.alloc' (.cells #[.int .i64 S.own] 3)); have H2 := Lib.hid (HNE.out.ext K2.out); clear hx) | (go_at_call 26; (with_reducible refine (vaValues_any H1.out).mono ?_); rintro e _ ⟨rfl, rfl⟩; rw [E1.out]))
      go_ret2
      exact ⟨by rw [evA_f HN.out, HN.out]; rfl, K2.out⟩
  · have E0 := Lib.hid (dec_false hp)
    have HN := Lib.hid (dec_false (p := EvB S l) (fun h => hp h.1))
    clear hp
    go_enter Tryd.func16, Tryd.ntmps16
    go_wp2_with (go_at_call 20; (with_reducible refine (vaGood_any h0).mono ?_); rintro e w1 ⟨rfl, hx⟩; rw [E0.out]; have K1 := Lib.hid hx; clear hx)
    go_ret2
    exact ⟨by rw [evA_f HN.out, HN.out]; rfl, K1.out⟩

set_option maxHeartbeats 3200000 in
set_option maxRecDepth 100000 in
theorem implEvalValue_any {w : World} {pv nv : Value} {l : List (Int × Int)} (S : Sg) (h0 : EndSl w pv l) (hn : IntSl w nv S.near) (ho : inI64 S.own) (hP : Pw w) :
    Calls Tryd.prog 18 #[pv, .int .i64 S.own, .int .i64 S.id, .int .i64 S.inp, .int .i64 S.rnd, nv] w fun e w' => e = .returned (.tuple #[.int .i64 (evA S l), .bool (dec (EvB S l))]) ∧ Ext w w' := by
  have HNE := Lib.hid hn
  obtain ⟨a, _, _, c, rfl, -, hl, hm, -⟩ := hn
  unfold maxLen at hm
  have HSV := Lib.hid (show SightAt w (.agg #[.int .i64 S.own, .int .i64 S.id, .int .i64 S.inp, .int .i64 S.rnd, .slice a S.near.length c]) S from ⟨a, c, rfl, HNE.out⟩)
  by_cases hp : ProgOK l
  · have E0 := Lib.hid (dec_true hp)
    by_cases hs : EvS S
    · have E1 := Lib.hid (dec_true hs)
      have HN := Lib.hid (dec_true (p := EvB S l) ⟨hp, hs⟩)
      have HS := Lib.hid hs.ok
      have HP := Lib.hid hp
      clear hp hs
      go_enter Tryd.func18, Tryd.ntmps18
      go_wp2_with fail
      (with_reducible refine (rulesOf_any h0 hP).mono ?_)
      rintro e w1 ⟨rv, rfl, hx, hr⟩
      rw [E0.out]
      obtain ⟨b, B, rfl, -, -, hR⟩ := hr HP.out
      have hu := (Ext.rfl' w1).alloc' (.cells #[.int .i64 S.own, .int .i64 S.id, .int .i64 S.inp, .int .i64 S.rnd, .slice a S.near.length c] 53)
      have K1 := Lib.hid (hx.trans' hu)
      have HR := Lib.hid (hR.ext hu)
      clear hx hr hR hu
      go_wp2_with fail
      (with_reducible refine (isSight_any ((HSV.out).ext K1.out) ho).mono ?_)
      rintro e w2 ⟨rfl, hx⟩
      rw [E1.out]
      have K2 := Lib.hid (K1.out.trans' hx)
      have HR2 := Lib.hid (HR.out.ext hx)
      obtain ⟨g0, g1, g2, g3, g4⟩ := row5_made w1 (.int .i64 S.own) (.int .i64 S.id) (.int .i64 S.inp) (.int .i64 S.rnd) (.slice a S.near.length c) 53
      have g0 := hx.cell' g0
      have g1 := hx.cell' g1
      have g2 := hx.cell' g2
      have g3 := hx.cell' g3
      have g4 := hx.cell' g4
      clear hx
      go_wp2_with fail
      (with_reducible refine (resultOf_any rfl HR2.out HP.out ((HSV.out).ext K2.out) HS.out).mono ?_)
      rintro e w3 ⟨rfl, hx⟩
      have K3 := Lib.hid (K2.out.trans' hx)
      clear hx
      go_wp2_with fail
      go_ret2
      exact ⟨by rw [evA_t HN.out, HN.out]; rfl, K3.out⟩
    · have E1 := Lib.hid (dec_false hs)
      have HN := Lib.hid (dec_false (p := EvB S l) (fun h => hs h.2))
      have HP := Lib.hid hp
      clear hp hs
      go_enter Tryd.func18, Tryd.ntmps18
      go_wp2_with fail
      (with_reducible refine (rulesOf_any h0 hP).mono ?_)
      rintro e w1 ⟨rv, rfl, hx, hr⟩
      rw [E0.out]
      obtain ⟨b, B, rfl, -, -, hR⟩ := hr HP.out
      have K1 := Lib.hid (hx.alloc' (.cells #[.int .i64 S.own, .int .i64 S.id, .int .i64 S.inp, .int .i64 S.rnd, .slice a S.near.length c] 53))
      clear hx hr hR
      go_wp2_with fail
      (with_reducible refine (isSight_any ((HSV.out).ext K1.out) ho).mono ?_)
      rintro e w2 ⟨rfl, hx⟩
      rw [E1.out]
      have K2 := Lib.hid (K1.out.trans' hx)
      clear hx
      go_wp2_with fail
      go_ret2
      exact ⟨by rw [evA_f HN.out, HN.out]; rfl, K2.out⟩
  · have E0 := Lib.hid (dec_false hp)
    have HN := Lib.hid (dec_false (p := EvB S l) (fun h => hp h.1))
    clear hp
    go_enter Tryd.func18, Tryd.ntmps18
    go_wp2_with fail
    (with_reducible refine (rulesOf_any h0 hP).mono ?_)
    rintro e w1 ⟨rv, rfl, hx, -⟩
    rw [E0.out]
    have K1 := Lib.hid (hx.alloc' (.cells #[.int .i64 S.own, .int .i64 S.id, .int .i64 S.inp, .int .i64 S.rnd, .slice a S.near.length c] 53))
    clear hx
    go_wp2_with fail
    go_ret2
    exact ⟨by rw [evA_f HN.out, HN.out]; rfl, K1.out⟩
end Go.Proofs.YtbddjejpacaglaaDoor
