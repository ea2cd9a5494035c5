/- SumsTo: the model and the program answer the same. -/
import Derived.Test.YtcjiejbndmnjaaaI16
namespace Go.Proofs.Ytcjiejbndmnjaaa
open Go.RowKit

theorem inc_ge1 {l : List Int} {lo hi : Int} (h : Inc l lo hi) : ∀ i, i < l.length → lo + i ≤ gi l i
  | 0, h0 => by have := (h 0 h0).1.1; omega
  | i + 1, h0 => by
    have h1 := inc_ge1 h i (by omega)
    have h2 := (h (i + 1) h0).2 (by omega)
    rw [Nat.add_sub_cancel] at h2
    omega
theorem len_short {l : List Int} (h : LenOK l) : l.length ≤ 40 := by
  have h0 := h.1
  have h1 := inc_ge1 h.2 (l.length - 1) (by omega)
  have h2 := (h.2 (l.length - 1) (by omega)).1.2
  omega
def StOK (l : List Int) (n : Int) : Prop := LenOK l ∧ InB n 0 2000 ∧ Sum (ln l) n.toNat
noncomputable def stAns (l : List Int) (n : Int) : List Int := ifL (StOK l n) (parts (ln l) n.toNat)
theorem stAns_len (l : List Int) (n : Int) : (stAns l n).length ≤ 1048576 := by
  by_cases h : StOK l n
  · refine ifL_len ?_
    rw [parts_length, ln_length]
    have := len_short h.1
    omega
  · rw [stAns, ifL_f h]; exact Nat.zero_le _
theorem stAns_f {l : List Int} {n : Int} (h : ¬StOK l n) : stAns l n = [] := ifL_f h
theorem stAns_t {l : List Int} {n : Int} (h : StOK l n) : stAns l n = parts (ln l) n.toNat := ifL_t h

set_option maxHeartbeats 3200000 in
set_option maxRecDepth 100000 in
theorem specSumsTo_any {w : World} {v : Value} {l : List Int} (n : Int) (h : IntSl w v l) (hlong : l.length ≤ 1048576) : Calls Try.prog 42 #[v, .int .i64 n] w (AnsL w (stAns l n) (StOK l n)) := by
  have HN := Lib.hid h
  by_cases h0 : LenOK l
  case neg =>
    have D := Lib.hid (dec_false h0)
    have F := Lib.hid (dec_false (p := StOK l n) fun k => h0 k.1)
    have A := Lib.hid (stAns_f (l := l) (n := n) fun k => h0 k.1)
    clear h0
    go_enter Try.func42, Try.ntmps42
    go_wp2_with (first | (go_at_call 64; (with_reducible refine (nuLengths_any HN.out).mono ?_); rintro e w' ⟨rfl, rfl⟩; rw [D.out]))
    go_ret2
    exact AnsL.no F.out A.out (Ext.rfl' w)
  case pos =>
    have D := Lib.hid (dec_true h0)
    by_cases h1 : InB n 0 2000
    case neg =>
      have E := Lib.hid (dec_false h1)
      have F := Lib.hid (dec_false (p := StOK l n) fun k => h1 k.2.1)
      have A := Lib.hid (stAns_f (l := l) (n := n) fun k => h1 k.2.1)
      clear h0 h1
      go_enter Try.func42, Try.ntmps42
      go_wp2_with (first | (go_at_call 64; (with_reducible refine (nuLengths_any HN.out).mono ?_); rintro e w' ⟨rfl, rfl⟩; rw [D.out]) | (go_at_call 50; (with_reducible refine (l1In_any _ _ _ _).mono ?_); rintro e w' ⟨rfl, rfl⟩; rw [E.out]))
      go_ret2
      exact AnsL.no F.out A.out (Ext.rfl' w)
    case pos =>
      have E := Lib.hid (dec_true h1)
      have hlen := len_short h0
      have HL := Lib.hid h0.len
      obtain ⟨n, rfl, hn⟩ : ∃ k : Nat, n = k ∧ k ≤ 2000 := ⟨n.toNat, by have := h1.1; omega, by have := h1.2; omega⟩
      by_cases hs : Sum (ln l) n
      · have S := Lib.hid (dec_true hs)
        have HS := Lib.hid hs
        have F := Lib.hid (dec_true (p := StOK l n) ⟨h0, h1, hs⟩)
        have A := Lib.hid (show stAns l n = parts (ln l) n from stAns_t ⟨h0, h1, hs⟩)
        clear h0 h1 hs
        go_enter Try.func42, Try.ntmps42
        go_wp2_with (first | (go_at_call 64; (with_reducible refine (nuLengths_any HN.out).mono ?_); rintro e w' ⟨rfl, rfl⟩; rw [D.out]) | (go_at_call 50; (with_reducible refine (l1In_any _ _ _ _).mono ?_); rintro e w' ⟨rfl, rfl⟩; rw [E.out]) | (go_at_call 67; (with_reducible refine (nuSums_any _ HN.out HL.out hlong (by omega)).mono ?_); rintro e w1 ⟨rfl, hw, hr⟩; have K1 := Lib.hid hw; have c1 := hr.cell (i := n) (by omega); rw [show sumAll l n = .bool true from by unfold sumAll; rw [S.out]] at c1; clear hw hr) | (go_at_call 68; (with_reducible refine (nuParts_any _ (HN.out.ext K1.out) HL.out (by omega) hn HS.out).mono ?_); rintro e w2 ⟨v', bs, rfl, hx, ho, hf⟩; have K2 := Lib.hid (K1.out.trans' hx); have HO := Lib.hid ho; have HF := Lib.hid (hf.of K1.out.size); clear hx ho hf))
        go_ret2
        exact AnsL.mk F.out K2.out (by rw [A.out]; exact HO.out) HF.out
      · have S := Lib.hid (dec_false hs)
        have F := Lib.hid (dec_false (p := StOK l n) fun k => hs k.2.2)
        have A := Lib.hid (stAns_f (l := l) (n := n) fun k => hs k.2.2)
        clear h0 h1 hs
        go_enter Try.func42, Try.ntmps42
        go_wp2_with (first | (go_at_call 64; (with_reducible refine (nuLengths_any HN.out).mono ?_); rintro e w' ⟨rfl, rfl⟩; rw [D.out]) | (go_at_call 50; (with_reducible refine (l1In_any _ _ _ _).mono ?_); rintro e w' ⟨rfl, rfl⟩; rw [E.out]) | (go_at_call 67; (with_reducible refine (nuSums_any _ HN.out HL.out hlong (by omega)).mono ?_); rintro e w1 ⟨rfl, hw, hr⟩; have K1 := Lib.hid hw; have c1 := hr.cell (i := n) (by omega); rw [show sumAll l n = .bool false from by unfold sumAll; rw [S.out]] at c1; clear hw hr))
        go_ret2
        exact AnsL.no F.out A.out K1.out

set_option maxHeartbeats 3200000 in
set_option maxRecDepth 100000 in
theorem sumsTo_any {w : World} {v : Value} {l : List Int} (n : Int) (h : IntSl w v l) (hlong : l.length ≤ 1048576) : Calls Try.prog 43 #[v, .int .i64 n] w (AnsL w (stAns l n) (StOK l n)) := by
  have HN := Lib.hid h
  by_cases h0 : LenOK l
  case neg =>
    have D := Lib.hid (dec_false h0)
    have F := Lib.hid (dec_false (p := StOK l n) fun k => h0 k.1)
    have A := Lib.hid (stAns_f (l := l) (n := n) fun k => h0 k.1)
    clear h0
    go_enter Try.func43, Try.ntmps43
    go_wp2_with (first | (go_at_call 66; (with_reducible refine (areLengths_any HN.out).mono ?_); rintro e w' ⟨rfl, rfl⟩; rw [D.out]))
    go_ret2
    exact AnsL.no F.out A.out (Ext.rfl' w)
  case pos =>
    have D := Lib.hid (dec_true h0)
    by_cases h1 : InB n 0 2000
    case neg =>
      have E := Lib.hid (dec_false h1)
      have F := Lib.hid (dec_false (p := StOK l n) fun k => h1 k.2.1)
      have A := Lib.hid (stAns_f (l := l) (n := n) fun k => h1 k.2.1)
      clear h0 h1
      go_enter Try.func43, Try.ntmps43
      go_wp2_with (first | (go_at_call 66; (with_reducible refine (areLengths_any HN.out).mono ?_); rintro e w' ⟨rfl, rfl⟩; rw [D.out]) | (go_at_call 52; (with_reducible refine (isBetween_any _ _ _ _).mono ?_); rintro e w' ⟨rfl, rfl⟩; rw [E.out]))
      go_ret2
      exact AnsL.no F.out A.out (Ext.rfl' w)
    case pos =>
      have E := Lib.hid (dec_true h1)
      have hlen := len_short h0
      have HL := Lib.hid h0.len
      obtain ⟨n, rfl, hn⟩ : ∃ k : Nat, n = k ∧ k ≤ 2000 := ⟨n.toNat, by have := h1.1; omega, by have := h1.2; omega⟩
      by_cases hs : Sum (ln l) n
      · have S := Lib.hid (dec_true hs)
        have HS := Lib.hid hs
        have F := Lib.hid (dec_true (p := StOK l n) ⟨h0, h1, hs⟩)
        have A := Lib.hid (show stAns l n = parts (ln l) n from stAns_t ⟨h0, h1, hs⟩)
        clear h0 h1 hs
        obtain ⟨a, b, o, c, rfl, ha, hl', hm, hc⟩ := h
        unfold maxLen at hm
        have Hc := Lib.hid hc
        have Ha := Lib.hid ha
        clear hc ha
        have hmk := run_make_row' (P := Try.prog) 27 3 (.int .i64 0) 8 Try.underlying27 Try.info3 rfl .i64 .i64 l.length (by omega) (by omega)
        go_enter Try.func43, Try.ntmps43
        go_wp2_with (first | (go_at_call 66; (with_reducible refine (areLengths_any HN.out).mono ?_); rintro e w' ⟨rfl, rfl⟩; rw [D.out]) | (go_at_call 52; (with_reducible refine (isBetween_any _ _ _ _).mono ?_); rintro e w' ⟨rfl, rfl⟩; rw [E.out]) | (go_at_call 69; (with_reducible refine (sumsFrom_any n HN.out HL.out (by omega) (by omega)).mono ?_); rintro e w1 ⟨rfl, ht⟩; have HT := Lib.hid ht; have K1 := Lib.hid ht.1; obtain ⟨h1, R, T, h2, h3⟩ := id ht; obtain ⟨h4, h5⟩ := h3 0 (by omega) (by omega); have c0 := h2.cell (i := 0) (by omega); have cq := (h4.cell (i := n) (by omega)).1; obtain ⟨c2, m2, gf2, hR0, hb1, hb2, _, _, _⟩ := id h4; unfold maxLen at hb2; rw [hR0] at c0; rw [show sumAll (l.drop 0) n = .bool true from by unfold sumAll; rw [List.drop_zero, S.out]] at cq; clear ht h1 h2 h3 h4 h5 hR0))
        clear hmk c0 cq
        go_loopg [1, 34] l.length (fun g m i wr => ∃ k q : Nat, k ≤ l.length ∧ q ≤ 2000 ∧ g = l.length - k ∧ i = .int .i64 k ∧ m = .int .i64 q ∧ Hid (Ext w1 wr ∧ ∃ pre, PSt l n k q pre ∧ wr.rowIs w1.heap.size 3 l.length (fun i => .int .i64 (gi pre i))))
        case atStart => exact ⟨0, n, Nat.zero_le _, hn, rfl, rfl, rfl, (Ext.rfl' w1).alloc' _, [], ⟨rfl, rfl, HS.out, Nat.le_refl _⟩, (World.rowIs_made w1 _ _ _).congr fun i _ => by simp [gi]⟩
        case round =>
          obtain ⟨k, q, hk, hq, rfl, rfl, rfl, Hr⟩ := hrel
          by_cases hlt : k < l.length
          · obtain ⟨y, hc, rfl, _⟩ := Hc.out k hlt
            obtain rfl := Ha.out (by omega)
            obtain ⟨x, hx, hx0, hx1⟩ := lenP_get HL.out hlt
            rw [hx] at hc
            have HX := Lib.hid hx
            obtain ⟨hext, pre, hp, hrow⟩ := Hr.out
            have hc' := hext.cell' (K1.out.cell' hc)
            obtain ⟨hp1, hp2, hp3⟩ := pst_step hlt HX.out hx0 hp
            have hqn := hp.2.2.2
            have HP := Lib.hid hp
            have HE := Lib.hid hext
            have HR := Lib.hid hrow
            have HP1 := Lib.hid hp1
            have HP3 := Lib.hid hp3
            obtain ⟨h1, R', T', h2, h3⟩ := HT.out
            obtain ⟨h4, h5⟩ := h3 (k + 1) (by omega) (by omega)
            have HB := Lib.hid (h4.ext hext)
            have q0 := hext.cell' (h2.cell (i := k + 1) (by omega))
            obtain ⟨c3, m3, gf3, hR1, hb3, hb4, _, _, _⟩ := id h4
            unfold maxLen at hb4
            rw [hR1] at q0
            have hdx := Nat.div_le_self q x
            have hd1 : (0 : Int) ≤ (q : Int) / (x : Int) := Int.ediv_nonneg (by omega) (by omega)
            have hd2 : (q : Int) / (x : Int) ≤ 2000 := by show ((q / x : Nat) : Int) ≤ _; omega
            obtain ⟨wo, rfl⟩ : ∃ wo : World, wo = wr := ⟨_, rfl⟩
            clear hc hx hext hp hrow hp1 hp3 h1 h2 h3 h4 h5 hR1
            go_wp2
            clear hd1 hd2 hc'
            go_loop [10] (fun tt => ∃ t : Nat, t ≤ 2000 ∧ tt = .int .i64 (t : Int) ∧ Hid (Tried l k x q t)) (fun tt => (intOf tt).toNat)
            case atStart => exact ⟨q / x, by omega, rfl, tried_start l k x q⟩
            case round =>
              obtain ⟨t, ht, rfl, Ht⟩ := hrel
              have htn := Ht.out.1
              have cc := (HB.out.cell (i := q - t * x) (by omega)).1
              rw [show sumAll (l.drop (k + 1)) (q - t * x) = .bool (dec (Fits (ln (l.drop (k + 1))) q x t)) from rfl] at cc
              have e0 : ((t * x : Nat) : Int) = (t : Int) * (x : Int) := Int.natCast_mul t x
              have m0 : 0 ≤ (t : Int) * (x : Int) := by omega
              have m1 : (t : Int) * (x : Int) ≤ 2000 := by omega
              have em : (q : Int) - (t : Int) * (x : Int) = ((q - t * x : Nat) : Int) := by omega
              by_cases hf : Fits (ln (l.drop (k + 1))) q x t
              · rw [dec_true hf] at cc
                have HC := Lib.hid (tried_yes Ht.out hf)
                have f1 := HR.out.cell hlt
                have f2 := HR.out.frozen k
                have HS2 := Lib.hid (And.intro (HE.out.store (p := ⟨w1.heap.size, k, none⟩) (Nat.le_refl _) (.int .i64 (t : Int))) (prow_set (c := (t : Int)) HP.out.2.1 HR.out))
                clear hf e0
                go_wp2
                go_roundg (l.length - (k + 1))
                case measure => omega
                case rel => exact ⟨k + 1, q - t * x, by omega, by omega, rfl, by go_num, rfl, HS2.out.1, pre ++ [(t : Int)], by rw [HC.out]; exact HP1.out, HS2.out.2⟩
              · rw [dec_false hf] at cc
                obtain ⟨t0, t1⟩ := tried_no Ht.out HP3.out hf
                have HT2 := Lib.hid t1
                clear hf t1 e0
                go_wp2
                go_round
                case rel => exact ⟨t - 1, by omega, by go_num, HT2.out⟩
                case measure => simp [intOf]; omega
          · obtain rfl : k = l.length := by omega
            obtain ⟨hext, pre, hp, hrow⟩ := Hr.out
            have HE := Lib.hid (K1.out.trans' hext)
            have HO := Lib.hid (parts_own (by omega) hn hp hrow)
            have hB := K1.out.size
            clear hext hp hrow
            go_wp2
            go_ret2
            exact AnsL.mk F.out HE.out (by rw [A.out]; exact HO.out) ⟨by simp, by simpa using hB⟩
      · have S := Lib.hid (dec_false hs)
        have F := Lib.hid (dec_false (p := StOK l n) fun k => hs k.2.2)
        have A := Lib.hid (stAns_f (l := l) (n := n) fun k => hs k.2.2)
        clear h0 h1 hs
        obtain ⟨a, b, o, c, rfl, ha, hl', hm, hc⟩ := h
        unfold maxLen at hm
        have Hc := Lib.hid hc
        have Ha := Lib.hid ha
        clear hc ha
        have hmk := run_make_row' (P := Try.prog) 27 3 (.int .i64 0) 8 Try.underlying27 Try.info3 rfl .i64 .i64 l.length (by omega) (by omega)
        go_enter Try.func43, Try.ntmps43
        go_wp2_with (first | (go_at_call 66; (with_reducible refine (areLengths_any HN.out).mono ?_); rintro e w' ⟨rfl, rfl⟩; rw [D.out]) | (go_at_call 52; (with_reducible refine (isBetween_any _ _ _ _).mono ?_); rintro e w' ⟨rfl, rfl⟩; rw [E.out]) | (go_at_call 69; (with_reducible refine (sumsFrom_any n HN.out HL.out (by omega) (by omega)).mono ?_); rintro e w1 ⟨rfl, ht⟩; have HT := Lib.hid ht; have K1 := Lib.hid ht.1; obtain ⟨h1, R, T, h2, h3⟩ := id ht; obtain ⟨h4, h5⟩ := h3 0 (by omega) (by omega); have c0 := h2.cell (i := 0) (by omega); have cq := (h4.cell (i := n) (by omega)).1; obtain ⟨c2, m2, gf2, hR0, hb1, hb2, _, _, _⟩ := id h4; unfold maxLen at hb2; rw [hR0] at c0; rw [show sumAll (l.drop 0) n = .bool false from by unfold sumAll; rw [List.drop_zero, S.out]] at cq; clear ht h1 h2 h3 h4 h5 hR0))
        go_ret2
        exact AnsL.no F.out A.out K1.out
end Go.Proofs.Ytcjiejbndmnjaaa
