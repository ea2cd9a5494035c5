/- LabelingText: the model's. -/
import Derived.Test.YtecgajpjcaemmaaDoorSm
namespace Go.Proofs.YtecgajpjcaemmaaDoor
open Go.RowKit

def preT (l : List (List Int)) (k : Nat) : Bs := Go.Lib.join ((l.take k).map (ints 44)) [124]
def barT (l : List (List Int)) (k : Nat) : Bs := if k = 0 then [] else preT l k ++ [124]
theorem preT_zero (l : List (List Int)) : preT l 0 = [] := by unfold preT; rw [List.take_zero]; rfl
theorem preT_succ (l : List (List Int)) (k : Nat) (h : k < l.length) : preT l (k + 1) = barT l k ++ ints 44 (gr l k) := by
  have e : (l.take (k + 1)).map (ints 44) = (l.take k).map (ints 44) ++ [ints 44 (gr l k)] := by
    rw [List.take_add_one, List.map_append]
    simp [gr, List.getD, h]
  unfold preT
  rw [e]
  by_cases hk : k = 0
  · subst hk
    unfold barT
    rw [if_pos rfl, List.take_zero]
    exact Go.Lib.join_one _ _
  · rw [join_snoc _ _ _ (by intro e; have := congrArg List.length e; rw [List.length_map, List.length_take, List.length_nil] at this; omega)]
    unfold barT preT
    rw [if_neg hk]
theorem preT_len (l : List (List Int)) (h : LbOK l) (k : Nat) : (preT l k).length ≤ 1720 := rows_len l h k
theorem barT_len (l : List (List Int)) (h : LbOK l) (k : Nat) : (barT l k).length ≤ 1721 := by
  have := preT_len l h k
  unfold barT; split
  · simp
  · rw [List.length_append]; simp; omega
theorem ints_take_succ (r : List Int) (j : Nat) (h : j < r.length) : ints 44 (r.take (j + 1)) = (if j = 0 then [] else ints 44 (r.take j) ++ [44]) ++ num (gi r j) := by
  have e : r.take (j + 1) = r.take j ++ [gi r j] := by rw [List.take_add_one]; simp [gi, List.getD, h]
  rw [e]
  by_cases hj : j = 0
  · subst hj
    rw [if_pos rfl, List.take_zero]
    exact ints_one 44 _
  · rw [if_neg hj, ints_snoc _ _ _ (by intro e; have := congrArg List.length e; rw [List.length_take, List.length_nil] at this; omega)]
theorem ints_take_len (r : List Int) (h : LabRow r) (j : Nat) : (ints 44 (r.take j)).length ≤ 42 := by
  have := ints_len 44 (r.take j) (fun x hx => row_six h x (List.mem_of_mem_take hx))
  rw [List.length_take] at this
  have := h.1
  omega

set_option maxHeartbeats 800000 in
set_option maxRecDepth 100000 in
theorem txLabeling_any {w : World} {v : Value} {l : List (List Int)} (h : IntSS w v l) (hok : LbOK l) :
    Calls Tryd.prog 76 #[v] w fun e w' => e = .returned (.string (bs (labT l))) ∧ Ext w w' := by
  obtain ⟨a, b, o, c, rfl, ha, hl, hm, hc⟩ := h
  unfold maxLen at hm
  have Hc := Lib.hid hc
  have Ha := Lib.hid ha
  have Hok := Lib.hid hok
  have h40 := hok.1
  clear hc ha hok
  by_cases h0 : l.length = 0
  · have hl0 : l = [] := List.eq_nil_of_length_eq_zero h0
    have Han2 := Lib.hid (show labT l = [45] by rw [hl0, labT_nil])
    have e0 : ((l.length : Int) == 0) = true := by rw [h0]; rfl
    clear hl0 h0
    go_enter Tryd.func76, Tryd.ntmps76
    go_wp2
    go_ret
    exact ⟨by rw [Han2.out]; rfl, Ext.rfl' _⟩
  · have e0 : ((l.length : Int) == 0) = false := beq_eq_false_iff_ne.2 (by omega)
    have Hl := Lib.hid (show labT l = preT l l.length by rw [labT_some (l := l) (by omega)]; unfold preT; rw [List.take_length])
    go_enter Tryd.func76, Tryd.ntmps76
    go_wp2
    go_loopg [3, 13] l.length (fun g t i wr => ∃ (k : Nat) (P : Bs), k ≤ l.length ∧ g = l.length - k ∧ t = .string (bs P) ∧ i = .int .i64 k ∧ P.length ≤ 1720 ∧ Hid (Ext w wr ∧ P = preT l k))
    case atStart => exact ⟨0, [], Nat.zero_le _, rfl, rfl, rfl, by simp, Ext.rfl' w, by rw [preT_zero]⟩
    case round =>
      obtain ⟨k, P, hk, rfl, rfl, rfl, hPl, Hr⟩ := hrel
      by_cases hlt : k < l.length
      · obtain ⟨x, hc, hrow⟩ := Hc.out k hlt
        obtain ⟨a1, b1, o1, c1, rfl, ha1, hl1, hm1, hc1⟩ := hrow
        unfold maxLen at hm1
        have Hc1 := Lib.hid hc1
        have Ha1 := Lib.hid ha1
        have Hrow := Lib.hid (Hok.out.2 k hlt)
        have h6 := (Hok.out.2 k hlt).1
        obtain rfl := Ha.out (by omega)
        have hc' := Hr.out.1.cell' hc
        have q1 : (9223372036854775807 ≤ P.length) = False := eq_false (by omega)
        have q2 : (9223372036854775807 < P.length + 1) = False := eq_false (by omega)
        have hbl := barT_len l Hok.out k
        have hnext := Lib.hid (preT_succ l k hlt)
        clear hc hc1 ha1
        by_cases hk0 : k = 0
        · have z1 : ¬ ((0 : Int) < (k : Int)) := by omega
          obtain ⟨B, hB⟩ : ∃ B, B = P := ⟨_, rfl⟩
          have Hbar := Lib.hid (show B = barT l k by rw [hB, Hr.out.2, hk0, preT_zero]; rfl)
          have hBl : B.length ≤ 1721 := by rw [hB]; omega
          subst hB
          clear hk0
          go_wp2
          go_loopg [3, 24] (gr l k).length (fun g t i wx => ∃ (j : Nat) (T : Bs), j ≤ (gr l k).length ∧ g = (gr l k).length - j ∧ t = .string (bs T) ∧ i = .int .i64 j ∧ T.length ≤ 1763 ∧ Hid (Ext w wx ∧ T = barT l k ++ ints 44 ((gr l k).take j)))
          case atStart => exact ⟨0, B, Nat.zero_le _, rfl, rfl, rfl, by omega, Hr.out.1, by rw [List.take_zero, ints_nil, List.append_nil, Hbar.out]⟩
          case round =>
            obtain ⟨j, T, hj, rfl, rfl, rfl, hTl, Hs⟩ := hrel
            by_cases hjt : j < (gr l k).length
            · obtain ⟨x, hq, rfl, _⟩ := Hc1.out j hjt
              obtain rfl := Ha1.out (by omega)
              obtain ⟨n, hn⟩ := Int.eq_ofNat_of_zero_le (Hrow.out.2 j hjt).1
              have hn9 : n ≤ 99 := by have := (Hrow.out.2 j hjt).2; omega
              rw [hn] at hq
              have hq' := Hs.out.1.cell' hq
              have Hn := Lib.hid hn
              have HN := fun w' : World => l1Num_any n (by omega) w'
              have hD6 := dec_len6 n (by omega)
              obtain ⟨D, hD⟩ : ∃ D, D = Go.Lib.decDigits n := ⟨_, rfl⟩
              rw [← hD] at HN hD6
              have HNn := Lib.hid HN
              have HD := Lib.hid hD
              have p1 : (9223372036854775807 ≤ T.length) = False := eq_false (by omega)
              have p2 : (9223372036854775807 < T.length + 1) = False := eq_false (by omega)
              have p3 : (9223372036854775807 < T.length + D.length) = False := eq_false (by omega)
              have p4 : (9223372036854775807 < T.length + 1 + D.length) = False := eq_false (by omega)
              have hTnext := Lib.hid (ints_take_succ (gr l k) j hjt)
              have hlast := Lib.hid (ints_take_len (gr l k) Hrow.out (j + 1))
              clear hq HN hD hn
              by_cases hj0 : j = 0
              · have z0 : ¬ ((0 : Int) < (j : Int)) := by omega
                have HT2 := Lib.hid (show T ++ D = barT l k ++ ints 44 ((gr l k).take (j + 1)) by rw [hTnext.out, if_pos hj0, Hs.out.2, hj0, List.take_zero, ints_nil, List.append_nil, HD.out]; unfold num; rw [← hj0, Hn.out]; rfl)
                clear hj0
                go_wp2_with (go_at_call 80; (with_reducible refine (HNn.out _).mono ?_); rintro e wy ⟨rfl, hy⟩; have HY := Lib.hid (Hs.out.1.trans' hy); clear hy)
                go_roundg ((gr l k).length - (j + 1))
                case measure => omega
                case rel => exact ⟨j + 1, T ++ D, by omega, rfl, by rw [bs_app], by go_num, by rw [HT2.out, List.length_append]; have := hlast.out; omega, HY.out, HT2.out⟩
              · have z0 : (0 : Int) < (j : Int) := by omega
                have HT2 := Lib.hid (show T ++ [44] ++ D = barT l k ++ ints 44 ((gr l k).take (j + 1)) by rw [hTnext.out, if_neg hj0, Hs.out.2, HD.out]; unfold num; rw [Hn.out]; simp)
                clear hj0
                go_wp2_with (go_at_call 80; (with_reducible refine (HNn.out _).mono ?_); rintro e wy ⟨rfl, hy⟩; have HY := Lib.hid (Hs.out.1.trans' hy); clear hy)
                go_roundg ((gr l k).length - (j + 1))
                case measure => omega
                case rel => exact ⟨j + 1, T ++ [44] ++ D, by omega, rfl, by rw [← bs_app, ← bs_app], by go_num, by rw [HT2.out, List.length_append]; have := hlast.out; omega, HY.out, HT2.out⟩
            · obtain rfl : j = (gr l k).length := by omega
              have hjz : ¬ (((gr l k).length : Int) < ((gr l k).length : Int)) := by omega
              have HTe := Lib.hid (show T = preT l (k + 1) by rw [Hs.out.2, List.take_length, ← hnext.out])
              go_wp2
              go_roundg (l.length - (k + 1))
              case measure => omega
              case rel => exact ⟨k + 1, T, by omega, rfl, rfl, by go_num, by have := preT_len l Hok.out (k + 1); rw [← HTe.out] at this; exact this, Hs.out.1, HTe.out⟩
        · have z1 : (0 : Int) < (k : Int) := by omega
          obtain ⟨B, hB⟩ : ∃ B, B = P ++ [124] := ⟨_, rfl⟩
          have Hbar := Lib.hid (show B = barT l k by rw [hB, Hr.out.2]; unfold barT; rw [if_neg hk0])
          have hBl : B.length ≤ 1721 := by rw [hB, List.length_append]; simp; omega
          have Hbs := Lib.hid (show bs B = bs P ++ bs [124] by rw [hB, bs_app])
          clear hk0 hB
          go_wp2
          go_loopg [3, 24] (gr l k).length (fun g t i wx => ∃ (j : Nat) (T : Bs), j ≤ (gr l k).length ∧ g = (gr l k).length - j ∧ t = .string (bs T) ∧ i = .int .i64 j ∧ T.length ≤ 1763 ∧ Hid (Ext w wx ∧ T = barT l k ++ ints 44 ((gr l k).take j)))
          case atStart => exact ⟨0, B, Nat.zero_le _, rfl, by rw [Hbs.out], rfl, by omega, Hr.out.1, by rw [List.take_zero, ints_nil, List.append_nil, Hbar.out]⟩
          case round =>
            obtain ⟨j, T, hj, rfl, rfl, rfl, hTl, Hs⟩ := hrel
            by_cases hjt : j < (gr l k).length
            · obtain ⟨x, hq, rfl, _⟩ := Hc1.out j hjt
              obtain rfl := Ha1.out (by omega)
              obtain ⟨n, hn⟩ := Int.eq_ofNat_of_zero_le (Hrow.out.2 j hjt).1
              have hn9 : n ≤ 99 := by have := (Hrow.out.2 j hjt).2; omega
              rw [hn] at hq
              have hq' := Hs.out.1.cell' hq
              have Hn := Lib.hid hn
              have HN := fun w' : World => l1Num_any n (by omega) w'
              have hD6 := dec_len6 n (by omega)
              obtain ⟨D, hD⟩ : ∃ D, D = Go.Lib.decDigits n := ⟨_, rfl⟩
              rw [← hD] at HN hD6
              have HNn := Lib.hid HN
              have HD := Lib.hid hD
              have p1 : (9223372036854775807 ≤ T.length) = False := eq_false (by omega)
              have p2 : (9223372036854775807 < T.length + 1) = False := eq_false (by omega)
              have p3 : (9223372036854775807 < T.length + D.length) = False := eq_false (by omega)
              have p4 : (9223372036854775807 < T.length + 1 + D.length) = False := eq_false (by omega)
              have hTnext := Lib.hid (ints_take_succ (gr l k) j hjt)
              have hlast := Lib.hid (ints_take_len (gr l k) Hrow.out (j + 1))
              clear hq HN hD hn
              by_cases hj0 : j = 0
              · have z0 : ¬ ((0 : Int) < (j : Int)) := by omega
                have HT2 := Lib.hid (show T ++ D = barT l k ++ ints 44 ((gr l k).take (j + 1)) by rw [hTnext.out, if_pos hj0, Hs.out.2, hj0, List.take_zero, ints_nil, List.append_nil, HD.out]; unfold num; rw [← hj0, Hn.out]; rfl)
                clear hj0
                go_wp2_with (go_at_call 80; (with_reducible refine (HNn.out _).mono ?_); rintro e wy ⟨rfl, hy⟩; have HY := Lib.hid (Hs.out.1.trans' hy); clear hy)
                go_roundg ((gr l k).length - (j + 1))
                case measure => omega
                case rel => exact ⟨j + 1, T ++ D, by omega, rfl, by rw [bs_app], by go_num, by rw [HT2.out, List.length_append]; have := hlast.out; omega, HY.out, HT2.out⟩
              · have z0 : (0 : Int) < (j : Int) := by omega
                have HT2 := Lib.hid (show T ++ [44] ++ D = barT l k ++ ints 44 ((gr l k).take (j + 1)) by rw [hTnext.out, if_neg hj0, Hs.out.2, HD.out]; unfold num; rw [Hn.out]; simp)
                clear hj0
                go_wp2_with (go_at_call 80; (with_reducible refine (HNn.out _).mono ?_); rintro e wy ⟨rfl, hy⟩; have HY := Lib.hid (Hs.out.1.trans' hy); clear hy)
                go_roundg ((gr l k).length - (j + 1))
                case measure => omega
                case rel => exact ⟨j + 1, T ++ [44] ++ D, by omega, rfl, by rw [← bs_app, ← bs_app], by go_num, by rw [HT2.out, List.length_append]; have := hlast.out; omega, HY.out, HT2.out⟩
            · obtain rfl : j = (gr l k).length := by omega
              have hjz : ¬ (((gr l k).length : Int) < ((gr l k).length : Int)) := by omega
              have HTe := Lib.hid (show T = preT l (k + 1) by rw [Hs.out.2, List.take_length, ← hnext.out])
              go_wp2
              go_roundg (l.length - (k + 1))
              case measure => omega
              case rel => exact ⟨k + 1, T, by omega, rfl, rfl, by go_num, by have := preT_len l Hok.out (k + 1); rw [← HTe.out] at this; exact this, Hs.out.1, HTe.out⟩
      · obtain rfl : k = l.length := by omega
        go_wp2
        go_ret
        exact ⟨by rw [Hl.out, ← Hr.out.2]; rfl, Hr.out.1⟩
end Go.Proofs.YtecgajpjcaemmaaDoor
