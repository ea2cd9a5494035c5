/- The model's needs and its check of a program; the kinds that occur. -/
import Derived.Test.YtbddjejpacaglaaGreatDoorVpm
namespace Go.Proofs.YtbddjejpacaglaaGreatDoor
open Go.RowKit

theorem ret_i64 {a b : Int} (h : a = b) : Ending.returned (.int .i64 a) = .returned (.int .i64 b) := by rw [h]
theorem vaNeeds_any (k : Int) (w : World) : Calls Tryz.prog 71 #[.int .i64 k] w fun e w' => e = .returned (.int .i64 (nd k)) ∧ w = w' := by
  by_cases h1 : k = 19
  · have b1 : (k == 19) = true := beq_iff_eq.2 h1
    have E := Lib.hid (show (3 : Int) = nd k by simp [nd, h1])
    clear h1
    go_enter Tryz.func71, Tryz.ntmps71
    go_wp2
    go_ret
    exact ⟨ret_i64 E.out, rfl⟩
  · have b1 : (k == 19) = false := beq_eq_false_iff_ne.2 h1
    by_cases h2 : 13 ≤ k
    · have E := Lib.hid (show (2 : Int) = nd k by simp [nd, h1, h2])
      clear h1
      go_enter Tryz.func71, Tryz.ntmps71
      go_wp2
      go_ret
      exact ⟨ret_i64 E.out, rfl⟩
    · by_cases h3 : 11 ≤ k
      · have E := Lib.hid (show (1 : Int) = nd k by simp [nd, h1, h2, h3])
        clear h1
        go_enter Tryz.func71, Tryz.ntmps71
        go_wp2
        go_ret
        exact ⟨ret_i64 E.out, rfl⟩
      · have E := Lib.hid (show (0 : Int) = nd k by simp [nd, h1, h2, h3])
        clear h1
        go_enter Tryz.func71, Tryz.ntmps71
        go_wp2
        go_ret
        exact ⟨ret_i64 E.out, rfl⟩

set_option maxHeartbeats 3200000 in
set_option maxRecDepth 100000 in
theorem vaGood_any {w : World} {v : Value} {l : List (Int × Int)} (h : EndSl w v l) :
    Calls Tryz.prog 53 #[v] w fun e w' => e = .returned (.bool (dec (ProgOK l))) ∧ Ext w w' := by
  obtain ⟨a, b, o, c, rfl, ha, h3, h4, hc⟩ := h
  unfold maxLen at h4
  have Hc := Lib.hid hc
  have Ha := Lib.hid ha
  clear hc ha
  by_cases hb : InB l.length 1 40
  · have Hb := Lib.hid (dec_true hb)
    have HB := Lib.hid hb
    have hlen : l.length ≤ 40 := by have := hb.2; omega
    clear hb
    go_enter Tryz.func53, Tryz.ntmps53
    go_wp2_with (go_at_call 33; (with_reducible refine (l1In_any _ _ _ _).mono ?_); rintro e _ ⟨rfl, rfl⟩; rw [Hb.out])
    go_loopg [3, 12] l.length (fun g d i wr => ∃ k : Nat, k ≤ l.length ∧ g = l.length - k ∧ d = .int .i64 (hg l k) ∧ i = .int .i64 (k : Int) ∧ Hid (Ext w wr ∧ OpsTo l k))
    case atStart => exact ⟨0, Nat.zero_le _, rfl, rfl, rfl, Ext.rfl' w, fun j hj => absurd hj (by omega)⟩
    case round =>
      obtain ⟨k, hk, rfl, rfl, rfl, Hr⟩ := hrel
      by_cases hlt : k < l.length
      · obtain ⟨q1, q2, -, -⟩ := Hc.out k hlt
        obtain rfl := Ha.out (by omega)
        have s1 := Hr.out.1.cell' q1
        have s2 := Hr.out.1.cell' q2
        clear q1 q2
        have hg1 := hg_hi l k
        have hg2 := hg_lo l k
        have hn3 := nd_le' (gn l k)
        have HX := Lib.hid (Hr.out.1.alloc' (.cells #[.int .i64 (gn l k), .int .i64 (gp l k)] 59))
        by_cases ha : OpAt l k
        · have HA := Lib.hid ha
          obtain ⟨⟨e1, e2, e3⟩, e4⟩ := ha
          have E1 := Lib.hid (dec_true e1)
          have E2 := Lib.hid (dec_true e2)
          have b4 : decide (hg l k < (nd (gn l k) : Int)) = false := by simp; omega
          have HS := Lib.hid (show hg l k + (1 - (nd (gn l k) : Int)) = hg l (k + 1) from rfl)
          by_cases e5 : gn l k = 1
          · have b3 : (gn l k != 1) = false := by simp [e5]
            clear e5
            clear e1 e2 e3
            generalize gn l k = x at *
            generalize gp l k = y at *
            go_wp2_with (first | (go_at_call 33; (with_reducible refine (l1In_any _ _ _ _).mono ?_); rintro e _ ⟨rfl, rfl⟩; first | rw [E1.out] | rw [E2.out]) | (go_at_call 71; (with_reducible refine (vaNeeds_any _ _).mono ?_); rintro e _ ⟨rfl, rfl⟩))
            go_roundg (l.length - (k + 1))
            case measure => omega
            case rel => exact ⟨k + 1, by omega, rfl, by rw [← HS.out], by go_num, HX.out, Hr.out.2.step HA.out⟩
          · have b3 : (gn l k != 1) = true := by simp [e5]
            have b5 : (gp l k != 0) = false := by have := e3.resolve_left e5; simp [this]
            clear e5
            clear e1 e2 e3
            generalize gn l k = x at *
            generalize gp l k = y at *
            go_wp2_with (first | (go_at_call 33; (with_reducible refine (l1In_any _ _ _ _).mono ?_); rintro e _ ⟨rfl, rfl⟩; first | rw [E1.out] | rw [E2.out]) | (go_at_call 71; (with_reducible refine (vaNeeds_any _ _).mono ?_); rintro e _ ⟨rfl, rfl⟩))
            go_roundg (l.length - (k + 1))
            case measure => omega
            case rel => exact ⟨k + 1, by omega, rfl, by rw [← HS.out], by go_num, HX.out, Hr.out.2.step HA.out⟩
        · have HN := Lib.hid (dec_false (not_prog_at hlt ha))
          by_cases e1 : InB (gn l k) 1 19
          · have E1 := Lib.hid (dec_true e1)
            by_cases e2 : InB (gp l k) 0 1000000
            · have E2 := Lib.hid (dec_true e2)
              by_cases e5 : gn l k = 1
              · have b3 : (gn l k != 1) = false := by simp [e5]
                have b4 : decide (hg l k < (nd (gn l k) : Int)) = true := by simp; exact Int.not_le.1 fun e4 => ha ⟨⟨e1, e2, .inl e5⟩, e4⟩
                clear e5 e1 e2 ha
                generalize gn l k = x at *
                generalize gp l k = y at *
                go_wp2_with (first | (go_at_call 33; (with_reducible refine (l1In_any _ _ _ _).mono ?_); rintro e _ ⟨rfl, rfl⟩; first | rw [E1.out] | rw [E2.out]) | (go_at_call 71; (with_reducible refine (vaNeeds_any _ _).mono ?_); rintro e _ ⟨rfl, rfl⟩))
                go_ret
                exact ⟨ret_bool HN.out.symm, HX.out⟩
              · have b3 : (gn l k != 1) = true := by simp [e5]
                by_cases e6 : gp l k = 0
                · have b5 : (gp l k != 0) = false := by simp [e6]
                  have b4 : decide (hg l k < (nd (gn l k) : Int)) = true := by simp; exact Int.not_le.1 fun e4 => ha ⟨⟨e1, e2, .inr e6⟩, e4⟩
                  clear e5 e6 e1 e2 ha
                  generalize gn l k = x at *
                  generalize gp l k = y at *
                  go_wp2_with (first | (go_at_call 33; (with_reducible refine (l1In_any _ _ _ _).mono ?_); rintro e _ ⟨rfl, rfl⟩; first | rw [E1.out] | rw [E2.out]) | (go_at_call 71; (with_reducible refine (vaNeeds_any _ _).mono ?_); rintro e _ ⟨rfl, rfl⟩))
                  go_ret
                  exact ⟨ret_bool HN.out.symm, HX.out⟩
                · have b5 : (gp l k != 0) = true := by simp [e6]
                  clear e5 e6 e1 e2 ha
                  generalize gn l k = x at *
                  generalize gp l k = y at *
                  go_wp2_with (first | (go_at_call 33; (with_reducible refine (l1In_any _ _ _ _).mono ?_); rintro e _ ⟨rfl, rfl⟩; first | rw [E1.out] | rw [E2.out]) | (go_at_call 71; (with_reducible refine (vaNeeds_any _ _).mono ?_); rintro e _ ⟨rfl, rfl⟩))
                  go_ret
                  exact ⟨ret_bool HN.out.symm, HX.out⟩
            · have E2 := Lib.hid (dec_false e2)
              clear e1 e2 ha
              generalize gn l k = x at *
              generalize gp l k = y at *
              go_wp2_with (first | (go_at_call 33; (with_reducible refine (l1In_any _ _ _ _).mono ?_); rintro e _ ⟨rfl, rfl⟩; first | rw [E1.out] | rw [E2.out]) | (go_at_call 71; (with_reducible refine (vaNeeds_any _ _).mono ?_); rintro e _ ⟨rfl, rfl⟩))
              go_ret
              exact ⟨ret_bool HN.out.symm, HX.out⟩
          · have E1 := Lib.hid (dec_false e1)
            clear e1 ha
            generalize gn l k = x at *
            generalize gp l k = y at *
            go_wp2_with (first | (go_at_call 33; (with_reducible refine (l1In_any _ _ _ _).mono ?_); rintro e _ ⟨rfl, rfl⟩; rw [E1.out]) | (go_at_call 71; (with_reducible refine (vaNeeds_any _ _).mono ?_); rintro e _ ⟨rfl, rfl⟩))
            go_ret
            exact ⟨ret_bool HN.out.symm, HX.out⟩
      · obtain rfl : k = l.length := by omega
        by_cases e : hg l l.length = 1
        · have HN := Lib.hid (dec_true ((prog_end HB.out Hr.out.2).2 e))
          have b : (hg l l.length == 1) = true := beq_iff_eq.2 e
          clear e
          go_wp2
          go_ret
          exact ⟨ret_bool HN.out.symm, Hr.out.1⟩
        · have HN := Lib.hid (dec_false (fun p => e ((prog_end HB.out Hr.out.2).1 p)))
          have b : (hg l l.length == 1) = false := beq_eq_false_iff_ne.2 e
          clear e
          go_wp2
          go_ret
          exact ⟨ret_bool HN.out.symm, Hr.out.1⟩
  · have Hb := Lib.hid (dec_false hb)
    have HN := Lib.hid (dec_false (not_prog_len hb))
    clear hb
    go_enter Tryz.func53, Tryz.ntmps53
    go_wp2_with (go_at_call 33; (with_reducible refine (l1In_any _ _ _ _).mono ?_); rintro e _ ⟨rfl, rfl⟩; rw [Hb.out])
    go_ret
    exact ⟨ret_bool HN.out.symm, Ext.rfl' w⟩

/-- A kind occurs. -/
def Uses (l : List (Int × Int)) (k : Int) : Prop := ∃ j, j < l.length ∧ gn l j = k
end Go.Proofs.YtbddjejpacaglaaGreatDoor
