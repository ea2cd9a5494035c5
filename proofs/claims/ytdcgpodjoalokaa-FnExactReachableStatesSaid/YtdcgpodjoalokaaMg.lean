/- The program's IsMachine. -/
import Derived.Test.YtdcgpodjoalokaaMc
namespace Go.Proofs.Ytdcgpodjoalokaa
open Go.RowKit

/-- A row of a list of lists. -/
theorem ssRow {w : World} {a : Option Addr} {n c : Nat} {l : List (List Int)} (h : IntSS w (.slice a n c) l) {k : Nat} (hk : k < l.length) : ∃ b o ra rc, a = some ⟨b, o, none⟩ ∧ w.cell? ⟨b, o + k, none⟩ = some (.slice ra (gr l k).length rc) ∧ IntSl w (.slice ra (gr l k).length rc) (gr l k) := by
  obtain ⟨a', b, o, c', e, ha, -, -, hc⟩ := h
  simp only [Value.slice.injEq] at e
  obtain ⟨rfl, -, rfl⟩ := e
  obtain ⟨x, h1, h2⟩ := hc k hk
  have h3 := h2
  obtain ⟨ra, rb, ro, rc, rfl, -⟩ := h2
  exact ⟨b, o, ra, rc, ha (by omega), h1, h3⟩
theorem ssLen {w : World} {a : Option Addr} {n c : Nat} {l : List (List Int)} (h : IntSS w (.slice a n c) l) : n = l.length ∧ c ≤ maxLen ∧ n ≤ c := by
  obtain ⟨a', b, o, c', e, ha, h1, h2, hc⟩ := h
  simp only [Value.slice.injEq] at e
  obtain ⟨-, rfl, rfl⟩ := e
  exact ⟨rfl, h2, h1⟩
theorem isLen {w : World} {a : Option Addr} {n c : Nat} {l : List Int} (h : IntSl w (.slice a n c) l) : n = l.length ∧ c ≤ maxLen ∧ n ≤ c := by
  obtain ⟨a', b, o, c', e, ha, h1, h2, hc⟩ := h
  simp only [Value.slice.injEq] at e
  obtain ⟨-, rfl, rfl⟩ := e
  exact ⟨rfl, h2, h1⟩
theorem clLen {w : World} {a : Option Addr} {n c : Nat} {l : List Cl} (h : ClSl w (.slice a n c) l) : n = l.length ∧ c ≤ maxLen ∧ n ≤ c := by
  obtain ⟨a', b, o, c', e, ha, h1, h2, hc⟩ := h
  simp only [Value.slice.injEq] at e
  obtain ⟨-, rfl, rfl⟩ := e
  exact ⟨rfl, h2, h1⟩
theorem clRow {w : World} {a : Option Addr} {n c : Nat} {l : List Cl} (h : ClSl w (.slice a n c) l) {k : Nat} (hk : k < l.length) : ∃ b o, a = some ⟨b, o, none⟩ ∧ ClAt w b o k (gc l k) := by
  obtain ⟨a', b, o, c', e, ha, h1, h2, hc⟩ := h
  simp only [Value.slice.injEq] at e
  obtain ⟨rfl, -, rfl⟩ := e
  exact ⟨b, o, ha (by omega), hc k hk⟩

set_option maxHeartbeats 1600000 in
set_option maxRecDepth 100000 in
theorem areStarts_any {w : World} {v : Value} {M : Mach} (h : MachAt w v M) (hh : HeadOK M) : Calls Try.prog 74 #[v] w fun e w' => e = .returned (.bool (dec (StartOK M))) ∧ Ext w w' := by
  obtain ⟨a3, c3, a4, c4, a5, c5, a6, c6, rfl, h3, h4, h5, h6, h7⟩ := h
  obtain ⟨W1, hW1⟩ : ∃ W1, W1 = w.alloc (.cells #[.int .i64 M.deg, .int .i64 M.sts, .int .i64 M.msgs, .slice a3 M.start.length c3, .slice a4 M.send.length c4, .slice a5 M.cls.length c5, .slice a6 M.out.length c6] 31) := ⟨_, rfl⟩
  have EW := Lib.hid (show Ext w W1 by rw [hW1]; exact (boxed7_ext _ _ _ _ _ _ _ _ _))
  have RW := Lib.hid (show W1.rowIs w.heap.size 31 7 (sept (.int .i64 M.deg) (.int .i64 M.sts) (.int .i64 M.msgs) (.slice a3 M.start.length c3) (.slice a4 M.send.length c4) (.slice a5 M.cls.length c5) (.slice a6 M.out.length c6)) by rw [hW1]; exact (boxed7_row _ _ _ _ _ _ _ _ _))
  have H3 := Lib.hid (h3.ext EW.out)
  have H4 := Lib.hid (h4.ext EW.out)
  have H5 := Lib.hid (h5.ext EW.out)
  have H6 := Lib.hid (h6.ext EW.out)
  have H7 := Lib.hid h7
  obtain ⟨-, m3, n3⟩ := ssLen h3
  obtain ⟨-, m4, n4⟩ := ssLen h4
  obtain ⟨-, m5, n5⟩ := clLen h5
  obtain ⟨-, m6, n6⟩ := isLen h6
  unfold maxLen at m3 m4 m5 m6
  obtain ⟨p0, p1, p2, p3, p4, p5, p6⟩ := row7_facts RW.out
  clear h3 h4 h5 h6 h7
  obtain ⟨⟨g1, g2⟩, ⟨g3, g4⟩, ⟨g5, g6⟩⟩ := hh
  by_cases e0 : (M.start.length : Int) = M.deg + 1
  case neg =>
    have b0 : ((M.start.length : Int) != M.deg + 1) = true := bne_iff_ne.2 e0
    have D := Lib.hid (show ¬ StartOK M from fun k => e0 k.1)
    clear e0
    go_enter Try.func74, Try.ntmps74
    go_upto_region 1 with fail
    rw [← hW1]
    clear hW1
    go_wp2
    go_ret
    exact ⟨ret_f D.out, EW.out⟩
  have b0 : ((M.start.length : Int) != M.deg + 1) = false := bne_eq_false_iff_eq.2 e0
  have E0 := Lib.hid e0
  obtain ⟨b, o, ra, rc, rfl, q0, hrow0⟩ := ssRow H3.out (k := 0) (by omega)
  rw [Nat.add_zero] at q0
  obtain ⟨-, m0, n0⟩ := isLen hrow0
  unfold maxLen at m0
  have hpos : 0 < M.start.length := by omega
  clear e0 hrow0
  by_cases e1 : InB ((gr M.start 0).length : Int) 1 10
  case neg =>
    have D := Lib.hid (show ¬ StartOK M from fun k => e1 k.2.1)
    have B1 := Lib.hid (dec_false e1)
    clear e1
    go_enter Try.func74, Try.ntmps74
    go_upto_region 1 with fail
    rw [← hW1]
    clear hW1
    go_wp2_with (go_at_call 73; (with_reducible refine (isBetweenK_any _ _ _ _).mono ?_); rintro e w' ⟨rfl, rfl⟩; rw [B1.out])
    go_ret
    exact ⟨ret_f D.out, EW.out⟩
  have B1 := Lib.hid (dec_true e1)
  have E1 := Lib.hid e1
  clear e1
  go_enter Try.func74, Try.ntmps74
  go_upto_region 1 with fail
  rw [← hW1]
  clear hW1
  go_wp2_with (go_at_call 73; (with_reducible refine (isBetweenK_any _ _ _ _).mono ?_); rintro e w' ⟨rfl, rfl⟩; rw [B1.out])
  clear b0
  go_loop [24] (fun i => ∃ k : Nat, k ≤ M.start.length ∧ i = .int .i64 k ∧ Hid (∀ i, i < k → (gr M.start i).length = (gr M.start 0).length ∧ AllIn (gr M.start i) 0 (M.sts - 1))) (fun i => M.start.length - (intOf i).toNat)
  case atStart => exact ⟨0, Nat.zero_le _, rfl, fun j hj => absurd hj (by omega)⟩
  case round =>
    obtain ⟨k, hk, rfl, Hr⟩ := hrel
    by_cases hlt : k < M.start.length
    · obtain ⟨b', o', sa, sc, e, q1, hrow1⟩ := ssRow H3.out hlt
      simp only [Option.some.injEq, Addr.mk.injEq, and_true] at e
      obtain ⟨rfl, rfl⟩ := e
      obtain ⟨-, m1, n1⟩ := isLen hrow1
      unfold maxLen at m1
      have HI := Lib.hid hrow1
      clear hrow1
      by_cases e2 : (gr M.start k).length = (gr M.start 0).length
      · have b2 : (((gr M.start k).length : Int) != ((gr M.start 0).length : Int)) = false := bne_eq_false_iff_eq.2 (by rw [e2])
        have E2 := Lib.hid e2
        clear e2
        by_cases e3 : AllIn (gr M.start k) 0 (M.sts - 1)
        · have B3 := Lib.hid (dec_true e3)
          have E3 := Lib.hid e3
          clear e3
          go_wp2_with (go_at_call 77; (with_reducible refine (areBetween_any _ _ HI.out).mono ?_); rintro e w' ⟨rfl, rfl⟩; rw [B3.out])
          go_round
          case rel =>
            refine ⟨k + 1, by omega, by go_num, fun j hj => ?_⟩
            by_cases e : j = k
            · subst e; exact ⟨E2.out, E3.out⟩
            · exact Hr.out j (by omega)
          case measure => simp [intOf]; omega
        · have B3 := Lib.hid (dec_false e3)
          have D := Lib.hid (show ¬ StartOK M from fun h => e3 (h.2.2 k hlt).2)
          clear e3
          go_wp2_with (go_at_call 77; (with_reducible refine (areBetween_any _ _ HI.out).mono ?_); rintro e w' ⟨rfl, rfl⟩; rw [B3.out])
          go_ret
          exact ⟨ret_f D.out, EW.out⟩
      · have b2 : (((gr M.start k).length : Int) != ((gr M.start 0).length : Int)) = true := bne_iff_ne.2 (by omega)
        have D := Lib.hid (show ¬ StartOK M from fun h => e2 (h.2.2 k hlt).1)
        clear e2
        go_wp2
        go_ret
        exact ⟨ret_f D.out, EW.out⟩
    · obtain rfl : k = M.start.length := by omega
      go_wp2
      go_ret
      exact ⟨ret_t ⟨E0.out, E1.out, Hr.out⟩, EW.out⟩

set_option maxHeartbeats 1600000 in
set_option maxRecDepth 100000 in
theorem areSends_any {w : World} {v : Value} {M : Mach} (h : MachAt w v M) (hh : HeadOK M) : Calls Try.prog 75 #[v] w fun e w' => e = .returned (.bool (dec (SendOK M))) ∧ Ext w w' := by
  obtain ⟨a3, c3, a4, c4, a5, c5, a6, c6, rfl, h3, h4, h5, h6, h7⟩ := h
  obtain ⟨W1, hW1⟩ : ∃ W1, W1 = w.alloc (.cells #[.int .i64 M.deg, .int .i64 M.sts, .int .i64 M.msgs, .slice a3 M.start.length c3, .slice a4 M.send.length c4, .slice a5 M.cls.length c5, .slice a6 M.out.length c6] 31) := ⟨_, rfl⟩
  have EW := Lib.hid (show Ext w W1 by rw [hW1]; exact (boxed7_ext _ _ _ _ _ _ _ _ _))
  have RW := Lib.hid (show W1.rowIs w.heap.size 31 7 (sept (.int .i64 M.deg) (.int .i64 M.sts) (.int .i64 M.msgs) (.slice a3 M.start.length c3) (.slice a4 M.send.length c4) (.slice a5 M.cls.length c5) (.slice a6 M.out.length c6)) by rw [hW1]; exact (boxed7_row _ _ _ _ _ _ _ _ _))
  have H3 := Lib.hid (h3.ext EW.out)
  have H4 := Lib.hid (h4.ext EW.out)
  have H5 := Lib.hid (h5.ext EW.out)
  have H6 := Lib.hid (h6.ext EW.out)
  have H7 := Lib.hid h7
  obtain ⟨-, m3, n3⟩ := ssLen h3
  obtain ⟨-, m4, n4⟩ := ssLen h4
  obtain ⟨-, m5, n5⟩ := clLen h5
  obtain ⟨-, m6, n6⟩ := isLen h6
  unfold maxLen at m3 m4 m5 m6
  obtain ⟨p0, p1, p2, p3, p4, p5, p6⟩ := row7_facts RW.out
  clear h3 h4 h5 h6 h7
  obtain ⟨⟨g1, g2⟩, ⟨g3, g4⟩, ⟨g5, g6⟩⟩ := hh
  by_cases e0 : (M.send.length : Int) = M.sts
  case neg =>
    have b0 : ((M.send.length : Int) != M.sts) = true := bne_iff_ne.2 e0
    have D := Lib.hid (show ¬ SendOK M from fun k => e0 k.1)
    clear e0
    go_enter Try.func75, Try.ntmps75
    go_upto_region 1 with fail
    rw [← hW1]
    clear hW1
    go_wp2
    go_ret
    exact ⟨ret_f D.out, EW.out⟩
  have b0 : ((M.send.length : Int) != M.sts) = false := bne_eq_false_iff_eq.2 e0
  have E0 := Lib.hid e0
  clear e0
  go_enter Try.func75, Try.ntmps75
  go_upto_region 1 with fail
  rw [← hW1]
  clear hW1
  go_wp2
  clear b0
  go_loop [14] (fun i => ∃ k : Nat, k ≤ M.send.length ∧ i = .int .i64 k ∧ Hid (∀ i, i < k → ((gr M.send i).length : Int) = M.deg ∧ AllIn (gr M.send i) 0 (M.msgs - 1))) (fun i => M.send.length - (intOf i).toNat)
  case atStart => exact ⟨0, Nat.zero_le _, rfl, fun j hj => absurd hj (by omega)⟩
  case round =>
    obtain ⟨k, hk, rfl, Hr⟩ := hrel
    by_cases hlt : k < M.send.length
    · obtain ⟨b, o, sa, sc, rfl, q1, hrow1⟩ := ssRow H4.out hlt
      obtain ⟨-, m1, n1⟩ := isLen hrow1
      unfold maxLen at m1
      have HI := Lib.hid hrow1
      clear hrow1
      by_cases e2 : ((gr M.send k).length : Int) = M.deg
      · have b2 : (((gr M.send k).length : Int) != M.deg) = false := bne_eq_false_iff_eq.2 e2
        have E2 := Lib.hid e2
        clear e2
        by_cases e3 : AllIn (gr M.send k) 0 (M.msgs - 1)
        · have B3 := Lib.hid (dec_true e3)
          have E3 := Lib.hid e3
          clear e3
          go_wp2_with (go_at_call 77; (with_reducible refine (areBetween_any _ _ HI.out).mono ?_); rintro e w' ⟨rfl, rfl⟩; rw [B3.out])
          go_round
          case rel =>
            refine ⟨k + 1, by omega, by go_num, fun j hj => ?_⟩
            by_cases e : j = k
            · subst e; exact ⟨E2.out, E3.out⟩
            · exact Hr.out j (by omega)
          case measure => simp [intOf]; omega
        · have B3 := Lib.hid (dec_false e3)
          have D := Lib.hid (show ¬ SendOK M from fun h => e3 (h.2 k hlt).2)
          clear e3
          go_wp2_with (go_at_call 77; (with_reducible refine (areBetween_any _ _ HI.out).mono ?_); rintro e w' ⟨rfl, rfl⟩; rw [B3.out])
          go_ret
          exact ⟨ret_f D.out, EW.out⟩
      · have b2 : (((gr M.send k).length : Int) != M.deg) = true := bne_iff_ne.2 e2
        have D := Lib.hid (show ¬ SendOK M from fun h => e2 (h.2 k hlt).1)
        clear e2
        go_wp2
        go_ret
        exact ⟨ret_f D.out, EW.out⟩
    · obtain rfl : k = M.send.length := by omega
      go_wp2
      go_ret
      exact ⟨ret_t ⟨E0.out, Hr.out⟩, EW.out⟩

end Go.Proofs.Ytdcgpodjoalokaa
