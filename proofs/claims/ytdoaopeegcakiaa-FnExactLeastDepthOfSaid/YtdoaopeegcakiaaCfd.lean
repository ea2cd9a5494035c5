/- The contracts of both sides' LeastDepthOf. -/
import Derived.Test.YtdoaopeegcakiaaCfc
namespace Go.Proofs.Ytdoaopeegcakiaa
open Go.RowKit

set_option maxHeartbeats 1600000 in
set_option maxRecDepth 100000 in
theorem leastDepthOf_any {w : World} {v vl : Value} {N : Net} {l : List Int} (h : NetAt w v N) (k : IntSl w vl l) (_ : l.length ≤ 1048576) :
    Calls Try.prog 18 #[v, vl] w fun e w' => e = .returned (.tuple #[.int .i64 (ldAns N l), .bool (dec (LdB N l))]) ∧ Ext w w' := by
  have HN := Lib.hid h
  have HL := Lib.hid k
  obtain ⟨v0, v1, v2, rfl, -, -, -⟩ := h
  have HX := Lib.hid (boxed_ext w v0 v1 v2 31)
  have HR := Lib.hid (row3_made w v0 v1 v2 31)
  obtain ⟨p0, p1, p2, -, -, -⟩ := row3_facts HR.out
  by_cases ho : OutsOK N l
  case neg =>
    have O := Lib.hid (dec_false ho)
    have D := Lib.hid (ld_f (N := N) (l := l) fun h => ho h.1)
    clear ho
    go_enter Try.func18, Try.ntmps18
    go_wp2_with (first | (go_at_call 40; (with_reducible refine (hasOutputs_any (HN.out.ext HX.out) (HL.out.ext HX.out)).mono ?_); rintro e w2 ⟨rfl, hx⟩; rw [O.out]; have K2 := Lib.hid (HX.out.trans' hx); clear hx))
    go_ret2
    exact ⟨ret_i D.out.1.symm D.out.2.symm, K2.out⟩
  have O := Lib.hid (dec_true ho)
  have HO := Lib.hid ho
  have NI := Lib.hid (good_nodes ho.1)
  have hn0 : 0 < N.ends.length := ho.1.1.1
  have h40 : N.ends.length ≤ 40 := ho.1.1.2
  have LL := Lib.hid (fun t => show l.length = (seqC N t).length by rw [seqC_len]; exact ho.2.1)
  have L4 := Lib.hid (fun t => show (seqC N t).length ≤ 1048576 by rw [seqC_len]; omega)
  clear ho
  go_enter Try.func18, Try.ntmps18
  go_wp2_with fail
  (with_reducible refine (hasOutputs_any (HN.out.ext HX.out) (HL.out.ext HX.out)).mono ?_)
  rintro e w2 ⟨rfl, hx⟩
  rw [O.out]
  have K2 := Lib.hid (HX.out.trans' hx)
  obtain ⟨q0, q1, q2, -, -, -⟩ := row3_facts (row_ext HR.out hx)
  clear hx p0 p1 p2
  go_wp2_with fail
  (with_reducible refine (classesByDepth_any (HN.out.ext K2.out) NI.out hn0 (by omega)).mono ?_)
  rintro e w6 ⟨v', rfl, hw, hgr⟩
  have K6 := Lib.hid (K2.out.trans' hw)
  obtain ⟨b, c, rfl, hc1, hc2, hrows⟩ := hgr.rows (by rw [clsTo_len]; omega)
  rw [clsTo_len] at hc1 hrows ⊢
  have HRW := Lib.hid hrows
  unfold maxLen at hc2
  have hst80 : stOf N < 80 := by have := stOf_lt NI.out hn0; omega
  clear hgr hrows hw q0 q1 q2
  obtain ⟨S, hS⟩ : ∃ S, S = stOf N := ⟨_, rfl⟩
  rw [← hS] at hc1 HRW hst80 ⊢
  have HS := Lib.hid hS
  clear hS
  go_wp2_with fail
  go_loopg [18] (S + 1) (fun g i wr => ∃ k : Nat, k ≤ S + 1 ∧ g = S + 1 - k ∧ i = .int .i64 k ∧ Hid ((∀ s, s < k → HasCf (seqC N s) l) ∧ Ext w6 wr))
  case atStart => exact ⟨0, Nat.zero_le _, rfl, rfl, fun s hs => absurd hs (by omega), Ext.rfl' _⟩
  case round =>
    obtain ⟨k, hk, rfl, rfl, Hr⟩ := hrel
    by_cases hlt : k < S + 1
    · obtain ⟨xv, cs, hcell, hO, -⟩ := HRW.out k hlt
      rw [gr_clsTo (by omega)] at hO
      have hcell' := Hr.out.2.cell' hcell
      have RD := Lib.hid (hO.read.ext Hr.out.2)
      clear hcell hO
      by_cases hc : HasCf (seqC N k) l
      · have C := Lib.hid (dec_true hc)
        have HC := Lib.hid hc
        clear hc
        go_wp2_with (first | (go_at_call 41; (with_reducible refine (conflictWithin_any RD.out (HL.out.ext (K6.out.trans' Hr.out.2)) (LL.out k) (L4.out k)).mono ?_); rintro e w7 ⟨rfl, hx⟩; rw [C.out]; have K7 := Lib.hid (Hr.out.2.trans' hx); clear hx))
        go_roundg (S + 1 - (k + 1))
        case measure => omega
        case rel =>
          refine ⟨k + 1, by omega, rfl, by go_num, fun s hs => ?_, K7.out⟩
          by_cases e : s = k
          · subst e; exact HC.out
          · exact Hr.out.1 s (by omega)
      · have C := Lib.hid (dec_false hc)
        have D := Lib.hid (ld_t (N := N) (l := l) (t := k) HO.out ⟨by omega, hc, Hr.out.1⟩)
        clear hc
        go_wp2_with (first | (go_at_call 41; (with_reducible refine (conflictWithin_any RD.out (HL.out.ext (K6.out.trans' Hr.out.2)) (LL.out k) (L4.out k)).mono ?_); rintro e w7 ⟨rfl, hx⟩; rw [C.out]; have K7 := Lib.hid (Hr.out.2.trans' hx); clear hx))
        go_ret2
        exact ⟨ret_i D.out.1.symm D.out.2.symm, K6.out.trans' K7.out⟩
    · have e : k = S + 1 := by omega
      subst e
      have D := Lib.hid (ld_f (N := N) (l := l) (ld_none NI.out hn0 fun s hs => Hr.out.1 s (by have := HS.out; omega)))
      go_wp2
      go_ret2
      exact ⟨ret_i D.out.1.symm D.out.2.symm, K6.out.trans' Hr.out.2⟩

set_option maxHeartbeats 1600000 in
set_option maxRecDepth 100000 in
theorem specLeastDepthOf_any {w : World} {v vl : Value} {N : Net} {l : List Int} (h : NetAt w v N) (k : IntSl w vl l) (_ : l.length ≤ 1048576) :
    Calls Try.prog 17 #[v, vl] w fun e w' => e = .returned (.tuple #[.int .i64 (ldAns N l), .bool (dec (LdB N l))]) ∧ Ext w w' := by
  have HN := Lib.hid h
  have HL := Lib.hid k
  obtain ⟨v0, v1, v2, rfl, -, -, -⟩ := h
  have HX := Lib.hid (boxed_ext w v0 v1 v2 31)
  have HR := Lib.hid (row3_made w v0 v1 v2 31)
  obtain ⟨p0, p1, p2, -, -, -⟩ := row3_facts HR.out
  by_cases ho : OutsOK N l
  case neg =>
    have O := Lib.hid (dec_false ho)
    have D := Lib.hid (ld_f (N := N) (l := l) fun h => ho h.1)
    clear ho
    go_enter Try.func17, Try.ntmps17
    go_wp2_with (first | (go_at_call 35; (with_reducible refine (taOuts_any (HN.out.ext HX.out) (HL.out.ext HX.out)).mono ?_); rintro e w2 ⟨rfl, hx⟩; rw [O.out]; have K2 := Lib.hid (HX.out.trans' hx); clear hx))
    go_ret2
    exact ⟨ret_i D.out.1.symm D.out.2.symm, K2.out⟩
  have O := Lib.hid (dec_true ho)
  have HO := Lib.hid ho
  have G := Lib.hid ho.1
  have LL := Lib.hid ho.2.1
  clear ho
  go_enter Try.func17, Try.ntmps17
  go_wp2_with fail
  (with_reducible refine (taOuts_any (HN.out.ext HX.out) (HL.out.ext HX.out)).mono ?_)
  rintro e w2 ⟨rfl, hx⟩
  rw [O.out]
  have K2 := Lib.hid (HX.out.trans' hx)
  have R2 := Lib.hid (row_ext HR.out hx)
  clear hx p0 p1 p2
  go_wp2_with fail
  go_loopg [6] 81 (fun g i wr => ∃ k : Nat, k ≤ 81 ∧ g = 81 - k ∧ i = .int .i64 k ∧ Hid ((∀ s, s < k → HasCf (seqC N s) l) ∧ Ext w2 wr))
  case atStart => exact ⟨0, Nat.zero_le _, rfl, rfl, fun s hs => absurd hs (by omega), Ext.rfl' _⟩
  case round =>
    obtain ⟨k, hk, rfl, rfl, Hr⟩ := hrel
    by_cases hlt : k < 81
    · have hk80 : k ≤ 80 := by omega
      obtain ⟨p0, p1, p2, -, -, -⟩ := row3_facts (row_ext R2.out Hr.out.2)
      by_cases hc : HasCf (seqC N k) l
      · have C := Lib.hid (dec_true hc)
        have HC := Lib.hid hc
        clear hc
        go_wp2_with (first | (go_at_call 37; (with_reducible refine (taConflict_any k hk80 (HN.out.ext (K2.out.trans' Hr.out.2)) (HL.out.ext (K2.out.trans' Hr.out.2)) G.out LL.out).mono ?_); rintro e w7 ⟨rfl, hx⟩; rw [C.out]; have K7 := Lib.hid (Hr.out.2.trans' hx); clear hx p0 p1 p2))
        go_roundg (81 - (k + 1))
        case measure => omega
        case rel =>
          refine ⟨k + 1, by omega, rfl, by go_num, fun s hs => ?_, K7.out⟩
          by_cases e : s = k
          · subst e; exact HC.out
          · exact Hr.out.1 s (by omega)
      · have C := Lib.hid (dec_false hc)
        have D := Lib.hid (ld_t (N := N) (l := l) (t := k) HO.out ⟨by omega, hc, Hr.out.1⟩)
        clear hc
        go_wp2_with (first | (go_at_call 37; (with_reducible refine (taConflict_any k hk80 (HN.out.ext (K2.out.trans' Hr.out.2)) (HL.out.ext (K2.out.trans' Hr.out.2)) G.out LL.out).mono ?_); rintro e w7 ⟨rfl, hx⟩; rw [C.out]; have K7 := Lib.hid (Hr.out.2.trans' hx); clear hx p0 p1 p2))
        go_ret2
        exact ⟨ret_i D.out.1.symm D.out.2.symm, K2.out.trans' K7.out⟩
    · have e : k = 81 := by omega
      subst e
      have D := Lib.hid (ld_f (N := N) (l := l) (ld_none80 fun s hs => Hr.out.1 s (by omega)))
      go_wp2
      go_ret2
      exact ⟨ret_i D.out.1.symm D.out.2.symm, K2.out.trans' Hr.out.2⟩
end Go.Proofs.Ytdoaopeegcakiaa
