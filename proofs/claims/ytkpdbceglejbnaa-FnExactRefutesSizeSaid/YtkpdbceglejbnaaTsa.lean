/- The contracts of both sides' RefutesSize. -/
import Derived.Test.YtkpdbceglejbnaaQo
import Derived.Test.YtkpdbceglejbnaaZh
namespace Go.Proofs.Ytkpdbceglejbnaa
open Go.RowKit

def RsB (N B : Net) : Prop := Good N ∧ Good B
def RsA (N B : Net) (m : List Int) : Prop := CovAns B N m ∧ Conn B ∧ N.ends.length < B.ends.length
theorem rs_two {N B : Net} : dec (TwoG B N) = dec (RsB N B) := dec_congr ⟨fun h => ⟨h.2, h.1⟩, fun h => ⟨h.2, h.1⟩⟩
theorem ret_bbR {x y b c : Bool} (h0 : x = y) (h : b = c) : Ending.returned (.tuple #[.bool x, .bool b]) = .returned (.tuple #[.bool y, .bool c]) := by rw [h0, h]

set_option maxHeartbeats 3200000 in
set_option maxRecDepth 100000 in
theorem refutesSize_any {w : World} {v vb vm : Value} {N B : Net} {m : List Int} (h : NetAt w v N) (k : NetAt w vb B) (hf : IntSl w vm m) (_ : m.length ≤ 1048576) :
    Calls Try.prog 48 #[v, vb, vm] w fun e w' => e = .returned (.tuple #[.bool (dec (RsA N B m)), .bool (dec (RsB N B))]) ∧ Ext w w' := by
  have HN := Lib.hid h
  have HB := Lib.hid k
  obtain ⟨_, v1, v2, rfl, hE, -, -⟩ := h
  obtain ⟨ea, _, _, ec, rfl, -, hel, hem, -⟩ := hE
  obtain ⟨_, u1, u2, rfl, hF, -, -⟩ := k
  obtain ⟨fa, _, _, fc, rfl, -, hfl, hfm, -⟩ := hF
  have HM := Lib.hid hf
  unfold maxLen at hem hfm
  have HX := Lib.hid ((boxed_ext w (.slice ea N.ends.length ec) v1 v2 34).trans' (boxed_ext (boxed w (.slice ea N.ends.length ec) v1 v2 34) (.slice fa B.ends.length fc) u1 u2 34))
  have HR := Lib.hid (show (boxed (boxed w (.slice ea N.ends.length ec) v1 v2 34) (.slice fa B.ends.length fc) u1 u2 34).rowIs w.heap.size 34 3 (tri (.slice ea N.ends.length ec) v1 v2) from (boxed_row w (.slice ea N.ends.length ec) v1 v2 34).alloc _)
  have HS := Lib.hid (show (boxed (boxed w (.slice ea N.ends.length ec) v1 v2 34) (.slice fa B.ends.length fc) u1 u2 34).rowIs (w.heap.size + 1) 34 3 (tri (.slice fa B.ends.length fc) u1 u2) by simpa using boxed_row (boxed w (.slice ea N.ends.length ec) v1 v2 34) (.slice fa B.ends.length fc) u1 u2 34)
  obtain ⟨p0, p1, p2, -, -, -⟩ := row3_facts HR.out
  obtain ⟨q0, q1, q2, -, -, -⟩ := row3_facts HS.out
  clear hf
  have T := Lib.hid (rs_two (N := N) (B := B))
  by_cases hc : CovAns B N m
  case neg =>
    have C := Lib.hid (dec_false hc)
    have D := Lib.hid (dec_false (p := RsA N B m) fun k => hc k.1)
    clear hc
    go_enter Try.func48, Try.ntmps48
    go_wp2_with (go_at_call 97; (with_reducible refine (isCovering_any (HB.out.ext HX.out) (HN.out.ext HX.out) (HM.out.ext HX.out)).mono ?_); rintro e w1 ⟨rfl, hx⟩; rw [C.out, T.out]; have K1 := Lib.hid (HX.out.trans' hx); have R1 := Lib.hid (row_ext HR.out hx); have S1 := Lib.hid (row_ext HS.out hx); obtain ⟨r0, r1, r2, -, -, -⟩ := row3_facts R1.out; obtain ⟨s0, s1, s2, -, -, -⟩ := row3_facts S1.out; clear hx p0 p1 p2 q0 q1 q2)
    go_ret2
    exact ⟨ret_bbR D.out.symm rfl, K1.out⟩
  have C := Lib.hid (dec_true hc)
  by_cases hg : Conn B
  case neg =>
    have G := Lib.hid (dec_false (p := GC B) fun k => hg k.2)
    have D := Lib.hid (dec_false (p := RsA N B m) fun k => hg k.2.1)
    clear hc hg
    go_enter Try.func48, Try.ntmps48
    go_wp2_with (first | (go_at_call 97; (with_reducible refine (isCovering_any (HB.out.ext HX.out) (HN.out.ext HX.out) (HM.out.ext HX.out)).mono ?_); rintro e w1 ⟨rfl, hx⟩; rw [C.out, T.out]; have K1 := Lib.hid (HX.out.trans' hx); have R1 := Lib.hid (row_ext HR.out hx); have S1 := Lib.hid (row_ext HS.out hx); obtain ⟨r0, r1, r2, -, -, -⟩ := row3_facts R1.out; obtain ⟨s0, s1, s2, -, -, -⟩ := row3_facts S1.out; clear hx p0 p1 p2 q0 q1 q2) | (go_at_call 88; (with_reducible refine (isConnected_any (HB.out.ext K1.out)).mono ?_); rintro e w2 ⟨rfl, hx⟩; rw [G.out]; have K2 := Lib.hid (K1.out.trans' hx); have R2 := Lib.hid (row_ext R1.out hx); have S2 := Lib.hid (row_ext S1.out hx); obtain ⟨p0, p1, p2, -, -, -⟩ := row3_facts R2.out; obtain ⟨q0, q1, q2, -, -, -⟩ := row3_facts S2.out; clear hx r0 r1 r2 s0 s1 s2))
    go_ret2
    exact ⟨ret_bbR D.out.symm rfl, K2.out⟩
  have G := Lib.hid (dec_true (p := GC B) ⟨hc.1.1.1, hg⟩)
  have D := Lib.hid (show decide (B.ends.length > N.ends.length) = dec (RsA N B m) from by
    rw [Bool.eq_iff_iff, decide_eq_true_iff, dec_iff]
    exact ⟨fun h => ⟨hc, hg, h⟩, fun h => h.2.2⟩)
  clear hc hg
  go_enter Try.func48, Try.ntmps48
  go_wp2_with (first | (go_at_call 97; (with_reducible refine (isCovering_any (HB.out.ext HX.out) (HN.out.ext HX.out) (HM.out.ext HX.out)).mono ?_); rintro e w1 ⟨rfl, hx⟩; rw [C.out, T.out]; have K1 := Lib.hid (HX.out.trans' hx); have R1 := Lib.hid (row_ext HR.out hx); have S1 := Lib.hid (row_ext HS.out hx); obtain ⟨r0, r1, r2, -, -, -⟩ := row3_facts R1.out; obtain ⟨s0, s1, s2, -, -, -⟩ := row3_facts S1.out; clear hx p0 p1 p2 q0 q1 q2) | (go_at_call 88; (with_reducible refine (isConnected_any (HB.out.ext K1.out)).mono ?_); rintro e w2 ⟨rfl, hx⟩; rw [G.out]; have K2 := Lib.hid (K1.out.trans' hx); have R2 := Lib.hid (row_ext R1.out hx); have S2 := Lib.hid (row_ext S1.out hx); obtain ⟨p0, p1, p2, -, -, -⟩ := row3_facts R2.out; obtain ⟨q0, q1, q2, -, -, -⟩ := row3_facts S2.out; clear hx r0 r1 r2 s0 s1 s2))
  go_ret2
  exact ⟨ret_bbR (by rw [← D.out]; (try simp)) rfl, K2.out⟩

set_option maxHeartbeats 3200000 in
set_option maxRecDepth 100000 in
theorem specRefutesSize_any {w : World} {v vb vm : Value} {N B : Net} {m : List Int} (h : NetAt w v N) (k : NetAt w vb B) (hf : IntSl w vm m) (_ : m.length ≤ 1048576) :
    Calls Try.prog 47 #[v, vb, vm] w fun e w' => e = .returned (.tuple #[.bool (dec (RsA N B m)), .bool (dec (RsB N B))]) ∧ Ext w w' := by
  have HN := Lib.hid h
  have HB := Lib.hid k
  obtain ⟨_, v1, v2, rfl, hE, -, -⟩ := h
  obtain ⟨ea, _, _, ec, rfl, -, hel, hem, -⟩ := hE
  obtain ⟨_, u1, u2, rfl, hF, -, -⟩ := k
  obtain ⟨fa, _, _, fc, rfl, -, hfl, hfm, -⟩ := hF
  have HM := Lib.hid hf
  unfold maxLen at hem hfm
  have HX := Lib.hid ((boxed_ext w (.slice ea N.ends.length ec) v1 v2 34).trans' (boxed_ext (boxed w (.slice ea N.ends.length ec) v1 v2 34) (.slice fa B.ends.length fc) u1 u2 34))
  have HR := Lib.hid (show (boxed (boxed w (.slice ea N.ends.length ec) v1 v2 34) (.slice fa B.ends.length fc) u1 u2 34).rowIs w.heap.size 34 3 (tri (.slice ea N.ends.length ec) v1 v2) from (boxed_row w (.slice ea N.ends.length ec) v1 v2 34).alloc _)
  have HS := Lib.hid (show (boxed (boxed w (.slice ea N.ends.length ec) v1 v2 34) (.slice fa B.ends.length fc) u1 u2 34).rowIs (w.heap.size + 1) 34 3 (tri (.slice fa B.ends.length fc) u1 u2) by simpa using boxed_row (boxed w (.slice ea N.ends.length ec) v1 v2 34) (.slice fa B.ends.length fc) u1 u2 34)
  obtain ⟨p0, p1, p2, -, -, -⟩ := row3_facts HR.out
  obtain ⟨q0, q1, q2, -, -, -⟩ := row3_facts HS.out
  clear hf
  by_cases h1 : Good N
  case neg =>
    have G1 := Lib.hid (dec_false h1)
    have D := Lib.hid (dec_false (p := RsA N B m) fun k => h1 k.1.1.1.2)
    have D2 := Lib.hid (dec_false (p := RsB N B) fun k => h1 k.1)
    clear h1
    go_enter Try.func47, Try.ntmps47
    go_wp2_with fail
    (with_reducible refine (neGood_any (HN.out.ext HX.out)).mono ?_)
    rintro e w1 ⟨rfl, hx⟩
    rw [G1.out]
    have K1 := Lib.hid (HX.out.trans' hx)
    have R1 := Lib.hid (row_ext HR.out hx)
    have S1 := Lib.hid (row_ext HS.out hx)
    obtain ⟨r0, r1, r2, -, -, -⟩ := row3_facts R1.out
    obtain ⟨s0, s1, s2, -, -, -⟩ := row3_facts S1.out
    clear hx p0 p1 p2 q0 q1 q2
    go_wp2
    go_ret2
    exact ⟨ret_bbR D.out.symm D2.out.symm, K1.out⟩
  have G1 := Lib.hid (dec_true h1)
  by_cases h2 : Good B
  case neg =>
    have G2 := Lib.hid (dec_false h2)
    have D := Lib.hid (dec_false (p := RsA N B m) fun k => h2 k.1.1.1.1)
    have D2 := Lib.hid (dec_false (p := RsB N B) fun k => h2 k.2)
    clear h1 h2
    go_enter Try.func47, Try.ntmps47
    go_wp2_with fail
    (with_reducible refine (neGood_any (HN.out.ext HX.out)).mono ?_)
    rintro e w1 ⟨rfl, hx⟩
    rw [G1.out]
    have K1 := Lib.hid (HX.out.trans' hx)
    have R1 := Lib.hid (row_ext HR.out hx)
    have S1 := Lib.hid (row_ext HS.out hx)
    obtain ⟨r0, r1, r2, -, -, -⟩ := row3_facts R1.out
    obtain ⟨s0, s1, s2, -, -, -⟩ := row3_facts S1.out
    clear hx p0 p1 p2 q0 q1 q2
    go_wp2_with fail
    (with_reducible refine (neGood_any (HB.out.ext K1.out)).mono ?_)
    rintro e w2 ⟨rfl, hx⟩
    rw [G2.out]
    have K2 := Lib.hid (K1.out.trans' hx)
    have R2 := Lib.hid (row_ext R1.out hx)
    have S2 := Lib.hid (row_ext S1.out hx)
    obtain ⟨p0, p1, p2, -, -, -⟩ := row3_facts R2.out
    obtain ⟨q0, q1, q2, -, -, -⟩ := row3_facts S2.out
    clear hx r0 r1 r2 s0 s1 s2
    go_wp2
    go_ret2
    exact ⟨ret_bbR D.out.symm D2.out.symm, K2.out⟩
  have G2 := Lib.hid (dec_true h2)
  have T := Lib.hid (dec_true (p := TwoG B N) ⟨h2, h1⟩)
  have D2 := Lib.hid (dec_true (p := RsB N B) ⟨h1, h2⟩)
  have GW := Lib.hid (good_w h2)
  by_cases hc : CovAns B N m
  case neg =>
    have C := Lib.hid (dec_false hc)
    have D := Lib.hid (dec_false (p := RsA N B m) fun k => hc k.1)
    clear h1 h2 hc
    go_enter Try.func47, Try.ntmps47
    go_wp2_with fail
    (with_reducible refine (neGood_any (HN.out.ext HX.out)).mono ?_)
    rintro e w1 ⟨rfl, hx⟩
    rw [G1.out]
    have K1 := Lib.hid (HX.out.trans' hx)
    have R1 := Lib.hid (row_ext HR.out hx)
    have S1 := Lib.hid (row_ext HS.out hx)
    obtain ⟨r0, r1, r2, -, -, -⟩ := row3_facts R1.out
    obtain ⟨s0, s1, s2, -, -, -⟩ := row3_facts S1.out
    clear hx p0 p1 p2 q0 q1 q2
    go_wp2_with fail
    (with_reducible refine (neGood_any (HB.out.ext K1.out)).mono ?_)
    rintro e w2 ⟨rfl, hx⟩
    rw [G2.out]
    have K2 := Lib.hid (K1.out.trans' hx)
    have R2 := Lib.hid (row_ext R1.out hx)
    have S2 := Lib.hid (row_ext S1.out hx)
    obtain ⟨p0, p1, p2, -, -, -⟩ := row3_facts R2.out
    obtain ⟨q0, q1, q2, -, -, -⟩ := row3_facts S2.out
    clear hx r0 r1 r2 s0 s1 s2
    go_wp2_with (go_at_call 96; (with_reducible refine (specIsCovering_any (HB.out.ext K2.out) (HN.out.ext K2.out) (HM.out.ext K2.out)).mono ?_); rintro e w3 ⟨rfl, hx⟩; rw [C.out, T.out]; have K3 := Lib.hid (K2.out.trans' hx); have R3 := Lib.hid (row_ext R2.out hx); have S3 := Lib.hid (row_ext S2.out hx); obtain ⟨r0, r1, r2, -, -, -⟩ := row3_facts R3.out; obtain ⟨s0, s1, s2, -, -, -⟩ := row3_facts S3.out; clear hx p0 p1 p2 q0 q1 q2)
    go_ret2
    exact ⟨ret_bbR D.out.symm D2.out.symm, K3.out⟩
  have C := Lib.hid (dec_true hc)
  by_cases hg : Conn B
  case neg =>
    have G := Lib.hid (dec_false hg)
    have D := Lib.hid (dec_false (p := RsA N B m) fun k => hg k.2.1)
    clear h1 h2 hc hg
    go_enter Try.func47, Try.ntmps47
    go_wp2_with fail
    (with_reducible refine (neGood_any (HN.out.ext HX.out)).mono ?_)
    rintro e w1 ⟨rfl, hx⟩
    rw [G1.out]
    have K1 := Lib.hid (HX.out.trans' hx)
    have R1 := Lib.hid (row_ext HR.out hx)
    have S1 := Lib.hid (row_ext HS.out hx)
    obtain ⟨r0, r1, r2, -, -, -⟩ := row3_facts R1.out
    obtain ⟨s0, s1, s2, -, -, -⟩ := row3_facts S1.out
    clear hx p0 p1 p2 q0 q1 q2
    go_wp2_with fail
    (with_reducible refine (neGood_any (HB.out.ext K1.out)).mono ?_)
    rintro e w2 ⟨rfl, hx⟩
    rw [G2.out]
    have K2 := Lib.hid (K1.out.trans' hx)
    have R2 := Lib.hid (row_ext R1.out hx)
    have S2 := Lib.hid (row_ext S1.out hx)
    obtain ⟨p0, p1, p2, -, -, -⟩ := row3_facts R2.out
    obtain ⟨q0, q1, q2, -, -, -⟩ := row3_facts S2.out
    clear hx r0 r1 r2 s0 s1 s2
    go_wp2_with (first | (go_at_call 96; (with_reducible refine (specIsCovering_any (HB.out.ext K2.out) (HN.out.ext K2.out) (HM.out.ext K2.out)).mono ?_); rintro e w3 ⟨rfl, hx⟩; rw [C.out, T.out]; have K3 := Lib.hid (K2.out.trans' hx); have R3 := Lib.hid (row_ext R2.out hx); have S3 := Lib.hid (row_ext S2.out hx); obtain ⟨r0, r1, r2, -, -, -⟩ := row3_facts R3.out; obtain ⟨s0, s1, s2, -, -, -⟩ := row3_facts S3.out; clear hx p0 p1 p2 q0 q1 q2) | (go_at_call 85; (with_reducible refine (meConnected_any (HB.out.ext K3.out) GW.out).mono ?_); rintro e w4 ⟨rfl, hx⟩; rw [G.out]; have K4 := Lib.hid (K3.out.trans' hx); have R4 := Lib.hid (row_ext R3.out hx); have S4 := Lib.hid (row_ext S3.out hx); obtain ⟨p0, p1, p2, -, -, -⟩ := row3_facts R4.out; obtain ⟨q0, q1, q2, -, -, -⟩ := row3_facts S4.out; clear hx r0 r1 r2 s0 s1 s2))
    go_ret2
    exact ⟨ret_bbR D.out.symm D2.out.symm, K4.out⟩
  have G := Lib.hid (dec_true hg)
  have D := Lib.hid (show decide (B.ends.length > N.ends.length) = dec (RsA N B m) from by
    rw [Bool.eq_iff_iff, decide_eq_true_iff, dec_iff]
    exact ⟨fun h => ⟨hc, hg, h⟩, fun h => h.2.2⟩)
  clear h1 h2 hc hg
  go_enter Try.func47, Try.ntmps47
  go_wp2_with fail
  (with_reducible refine (neGood_any (HN.out.ext HX.out)).mono ?_)
  rintro e w1 ⟨rfl, hx⟩
  rw [G1.out]
  have K1 := Lib.hid (HX.out.trans' hx)
  have R1 := Lib.hid (row_ext HR.out hx)
  have S1 := Lib.hid (row_ext HS.out hx)
  obtain ⟨r0, r1, r2, -, -, -⟩ := row3_facts R1.out
  obtain ⟨s0, s1, s2, -, -, -⟩ := row3_facts S1.out
  clear hx p0 p1 p2 q0 q1 q2
  go_wp2_with fail
  (with_reducible refine (neGood_any (HB.out.ext K1.out)).mono ?_)
  rintro e w2 ⟨rfl, hx⟩
  rw [G2.out]
  have K2 := Lib.hid (K1.out.trans' hx)
  have R2 := Lib.hid (row_ext R1.out hx)
  have S2 := Lib.hid (row_ext S1.out hx)
  obtain ⟨p0, p1, p2, -, -, -⟩ := row3_facts R2.out
  obtain ⟨q0, q1, q2, -, -, -⟩ := row3_facts S2.out
  clear hx r0 r1 r2 s0 s1 s2
  go_wp2_with (first | (go_at_call 96; (with_reducible refine (specIsCovering_any (HB.out.ext K2.out) (HN.out.ext K2.out) (HM.out.ext K2.out)).mono ?_); rintro e w3 ⟨rfl, hx⟩; rw [C.out, T.out]; have K3 := Lib.hid (K2.out.trans' hx); have R3 := Lib.hid (row_ext R2.out hx); have S3 := Lib.hid (row_ext S2.out hx); obtain ⟨r0, r1, r2, -, -, -⟩ := row3_facts R3.out; obtain ⟨s0, s1, s2, -, -, -⟩ := row3_facts S3.out; clear hx p0 p1 p2 q0 q1 q2) | (go_at_call 85; (with_reducible refine (meConnected_any (HB.out.ext K3.out) GW.out).mono ?_); rintro e w4 ⟨rfl, hx⟩; rw [G.out]; have K4 := Lib.hid (K3.out.trans' hx); have R4 := Lib.hid (row_ext R3.out hx); have S4 := Lib.hid (row_ext S3.out hx); obtain ⟨p0, p1, p2, -, -, -⟩ := row3_facts R4.out; obtain ⟨q0, q1, q2, -, -, -⟩ := row3_facts S4.out; clear hx r0 r1 r2 s0 s1 s2))
  go_ret2
  exact ⟨ret_bbR (by rw [← D.out]; (try simp)) D2.out.symm, K4.out⟩
end Go.Proofs.Ytkpdbceglejbnaa
