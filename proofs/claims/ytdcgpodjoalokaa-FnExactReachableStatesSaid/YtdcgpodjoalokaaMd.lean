/- Machines as arguments: counted. -/
import Derived.Test.YtdcgpodjoalokaaMa
namespace Go.Proofs.Ytdcgpodjoalokaa
open Go.RowKit

set_option maxHeartbeats 400000 in
set_option maxRecDepth 100000 in
theorem szClause_any {w : World} {c : Cl} {x : Value} (left : Int) (h : IntSl w x c.inb) (h0 : -1 ≤ left) (h1 : left ≤ 1048576) :
    Calls Try.prog 129 #[.agg #[.int .i64 c.st, x, .int .i64 c.nx], .int .i64 left] w fun e w' => ∃ r : Int, e = .returned (.int .i64 r) ∧ Ext w w' ∧ r ≤ left ∧ -1 ≤ r ∧ (0 ≤ r → (c.inb.length : Int) + r ≤ left) := by
  obtain ⟨a, q, rfl⟩ := h.isSlice
  have HE := Lib.hid (boxed_ext w (.int .i64 c.st) (.slice a c.inb.length q) (.int .i64 c.nx) 145)
  have HI := Lib.hid (h.ext HE.out)
  obtain ⟨p0, p1, p2, -, -, -⟩ := row3_facts (boxed_row w (.int .i64 c.st) (.slice a c.inb.length q) (.int .i64 c.nx) 145)
  clear h
  go_enter Try.func129, Try.ntmps129
  go_wp2_with (go_at_call 70; (with_reducible refine (szIntS_any _ HI.out (by omega) (by omega)).mono ?_); rintro e w' ⟨r, rfl, rfl, h11, h12, h13⟩; have H13 := Lib.hid h13; clear h13)
  all_goals go_ret
  · exact ⟨-1, rfl, HE.out, by omega, by omega, by omega⟩
  · exact ⟨r, rfl, HE.out, by omega, by omega, H13.out⟩

set_option maxHeartbeats 800000 in
set_option maxRecDepth 100000 in
theorem szClauseS_any {w : World} {v : Value} {l : List Cl} (left : Int) (h : ClSl w v l) (h0 : -1 ≤ left) (h1 : left ≤ 1048576) :
    Calls Try.prog 69 #[v, .int .i64 left] w fun e w' => ∃ r : Int, e = .returned (.int .i64 r) ∧ Ext w w' ∧ r ≤ left ∧ -1 ≤ r ∧
      (0 ≤ r → (l.length : Int) + r ≤ left ∧ ∀ i, i < l.length → ((gc l i).inb.length : Int) ≤ left) := by
  obtain ⟨a, b, o, c, rfl, ha, h3, h4, hc⟩ := h
  unfold maxLen at h4
  have Hc := Lib.hid hc
  have Ha := Lib.hid ha
  clear hc ha
  by_cases hneg : left - l.length < 0
  · go_enter Try.func69, Try.ntmps69
    go_wp2
    go_ret
    exact ⟨-1, rfl, Ext.rfl' w, by omega, by omega, by omega⟩
  · go_enter Try.func69, Try.ntmps69
    go_wp2
    go_loopg [1, 5] l.length (fun g t i wr => ∃ (k : Nat) (r : Int), k ≤ l.length ∧ g = l.length - k ∧ i = .int .i64 k ∧ t = .int .i64 r ∧ 0 ≤ r ∧ (l.length : Int) + r ≤ left ∧ Hid (Ext w wr ∧ ∀ i, i < k → ((gc l i).inb.length : Int) ≤ left))
    case atStart => exact ⟨0, left - l.length, by omega, rfl, rfl, rfl, by omega, by omega, Ext.rfl' w, fun i hi => absurd hi (by omega)⟩
    case round =>
      obtain ⟨k, r, hk, rfl, rfl, rfl, hr0, hr, Hr⟩ := hrel
      by_cases hlt : k < l.length
      · obtain ⟨c1, ⟨xa, xn, xq, c2, -, c3⟩, c4, -⟩ := Hc.out k hlt
        obtain rfl := Ha.out (by omega)
        have HI := Lib.hid (c3.ext Hr.out.1)
        have c1 := Hr.out.1.cell' c1
        have c2 := Hr.out.1.cell' c2
        have c4 := Hr.out.1.cell' c4
        clear c3
        go_wp2_with (go_at_call 129; (with_reducible refine (szClause_any _ HI.out (by omega) (by omega)).mono ?_); rintro e w' ⟨r', rfl, hx, hr1, hr2, hr3⟩; have HX := Lib.hid (Hr.out.1.trans' hx); have H3 := Lib.hid hr3; clear hx hr3 c1 c2 c4)
        · go_ret
          exact ⟨-1, rfl, HX.out, by omega, by omega, by omega⟩
        · go_roundg (l.length - (k + 1))
          case measure => omega
          case rel =>
            have := H3.out (by omega)
            refine ⟨k + 1, r', by omega, rfl, by go_num, rfl, by omega, by omega, HX.out, fun i hi => ?_⟩
            by_cases e : i = k
            · subst e; omega
            · exact Hr.out.2 i (by omega)
      · go_wp2
        go_ret
        obtain rfl : k = l.length := by omega
        exact ⟨r, rfl, Hr.out.1, by omega, by omega, fun _ => ⟨by omega, Hr.out.2⟩⟩

set_option maxHeartbeats 800000 in
set_option maxRecDepth 100000 in
theorem szMachine_any {w : World} {v : Value} {M : Mach} (left : Int) (h : MachAt w v M) (h0 : -1 ≤ left) (h1 : left ≤ 1048576) :
    Calls Try.prog 19 #[v, .int .i64 left] w fun e w' => ∃ r : Int, e = .returned (.int .i64 r) ∧ Ext w w' ∧ -1 ≤ r ∧ r ≤ left ∧ (0 ≤ r → M.small) := by
  obtain ⟨a3, c3, a4, c4, a5, c5, a6, c6, rfl, h3, h4, h5, h6, -⟩ := h
  have HE := Lib.hid (boxed7_ext w (.int .i64 M.deg) (.int .i64 M.sts) (.int .i64 M.msgs) (.slice a3 M.start.length c3) (.slice a4 M.send.length c4) (.slice a5 M.cls.length c5) (.slice a6 M.out.length c6) 26)
  obtain ⟨p0, p1, p2, p3, p4, p5, p6⟩ := row7_facts (boxed7_row w (.int .i64 M.deg) (.int .i64 M.sts) (.int .i64 M.msgs) (.slice a3 M.start.length c3) (.slice a4 M.send.length c4) (.slice a5 M.cls.length c5) (.slice a6 M.out.length c6) 26)
  have H3 := Lib.hid (h3.ext HE.out)
  have H4 := Lib.hid (h4.ext HE.out)
  have H5 := Lib.hid (h5.ext HE.out)
  have H6 := Lib.hid (h6.ext HE.out)
  clear h3 h4 h5 h6 p0 p1 p2
  go_enter Try.func19, Try.ntmps19
  go_wp2_with fail
  (with_reducible refine (szIntSS_any _ H3.out (by omega) (by omega)).mono ?_)
  rintro e w' ⟨r1, rfl, rfl, h11, h12, h13⟩
  have G1 := Lib.hid h13
  clear h13
  by_cases n1 : r1 < 0
  · go_wp2
    go_ret
    exact ⟨-1, rfl, HE.out, by omega, by omega, by omega⟩
  go_wp2_with fail
  (with_reducible refine (szIntSS_any _ H4.out (by omega) (by omega)).mono ?_)
  rintro e w' ⟨r2, rfl, rfl, h21, h22, h23⟩
  have G2 := Lib.hid h23
  clear h23
  by_cases n2 : r2 < 0
  · go_wp2
    go_ret
    exact ⟨-1, rfl, HE.out, by omega, by omega, by omega⟩
  go_wp2_with fail
  (with_reducible refine (szClauseS_any _ H5.out (by omega) (by omega)).mono ?_)
  rintro e w1 ⟨r3, rfl, hx, h31, h32, h33⟩
  have G3 := Lib.hid h33
  have q6 := hx.cell' p6
  have HX := Lib.hid (HE.out.trans' hx)
  have H6' := Lib.hid (H6.out.ext hx)
  clear h33 hx p3 p4 p5 p6
  by_cases n3 : r3 < 0
  · go_wp2
    go_ret
    exact ⟨-1, rfl, HX.out, by omega, by omega, by omega⟩
  go_wp2_with fail
  (with_reducible refine (szIntS_any _ H6'.out (by omega) (by omega)).mono ?_)
  rintro e w' ⟨r4, rfl, rfl, h41, h42, h43⟩
  have G4 := Lib.hid h43
  clear h43
  by_cases n4 : r4 < 0
  · go_wp2
    go_ret
    exact ⟨-1, rfl, HX.out, by omega, by omega, by omega⟩
  go_wp2
  go_ret
  refine ⟨r4, rfl, HX.out, by omega, by omega, fun _ => ?_⟩
  obtain ⟨a1, a2⟩ := G1.out (by omega)
  obtain ⟨b1, b2⟩ := G2.out (by omega)
  obtain ⟨d1, d2⟩ := G3.out (by omega)
  have d4 := G4.out (by omega)
  refine ⟨⟨by omega, fun i => ?_⟩, ⟨by omega, fun i => ?_⟩, ⟨by omega, fun i => ?_⟩, by omega⟩
  · by_cases hi : i < M.start.length
    · have := a2 i hi; omega
    · simp [gr, List.getD, List.getElem?_eq_none (show M.start.length ≤ i by omega)]
  · by_cases hi : i < M.send.length
    · have := b2 i hi; omega
    · simp [gr, List.getD, List.getElem?_eq_none (show M.send.length ≤ i by omega)]
  · by_cases hi : i < M.cls.length
    · have := d2 i hi; omega
    · rw [gc_out _ _ (by omega)]; simp [cl0]
end Go.Proofs.Ytdcgpodjoalokaa
