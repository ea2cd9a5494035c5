/- Contracts of both OtherEnd: an end and true where the port exists, the zero end and false elsewhere. -/
import Derived.Test.YtndgbildkeglfaaOe
namespace Go.Proofs.Ytndgbildkeglfaa
open Go.RowKit

/-- What OtherEnd answers. -/
def EndAns (N : Net) (v i : Int) (x y : Int) (b : Bool) : Prop :=
  (OtherOK N v i ∧ b = true ∧ x = gn (gr N.ends v.toNat) i.toNat ∧ y = gp (gr N.ends v.toNat) i.toNat) ∨ (¬ OtherOK N v i ∧ b = false ∧ x = 0 ∧ y = 0)
theorem EndAns.unique {N : Net} {v i x y x' y' : Int} {b b' : Bool} (h : EndAns N v i x y b) (h' : EndAns N v i x' y' b') : x = x' ∧ y = y' ∧ b = b' := by
  rcases h with ⟨h, rfl, rfl, rfl⟩ | ⟨h, rfl, rfl, rfl⟩ <;> rcases h' with ⟨h', rfl, rfl, rfl⟩ | ⟨h', rfl, rfl, rfl⟩ <;> first | exact ⟨rfl, rfl, rfl⟩ | exact absurd h h' | exact absurd h' h

set_option maxHeartbeats 1600000 in
set_option maxRecDepth 100000 in
theorem specOtherEnd_any {w : World} {v : Value} {N : Net} (x y : Int) (h : NetAt w v N) :
    Calls Try.prog 34 #[v, .int .i64 x, .int .i64 y] w fun e w' => ∃ (p q : Int) (b : Bool), e = .returned (.tuple #[.agg #[.int .i64 p, .int .i64 q], .bool b]) ∧ EndAns N x y p q b ∧ Ext w w' := by
  have HN := Lib.hid h
  obtain ⟨v0, v1, v2, rfl, hE, hI, hP⟩ := h
  clear hI hP
  obtain ⟨a, b, o, c, rfl, ha, hl, hm, hc⟩ := hE
  unfold maxLen at hm
  have Hc := Lib.hid hc
  have Ha := Lib.hid ha
  clear hc ha
  have hX := (Ext.rfl' w).alloc' (.cells #[.slice a N.ends.length c, v1, v2] 30)
  have HX := Lib.hid (hX.alloc' (.cells #[.int .i64 0, .int .i64 0] 44))
  have HR := Lib.hid ((row3_made w (.slice a N.ends.length c) v1 v2 30).alloc (.cells #[.int .i64 0, .int .i64 0] 44))
  have hB := World.rowIs_alloc (w.alloc (.cells #[.slice a N.ends.length c, v1, v2] 30)) #[.int .i64 0, .int .i64 0] 44 (fun _ => .int .i64 0) (fun i hi => by
    have h : i < 2 := hi
    match i, h with
    | 0, _ => rfl
    | 1, _ => rfl)
  simp only [World.size_alloc, List.size_toArray, List.length_cons, List.length_nil] at hB
  have HB := Lib.hid hB
  clear hX hB
  by_cases hg : OtherOK N x y
  · have G := Lib.hid (dec_true hg)
    have HG := Lib.hid hg
    obtain ⟨h1, h2, h3, h4, h5⟩ := hg
    obtain ⟨xx, rfl⟩ := Int.eq_ofNat_of_zero_le h2
    obtain ⟨yy, rfl⟩ := Int.eq_ofNat_of_zero_le h4
    have hxl : xx < N.ends.length := by omega
    have hyl : yy < (gr N.ends xx).length := by simpa using h5
    obtain ⟨z, hz, hz2⟩ := Hc.out xx hxl
    obtain ⟨a', b', o', c', rfl, ha', hl', hm', hc'⟩ := hz2
    unfold maxLen at hm'
    obtain rfl := Ha.out (by omega)
    obtain rfl := ha' (by omega)
    obtain ⟨r1, r2, _⟩ := hc' yy hyl
    have HZ := Lib.hid (And.intro (HX.out.cell' hz) (And.intro (HX.out.cell' r1) (HX.out.cell' r2)))
    clear hz ha' hc' h1 h2 h3 h4 h5 r1 r2
    go_enter Try.func34, Try.ntmps34
    go_wp2_with (first | (go_at_call 77; (with_reducible refine (nePort_any _ _ (HN.out.ext HX.out)).mono ?_); rintro e w1 ⟨rfl, hw⟩; rw [G.out]; have K1 := Lib.hid (HX.out.trans' hw); obtain ⟨p0, p1, p2, _, _, _⟩ := row3_facts (row_ext HR.out hw); have hz1 := hw.cell' HZ.out.1; have hz2 := hw.cell' HZ.out.2.1; have hz3 := hw.cell' HZ.out.2.2; obtain ⟨f1, f2, f3, f4⟩ := row_two (row_ext HB.out hw) (i := 0) (by omega); simp only [Nat.zero_add] at f3 f4; have f5 := (row_ext HB.out hw).cell (i := 1) (by omega); have f6 := (row_ext HB.out hw).frozen 1; clear hw))
    refine bodyPost_ret (v := .tuple #[.agg #[.int .i64 (gn (gr N.ends xx) yy), .int .i64 (gp (gr N.ends xx) yy)], .bool true]) (by simp [results, Try.results34, go_sem, f1, f5]) rfl ⟨_, _, _, rfl, .inl ⟨HG.out, rfl, rfl, rfl⟩, ?_⟩
    exact (K1.out.store (by show w.heap.size ≤ w.heap.size + 1; omega) _).store (by show w.heap.size ≤ w.heap.size + 1; omega) _
  · have G := Lib.hid (dec_false hg)
    have HG := Lib.hid hg
    clear hg
    go_enter Try.func34, Try.ntmps34
    go_wp2_with (first | (go_at_call 77; (with_reducible refine (nePort_any _ _ (HN.out.ext HX.out)).mono ?_); rintro e w1 ⟨rfl, hw⟩; rw [G.out]; have K1 := Lib.hid (HX.out.trans' hw); obtain ⟨f1, f2, f3, f4⟩ := row_two (row_ext HB.out hw) (i := 0) (by omega); simp only [Nat.zero_add] at f3 f4; have f5 := (row_ext HB.out hw).cell (i := 1) (by omega); have f6 := (row_ext HB.out hw).frozen 1; clear hw))
    refine bodyPost_ret (v := .tuple #[.agg #[.int .i64 0, .int .i64 0], .bool false]) (by simp [results, Try.results34, go_sem, f1, f5]) rfl ⟨_, _, _, rfl, .inr ⟨HG.out, rfl, rfl, rfl⟩, ?_⟩
    exact (K1.out.store (by show w.heap.size ≤ w.heap.size + 1; omega) _).store (by show w.heap.size ≤ w.heap.size + 1; omega) _
set_option maxHeartbeats 1600000 in
set_option maxRecDepth 100000 in
theorem otherEnd_any {w : World} {v : Value} {N : Net} (x y : Int) (h : NetAt w v N) :
    Calls Try.prog 35 #[v, .int .i64 x, .int .i64 y] w fun e w' => ∃ (p q : Int) (b : Bool), e = .returned (.tuple #[.agg #[.int .i64 p, .int .i64 q], .bool b]) ∧ EndAns N x y p q b ∧ Ext w w' := by
  have HN := Lib.hid h
  obtain ⟨v0, v1, v2, rfl, hE, hI, hP⟩ := h
  have HE := Lib.hid hE
  clear hI hP
  obtain ⟨a, b, o, c, rfl, ha, hl, hm, hc⟩ := hE
  unfold maxLen at hm
  have Hc := Lib.hid hc
  have Ha := Lib.hid ha
  clear hc ha
  have hX := (Ext.rfl' w).alloc' (.cells #[.slice a N.ends.length c, v1, v2] 30)
  have HX := Lib.hid (hX.alloc' (.cells #[.int .i64 0, .int .i64 0] 44))
  have HR := Lib.hid ((row3_made w (.slice a N.ends.length c) v1 v2 30).alloc (.cells #[.int .i64 0, .int .i64 0] 44))
  have hB := World.rowIs_alloc (w.alloc (.cells #[.slice a N.ends.length c, v1, v2] 30)) #[.int .i64 0, .int .i64 0] 44 (fun _ => .int .i64 0) (fun i hi => by
    have h : i < 2 := hi
    match i, h with
    | 0, _ => rfl
    | 1, _ => rfl)
  simp only [World.size_alloc, List.size_toArray, List.length_cons, List.length_nil] at hB
  have HB := Lib.hid hB
  clear hX hB
  by_cases hg : OtherOK N x y
  · have HG := Lib.hid hg
    have G1 := Lib.hid (dec_true hg.1)
    have G2 := Lib.hid (dec_true hg.2)
    obtain ⟨h1, h2, h3, h4, h5⟩ := hg
    obtain ⟨xx, rfl⟩ := Int.eq_ofNat_of_zero_le h2
    obtain ⟨yy, rfl⟩ := Int.eq_ofNat_of_zero_le h4
    have hxl : xx < N.ends.length := by omega
    have hyl : yy < (gr N.ends xx).length := by simpa using h5
    obtain ⟨z, hz, hz2⟩ := Hc.out xx hxl
    obtain ⟨a', b', o', c', rfl, ha', hl', hm', hc'⟩ := hz2
    unfold maxLen at hm'
    obtain rfl := Ha.out (by omega)
    obtain rfl := ha' (by omega)
    obtain ⟨r1, r2, _⟩ := hc' yy hyl
    have HZ := Lib.hid (And.intro hz (And.intro r1 r2))
    clear hz ha' hc' h1 h2 h3 h4 h5 r1 r2
    go_enter Try.func35, Try.ntmps35
    go_wp2_with (first | (go_at_call 22; (with_reducible refine (isNetwork_any (HN.out.ext HX.out)).mono ?_); rintro e w0 ⟨rfl, hw0⟩; rw [G1.out]; have K0 := Lib.hid (HX.out.trans' hw0); have KR := Lib.hid (row_ext HR.out hw0); have KB := Lib.hid (row_ext HB.out hw0); obtain ⟨p0, p1, p2, _, _, _⟩ := row3_facts KR.out; clear hw0) | (go_at_call 78; (with_reducible refine (hasPort_any _ _ (HE.out.ext K0.out)).mono ?_); rintro e w1 ⟨rfl, hw⟩; rw [G2.out]; have K1 := Lib.hid (K0.out.trans' hw); obtain ⟨p0, p1, p2, _, _, _⟩ := row3_facts (row_ext KR.out hw); have hz1 := hw.cell' (K0.out.cell' HZ.out.1); have hz2 := hw.cell' (K0.out.cell' HZ.out.2.1); have hz3 := hw.cell' (K0.out.cell' HZ.out.2.2); obtain ⟨f1, f2, f3, f4⟩ := row_two (row_ext KB.out hw) (i := 0) (by omega); simp only [Nat.zero_add] at f3 f4; have f5 := (row_ext KB.out hw).cell (i := 1) (by omega); have f6 := (row_ext KB.out hw).frozen 1; obtain ⟨p0, p1, p2, _, _, _⟩ := row3_facts (row_ext KR.out hw); clear hw))
    refine bodyPost_ret (v := .tuple #[.agg #[.int .i64 (gn (gr N.ends xx) yy), .int .i64 (gp (gr N.ends xx) yy)], .bool true]) (by simp [results, Try.results35, go_sem, f1, f5]) rfl ⟨_, _, _, rfl, .inl ⟨HG.out, rfl, rfl, rfl⟩, ?_⟩
    exact (K1.out.store (by show w.heap.size ≤ w.heap.size + 1; omega) _).store (by show w.heap.size ≤ w.heap.size + 1; omega) _
  · have HG := Lib.hid hg
    by_cases h1 : Good N
    · have G1 := Lib.hid (dec_true h1)
      have G2 := Lib.hid (dec_false (p := PortOK N.ends x y) fun h => hg ⟨h1, h⟩)
      clear hg h1
      go_enter Try.func35, Try.ntmps35
      go_wp2_with (first | (go_at_call 22; (with_reducible refine (isNetwork_any (HN.out.ext HX.out)).mono ?_); rintro e w0 ⟨rfl, hw0⟩; rw [G1.out]; have K0 := Lib.hid (HX.out.trans' hw0); have KB := Lib.hid (row_ext HB.out hw0); obtain ⟨p0, p1, p2, _, _, _⟩ := row3_facts (row_ext HR.out hw0); clear hw0) | (go_at_call 78; (with_reducible refine (hasPort_any _ _ (HE.out.ext K0.out)).mono ?_); rintro e w1 ⟨rfl, hw⟩; rw [G2.out]; have K1 := Lib.hid (K0.out.trans' hw); obtain ⟨f1, f2, f3, f4⟩ := row_two (row_ext KB.out hw) (i := 0) (by omega); simp only [Nat.zero_add] at f3 f4; have f5 := (row_ext KB.out hw).cell (i := 1) (by omega); have f6 := (row_ext KB.out hw).frozen 1; clear hw))
      refine bodyPost_ret (v := .tuple #[.agg #[.int .i64 0, .int .i64 0], .bool false]) (by simp [results, Try.results35, go_sem, f1, f5]) rfl ⟨_, _, _, rfl, .inr ⟨HG.out, rfl, rfl, rfl⟩, ?_⟩
      exact (K1.out.store (by show w.heap.size ≤ w.heap.size + 1; omega) _).store (by show w.heap.size ≤ w.heap.size + 1; omega) _
    · have G1 := Lib.hid (dec_false h1)
      clear hg h1
      go_enter Try.func35, Try.ntmps35
      go_wp2_with (first | (go_at_call 22; (with_reducible refine (isNetwork_any (HN.out.ext HX.out)).mono ?_); rintro e w1 ⟨rfl, hw⟩; rw [G1.out]; have K1 := Lib.hid (HX.out.trans' hw); obtain ⟨f1, f2, f3, f4⟩ := row_two (row_ext HB.out hw) (i := 0) (by omega); simp only [Nat.zero_add] at f3 f4; have f5 := (row_ext HB.out hw).cell (i := 1) (by omega); have f6 := (row_ext HB.out hw).frozen 1; clear hw))
      refine bodyPost_ret (v := .tuple #[.agg #[.int .i64 0, .int .i64 0], .bool false]) (by simp [results, Try.results35, go_sem, f1, f5]) rfl ⟨_, _, _, rfl, .inr ⟨HG.out, rfl, rfl, rfl⟩, ?_⟩
      exact (K1.out.store (by show w.heap.size ≤ w.heap.size + 1; omega) _).store (by show w.heap.size ≤ w.heap.size + 1; omega) _
end Go.Proofs.Ytndgbildkeglfaa
