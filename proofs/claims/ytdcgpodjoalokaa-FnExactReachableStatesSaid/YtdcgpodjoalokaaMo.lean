/- A machine that comes in as an argument is opened. -/
import Derived.Test.YtdcgpodjoalokaaIv
import Derived.Test.YtdcgpodjoalokaaMa
namespace Go.Proofs.Ytdcgpodjoalokaa
open Go.ChangeShapes Go.WideShapes Go.ChangeAt Go.RowKit Go.Joins Go.Deep

theorem Try.cellsLCl : Try.prog.cellsOf 145 = 3 := by kernel_rfl
theorem Try.cellsLM : Try.prog.cellsOf 26 = 7 := by kernel_rfl
theorem Try.cellsSLCl : Try.prog.cellsOf 23 = 1 := by kernel_rfl
theorem Try.cellsSSI : Try.prog.cellsOf 22 = 1 := by kernel_rfl

section
variable {H : Type} {enc : TypeId × Value → H} {W : World} {base : Nat} {spare : Nat → Bool} {held : Bool}
theorem y_at {α : Type} {ys : List α} {n i : Nat} (h : ys.length = n) (hi : i < n) : ys[i]? = some (ys[i]'(by omega)) := List.getElem?_eq_getElem _

theorem open_int1m {fuel : Nat} {c : Value} {x : DataW H × List MemPlace} (h : DataW.trod enc Try.prog W base spare held fuel 3 [c] = some x) : ∃ n : Int, c = .int .i64 n ∧ inI64 n := by
  obtain ⟨n, hc, _, hw⟩ := DataW.trod_int Try.underlying3 h
  simp at hc
  exact ⟨n, hc, bounds_i64 hw⟩

set_option maxRecDepth 100000 in
theorem open_clause {fuel : Nat} {cs : List Value} {x : DataW H × List MemPlace} (h : DataW.trod enc Try.prog W base spare held fuel 145 cs = some x) :
    ∃ (c : Cl) (u : Value), cs = [.int .i64 c.st, u, .int .i64 c.nx] ∧ inI64 c.st ∧ IntSl W u c.inb ∧ inI64 c.nx := by
  obtain ⟨ys, n, _, _, hlen, hyl, hf⟩ := DataW.trod_struct Try.underlying145 h
  rw [Try.cellsLCl] at hlen
  match cs, hlen with
  | [c0, c1, c2], _ =>
    have h0 : DataW.trod enc Try.prog W base spare held n 3 (([c0, c1, c2].drop 0).take (Try.prog.cellsOf 3)) = ys[0]? := hf 0 _ rfl
    have h1 : DataW.trod enc Try.prog W base spare held n 24 (([c0, c1, c2].drop 1).take (Try.prog.cellsOf 24)) = ys[1]? := hf 1 _ rfl
    have h2 : DataW.trod enc Try.prog W base spare held n 3 (([c0, c1, c2].drop 2).take (Try.prog.cellsOf 3)) = ys[2]? := hf 2 _ rfl
    rw [Try.cells3] at h0 h2
    rw [Try.cells23] at h1
    have y0 : ys[0]? = some (ys[0]'(by simp at hyl; omega)) := List.getElem?_eq_getElem _
    have y1 : ys[1]? = some (ys[1]'(by simp at hyl; omega)) := List.getElem?_eq_getElem _
    have y2 : ys[2]? = some (ys[2]'(by simp at hyl; omega)) := List.getElem?_eq_getElem _
    rw [y0] at h0
    rw [y1] at h1
    rw [y2] at h2
    obtain ⟨x, rfl, hx⟩ := open_int1m h0
    obtain ⟨l, hl⟩ := open_intsl h1
    obtain ⟨z, rfl, hz⟩ := open_int1m h2
    exact ⟨⟨x, l, z⟩, c1, rfl, hx, hl, hz⟩

theorem open_clsl {fuel : Nat} {v : Value} {x : DataW H × List MemPlace} (h : DataW.trod enc Try.prog W base spare held fuel 23 [v] = some x) : ∃ l, ClSl W v l := by
  rcases open_slice Try.underlying23 h with ⟨hc, _⟩ | ⟨a, len, cap, m, n, D, Pl, hcs, hb, hl, hm, hmm, hx, hi⟩
  · simp at hc
    subst hc
    exact ⟨[], none, 0, 0, 0, rfl, fun h => absurd h (by simp), by simp, by unfold maxLen; omega, fun i hi => absurd hi (by simp)⟩
  · simp at hcs
    subst hcs
    rw [Try.cellsLCl] at hi
    have hlm : len ≤ m := by rw [hmm]; split <;> omega
    obtain ⟨l, hll, hq⟩ := exists_list cl0 (Q := fun i c => ∃ u, W.cell? (a.add (i * 3)) = some (.int .i64 c.st) ∧ W.cell? (a.add (i * 3 + 1)) = some u ∧ W.cell? (a.add (i * 3 + 2)) = some (.int .i64 c.nx) ∧ inI64 c.st ∧ IntSl W u c.inb ∧ inI64 c.nx) len (fun i hil => by
      obtain ⟨cs', hc, ht⟩ := hi i (by omega)
      obtain ⟨c, u, rfl, hp1, hp2, hp3⟩ := open_clause ht
      obtain ⟨_, hcl, hat⟩ := World.cells?_some hc
      refine ⟨c, u, ?_, ?_, ?_, hp1, hp2, hp3⟩
      · have := hat (i := 0) (by omega); simpa [Go.Deep.add_add] using this
      · have := hat (i := 1) (by omega); simpa [Go.Deep.add_add] using this
      · have := hat (i := 2) (by omega); simpa [Go.Deep.add_add] using this)
    obtain ⟨b, o, sp⟩ := a
    have hs : 0 < len → sp = none := fun hp => by
      obtain ⟨u, this, _⟩ := hq 0 hp
      simpa [Addr.add] using World.cell?_spot this
    refine ⟨l, some ⟨b, o, sp⟩, b, o, cap, by rw [hll], fun hp => by rw [hs (by omega)], by omega, hm, fun i hi' => ?_⟩
    obtain ⟨u, h1, h2, h3, h4, h5, h6⟩ := hq i (by omega)
    obtain rfl := hs (by omega)
    rw [add_plain] at h1 h2 h3
    obtain ⟨ua, uc, rfl⟩ := h5.isSlice
    exact ⟨h1, ⟨ua, _, uc, by rw [Nat.add_assoc]; exact h2, rfl, h5⟩, by rw [Nat.add_assoc]; exact h3, h4, h6⟩

theorem array7 {cs : Array Value} (h : cs.size = 7) : ∃ c0 c1 c2 c3 c4 c5 c6, cs = #[c0, c1, c2, c3, c4, c5, c6] := by
  obtain ⟨l⟩ := cs
  match l, h with
  | [c0, c1, c2, c3, c4, c5, c6], _ => exact ⟨c0, c1, c2, c3, c4, c5, c6, rfl⟩

set_option maxRecDepth 100000 in
theorem open_mach {b0 : Nat} {v : Value} {d : DataW H} {p : List MemPlace} (hv : Value.okWide Try.prog W .any b0 26 v) (h : DataW.Trod enc Try.prog W base spare held 26 v d p) : ∃ M, MachAt W v M := by
  obtain ⟨cs, rfl, hsz⟩ := okWide_struct Try.underlying26 hv
  obtain ⟨c0, c1, c2, c3, c4, c5, c6, rfl⟩ := array7 (hsz.trans Try.cellsLM)
  obtain ⟨fuel, hf⟩ := h
  have hf' : DataW.trod enc Try.prog W base spare held fuel 26 [c0, c1, c2, c3, c4, c5, c6] = some (d, p) := by simpa [Value.cells] using hf
  obtain ⟨ys, n, _, _, hlen, hyl, hg⟩ := DataW.trod_struct Try.underlying26 hf'
  have h0 : DataW.trod enc Try.prog W base spare held n 3 (([c0, c1, c2, c3, c4, c5, c6].drop 0).take (Try.prog.cellsOf 3)) = ys[0]? := hg 0 _ rfl
  have h1 : DataW.trod enc Try.prog W base spare held n 3 (([c0, c1, c2, c3, c4, c5, c6].drop 1).take (Try.prog.cellsOf 3)) = ys[1]? := hg 1 _ rfl
  have h2 : DataW.trod enc Try.prog W base spare held n 3 (([c0, c1, c2, c3, c4, c5, c6].drop 2).take (Try.prog.cellsOf 3)) = ys[2]? := hg 2 _ rfl
  have h3 : DataW.trod enc Try.prog W base spare held n 22 (([c0, c1, c2, c3, c4, c5, c6].drop 3).take (Try.prog.cellsOf 22)) = ys[3]? := hg 3 _ rfl
  have h4 : DataW.trod enc Try.prog W base spare held n 22 (([c0, c1, c2, c3, c4, c5, c6].drop 4).take (Try.prog.cellsOf 22)) = ys[4]? := hg 4 _ rfl
  have h5 : DataW.trod enc Try.prog W base spare held n 23 (([c0, c1, c2, c3, c4, c5, c6].drop 5).take (Try.prog.cellsOf 23)) = ys[5]? := hg 5 _ rfl
  have h6 : DataW.trod enc Try.prog W base spare held n 24 (([c0, c1, c2, c3, c4, c5, c6].drop 6).take (Try.prog.cellsOf 24)) = ys[6]? := hg 6 _ rfl
  rw [Try.cells3] at h0 h1 h2
  rw [Try.cellsSSI] at h3 h4
  rw [Try.cellsSLCl] at h5
  rw [Try.cells23] at h6
  have hyl' : ys.length = 7 := by simpa using hyl
  rw [y_at hyl' (by omega)] at h0 h1 h2 h3 h4 h5 h6
  obtain ⟨x0, rfl, i0⟩ := open_int1m h0
  obtain ⟨x1, rfl, i1⟩ := open_int1m h1
  obtain ⟨x2, rfl, i2⟩ := open_int1m h2
  obtain ⟨l3, e3⟩ := open_intss h3
  obtain ⟨l4, e4⟩ := open_intss h4
  obtain ⟨l5, e5⟩ := open_clsl h5
  obtain ⟨l6, e6⟩ := open_intsl h6
  obtain ⟨a3, q3, rfl⟩ := e3.isSlice
  obtain ⟨a4, q4, rfl⟩ := e4.isSlice
  obtain ⟨a5, q5, rfl⟩ := e5.isSlice
  obtain ⟨a6, q6, rfl⟩ := e6.isSlice
  exact ⟨⟨x0, x1, x2, l3, l4, l5, l6⟩, a3, q3, a4, q4, a5, q5, a6, q6, rfl, e3, e4, e5, e6, i0, i1, i2⟩
end
end Go.Proofs.Ytdcgpodjoalokaa
