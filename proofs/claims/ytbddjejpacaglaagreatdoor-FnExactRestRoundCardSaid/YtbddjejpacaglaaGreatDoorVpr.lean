/- How an argument that is a value program is opened. -/
import Derived.Test.YtbddjejpacaglaaGreatDoorRw
import Derived.Test.YtbddjejpacaglaaGreatDoorVpm
namespace Go.Proofs.YtbddjejpacaglaaGreatDoor
open Go.ChangeShapes Go.WideShapes Go.ChangeAt Go.RowKit Go.Joins Go.Deep

set_option maxRecDepth 100000 in
theorem Tryz.cellsVO : Tryz.prog.cellsOf 61 = 2 := by kernel_rfl
section
variable {H : Type} {enc : TypeId × Value → H} {P : Program} {W W' : World} {base : Nat} {spare : Nat → Bool} {held : Bool}
set_option maxRecDepth 100000 in
theorem open_vo {fuel : Nat} {cs : List Value} {x : DataW H × List MemPlace} (h : DataW.trod enc Tryz.prog W base spare held fuel 61 cs = some x) :
    ∃ p : Int × Int, cs = [.int .i64 p.1, .int .i64 p.2] ∧ inI64 p.1 ∧ inI64 p.2 := by
  obtain ⟨ys, n, _, _, hlen, hyl, hf⟩ := DataW.trod_struct Tryz.underlying61 h
  rw [Tryz.cellsVO] at hlen
  match cs, hlen with
  | [c0, c1], _ =>
    have h0 : DataW.trod enc Tryz.prog W base spare held n 3 (([c0, c1].drop 0).take (Tryz.prog.cellsOf 3)) = ys[0]? := hf 0 _ rfl
    have h1 : DataW.trod enc Tryz.prog W base spare held n 3 (([c0, c1].drop 1).take (Tryz.prog.cellsOf 3)) = ys[1]? := hf 1 _ rfl
    rw [Tryz.cells3] at h0 h1
    have y0 : ys[0]? = some (ys[0]'(by simp at hyl; omega)) := List.getElem?_eq_getElem _
    have y1 : ys[1]? = some (ys[1]'(by simp at hyl; omega)) := List.getElem?_eq_getElem _
    rw [y0] at h0
    rw [y1] at h1
    obtain ⟨x, rfl, hx⟩ := open_int1 h0
    obtain ⟨y, rfl, hy⟩ := open_int1 h1
    exact ⟨(x, y), rfl, hx, hy⟩

set_option maxRecDepth 100000 in
theorem open_vosl {fuel : Nat} {v : Value} {x : DataW H × List MemPlace} (h : DataW.trod enc Tryz.prog W base spare held fuel 22 [v] = some x) : ∃ l, EndSl W v l := by
  rcases open_slice Tryz.underlying22 h with ⟨hc, _⟩ | ⟨a, len, cap, m, n, D, Pl, hcs, hb, hl, hm, hmm, hx, hi⟩
  · simp at hc
    subst hc
    exact ⟨[], none, 0, 0, 0, rfl, fun h => absurd h (by simp), by simp, by unfold maxLen; omega, fun i hi => absurd hi (by simp)⟩
  · simp at hcs
    subst hcs
    rw [Tryz.cellsVO] at hi
    have hlm : len ≤ m := by rw [hmm]; split <;> omega
    obtain ⟨l, hll, hq⟩ := exists_list (0, 0) (Q := fun i p => W.cell? (a.add (i * 2)) = some (.int .i64 p.1) ∧ W.cell? (a.add (i * 2 + 1)) = some (.int .i64 p.2) ∧ inI64 p.1 ∧ inI64 p.2) len (fun i hil => by
      obtain ⟨cs', hc, ht⟩ := hi i (by omega)
      obtain ⟨p, rfl, hp1, hp2⟩ := open_vo ht
      obtain ⟨_, hcl, hat⟩ := World.cells?_some hc
      refine ⟨p, ?_, ?_, hp1, hp2⟩
      · have := hat (i := 0) (by omega); simpa [Go.Deep.add_add] using this
      · have := hat (i := 1) (by omega); simpa [Go.Deep.add_add] using this)
    obtain ⟨b, o, sp⟩ := a
    have hs : 0 < len → sp = none := fun hp => by
      have := (hq 0 hp).1
      simpa [Addr.add] using World.cell?_spot this
    refine ⟨l, some ⟨b, o, sp⟩, b, o, cap, by rw [hll], fun hp => by rw [hs (by omega)], by omega, hm, fun i hi' => ?_⟩
    obtain ⟨h1, h2, h3, h4⟩ := hq i (by omega)
    obtain rfl := hs (by omega)
    rw [add_plain] at h1 h2
    exact ⟨h1, by rw [Nat.add_assoc]; exact h2, h3, h4⟩


set_option maxRecDepth 100000 in
theorem open_vos_arg {b0 : Nat} {v : Value} {d : DataW H} {p : List MemPlace} (hv : Value.okWide Tryz.prog W .any b0 22 v) (h : DataW.Trod enc Tryz.prog W base spare held 22 v d p) : ∃ l, EndSl W v l := by
  obtain ⟨fuel, hf⟩ := h
  obtain ⟨a, n, c, rfl⟩ := okWide_slice Tryz.underlying22 hv
  exact open_vosl (by simpa [Value.cells] using hf)
end
end Go.Proofs.YtbddjejpacaglaaGreatDoor
