/- A list of lists of integers that comes in as an argument is opened. -/
import Derived.Test.YtdcgpodjoalokaaRw
namespace Go.Proofs.Ytdcgpodjoalokaa
open Go.ChangeShapes Go.WideShapes Go.ChangeAt Go.RowKit Go.Joins Go.Deep

section
variable {H : Type} {enc : TypeId × Value → H} {W : World} {base : Nat} {spare : Nat → Bool} {held : Bool}
set_option maxRecDepth 100000 in
theorem open_intss {fuel : Nat} {v : Value} {x : DataW H × List MemPlace} (h : DataW.trod enc Try.prog W base spare held fuel 22 [v] = some x) : ∃ l, IntSS W v l := by
  rcases open_slice Try.underlying22 h with ⟨hc, _⟩ | ⟨a, len, cap, m, n, D, Pl, hcs, hb, hl, hm, hmm, hx, hi⟩
  · simp at hc
    subst hc
    exact ⟨[], none, 0, 0, 0, rfl, fun h => absurd h (by simp), by simp, by unfold maxLen; omega, fun i hi => absurd hi (by simp)⟩
  · simp at hcs
    subst hcs
    rw [Try.cells23] at hi
    have hlm : len ≤ m := by rw [hmm]; split <;> omega
    obtain ⟨l, hll, hq⟩ := exists_list ([] : List Int) (Q := fun i p => ∃ x, W.cell? (a.add (i * 1)) = some x ∧ IntSl W x p) len (fun i hil => by
      obtain ⟨cs', hc, ht⟩ := hi i (by omega)
      obtain ⟨_, hcl, hat⟩ := World.cells?_some hc
      match cs', hcl with
      | [x], _ =>
        obtain ⟨p, hp⟩ := open_intsl ht
        refine ⟨p, x, ?_, hp⟩
        have := hat (i := 0) (by omega); simpa [Go.Deep.add_add] using this)
    obtain ⟨b, o, sp⟩ := a
    have hs : 0 < len → sp = none := fun hp => by
      obtain ⟨x, this, _⟩ := hq 0 hp
      simpa [Addr.add] using World.cell?_spot this
    refine ⟨l, some ⟨b, o, sp⟩, b, o, cap, by rw [hll], fun hp => by rw [hs (by omega)], by omega, hm, fun i hi' => ?_⟩
    obtain ⟨x, h1, h2⟩ := hq i (by omega)
    obtain rfl := hs (by omega)
    rw [add_plain, Nat.mul_one] at h1
    exact ⟨x, h1, h2⟩

set_option maxRecDepth 100000 in
theorem open_intss_arg {b0 : Nat} {v : Value} {d : DataW H} {p : List MemPlace} (hv : Value.okWide Try.prog W .any b0 22 v) (h : DataW.Trod enc Try.prog W base spare held 22 v d p) : ∃ l, IntSS W v l := by
  obtain ⟨fuel, hf⟩ := h
  obtain ⟨a, n, c, rfl⟩ := okWide_slice Try.underlying22 hv
  exact open_intss (by simpa [Value.cells] using hf)
end
end Go.Proofs.Ytdcgpodjoalokaa
