/- Put into a sorted list of numbers: the plain mathematics and the model's contract. -/
import Derived.Test.YtdcgpodjoalokaaMea
import Derived.Test.YtdcgpodjoalokaaMz
namespace Go.Proofs.Ytdcgpodjoalokaa
open Go.RowKit

def putL : List Int → Int → List Int
  | [], x => [x]
  | y :: r, x => if y < x then y :: putL r x else if y = x then y :: r else x :: y :: r
theorem mem_putL {x z : Int} : ∀ {l : List Int}, z ∈ putL l x ↔ z ∈ l ∨ z = x
  | [] => by simp [putL]
  | y :: r => by
    have ih := mem_putL (x := x) (z := z) (l := r)
    simp only [putL]
    split
    · simp only [List.mem_cons, ih]
      constructor
      · rintro (h | h | h) <;> simp [h]
      · rintro ((h | h) | h) <;> simp [h]
    · split
      · rename_i h; subst h
        constructor
        · intro h; exact .inl h
        · rintro (h | h)
          · exact h
          · simp [h]
      · simp only [List.mem_cons]
        constructor
        · rintro (h | h | h) <;> simp [h]
        · rintro ((h | h) | h) <;> simp [h]
theorem putL_incr {x : Int} : ∀ {l : List Int}, l.Pairwise (· < ·) → (putL l x).Pairwise (· < ·)
  | [], _ => by simp [putL]
  | y :: r, h => by
    obtain ⟨h1, h2⟩ := List.pairwise_cons.1 h
    simp only [putL]
    split
    · rename_i hy
      refine List.pairwise_cons.2 ⟨fun z hz => ?_, putL_incr h2⟩
      rcases mem_putL.1 hz with hz | hz
      · exact h1 z hz
      · subst hz; exact hy
    · split
      · exact h
      · rename_i hy hne
        refine List.pairwise_cons.2 ⟨fun z hz => ?_, h⟩
        rcases List.mem_cons.1 hz with hz | hz
        · subst hz; omega
        · have := h1 z hz; omega
theorem gi_cons0 (y : Int) (r : List Int) : gi (y :: r) 0 = y := rfl
theorem gi_consS (y : Int) (r : List Int) (i : Nat) : gi (y :: r) (i + 1) = gi r i := by simp [gi, List.getD]
/-- At the place where the numbers are no longer less. -/
theorem putL_at {x : Int} : ∀ {l : List Int} {k : Nat}, k ≤ l.length → (∀ i, i < k → gi l i < x) →
    (k < l.length → gi l k = x → putL l x = l) ∧ ((k < l.length → x < gi l k) → putL l x = l.take k ++ [x] ++ l.drop k)
  | [], k, hk, _ => by
    obtain rfl : k = 0 := by simpa using hk
    exact ⟨fun h => absurd h (by simp), fun _ => by simp [putL]⟩
  | y :: r, 0, _, _ => by
    refine ⟨fun _ h => ?_, fun h => ?_⟩
    · rw [gi_cons0] at h
      subst h
      simp [putL]
    · have := h (by simp)
      rw [gi_cons0] at this
      simp only [putL]
      rw [if_neg (by omega), if_neg (by omega)]
      simp
  | y :: r, k + 1, hk, h => by
    have h0 := h 0 (by omega)
    rw [gi_cons0] at h0
    obtain ⟨i1, i2⟩ := putL_at (x := x) (l := r) (k := k) (by simpa using hk) fun i hi => by
      have := h (i + 1) (by omega)
      rwa [gi_consS] at this
    simp only [putL, if_pos h0, gi_consS]
    refine ⟨fun h1 h2 => by rw [i1 (by simpa using h1) h2], fun h1 => ?_⟩
    rw [i2 fun h2 => h1 (by simpa using h2)]
    simp
theorem length_putL (x : Int) : ∀ l : List Int, (putL l x).length ≤ l.length + 1
  | [] => by simp [putL]
  | y :: r => by
    have := length_putL x r
    simp only [putL]
    split
    · simp; omega
    · split <;> simp
/-- A part of a list that reads as numbers is a source. -/
theorem src_part {w : World} {b o n c : Nat} {l : List Int} (hc : ∀ i, i < l.length → w.cell? ⟨b, o + i, none⟩ = some (.int .i64 (gi l i))) {k : Nat} (hk : k + n ≤ l.length) (p : List Int) (hp : p.length = n) (hpi : ∀ i, i < n → gi p i = gi l (k + i)) (hcn : n ≤ c) : SrcAt w (some ⟨b, o + k, none⟩) n 1 (intCells p) := by
  subst hp
  refine ⟨by simp [intCells], by simp, fun ad e j u hu => ?_, fun u hu => ?_⟩
  · obtain rfl := Option.some.inj e
    have hj : j < p.length := by have := (List.getElem?_eq_some_iff.1 hu).1; simpa [intCells] using this
    have hu2 : u = .int .i64 (gi p j) := by simpa [intCells, gi, List.getD, hj] using hu.symm
    have hadd : (⟨b, o + k, none⟩ : Addr).add j = ⟨b, o + k + j, none⟩ := by unfold Addr.add; split <;> simp_all
    rw [hadd, hu2, hpi j hj, show o + k + j = o + (k + j) by omega]
    exact hc _ (by omega)
  · obtain ⟨x, -, rfl⟩ := List.mem_map.1 hu
    rfl
end Go.Proofs.Ytdcgpodjoalokaa
