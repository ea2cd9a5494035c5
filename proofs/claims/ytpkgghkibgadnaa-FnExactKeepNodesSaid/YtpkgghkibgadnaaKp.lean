/- The model's choice of the ports that are kept: which ones have been decided so far. -/
import Derived.Test.YtpkgghkibgadnaaKn
import Derived.Test.YtpkgghkibgadnaaRz
import Derived.StillTailTactics
namespace Go.Proofs.Ytpkgghkibgadnaa
open Go.RowKit

/-- A port's mark is written. -/
theorem KeepAt.put {w : World} {N : Net} {B : Nat} {v : Value} {q : Nat → Nat} {f : Nat → Nat → Bool} (h : KeepAt w N B v q f) {u i : Nat} (hu : u < N.ends.length) (b : Bool) :
    KeepAt (w.setCell ⟨q u, i, none⟩ (.bool b)) N B v q (fun u' i' => if u' = u ∧ i' = i then b else f u' i') := by
  refine ⟨owns_store (p := ⟨q u, i, none⟩) h.own (h.rows u hu) (by decide), fun u' hu' => ?_, h.apart⟩
  by_cases e : u' = u
  · subst e
    refine ((h.rows u' hu').set i (.bool b)).congr fun i' _ => ?_
    by_cases e2 : i' = i
    · subst e2; simp
    · simp [e2]
  · refine (row_far' (h.rows u' hu') (h.apart u' u hu' hu e)).congr fun i' _ => ?_
    simp [e]
theorem KeepAt.congr {w : World} {N : Net} {B : Nat} {v : Value} {q : Nat → Nat} {f g : Nat → Nat → Bool} (h : KeepAt w N B v q f) (he : ∀ u i, u < N.ends.length → i < (gr N.ends u).length → f u i = g u i) : KeepAt w N B v q g :=
  ⟨h.own, fun u hu => (h.rows u hu).congr fun i hi => by rw [he u i hu hi], h.apart⟩
/-- The marks when the nodes ahead of v, and the first j ports of v, have been looked at. -/
noncomputable def stTo (N : Net) (l : List Int) (v j u i : Nat) : Bool := if u < v ∨ (u = v ∧ i < j) then stK N l u i else true
theorem stTo_start (N : Net) (l : List Int) (u i : Nat) : stTo N l 0 0 u i = true := by
  unfold stTo; rw [if_neg (by omega)]
theorem stTo_step (N : Net) (l : List Int) (v j u i : Nat) : (if u = v ∧ i = j then stK N l v j else stTo N l v j u i) = stTo N l v (j + 1) u i := by
  unfold stTo
  by_cases e : u = v ∧ i = j
  · obtain ⟨rfl, rfl⟩ := e
    rw [if_pos ⟨rfl, rfl⟩, if_pos (.inr ⟨rfl, by omega⟩)]
  · rw [if_neg e]
    by_cases h : u < v ∨ (u = v ∧ i < j)
    · rw [if_pos h, if_pos (by rcases h with h | h; exact .inl h; exact .inr ⟨h.1, by omega⟩)]
    · rw [if_neg h, if_neg (by rintro (k | ⟨k1, k2⟩); exact h (.inl k); exact h (.inr ⟨k1, by omega⟩))]
theorem stTo_row (N : Net) (l : List Int) (v : Nat) {u i : Nat} (hi : i < (gr N.ends u).length) : stTo N l v (gr N.ends v).length u i = stTo N l (v + 1) 0 u i := by
  unfold stTo
  by_cases h : u < v ∨ (u = v ∧ i < (gr N.ends v).length)
  · rw [if_pos h, if_pos (by rcases h with h | h; exact .inl (by omega); exact .inl (by omega))]
  · rw [if_neg h, if_neg (by
      rintro (k | ⟨k1, k2⟩)
      · by_cases e : u = v
        · subst e; exact h (.inr ⟨rfl, hi⟩)
        · exact h (.inl (by omega))
      · omega)]
theorem stTo_end (N : Net) (l : List Int) {u i : Nat} (hu : u < N.ends.length) : stTo N l N.ends.length 0 u i = stK N l u i := by
  unfold stTo; rw [if_pos (.inl hu)]
theorem hasStill {w : World} {v : Value} {l : List Int} {x : Int} {b : Bool} (h : IntSl w v l) (hb : dec (Has l x) = b) : Calls Try.prog 55 #[v, .int .i64 x] w fun e w' => e = .returned (.bool b) ∧ w' = w :=
  (l1Has_any x h).mono fun e w' ⟨he, hw⟩ => ⟨by rw [he, hb], hw.symm⟩
end Go.Proofs.Ytpkgghkibgadnaa
