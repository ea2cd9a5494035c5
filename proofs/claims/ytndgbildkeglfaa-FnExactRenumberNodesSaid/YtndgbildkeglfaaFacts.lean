/- Two closed facts on the head of the translation, which names all of its roots: its first words are read off without taking the rest apart. -/
import Derived.Test.YtndgbildkeglfaaRow2
namespace Go.Proofs.Ytndgbildkeglfaa
open Go.ChangeShapes Go.WideShapes Go.ChangeAt Go.RowKit Go.Joins Go.Deep

theorem toList_of {s : String} {l : List Char} (h : s = String.ofList l) : s.toList = l := by rw [h, String.toList_ofList]

theorem words_step (r : List Char) : ∀ w : List Char, (∀ c ∈ w, c ≠ Char.ofNat 32) → wordsSigns (w ++ Char.ofNat 32 :: r) = w :: wordsSigns r
  | [], _ => rfl
  | c :: w, h => by
    have ih := words_step r w fun c hc => h c (List.mem_cons_of_mem _ hc)
    have hc : c ≠ Char.ofNat 32 := h c (List.mem_cons_self ..)
    rw [List.cons_append, wordsSigns.eq_3 _ _ hc, ih]

theorem words_at {l : List Char} (n : Nat) (h1 : (l.take n).all (fun c => c != Char.ofNat 32) = true) (h2 : l[n]? = some (Char.ofNat 32)) : wordsSigns l = l.take n :: wordsSigns (l.drop (n + 1)) := by
  have e : l = l.take n ++ Char.ofNat 32 :: l.drop (n + 1) := by
    obtain ⟨hn, hv⟩ := List.getElem?_eq_some_iff.1 h2
    rw [← hv, ← List.drop_eq_getElem_cons hn, List.take_append_drop]
  have hall : ∀ c ∈ l.take n, c ≠ Char.ofNat 32 := fun c hc => by have := List.all_eq_true.1 h1 c hc; simpa using this
  exact (congrArg wordsSigns e).trans (words_step _ _ hall)

/-- The head's first words: the harness, a sum, 'cut'. -/
def HeadIs (s : String) : Prop := ∃ h w c r, wordsSigns s.toList = h :: w :: c :: r ∧ (h == "harness".toList) = true ∧ isSumSigns w = true ∧ c = "cut".toList

theorem make_of {P : Program} (h : HeadIs P.initOrder) : (P.make == some .cut) = true := by
  obtain ⟨h1, w, c, r, e, e1, e2, rfl⟩ := h
  unfold Program.make
  rw [e]
  simp only [behindMainWord, e1, e2, Bool.true_or, Bool.and_self, if_true]
  rfl

theorem strip_cut (r : List (List Char)) : stripLifts liftWords ("cut".toList :: r) = ([], "cut".toList :: r) := by
  simp only [liftWords, stripLifts]
  rfl
theorem liftsFinal_of {P : Program} (h : HeadIs P.initOrder) : P.liftsFinal = false := by
  obtain ⟨h1, w, c, r, e, e1, e2, rfl⟩ := h
  have hl : P.headLifts = [] := by
    unfold Program.headLifts
    rw [e]
    simp only [behindMainWord, e1, e2, Bool.true_or, Bool.and_self, if_true, strip_cut]
    rfl
  unfold Program.liftsFinal
  rw [e, hl]
  simp only [behindMainWord, e1, e2, Bool.true_or, Bool.and_self, if_true]
  rfl
theorem mayEnter_of {P : Program} (h : HeadIs P.initOrder) (g1 : P.laysLater = false) (g2 : P.bearsReflect = false) (g3 : P.doorFits [] = true) : P.mayEnter = true := by
  obtain ⟨h1, w, c, r, e, e1, e2, rfl⟩ := h
  have hs := strip_cut r
  unfold Program.mayEnter
  rw [e]
  simp only [behindMainWord, e1, e2, Bool.true_or, Bool.and_self, if_true, hs, g1, g2, g3]
  rfl

set_option maxHeartbeats 0
set_option maxRecDepth 100000
theorem head_is : HeadIs Try.prog.initOrder := by
  conv => arg 1; whnf
  unfold HeadIs
  rw [toList_of (show _ = String.ofList _ from rfl)]
  exact ⟨_, _, _, _, (words_at 7 (by kernel_rfl) (by kernel_rfl)).trans (congrArg (List.cons _) ((words_at 64 (by kernel_rfl) (by kernel_rfl)).trans (congrArg (List.cons _) (words_at 3 (by kernel_rfl) (by kernel_rfl))))), by kernel_rfl, by kernel_rfl, by kernel_rfl⟩
theorem make_cut : (Try.prog.make == some .cut) = true := make_of head_is
theorem make_row (m : Make) (h : m = .cut) : (Try.prog.make == some m) = true := by rw [h]; exact make_cut
theorem lifted_row (m : Bool) (h : m = false) : (m == Try.prog.liftsFinal) = true := by rw [h, liftsFinal_of head_is]; rfl
theorem lays : Try.prog.laysLater = false := by kernel_rfl
theorem reflects : Try.prog.bearsReflect = false := by kernel_rfl
theorem doors : Try.prog.doorFits [] = true := by kernel_rfl
theorem may_enter : Try.prog.mayEnter = true := mayEnter_of head_is lays reflects doors
end Go.Proofs.Ytndgbildkeglfaa
