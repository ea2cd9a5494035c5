/- For every input whatsoever, the law FnExactPolynomialAt returns true, and its arguments (and the table that it reads) read afterwards as they read before. Condition: the package-level tables that the row lists read as the program's own text lays them; the card ties them to that text (of the pruned copy of the repository that the seat bears). -/
import Derived.Test.YtcjiejbndmnjaaaDoorFacts
import Derived.Test.YtcjiejbndmnjaaaDoorD2
import Derived.Test.YtcjiejbndmnjaaaDoorWPolynomialAt
import Derived.Test.YtcjiejbndmnjaaaDoorCards
import Derived.Test.YtcjiejbndmnjaaaDoorTie
import Derived.SevenTiedAt
namespace Go.Proofs.YtcjiejbndmnjaaaDoor.fnExactPolynomialAt
open Go.ChangeShapes Go.WideShapes Go.ChangeAt Go.RowKit Go.Joins Go.Deep

set_option maxRecDepth 100000 in
theorem lifted (os : Os) (started : os.Started) (H : Type) (enc : TypeId × Value → H) :
    ReturnsInHanded {} Tryd.checked os 6 .any (fun w args => (Rows.fnExactPolynomialAtSpec.pre enc Tryd.prog Tryd.f6 Rows.fnExactPolynomialAtRow.domain false w args ∧ laidMetH Tryd.prog laidP w) ∧ sizedMet enc Tryd.prog Tryd.f6 (OpenSpec.ofChange Rows.fnExactPolynomialAtSpec) false w args)
      (Rows.fnExactPolynomialAtSpec.post enc Tryd.prog Tryd.f6 false true false false) := by
  refine returnsInHanded_of_change_and (C := Tryd.checked) (X := fun w _ => laidMetH Tryd.prog laidP w) (fun _ _ _ hh h => h.of_heap hh) own started (by kernel_rfl) Tryd.func6
    (ChangeSpec.witness_shaped (enc := enc) (C := Tryd.checked) (os := os) (X := fun w _ => laidMetH Tryd.prog laidP w) false (World.laidAll Tryd.prog os laidP) #[.int .i64 0, .slice none 0 0, .int .i64 0] 8 (World.laidAll_os _ _ _)
      (World.shaped_of_ZipB (by kernel_rfl) (by kernel_rfl)) (by kernel_rfl) (by kernel_rfl) (by kernel_rfl)
      (by rw [MakeChecks.laidMetH_plain _ _ _ (by kernel_rfl)]; exact laidMet_laidAll _ (by kernel_rfl) (by kernel_rfl))) ?_
  intro W base args ds gs before hval0 hW hc _ hL _
  have hval : ∀ (j : Nat) t v, Tryd.f6.params[j]? = some t → args[j]? = some v → Value.okWide Tryd.prog W .any base t v := hval0
  have hW' := hW
  obtain ⟨p, q, hA0, hV, rfl, hfz, hnd⟩ := hW
  have hA : DataW.TrodAll enc Tryd.prog W 0 (fun _ => true) true Tryd.f6.params.toList args.toList ds p := hA0
  rw [Tryd.params6] at hA hval
  obtain ⟨v0, v1, v2, d0, d1, d2, p0, p1, p2, rfl, rfl, rfl, h0, h1, h2⟩ := trodAll_three hA
  obtain ⟨rfl, rfl⟩ := pvars_open (tp_of_var (pvar_of_laid hL)) hV
  obtain ⟨n0, rfl, _, _, hb0⟩ := open_int Tryd.underlying3 (hval 0 3 v0 rfl rfl) h0
  obtain ⟨l1, hl1⟩ := open_ints_arg (hval 1 27 v1 rfl rfl) h1
  obtain ⟨n2, rfl, _, _, hb2⟩ := open_int Tryd.underlying3 (hval 2 3 v2 rfl rfl) h2
  exact (walk_PolynomialAt _ _ hl1 (tp_of_var (pvar_of_laid hL))).mono fun e W' ⟨he, hx⟩ => ⟨_, he, law_post_p (by kernel_rfl) rfl rfl (tp_of_var (pvar_of_laid hL)) ⟨rfl, rfl, rfl⟩ hW' hx⟩

set_option maxHeartbeats 1000000 in
set_option maxRecDepth 100000 in
theorem facts : joinedFacts Tryd.prog 6 Tryd.f6 Rows.fnExactPolynomialAtSpec Rows.fnExactPolynomialAtRow = true := by
  unfold joinedFacts
  simp only [Bool.and_eq_true]
  repeat' apply And.intro
  all_goals first | (with_reducible exact may_enter) | ((with_reducible refine make_row _ ?_); rfl) | ((with_reducible refine lifted_row _ ?_); rfl) | (as_aux_lemma => kernel_rfl)

set_option maxRecDepth 100000 in
theorem said : Rows.FnExactPolynomialAtSaid :=
  OpenClaim.holds_of_wide 6 Tryd.f6 rfl rfl rfl rfl rfl rfl rfl ⟨rfl, rfl, rfl, rfl, rfl⟩ rfl rfl rfl rfl rfl (by kernel_rfl) Tryd.func6 facts
    (of_decide_eq_true (by kernel_rfl)) (by unfold Func.isWrapper; first | (rw [if_pos (by decide +kernel)]; kernel_rfl) | (rw [if_neg (by decide +kernel)]; exact ⟨rfl, rfl⟩))
    (fun os started H enc _ => lifted os started H enc)

set_option maxRecDepth 100000 in
theorem proved : Rows.FnExactPolynomialAtCardSaid :=
  Claim7.holds_tied_plain_at .later [] [.data] true Rows.fnExactPolynomialAtCard.stood.harness false said (fun _ h => by cases h) (by kernel_rfl) (fun _ h => by cases h) fnExactPolynomialAt_row_tie rfl ⟨rfl, rfl⟩ (by kernel_rfl) rfl
    (fun f fn hf hfn => by
      obtain rfl : f = 6 := Option.some.inj ((show Tryd.prog.funcNamed "loop.example/g01084/laws.FnExactPolynomialAt" = some 6 by kernel_rfl).symm.trans hf) |>.symm
      obtain rfl : fn = Tryd.f6 := (Option.some.inj (Tryd.func6.symm.trans hfn)).symm
      exact ⟨by kernel_rfl, fun j t ht => by
        rw [Tryd.params6] at ht
        have hm : t ∈ [3, 27, 3] := by simpa using Array.mem_of_getElem? ht
        have hall : ([3, 27, 3].all fun u => !Tryd.prog.wantsStandIn u) = true := by kernel_rfl
        exact (show Tryd.prog.wantsStandIn t = false by simpa using List.all_eq_true.1 hall t hm)⟩)
    (by kernel_rfl)
#print axioms proved
end Go.Proofs.YtcjiejbndmnjaaaDoor.fnExactPolynomialAt
