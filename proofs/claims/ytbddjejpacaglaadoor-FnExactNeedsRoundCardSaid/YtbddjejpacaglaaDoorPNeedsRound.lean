/- For every input whatsoever, the law FnExactNeedsRound returns true, and its arguments (and the table that it reads) read afterwards as they read before. Condition: the package-level tables that the row lists read as the program's own text lays them; the card ties them to that text (of the pruned copy of the repository that the seat bears). -/
import Derived.Test.YtbddjejpacaglaaDoorVpl
import Derived.Test.YtbddjejpacaglaaDoorVpr
import Derived.Test.YtbddjejpacaglaaDoorWNeedsRound
import Derived.Test.YtbddjejpacaglaaDoorCards
import Derived.Test.YtbddjejpacaglaaDoorTie
import Derived.SevenTiedAt
namespace Go.Proofs.YtbddjejpacaglaaDoor.fnExactNeedsRound
open Go.ChangeShapes Go.WideShapes Go.ChangeAt Go.RowKit Go.Joins Go.Deep

def laidNeedsRound : List (String × DataW Unit) := Rows.fnExactNeedsRoundRow.laid

set_option maxRecDepth 100000 in
theorem lifted (os : Os) (started : os.Started) (H : Type) (enc : TypeId × Value → H) :
    ReturnsInHanded {} Tryd.checked os 5 .any (fun w args => (Rows.fnExactNeedsRoundSpec.pre enc Tryd.prog Tryd.f5 Rows.fnExactNeedsRoundRow.domain false w args ∧ laidMetH Tryd.prog laidNeedsRound w) ∧ sizedMet enc Tryd.prog Tryd.f5 (OpenSpec.ofChange Rows.fnExactNeedsRoundSpec) false w args)
      (Rows.fnExactNeedsRoundSpec.post enc Tryd.prog Tryd.f5 false true false false) := by
  refine returnsInHanded_of_change_and (C := Tryd.checked) (X := fun w _ => laidMetH Tryd.prog laidNeedsRound w) (fun _ _ _ hh h => h.of_heap hh) own started (by kernel_rfl) Tryd.func5
    (ChangeSpec.witness_shaped (enc := enc) (C := Tryd.checked) (os := os) (X := fun w _ => laidMetH Tryd.prog laidNeedsRound w) false (World.laidAll Tryd.prog os laidNeedsRound) #[.slice none 0 0] 8 (World.laidAll_os _ _ _)
      (World.shaped_of_ZipB (by kernel_rfl) (by kernel_rfl)) (by kernel_rfl) (by kernel_rfl) (by kernel_rfl)
      (by rw [MakeChecks.laidMetH_plain _ _ _ (by kernel_rfl)]; exact laidMet_laidAll _ (by kernel_rfl) (by kernel_rfl))) ?_
  intro W base args ds gs before hval0 hW hc _ hL _
  have hval : ∀ (j : Nat) t v, Tryd.f5.params[j]? = some t → args[j]? = some v → Value.okWide Tryd.prog W .any base t v := hval0
  have hW' := hW
  obtain ⟨p, q, hA0, hV, rfl, hfz, hnd⟩ := hW
  have hA : DataW.TrodAll enc Tryd.prog W 0 (fun _ => true) true Tryd.f5.params.toList args.toList ds p := hA0
  rw [Tryd.params5] at hA hval
  obtain ⟨v0, d0, rfl, rfl, h0⟩ := trodAll_one hA
  obtain ⟨rfl, rfl⟩ := trodVars_none hV
  obtain ⟨l, hl⟩ := open_vos_arg (hval 0 22 v0 rfl rfl) h0
  rw [MakeChecks.laidMetH_plain _ _ _ (by kernel_rfl)] at hL
  exact (walk_NeedsRound hl (pw_of_laid hL)).mono fun e W' ⟨he, hx⟩ => ⟨_, he, law_post (by kernel_rfl) rfl rfl ⟨rfl, rfl, rfl⟩ hW' hx⟩

set_option maxHeartbeats 1000000 in
set_option maxRecDepth 100000 in
theorem facts : joinedFacts Tryd.prog 5 Tryd.f5 Rows.fnExactNeedsRoundSpec Rows.fnExactNeedsRoundRow = true := by
  unfold joinedFacts
  simp only [Bool.and_eq_true]
  repeat' apply And.intro
  all_goals first | (with_reducible exact may_enter) | ((with_reducible refine make_row _ ?_); rfl) | ((with_reducible refine lifted_row _ ?_); rfl) | (as_aux_lemma => kernel_rfl)

set_option maxRecDepth 100000 in
theorem said : Rows.FnExactNeedsRoundSaid :=
  OpenClaim.holds_of_wide 5 Tryd.f5 rfl rfl rfl rfl rfl rfl rfl ⟨rfl, rfl, rfl, rfl, rfl⟩ rfl rfl rfl rfl rfl (by kernel_rfl) Tryd.func5 facts
    (of_decide_eq_true (by kernel_rfl)) (by unfold Func.isWrapper; first | (rw [if_pos (by decide +kernel)]; kernel_rfl) | (rw [if_neg (by decide +kernel)]; exact ⟨rfl, rfl⟩))
    (fun os started H enc _ => lifted os started H enc)

set_option maxRecDepth 100000 in
theorem proved : Rows.FnExactNeedsRoundCardSaid :=
  Claim7.holds_tied_plain_at .later [] [.data, .data, .data] true Rows.fnExactNeedsRoundCard.stood.harness false said (fun _ h => by cases h) (by kernel_rfl) (fun _ h => by cases h) fnExactNeedsRound_row_tie rfl ⟨rfl, rfl⟩ (by kernel_rfl) rfl
    (fun f fn hf hfn => by
      obtain rfl : f = 5 := Option.some.inj ((show Tryd.prog.funcNamed "loop.example/g01084/laws.FnExactNeedsRound" = some 5 by kernel_rfl).symm.trans hf) |>.symm
      obtain rfl : fn = Tryd.f5 := (Option.some.inj (Tryd.func5.symm.trans hfn)).symm
      exact ⟨by kernel_rfl, fun j t ht => by
        rw [Tryd.params5] at ht
        have hm : t ∈ [22] := by simpa using Array.mem_of_getElem? ht
        have hall : ([22].all fun u => !Tryd.prog.wantsStandIn u) = true := by kernel_rfl
        exact (show Tryd.prog.wantsStandIn t = false by simpa using List.all_eq_true.1 hall t hm)⟩)
    (by kernel_rfl)
#print axioms proved
end Go.Proofs.YtbddjejpacaglaaDoor.fnExactNeedsRound
