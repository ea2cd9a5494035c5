/- For every input whatsoever, the law FnExactRefutesSize returns true, and its arguments read afterwards as they read before. No condition. -/
import Derived.Test.YtkpdbceglejbnaaRw
import Derived.Test.YtkpdbceglejbnaaWRefutesSize
namespace Go.Proofs.Ytkpdbceglejbnaa.fnExactRefutesSize
open Go.ChangeShapes Go.WideShapes Go.ChangeAt Go.RowKit Go.Joins Go.Deep

set_option maxRecDepth 100000 in
theorem contract (H : Type) (enc : TypeId × Value → H) (W : World) (base : Nat) (args : Array Value) (ds gs : List (DataW H)) (before : List MemPlace)
    (hval : ∀ (j : Nat) t v, Try.f12.params[j]? = some t → args[j]? = some v → Value.okWide Try.prog W .any base t v)
    (hW : DataW.Whole enc Try.prog Try.f12.params.toList Rows.fnExactRefutesSizeSpec.vars false W args.toList ds gs before) :
    Calls Try.prog 12 args W fun e W' => ∃ v, e = .returned v ∧ Rows.fnExactRefutesSizeSpec.post enc Try.prog Try.f12 false true false false W args v W' := by
  have hW' := hW
  obtain ⟨p, q, hA0, hV, rfl, hfz, hnd⟩ := hW
  have hA : DataW.TrodAll enc Try.prog W 0 (fun _ => true) true Try.f12.params.toList args.toList ds p := hA0
  rw [Try.params12] at hA hval
  obtain ⟨v0, v1, v2, d0, d1, d2, p0, p1, p2, rfl, rfl, rfl, h0, h1, h2⟩ := trodAll_three hA
  obtain ⟨rfl, rfl⟩ := trodVars_none hV
  obtain ⟨N0, hN0⟩ := open_net (hval 0 28 v0 rfl rfl) h0
  obtain ⟨N1, hN1⟩ := open_net (hval 1 28 v1 rfl rfl) h1
  obtain ⟨l2, hl2⟩ := open_ints_arg (hval 2 26 v2 rfl rfl) h2
  exact (walk_RefutesSize  hN0 hN1 hl2).mono fun e W' ⟨he, hx⟩ => ⟨_, he, law_post (by kernel_rfl) rfl rfl ⟨rfl, rfl, rfl⟩ hW' hx⟩

set_option maxRecDepth 100000 in
theorem lifted (os : Os) (started : os.Started) (H : Type) (enc : TypeId × Value → H) :
    ReturnsInHanded {} Try.checked os 12 .any (Rows.fnExactRefutesSizeSpec.pre6 enc Try.prog Try.f12 Rows.fnExactRefutesSizeRow.domain false) (Rows.fnExactRefutesSizeSpec.post enc Try.prog Try.f12 false true false false) := by
  refine returnsInHanded_of_change (C := Try.checked) own started (by kernel_rfl) Try.func12
    (ChangeSpec.witness6 (enc := enc) (C := Try.checked) false ⟨#[], #[.agg #[.slice none 0 0, .slice none 0 0, .slice none 0 0], .agg #[.slice none 0 0, .slice none 0 0, .slice none 0 0], .slice none 0 0], []⟩ 8 (by kernel_rfl) (by kernel_rfl) (by kernel_rfl) (by kernel_rfl)) ?_
  intro W base args ds gs before hval hW _ _
  exact contract H enc W base args ds gs before hval hW

set_option maxHeartbeats 1000000 in
set_option maxRecDepth 100000 in
theorem facts : joinedFacts Try.prog 12 Try.f12 Rows.fnExactRefutesSizeSpec Rows.fnExactRefutesSizeRow = true := by
  unfold joinedFacts
  simp only [Bool.and_eq_true]
  repeat' apply And.intro
  all_goals first | (with_reducible exact may_enter) | ((with_reducible refine make_row _ ?_); rfl) | ((with_reducible refine lifted_row _ ?_); rfl) | (as_aux_lemma => kernel_rfl)

set_option maxRecDepth 100000 in
theorem proved : Rows.FnExactRefutesSizeSaid :=
  OpenClaim.holds_of_wide 12 Try.f12 rfl rfl rfl rfl rfl rfl rfl ⟨rfl, rfl, rfl, rfl, rfl⟩ rfl rfl rfl rfl rfl (by kernel_rfl) Try.func12 facts
    (of_decide_eq_true (by kernel_rfl)) (by unfold Func.isWrapper; first | (rw [if_pos (by decide +kernel)]; kernel_rfl) | (rw [if_neg (by decide +kernel)]; exact ⟨rfl, rfl⟩))
    (fun os started H enc _ => lifted os started H enc)

#print axioms proved
end Go.Proofs.Ytkpdbceglejbnaa.fnExactRefutesSize
