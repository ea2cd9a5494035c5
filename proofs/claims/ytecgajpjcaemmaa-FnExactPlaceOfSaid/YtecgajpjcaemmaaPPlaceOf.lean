/- For every input whatsoever, the law FnExactPlaceOf returns true, and its arguments read afterwards as they read before. No condition. -/
import Derived.Test.YtecgajpjcaemmaaPq
import Derived.ChangeMaps5
namespace Go.Proofs.Ytecgajpjcaemmaa
open Go.ChangeShapes Go.WideShapes Go.ChangeAt Go.RowKit Go.Joins Go.Deep

theorem own : ownKnob Try.prog.godebug = none := by kernel_rfl
theorem Try.laidOut : laidOutB Try.prog = true := by kernel_rfl
section
variable {H : Type} {enc : TypeId × Value → H} {P : Program} {W W' : World}

theorem TrodAll_ext (hl : laidOutB P = true) (hx : Ext W W') : ∀ {ts : List TypeId} {vs : List Value} {ds : List (DataW H)} {p : List MemPlace},
    ts.all (fun t => P.readableRec t && decide (t < P.types.size)) = true → DataW.TrodAll enc P W 0 (fun _ => true) true ts vs ds p → (∀ x ∈ p, x.block < W.heap.size) →
    DataW.TrodAll enc P W' 0 (fun b => decide (b < W.heap.size)) true ts vs ds p := by
  intro ts
  induction ts with
  | nil =>
    intro vs ds p _ h _
    cases vs <;> cases ds <;> simp_all [DataW.TrodAll]
  | cons t ts ih =>
    intro vs ds p ht h hlt
    cases vs with
    | nil => simp [DataW.TrodAll] at h
    | cons v vs =>
      cases ds with
      | nil => simp [DataW.TrodAll] at h
      | cons d ds =>
        obtain ⟨p1, p2, h1, h2, rfl⟩ := h
        simp only [List.all_cons, Bool.and_eq_true, decide_eq_true_eq] at ht
        refine ⟨p1, p2, WideElems.Trod_stays hl ht.1.1 ht.1.2 h1 (fun x hx' => hx.sameAt (hlt x (by simp [hx']))) (fun x hx' => by simpa using hlt x (by simp [hx'])), ih ht.2 h2 fun x hx' => hlt x (by simp [hx']), rfl⟩

end
section
variable {H : Type} {enc : TypeId × Value → H} {W W' : World}

theorem law_post {f : Func} {s : ChangeSpec} {args : Array Value} {ds gs : List (DataW H)} {before : List MemPlace}
    (hread : f.params.toList.all (fun t => Try.prog.readableRec t && decide (t < Try.prog.types.size)) = true) (hres : f.resultTypes = #[4]) (hv : s.vars = [])
    (hfn : (s.fn H (ds ++ gs)).results = [.lit (.bool true)] ∧ (s.fn H (ds ++ gs)).args = ds ∧ (s.fn H (ds ++ gs)).vars = [])
    (hW : DataW.Whole enc Try.prog f.params.toList s.vars false W args.toList ds gs before) (hx : Ext W W') :
    s.post enc Try.prog f false true false false W args (.bool true) W' := by
  have hW' := hW
  obtain ⟨p, q, hA0, hV, hpq, hfz, hnd⟩ := hW
  rw [hv] at hV
  obtain ⟨rfl, rfl⟩ := trodVars_none hV
  have hlt : ∀ x ∈ p, x.block < W.heap.size := fun x hx => hW'.lt x (by rw [hpq]; simp [hx])
  refine ⟨ds, [], before, [], p, [], hW', ?_, ?_, ?_, hx.frame _, fun h => by cases h⟩
  · rw [hres, hfn.1]; exact trodAll_mk1 (shut_bool Try.underlying4 _)
  · rw [hfn.2.1]; exact TrodAll_ext Try.laidOut hx hread hA0 hlt
  · rw [hfn.2.2, hv]; rfl
end
theorem toList_of {s : String} {l : List Char} (h : s = String.ofList l) : s.toList = l := by rw [h, String.toList_ofList]

theorem words_step (r : List Char) : ∀ w : List Char, (∀ c ∈ w, c ≠ Char.ofNat 32) → wordsSigns (w ++ Char.ofNat 32 :: r) = w :: wordsSigns r
  | [], _ => rfl
  | c :: w, h => by
    have ih := words_step r w fun c hc => h c (List.mem_cons_of_mem _ hc)
    have hc : c ≠ Char.ofNat 32 := h c (List.mem_cons_self ..)
    rw [List.cons_append, wordsSigns.eq_3 _ _ hc, ih]

theorem words_at {l : List Char} (n : Nat) (h1 : (l.take n).all (fun c => c != Char.ofNat 32) = true) (h2 : l[n]? = some (Char.ofNat 32)) : wordsSigns l = l.take n :: wordsSigns (l.drop (n + 1)) := by
  have e : l = l.take n ++ Char.ofNat 32 :: l.drop (n + 1) := by
    obtain ⟨hn, hv⟩ := List.getElem?_eq_some_iff.1 h2
    rw [← hv, ← List.drop_eq_getElem_cons hn, List.take_append_drop]
  have hall : ∀ c ∈ l.take n, c ≠ Char.ofNat 32 := fun c hc => by have := List.all_eq_true.1 h1 c hc; simpa using this
  exact (congrArg wordsSigns e).trans (words_step _ _ hall)

/-- The head's first words: the harness, a sum, 'cut'. -/
def HeadIs (s : String) : Prop := ∃ h w c r, wordsSigns s.toList = h :: w :: c :: r ∧ (h == "harness".toList) = true ∧ isSumSigns w = true ∧ c = "cut".toList

theorem make_of {P : Program} (h : HeadIs P.initOrder) : (P.make == some .cut) = true := by
  obtain ⟨h1, w, c, r, e, e1, e2, rfl⟩ := h
  unfold Program.make
  rw [e]
  simp only [behindMainWord, e1, e2, Bool.true_or, Bool.and_self, if_true]
  rfl

theorem strip_cut (r : List (List Char)) : stripLifts liftWords ("cut".toList :: r) = ([], "cut".toList :: r) := by
  simp only [liftWords, stripLifts]
  rfl
theorem liftsFinal_of {P : Program} (h : HeadIs P.initOrder) : P.liftsFinal = false := by
  obtain ⟨h1, w, c, r, e, e1, e2, rfl⟩ := h
  have hl : P.headLifts = [] := by
    unfold Program.headLifts
    rw [e]
    simp only [behindMainWord, e1, e2, Bool.true_or, Bool.and_self, if_true, strip_cut]
    rfl
  unfold Program.liftsFinal
  rw [e, hl]
  simp only [behindMainWord, e1, e2, Bool.true_or, Bool.and_self, if_true]
  rfl
theorem mayEnter_of {P : Program} (h : HeadIs P.initOrder) (g1 : P.laysLater = false) (g2 : P.bearsReflect = false) (g3 : P.doorFits [] = true) : P.mayEnter = true := by
  obtain ⟨h1, w, c, r, e, e1, e2, rfl⟩ := h
  have hs := strip_cut r
  unfold Program.mayEnter
  rw [e]
  simp only [behindMainWord, e1, e2, Bool.true_or, Bool.and_self, if_true, hs, g1, g2, g3]
  rfl

set_option maxHeartbeats 0
set_option maxRecDepth 100000
theorem head_is : HeadIs Try.prog.initOrder := by
  conv => arg 1; whnf
  unfold HeadIs
  rw [toList_of (show _ = String.ofList _ from rfl)]
  exact ⟨_, _, _, _, (words_at 7 (by kernel_rfl) (by kernel_rfl)).trans (congrArg (List.cons _) ((words_at 64 (by kernel_rfl) (by kernel_rfl)).trans (congrArg (List.cons _) (words_at 3 (by kernel_rfl) (by kernel_rfl))))), by kernel_rfl, by kernel_rfl, by kernel_rfl⟩
theorem make_cut : (Try.prog.make == some .cut) = true := make_of head_is
theorem make_row (m : Make) (h : m = .cut) : (Try.prog.make == some m) = true := by rw [h]; exact make_cut
theorem lifted_row (m : Bool) (h : m = false) : (m == Try.prog.liftsFinal) = true := by rw [h, liftsFinal_of head_is]; rfl
theorem lays : Try.prog.laysLater = false := by kernel_rfl
theorem reflects : Try.prog.bearsReflect = false := by kernel_rfl
theorem doors : Try.prog.doorFits [] = true := by kernel_rfl
theorem may_enter : Try.prog.mayEnter = true := mayEnter_of head_is lays reflects doors
end Go.Proofs.Ytecgajpjcaemmaa
namespace Go.Proofs.Ytecgajpjcaemmaa.fnExactPlaceOf
open Go.ChangeShapes Go.WideShapes Go.ChangeAt Go.RowKit Go.Joins Go.Deep

set_option maxRecDepth 100000 in
theorem contract (H : Type) (enc : TypeId × Value → H) (W : World) (base : Nat) (args : Array Value) (ds gs : List (DataW H)) (before : List MemPlace)
    (hval : ∀ (j : Nat) t v, Try.f3.params[j]? = some t → args[j]? = some v → Value.okWide Try.prog W .any base t v)
    (hW : DataW.Whole enc Try.prog Try.f3.params.toList Rows.fnExactPlaceOfSpec.vars false W args.toList ds gs before) :
    Calls Try.prog 3 args W fun e W' => ∃ v, e = .returned v ∧ Rows.fnExactPlaceOfSpec.post enc Try.prog Try.f3 false true false false W args v W' := by
  have hW' := hW
  obtain ⟨p, q, hA0, hV, rfl, hfz, hnd⟩ := hW
  have hA : DataW.TrodAll enc Try.prog W 0 (fun _ => true) true Try.f3.params.toList args.toList ds p := hA0
  rw [Try.params3] at hA hval
  obtain ⟨v0, v1, d0, d1, p0, p1, rfl, rfl, rfl, h0, h1⟩ := trodAll_two hA
  obtain ⟨rfl, rfl⟩ := trodVars_none hV
  obtain ⟨s0, rfl, _, _, hs0⟩ := Go.ChangeMaps.open_string Try.underlying9 (hval 0 9 v0 rfl rfl) h0
  obtain ⟨n1, rfl, _, _, hb1⟩ := open_int Try.underlying3 (hval 1 3 v1 rfl rfl) h1
  exact (walk_PlaceOf s0 n1 hs0 _).mono fun e W' ⟨he, hx⟩ => ⟨_, he, law_post (by kernel_rfl) rfl rfl ⟨rfl, rfl, rfl⟩ hW' hx⟩

set_option maxRecDepth 100000 in
theorem lifted (os : Os) (started : os.Started) (H : Type) (enc : TypeId × Value → H) :
    ReturnsInHanded {} Try.checked os 3 .any (Rows.fnExactPlaceOfSpec.pre6 enc Try.prog Try.f3 Rows.fnExactPlaceOfRow.domain false) (Rows.fnExactPlaceOfSpec.post enc Try.prog Try.f3 false true false false) := by
  refine returnsInHanded_of_change (C := Try.checked) own started (by kernel_rfl) Try.func3
    (ChangeSpec.witness6 (enc := enc) (C := Try.checked) false ⟨#[], #[.string ByteArray.empty, .int .i64 0], []⟩ 8 (by kernel_rfl) (by kernel_rfl) (by kernel_rfl) (by kernel_rfl)) ?_
  intro W base args ds gs before hval hW _ _
  exact contract H enc W base args ds gs before hval hW

set_option maxHeartbeats 1000000 in
set_option maxRecDepth 100000 in
theorem facts : joinedFacts Try.prog 3 Try.f3 Rows.fnExactPlaceOfSpec Rows.fnExactPlaceOfRow = true := by
  unfold joinedFacts
  simp only [Bool.and_eq_true]
  repeat' apply And.intro
  all_goals first | (with_reducible exact may_enter) | ((with_reducible refine make_row _ ?_); rfl) | ((with_reducible refine lifted_row _ ?_); rfl) | (as_aux_lemma => kernel_rfl)

set_option maxRecDepth 100000 in
theorem proved : Rows.FnExactPlaceOfSaid :=
  OpenClaim.holds_of_wide 3 Try.f3 rfl rfl rfl rfl rfl rfl rfl ⟨rfl, rfl, rfl, rfl, rfl⟩ rfl rfl rfl rfl rfl (by kernel_rfl) Try.func3 facts
    (of_decide_eq_true (by kernel_rfl)) (by unfold Func.isWrapper; first | (rw [if_pos (by decide +kernel)]; kernel_rfl) | (rw [if_neg (by decide +kernel)]; exact ⟨rfl, rfl⟩))
    (fun os started H enc _ => lifted os started H enc)

#print axioms proved
end Go.Proofs.Ytecgajpjcaemmaa.fnExactPlaceOf
