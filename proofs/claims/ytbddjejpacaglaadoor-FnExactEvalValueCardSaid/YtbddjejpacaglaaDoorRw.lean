/- Several texts in one: Row, Row2, Arg, Facts. -/
import Derived.Test.YtbddjejpacaglaaDoorRows
import Derived.Test.YtbddjejpacaglaaDoorKa
import Derived.ProofKit
import Derived.OpenShut
import Derived.Lib.SmallJoins
import Derived.Deep.Slices
import Derived.Deep.Fields
import Derived.WideKeyArgs
/- How a network that comes in as an argument is opened, and how a law's row is closed where nothing that was there has changed. -/
namespace Go.Proofs.YtbddjejpacaglaaDoor
open Go.ChangeShapes Go.WideShapes Go.ChangeAt Go.RowKit Go.Joins Go.Deep

theorem own : ownKnob Tryd.prog.godebug = none := by kernel_rfl
theorem Tryd.laidOut : laidOutB Tryd.prog = true := by kernel_rfl
theorem Tryd.cells3 : Tryd.prog.cellsOf 3 = 1 := by kernel_rfl
theorem Tryd.cells23 : Tryd.prog.cellsOf 31 = 1 := by kernel_rfl
section
variable {H : Type} {enc : TypeId × Value → H} {P : Program} {W W' : World}

theorem TrodAll_ext (hl : laidOutB P = true) (hx : Ext W W') : ∀ {ts : List TypeId} {vs : List Value} {ds : List (DataW H)} {p : List MemPlace},
    ts.all (fun t => P.readableRec t && decide (t < P.types.size)) = true → DataW.TrodAll enc P W 0 (fun _ => true) true ts vs ds p → (∀ x ∈ p, x.block < W.heap.size) →
    DataW.TrodAll enc P W' 0 (fun b => decide (b < W.heap.size)) true ts vs ds p := by
  intro ts
  induction ts with
  | nil =>
    intro vs ds p _ h _
    cases vs <;> cases ds <;> simp_all [DataW.TrodAll]
  | cons t ts ih =>
    intro vs ds p ht h hlt
    cases vs with
    | nil => simp [DataW.TrodAll] at h
    | cons v vs =>
      cases ds with
      | nil => simp [DataW.TrodAll] at h
      | cons d ds =>
        obtain ⟨p1, p2, h1, h2, rfl⟩ := h
        simp only [List.all_cons, Bool.and_eq_true, decide_eq_true_eq] at ht
        refine ⟨p1, p2, WideElems.Trod_stays hl ht.1.1 ht.1.2 h1 (fun x hx' => hx.sameAt (hlt x (by simp [hx']))) (fun x hx' => by simpa using hlt x (by simp [hx'])), ih ht.2 h2 fun x hx' => hlt x (by simp [hx']), rfl⟩

theorem exists_list {α : Type} (d : α) {Q : Nat → α → Prop} : ∀ n : Nat, (∀ i, i < n → ∃ p, Q i p) → ∃ l : List α, l.length = n ∧ ∀ i, i < n → Q i (l.getD i d)
  | 0, _ => ⟨[], rfl, fun i hi => absurd hi (by omega)⟩
  | n + 1, h => by
    obtain ⟨l, hl, hq⟩ := exists_list d n fun i hi => h i (by omega)
    obtain ⟨p, hp⟩ := h n (by omega)
    refine ⟨l ++ [p], by simp [hl], fun i hi => ?_⟩
    by_cases e : i = n
    · subst e
      have : (l ++ [p]).getD i d = p := by simp [List.getD, hl]
      rw [this]; exact hp
    · have : (l ++ [p]).getD i d = l.getD i d := by simp [List.getD, List.getElem?_append_left (show i < l.length by omega)]
      rw [this]; exact hq i (by omega)

variable {base : Nat} {spare : Nat → Bool} {held : Bool}

theorem open_int1 {fuel : Nat} {c : Value} {x : DataW H × List MemPlace} (h : DataW.trod enc Tryd.prog W base spare held fuel 3 [c] = some x) : ∃ n : Int, c = .int .i64 n ∧ inI64 n := by
  obtain ⟨n, hc, _, hw⟩ := DataW.trod_int Tryd.underlying3 h
  simp at hc
  exact ⟨n, hc, bounds_i64 hw⟩

theorem open_intsl {fuel : Nat} {v : Value} {x : DataW H × List MemPlace} (h : DataW.trod enc Tryd.prog W base spare held fuel 31 [v] = some x) : ∃ l, IntSl W v l := by
  rcases open_slice Tryd.underlying31 h with ⟨hc, _⟩ | ⟨a, len, cap, m, n, D, Pl, hcs, hb, hl, hm, hmm, hx, hi⟩
  · simp at hc
    subst hc
    exact ⟨[], none, 0, 0, 0, rfl, fun h => absurd h (by simp), by simp, by unfold maxLen; omega, fun i hi => absurd hi (by simp)⟩
  · simp at hcs
    subst hcs
    rw [Tryd.cells3] at hi
    have hlm : len ≤ m := by rw [hmm]; split <;> omega
    obtain ⟨l, hll, hq⟩ := exists_list (0 : Int) (Q := fun i p => W.cell? (a.add (i * 1)) = some (.int .i64 p) ∧ inI64 p) len (fun i hil => by
      obtain ⟨cs', hc, ht⟩ := hi i (by omega)
      obtain ⟨_, hcl, hat⟩ := World.cells?_some hc
      match cs', hcl with
      | [x], _ =>
        obtain ⟨p, rfl, hp⟩ := open_int1 ht
        refine ⟨p, ?_, hp⟩
        have := hat (i := 0) (by omega); simpa [Go.Deep.add_add] using this)
    obtain ⟨b, o, sp⟩ := a
    have hs : 0 < len → sp = none := fun hp => by
      have := (hq 0 hp).1
      simpa [Addr.add] using World.cell?_spot this
    refine ⟨l, some ⟨b, o, sp⟩, b, o, cap, by rw [hll], fun hp => by rw [hs (by omega)], by omega, hm, fun i hi' => ?_⟩
    obtain ⟨h1, h2⟩ := hq i (by omega)
    obtain rfl := hs (by omega)
    rw [add_plain, Nat.mul_one] at h1
    exact ⟨_, h1, rfl, h2⟩

end
end Go.Proofs.YtbddjejpacaglaaDoor

/- How a law's row is closed: true comes back, and nothing that was there has changed. -/
namespace Go.Proofs.YtbddjejpacaglaaDoor
open Go.ChangeShapes Go.WideShapes Go.ChangeAt Go.RowKit Go.Joins Go.Deep

section
variable {H : Type} {enc : TypeId × Value → H} {W W' : World}

theorem law_post {f : Func} {s : ChangeSpec} {args : Array Value} {ds gs : List (DataW H)} {before : List MemPlace}
    (hread : f.params.toList.all (fun t => Tryd.prog.readableRec t && decide (t < Tryd.prog.types.size)) = true) (hres : f.resultTypes = #[4]) (hv : s.vars = [])
    (hfn : (s.fn H (ds ++ gs)).results = [.lit (.bool true)] ∧ (s.fn H (ds ++ gs)).args = ds ∧ (s.fn H (ds ++ gs)).vars = [])
    (hW : DataW.Whole enc Tryd.prog f.params.toList s.vars false W args.toList ds gs before) (hx : Ext W W') :
    s.post enc Tryd.prog f false true false false W args (.bool true) W' := by
  have hW' := hW
  obtain ⟨p, q, hA0, hV, hpq, hfz, hnd⟩ := hW
  rw [hv] at hV
  obtain ⟨rfl, rfl⟩ := trodVars_none hV
  have hlt : ∀ x ∈ p, x.block < W.heap.size := fun x hx => hW'.lt x (by rw [hpq]; simp [hx])
  refine ⟨ds, [], before, [], p, [], hW', ?_, ?_, ?_, hx.frame _, fun h => by cases h⟩
  · rw [hres, hfn.1]; exact trodAll_mk1 (shut_bool Tryd.underlying4 _)
  · rw [hfn.2.1]; exact TrodAll_ext Tryd.laidOut hx hread hA0 hlt
  · rw [hfn.2.2, hv]; rfl
end
end Go.Proofs.YtbddjejpacaglaaDoor

/- How a list of integers that comes in as an argument is opened. -/
namespace Go.Proofs.YtbddjejpacaglaaDoor
open Go.ChangeShapes Go.WideShapes Go.ChangeAt Go.RowKit Go.Joins Go.Deep
set_option maxRecDepth 100000 in
theorem open_ints_arg {H : Type} {enc : TypeId × Value → H} {W : World} {base : Nat} {spare : Nat → Bool} {held : Bool} {b0 : Nat} {v : Value} {d : DataW H} {p : List MemPlace} (hv : Value.okWide Tryd.prog W .any b0 31 v) (h : DataW.Trod enc Tryd.prog W base spare held 31 v d p) : ∃ l, IntSl W v l := by
  obtain ⟨fuel, hf⟩ := h
  obtain ⟨a, n, c, rfl⟩ := okWide_slice Tryd.underlying31 hv
  exact open_intsl (by simpa [Value.cells] using hf)
end Go.Proofs.YtbddjejpacaglaaDoor

/- Two closed facts on the head of the translation, which names all of its roots: its first words are read off without taking the rest apart. -/
namespace Go.Proofs.YtbddjejpacaglaaDoor
open Go.ChangeShapes Go.WideShapes Go.ChangeAt Go.RowKit Go.Joins Go.Deep

theorem toList_of {s : String} {l : List Char} (h : s = String.ofList l) : s.toList = l := by rw [h, String.toList_ofList]

theorem words_step (r : List Char) : ∀ w : List Char, (∀ c ∈ w, c ≠ Char.ofNat 32) → wordsSigns (w ++ Char.ofNat 32 :: r) = w :: wordsSigns r
  | [], _ => rfl
  | c :: w, h => by
    have ih := words_step r w fun c hc => h c (List.mem_cons_of_mem _ hc)
    have hc : c ≠ Char.ofNat 32 := h c (List.mem_cons_self ..)
    rw [List.cons_append, wordsSigns.eq_3 _ _ hc, ih]

theorem words_at {l : List Char} (n : Nat) (h1 : (l.take n).all (fun c => c != Char.ofNat 32) = true) (h2 : l[n]? = some (Char.ofNat 32)) : wordsSigns l = l.take n :: wordsSigns (l.drop (n + 1)) := by
  have e : l = l.take n ++ Char.ofNat 32 :: l.drop (n + 1) := by
    obtain ⟨hn, hv⟩ := List.getElem?_eq_some_iff.1 h2
    rw [← hv, ← List.drop_eq_getElem_cons hn, List.take_append_drop]
  have hall : ∀ c ∈ l.take n, c ≠ Char.ofNat 32 := fun c hc => by have := List.all_eq_true.1 h1 c hc; simpa using this
  exact (congrArg wordsSigns e).trans (words_step _ _ hall)

/-- The head's first words: the harness, a sum, 'cut'. -/
def HeadIs (s : String) : Prop := ∃ h w c r, wordsSigns s.toList = h :: w :: c :: r ∧ (h == "harness".toList) = true ∧ isSumSigns w = true ∧ c = "cut".toList

theorem make_of {P : Program} (h : HeadIs P.initOrder) : (P.make == some .cut) = true := by
  obtain ⟨h1, w, c, r, e, e1, e2, rfl⟩ := h
  unfold Program.make
  rw [e]
  simp only [behindMainWord, e1, e2, Bool.true_or, Bool.and_self, if_true]
  rfl

theorem strip_cut (r : List (List Char)) : stripLifts liftWords ("cut".toList :: r) = ([], "cut".toList :: r) := by
  simp only [liftWords, stripLifts]
  rfl
theorem liftsFinal_of {P : Program} (h : HeadIs P.initOrder) : P.liftsFinal = false := by
  obtain ⟨h1, w, c, r, e, e1, e2, rfl⟩ := h
  have hl : P.headLifts = [] := by
    unfold Program.headLifts
    rw [e]
    simp only [behindMainWord, e1, e2, Bool.true_or, Bool.and_self, if_true, strip_cut]
    rfl
  unfold Program.liftsFinal
  rw [e, hl]
  simp only [behindMainWord, e1, e2, Bool.true_or, Bool.and_self, if_true]
  rfl
theorem mayEnter_of {P : Program} (h : HeadIs P.initOrder) (g1 : P.laysLater = false) (g2 : P.bearsReflect = false) (g3 : P.doorFits [] = true) : P.mayEnter = true := by
  obtain ⟨h1, w, c, r, e, e1, e2, rfl⟩ := h
  have hs := strip_cut r
  unfold Program.mayEnter
  rw [e]
  simp only [behindMainWord, e1, e2, Bool.true_or, Bool.and_self, if_true, hs, g1, g2, g3]
  rfl

set_option maxHeartbeats 0
set_option maxRecDepth 100000
theorem head_is : HeadIs Tryd.prog.initOrder := by
  conv => arg 1; whnf
  unfold HeadIs
  rw [toList_of (show _ = String.ofList _ from rfl)]
  exact ⟨_, _, _, _, (words_at 7 (by kernel_rfl) (by kernel_rfl)).trans (congrArg (List.cons _) ((words_at 64 (by kernel_rfl) (by kernel_rfl)).trans (congrArg (List.cons _) (words_at 3 (by kernel_rfl) (by kernel_rfl))))), by kernel_rfl, by kernel_rfl, by kernel_rfl⟩
theorem make_cut : (Tryd.prog.make == some .cut) = true := make_of head_is
theorem make_row (m : Make) (h : m = .cut) : (Tryd.prog.make == some m) = true := by rw [h]; exact make_cut
theorem lifted_row (m : Bool) (h : m = false) : (m == Tryd.prog.liftsFinal) = true := by rw [h, liftsFinal_of head_is]; rfl
theorem lays : Tryd.prog.laysLater = false := by kernel_rfl
theorem reflects : Tryd.prog.bearsReflect = false := by kernel_rfl
theorem doors : Tryd.prog.doorFits [] = true := by kernel_rfl
theorem may_enter : Tryd.prog.mayEnter = true := mayEnter_of head_is lays reflects doors
end Go.Proofs.YtbddjejpacaglaaDoor
