/- Several texts in one: Row, Row2, Arg, Facts. -/
import Derived.Test.YtkpdbceglejbnaaRows
import Derived.Test.YtkpdbceglejbnaaKa
import Derived.ProofKit
import Derived.OpenShut
import Derived.Lib.SmallJoins
import Derived.Deep.Slices
import Derived.Deep.Fields
import Derived.WideKeyArgs
/- How a network that comes in as an argument is opened, and how a law's row is closed where nothing that was there has changed. -/
namespace Go.Proofs.Ytkpdbceglejbnaa
open Go.ChangeShapes Go.WideShapes Go.ChangeAt Go.RowKit Go.Joins Go.Deep

theorem own : ownKnob Try.prog.godebug = none := by kernel_rfl
theorem Try.laidOut : laidOutB Try.prog = true := by kernel_rfl
theorem Try.cells3 : Try.prog.cellsOf 3 = 1 := by kernel_rfl
theorem Try.cells23 : Try.prog.cellsOf 26 = 1 := by kernel_rfl
theorem Try.cells96 : Try.prog.cellsOf 126 = 1 := by kernel_rfl
theorem Try.cells103 : Try.prog.cellsOf 164 = 2 := by kernel_rfl
theorem Try.cells25 : Try.prog.cellsOf 28 = 3 := by kernel_rfl

section
variable {H : Type} {enc : TypeId × Value → H} {P : Program} {W W' : World}

theorem TrodAll_ext (hl : laidOutB P = true) (hx : Ext W W') : ∀ {ts : List TypeId} {vs : List Value} {ds : List (DataW H)} {p : List MemPlace},
    ts.all (fun t => P.readableRec t && decide (t < P.types.size)) = true → DataW.TrodAll enc P W 0 (fun _ => true) true ts vs ds p → (∀ x ∈ p, x.block < W.heap.size) →
    DataW.TrodAll enc P W' 0 (fun b => decide (b < W.heap.size)) true ts vs ds p := by
  intro ts
  induction ts with
  | nil =>
    intro vs ds p _ h _
    cases vs <;> cases ds <;> simp_all [DataW.TrodAll]
  | cons t ts ih =>
    intro vs ds p ht h hlt
    cases vs with
    | nil => simp [DataW.TrodAll] at h
    | cons v vs =>
      cases ds with
      | nil => simp [DataW.TrodAll] at h
      | cons d ds =>
        obtain ⟨p1, p2, h1, h2, rfl⟩ := h
        simp only [List.all_cons, Bool.and_eq_true, decide_eq_true_eq] at ht
        refine ⟨p1, p2, WideElems.Trod_stays hl ht.1.1 ht.1.2 h1 (fun x hx' => hx.sameAt (hlt x (by simp [hx']))) (fun x hx' => by simpa using hlt x (by simp [hx'])), ih ht.2 h2 fun x hx' => hlt x (by simp [hx']), rfl⟩

theorem exists_list {α : Type} (d : α) {Q : Nat → α → Prop} : ∀ n : Nat, (∀ i, i < n → ∃ p, Q i p) → ∃ l : List α, l.length = n ∧ ∀ i, i < n → Q i (l.getD i d)
  | 0, _ => ⟨[], rfl, fun i hi => absurd hi (by omega)⟩
  | n + 1, h => by
    obtain ⟨l, hl, hq⟩ := exists_list d n fun i hi => h i (by omega)
    obtain ⟨p, hp⟩ := h n (by omega)
    refine ⟨l ++ [p], by simp [hl], fun i hi => ?_⟩
    by_cases e : i = n
    · subst e
      have : (l ++ [p]).getD i d = p := by simp [List.getD, hl]
      rw [this]; exact hp
    · have : (l ++ [p]).getD i d = l.getD i d := by simp [List.getD, List.getElem?_append_left (show i < l.length by omega)]
      rw [this]; exact hq i (by omega)

variable {base : Nat} {spare : Nat → Bool} {held : Bool}

theorem open_int1 {fuel : Nat} {c : Value} {x : DataW H × List MemPlace} (h : DataW.trod enc Try.prog W base spare held fuel 3 [c] = some x) : ∃ n : Int, c = .int .i64 n ∧ inI64 n := by
  obtain ⟨n, hc, _, hw⟩ := DataW.trod_int Try.underlying3 h
  simp at hc
  exact ⟨n, hc, bounds_i64 hw⟩

set_option maxRecDepth 100000 in
theorem open_end {fuel : Nat} {cs : List Value} {x : DataW H × List MemPlace} (h : DataW.trod enc Try.prog W base spare held fuel 164 cs = some x) :
    ∃ p : Int × Int, cs = [.int .i64 p.1, .int .i64 p.2] ∧ inI64 p.1 ∧ inI64 p.2 := by
  obtain ⟨ys, n, _, _, hlen, hyl, hf⟩ := DataW.trod_struct Try.underlying164 h
  rw [Try.cells103] at hlen
  match cs, hlen with
  | [c0, c1], _ =>
    have h0 : DataW.trod enc Try.prog W base spare held n 3 (([c0, c1].drop 0).take (Try.prog.cellsOf 3)) = ys[0]? := hf 0 _ rfl
    have h1 : DataW.trod enc Try.prog W base spare held n 3 (([c0, c1].drop 1).take (Try.prog.cellsOf 3)) = ys[1]? := hf 1 _ rfl
    rw [Try.cells3] at h0 h1
    have y0 : ys[0]? = some (ys[0]'(by simp at hyl; omega)) := List.getElem?_eq_getElem _
    have y1 : ys[1]? = some (ys[1]'(by simp at hyl; omega)) := List.getElem?_eq_getElem _
    rw [y0] at h0
    rw [y1] at h1
    obtain ⟨x, rfl, hx⟩ := open_int1 h0
    obtain ⟨y, rfl, hy⟩ := open_int1 h1
    exact ⟨(x, y), rfl, hx, hy⟩

theorem open_endsl {fuel : Nat} {v : Value} {x : DataW H × List MemPlace} (h : DataW.trod enc Try.prog W base spare held fuel 126 [v] = some x) : ∃ l, EndSl W v l := by
  rcases open_slice Try.underlying126 h with ⟨hc, _⟩ | ⟨a, len, cap, m, n, D, Pl, hcs, hb, hl, hm, hmm, hx, hi⟩
  · simp at hc
    subst hc
    exact ⟨[], none, 0, 0, 0, rfl, fun h => absurd h (by simp), by simp, by unfold maxLen; omega, fun i hi => absurd hi (by simp)⟩
  · simp at hcs
    subst hcs
    rw [Try.cells103] at hi
    have hlm : len ≤ m := by rw [hmm]; split <;> omega
    obtain ⟨l, hll, hq⟩ := exists_list (0, 0) (Q := fun i p => W.cell? (a.add (i * 2)) = some (.int .i64 p.1) ∧ W.cell? (a.add (i * 2 + 1)) = some (.int .i64 p.2) ∧ inI64 p.1 ∧ inI64 p.2) len (fun i hil => by
      obtain ⟨cs', hc, ht⟩ := hi i (by omega)
      obtain ⟨p, rfl, hp1, hp2⟩ := open_end ht
      obtain ⟨_, hcl, hat⟩ := World.cells?_some hc
      refine ⟨p, ?_, ?_, hp1, hp2⟩
      · have := hat (i := 0) (by omega); simpa [Go.Deep.add_add] using this
      · have := hat (i := 1) (by omega); simpa [Go.Deep.add_add] using this)
    obtain ⟨b, o, sp⟩ := a
    have hs : 0 < len → sp = none := fun hp => by
      have := (hq 0 hp).1
      simpa [Addr.add] using World.cell?_spot this
    refine ⟨l, some ⟨b, o, sp⟩, b, o, cap, by rw [hll], fun hp => by rw [hs (by omega)], by omega, hm, fun i hi' => ?_⟩
    obtain ⟨h1, h2, h3, h4⟩ := hq i (by omega)
    obtain rfl := hs (by omega)
    rw [add_plain] at h1 h2
    exact ⟨h1, by rw [Nat.add_assoc]; exact h2, h3, h4⟩

theorem open_endss {fuel : Nat} {v : Value} {x : DataW H × List MemPlace} (h : DataW.trod enc Try.prog W base spare held fuel 25 [v] = some x) : ∃ l, EndSS W v l := by
  rcases open_slice Try.underlying25 h with ⟨hc, _⟩ | ⟨a, len, cap, m, n, D, Pl, hcs, hb, hl, hm, hmm, hx, hi⟩
  · simp at hc
    subst hc
    exact ⟨[], none, 0, 0, 0, rfl, fun h => absurd h (by simp), by simp, by unfold maxLen; omega, fun i hi => absurd hi (by simp)⟩
  · simp at hcs
    subst hcs
    rw [Try.cells96] at hi
    have hlm : len ≤ m := by rw [hmm]; split <;> omega
    obtain ⟨l, hll, hq⟩ := exists_list ([] : List (Int × Int)) (Q := fun i p => ∃ x, W.cell? (a.add (i * 1)) = some x ∧ EndSl W x p) len (fun i hil => by
      obtain ⟨cs', hc, ht⟩ := hi i (by omega)
      obtain ⟨_, hcl, hat⟩ := World.cells?_some hc
      match cs', hcl with
      | [x], _ =>
        obtain ⟨p, hp⟩ := open_endsl ht
        refine ⟨p, x, ?_, hp⟩
        have := hat (i := 0) (by omega); simpa [Go.Deep.add_add] using this)
    obtain ⟨b, o, sp⟩ := a
    have hs : 0 < len → sp = none := fun hp => by
      obtain ⟨x, this, _⟩ := hq 0 hp
      simpa [Addr.add] using World.cell?_spot this
    refine ⟨l, some ⟨b, o, sp⟩, b, o, cap, by rw [hll], fun hp => by rw [hs (by omega)], by omega, hm, fun i hi' => ?_⟩
    obtain ⟨x, h1, h2⟩ := hq i (by omega)
    obtain rfl := hs (by omega)
    rw [add_plain, Nat.mul_one] at h1
    exact ⟨x, h1, h2⟩

theorem open_intsl {fuel : Nat} {v : Value} {x : DataW H × List MemPlace} (h : DataW.trod enc Try.prog W base spare held fuel 26 [v] = some x) : ∃ l, IntSl W v l := by
  rcases open_slice Try.underlying26 h with ⟨hc, _⟩ | ⟨a, len, cap, m, n, D, Pl, hcs, hb, hl, hm, hmm, hx, hi⟩
  · simp at hc
    subst hc
    exact ⟨[], none, 0, 0, 0, rfl, fun h => absurd h (by simp), by simp, by unfold maxLen; omega, fun i hi => absurd hi (by simp)⟩
  · simp at hcs
    subst hcs
    rw [Try.cells3] at hi
    have hlm : len ≤ m := by rw [hmm]; split <;> omega
    obtain ⟨l, hll, hq⟩ := exists_list (0 : Int) (Q := fun i p => W.cell? (a.add (i * 1)) = some (.int .i64 p) ∧ inI64 p) len (fun i hil => by
      obtain ⟨cs', hc, ht⟩ := hi i (by omega)
      obtain ⟨_, hcl, hat⟩ := World.cells?_some hc
      match cs', hcl with
      | [x], _ =>
        obtain ⟨p, rfl, hp⟩ := open_int1 ht
        refine ⟨p, ?_, hp⟩
        have := hat (i := 0) (by omega); simpa [Go.Deep.add_add] using this)
    obtain ⟨b, o, sp⟩ := a
    have hs : 0 < len → sp = none := fun hp => by
      have := (hq 0 hp).1
      simpa [Addr.add] using World.cell?_spot this
    refine ⟨l, some ⟨b, o, sp⟩, b, o, cap, by rw [hll], fun hp => by rw [hs (by omega)], by omega, hm, fun i hi' => ?_⟩
    obtain ⟨h1, h2⟩ := hq i (by omega)
    obtain rfl := hs (by omega)
    rw [add_plain, Nat.mul_one] at h1
    exact ⟨_, h1, rfl, h2⟩

set_option maxRecDepth 100000 in
theorem open_net {b0 : Nat} {v : Value} {d : DataW H} {p : List MemPlace} (hv : Value.okWide Try.prog W .any b0 28 v) (h : DataW.Trod enc Try.prog W base spare held 28 v d p) : ∃ N, NetAt W v N := by
  obtain ⟨v0, v1, v2, y0, y1, y2, n, rfl, _, _, h0, h1, h2⟩ := open_agg3 Try.underlying28 (by kernel_rfl) Try.cells25 hv h
  obtain ⟨l0, e0⟩ := open_endss (fuel := n) h0
  obtain ⟨l1, e1⟩ := open_intsl (fuel := n) h1
  obtain ⟨l2, e2⟩ := open_intsl (fuel := n) h2
  exact ⟨⟨l0, l1, l2⟩, v0, v1, v2, rfl, e0, e1, e2⟩
end
end Go.Proofs.Ytkpdbceglejbnaa

/- How a law's row is closed: true comes back, and nothing that was there has changed. -/
namespace Go.Proofs.Ytkpdbceglejbnaa
open Go.ChangeShapes Go.WideShapes Go.ChangeAt Go.RowKit Go.Joins Go.Deep

section
variable {H : Type} {enc : TypeId × Value → H} {W W' : World}

theorem law_post {f : Func} {s : ChangeSpec} {args : Array Value} {ds gs : List (DataW H)} {before : List MemPlace}
    (hread : f.params.toList.all (fun t => Try.prog.readableRec t && decide (t < Try.prog.types.size)) = true) (hres : f.resultTypes = #[4]) (hv : s.vars = [])
    (hfn : (s.fn H (ds ++ gs)).results = [.lit (.bool true)] ∧ (s.fn H (ds ++ gs)).args = ds ∧ (s.fn H (ds ++ gs)).vars = [])
    (hW : DataW.Whole enc Try.prog f.params.toList s.vars false W args.toList ds gs before) (hx : Ext W W') :
    s.post enc Try.prog f false true false false W args (.bool true) W' := by
  have hW' := hW
  obtain ⟨p, q, hA0, hV, hpq, hfz, hnd⟩ := hW
  rw [hv] at hV
  obtain ⟨rfl, rfl⟩ := trodVars_none hV
  have hlt : ∀ x ∈ p, x.block < W.heap.size := fun x hx => hW'.lt x (by rw [hpq]; simp [hx])
  refine ⟨ds, [], before, [], p, [], hW', ?_, ?_, ?_, hx.frame _, fun h => by cases h⟩
  · rw [hres, hfn.1]; exact trodAll_mk1 (shut_bool Try.underlying4 _)
  · rw [hfn.2.1]; exact TrodAll_ext Try.laidOut hx hread hA0 hlt
  · rw [hfn.2.2, hv]; rfl
end
end Go.Proofs.Ytkpdbceglejbnaa

/- How a list of integers that comes in as an argument is opened. -/
namespace Go.Proofs.Ytkpdbceglejbnaa
open Go.ChangeShapes Go.WideShapes Go.ChangeAt Go.RowKit Go.Joins Go.Deep
set_option maxRecDepth 100000 in
theorem open_ints_arg {H : Type} {enc : TypeId × Value → H} {W : World} {base : Nat} {spare : Nat → Bool} {held : Bool} {b0 : Nat} {v : Value} {d : DataW H} {p : List MemPlace} (hv : Value.okWide Try.prog W .any b0 26 v) (h : DataW.Trod enc Try.prog W base spare held 26 v d p) : ∃ l, IntSl W v l := by
  obtain ⟨fuel, hf⟩ := h
  obtain ⟨a, n, c, rfl⟩ := okWide_slice Try.underlying26 hv
  exact open_intsl (by simpa [Value.cells] using hf)
end Go.Proofs.Ytkpdbceglejbnaa

/- Two closed facts on the head of the translation, which names all of its roots: its first words are read off without taking the rest apart. -/
namespace Go.Proofs.Ytkpdbceglejbnaa
open Go.ChangeShapes Go.WideShapes Go.ChangeAt Go.RowKit Go.Joins Go.Deep

theorem toList_of {s : String} {l : List Char} (h : s = String.ofList l) : s.toList = l := by rw [h, String.toList_ofList]

theorem words_step (r : List Char) : ∀ w : List Char, (∀ c ∈ w, c ≠ Char.ofNat 32) → wordsSigns (w ++ Char.ofNat 32 :: r) = w :: wordsSigns r
  | [], _ => rfl
  | c :: w, h => by
    have ih := words_step r w fun c hc => h c (List.mem_cons_of_mem _ hc)
    have hc : c ≠ Char.ofNat 32 := h c (List.mem_cons_self ..)
    rw [List.cons_append, wordsSigns.eq_3 _ _ hc, ih]

theorem words_at {l : List Char} (n : Nat) (h1 : (l.take n).all (fun c => c != Char.ofNat 32) = true) (h2 : l[n]? = some (Char.ofNat 32)) : wordsSigns l = l.take n :: wordsSigns (l.drop (n + 1)) := by
  have e : l = l.take n ++ Char.ofNat 32 :: l.drop (n + 1) := by
    obtain ⟨hn, hv⟩ := List.getElem?_eq_some_iff.1 h2
    rw [← hv, ← List.drop_eq_getElem_cons hn, List.take_append_drop]
  have hall : ∀ c ∈ l.take n, c ≠ Char.ofNat 32 := fun c hc => by have := List.all_eq_true.1 h1 c hc; simpa using this
  exact (congrArg wordsSigns e).trans (words_step _ _ hall)

/-- The head's first words: the harness, a sum, 'cut'. -/
def HeadIs (s : String) : Prop := ∃ h w c r, wordsSigns s.toList = h :: w :: c :: r ∧ (h == "harness".toList) = true ∧ isSumSigns w = true ∧ c = "cut".toList

theorem make_of {P : Program} (h : HeadIs P.initOrder) : (P.make == some .cut) = true := by
  obtain ⟨h1, w, c, r, e, e1, e2, rfl⟩ := h
  unfold Program.make
  rw [e]
  simp only [behindMainWord, e1, e2, Bool.true_or, Bool.and_self, if_true]
  rfl

theorem strip_cut (r : List (List Char)) : stripLifts liftWords ("cut".toList :: r) = ([], "cut".toList :: r) := by
  simp only [liftWords, stripLifts]
  rfl
theorem liftsFinal_of {P : Program} (h : HeadIs P.initOrder) : P.liftsFinal = false := by
  obtain ⟨h1, w, c, r, e, e1, e2, rfl⟩ := h
  have hl : P.headLifts = [] := by
    unfold Program.headLifts
    rw [e]
    simp only [behindMainWord, e1, e2, Bool.true_or, Bool.and_self, if_true, strip_cut]
    rfl
  unfold Program.liftsFinal
  rw [e, hl]
  simp only [behindMainWord, e1, e2, Bool.true_or, Bool.and_self, if_true]
  rfl
theorem mayEnter_of {P : Program} (h : HeadIs P.initOrder) (g1 : P.laysLater = false) (g2 : P.bearsReflect = false) (g3 : P.doorFits [] = true) : P.mayEnter = true := by
  obtain ⟨h1, w, c, r, e, e1, e2, rfl⟩ := h
  have hs := strip_cut r
  unfold Program.mayEnter
  rw [e]
  simp only [behindMainWord, e1, e2, Bool.true_or, Bool.and_self, if_true, hs, g1, g2, g3]
  rfl

set_option maxHeartbeats 0
set_option maxRecDepth 100000
theorem head_is : HeadIs Try.prog.initOrder := by
  conv => arg 1; whnf
  unfold HeadIs
  rw [toList_of (show _ = String.ofList _ from rfl)]
  exact ⟨_, _, _, _, (words_at 7 (by kernel_rfl) (by kernel_rfl)).trans (congrArg (List.cons _) ((words_at 64 (by kernel_rfl) (by kernel_rfl)).trans (congrArg (List.cons _) (words_at 3 (by kernel_rfl) (by kernel_rfl))))), by kernel_rfl, by kernel_rfl, by kernel_rfl⟩
theorem make_cut : (Try.prog.make == some .cut) = true := make_of head_is
theorem make_row (m : Make) (h : m = .cut) : (Try.prog.make == some m) = true := by rw [h]; exact make_cut
theorem lifted_row (m : Bool) (h : m = false) : (m == Try.prog.liftsFinal) = true := by rw [h, liftsFinal_of head_is]; rfl
theorem lays : Try.prog.laysLater = false := by kernel_rfl
theorem reflects : Try.prog.bearsReflect = false := by kernel_rfl
theorem doors : Try.prog.doorFits [] = true := by kernel_rfl
theorem may_enter : Try.prog.mayEnter = true := mayEnter_of head_is lays reflects doors
end Go.Proofs.Ytkpdbceglejbnaa
