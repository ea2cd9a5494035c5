/- Lists of integers: how a value reads as one, how an argument is opened, and how a law is closed. -/
import Derived.Test.YtcjiejbndmnjaaaDoorRows
import Derived.Test.YtcjiejbndmnjaaaDoorProg
import Derived.WalkKit
import Derived.Lib.Hide
import Derived.WalkSpells
import Derived.WalkLawsBesides
import Derived.Deep.OwnRows
import Derived.Deep.LoopGhost
import Derived.Deep.Light
import Derived.Deep.QuietTactic
import Derived.BigQuiet
import Derived.ProofKit
import Derived.OpenShut
import Derived.Lib.SmallJoins
import Derived.Deep.Slices
import Derived.Deep.Fields
import Derived.WideKeyArgs
namespace Go.Proofs.YtcjiejbndmnjaaaDoor
open Go.ChangeShapes Go.WideShapes Go.ChangeAt Go.RowKit Go.Joins Go.Deep

/-- Nothing that was there has changed. -/
abbrev Ext (w w' : World) : Prop := w.Since w.heap.size w'

theorem Ext.rfl' (w : World) : Ext w w := World.Since.refl _ _

theorem since_mono {B B' : Nat} {w w' : World} (h : w.Since B w') (hB : B' ≤ B) : w.Since B' w' := ⟨h.os, h.tape, h.output, h.size, fun k hk => h.block k (by omega)⟩

theorem Ext.trans' {a b c : World} (h : Ext a b) (k : Ext b c) : Ext a c := h.trans (since_mono k h.size)

theorem Ext.alloc' {a b : World} (h : Ext a b) (o : Obj) : Ext a (b.alloc o) := h.alloc h.size o

theorem Ext.drew' {a b : World} (h : Ext a b) : Ext a b.drew := h.drew

theorem Ext.store {a b : World} (h : Ext a b) {p : Addr} (hp : a.heap.size ≤ p.block) (v : Value) : Ext a (b.setCell p v) := h.setCell hp v

theorem Ext.cell' {w w' : World} (h : Ext w w') {p : Addr} {v : Value} (hc : w.cell? p = some v) : w'.cell? p = some v := by
  rw [h.cell (World.block_lt_of_cell? _ _ hc)]; exact hc

theorem row_ext {w w' : World} {b t n : Nat} {f : Nat → Value} (h : w.rowIs b t n f) (he : Ext w w') : w'.rowIs b t n f := h.of_block (he.block b h.lt)

/-- The value is a slice of n elements of one cell each, and element i is x with R i x. -/
def SlOf (w : World) (v : Value) (n : Nat) (R : Nat → Value → Prop) : Prop :=
  ∃ (a : Option Addr) (b o c : Nat), v = .slice a n c ∧ (0 < n → a = some ⟨b, o, none⟩) ∧ n ≤ c ∧ c ≤ maxLen ∧
    ∀ i, i < n → ∃ x, w.cell? ⟨b, o + i, none⟩ = some x ∧ R i x

theorem SlOf.mono {w w' : World} {v : Value} {n : Nat} {R R' : Nat → Value → Prop} (h : SlOf w v n R) (he : Ext w w') (hR : ∀ i x, i < n → R i x → R' i x) : SlOf w' v n R' := by
  obtain ⟨a, b, o, c, h1, h2, h3, h4, h5⟩ := h
  exact ⟨a, b, o, c, h1, h2, h3, h4, fun i hi => let ⟨x, hx, hr⟩ := h5 i hi; ⟨x, he.cell' hx, hR i x hi hr⟩⟩

/-- Element i of a list of numbers, of ends (its node, its port), of lists. -/
def gi (l : List Int) (i : Nat) : Int := l.getD i 0

def gr {α : Type} (l : List (List α)) (i : Nat) : List α := l.getD i []

def inI64 (x : Int) : Prop := -9223372036854775808 ≤ x ∧ x ≤ 9223372036854775807

def IntSl (w : World) (v : Value) (l : List Int) : Prop := SlOf w v l.length fun i x => x = .int .i64 (gi l i) ∧ inI64 (gi l i)

theorem IntSl.ext {w w' : World} {v : Value} {l : List Int} (h : IntSl w v l) (he : Ext w w') : IntSl w' v l := SlOf.mono h he fun _ _ _ hr => hr

def IntSS (w : World) (v : Value) (l : List (List Int)) : Prop := SlOf w v l.length fun i x => IntSl w x (gr l i)

theorem IntSS.ext {w w' : World} {v : Value} {l : List (List Int)} (h : IntSS w v l) (he : Ext w w') : IntSS w' v l := SlOf.mono h he fun _ _ _ hr => hr.ext he

theorem own : ownKnob Tryd.prog.godebug = none := by kernel_rfl

theorem Tryd.laidOut : laidOutB Tryd.prog = true := by kernel_rfl

theorem Tryd.cells3 : Tryd.prog.cellsOf 3 = 1 := by kernel_rfl

theorem Tryd.cells23 : Tryd.prog.cellsOf 27 = 1 := by kernel_rfl

section
variable {H : Type} {enc : TypeId × Value → H} {P : Program} {W W' : World}
theorem TrodAll_ext (hl : laidOutB P = true) (hx : Ext W W') : ∀ {ts : List TypeId} {vs : List Value} {ds : List (DataW H)} {p : List MemPlace},
    ts.all (fun t => P.readableRec t && decide (t < P.types.size)) = true → DataW.TrodAll enc P W 0 (fun _ => true) true ts vs ds p → (∀ x ∈ p, x.block < W.heap.size) →
    DataW.TrodAll enc P W' 0 (fun b => decide (b < W.heap.size)) true ts vs ds p := by
  intro ts
  induction ts with
  | nil =>
    intro vs ds p _ h _
    cases vs <;> cases ds <;> simp_all [DataW.TrodAll]
  | cons t ts ih =>
    intro vs ds p ht h hlt
    cases vs with
    | nil => simp [DataW.TrodAll] at h
    | cons v vs =>
      cases ds with
      | nil => simp [DataW.TrodAll] at h
      | cons d ds =>
        obtain ⟨p1, p2, h1, h2, rfl⟩ := h
        simp only [List.all_cons, Bool.and_eq_true, decide_eq_true_eq] at ht
        refine ⟨p1, p2, WideElems.Trod_stays hl ht.1.1 ht.1.2 h1 (fun x hx' => hx.sameAt (hlt x (by simp [hx']))) (fun x hx' => by simpa using hlt x (by simp [hx'])), ih ht.2 h2 fun x hx' => hlt x (by simp [hx']), rfl⟩

theorem exists_list {α : Type} (d : α) {Q : Nat → α → Prop} : ∀ n : Nat, (∀ i, i < n → ∃ p, Q i p) → ∃ l : List α, l.length = n ∧ ∀ i, i < n → Q i (l.getD i d)
  | 0, _ => ⟨[], rfl, fun i hi => absurd hi (by omega)⟩
  | n + 1, h => by
    obtain ⟨l, hl, hq⟩ := exists_list d n fun i hi => h i (by omega)
    obtain ⟨p, hp⟩ := h n (by omega)
    refine ⟨l ++ [p], by simp [hl], fun i hi => ?_⟩
    by_cases e : i = n
    · subst e
      have : (l ++ [p]).getD i d = p := by simp [List.getD, hl]
      rw [this]; exact hp
    · have : (l ++ [p]).getD i d = l.getD i d := by simp [List.getD, List.getElem?_append_left (show i < l.length by omega)]
      rw [this]; exact hq i (by omega)

variable {base : Nat} {spare : Nat → Bool} {held : Bool}
theorem open_int1 {fuel : Nat} {c : Value} {x : DataW H × List MemPlace} (h : DataW.trod enc Tryd.prog W base spare held fuel 3 [c] = some x) : ∃ n : Int, c = .int .i64 n ∧ inI64 n := by
  obtain ⟨n, hc, _, hw⟩ := DataW.trod_int Tryd.underlying3 h
  simp at hc
  exact ⟨n, hc, bounds_i64 hw⟩

theorem open_intsl {fuel : Nat} {v : Value} {x : DataW H × List MemPlace} (h : DataW.trod enc Tryd.prog W base spare held fuel 27 [v] = some x) : ∃ l, IntSl W v l := by
  rcases open_slice Tryd.underlying27 h with ⟨hc, _⟩ | ⟨a, len, cap, m, n, D, Pl, hcs, hb, hl, hm, hmm, hx, hi⟩
  · simp at hc
    subst hc
    exact ⟨[], none, 0, 0, 0, rfl, fun h => absurd h (by simp), by simp, by unfold maxLen; omega, fun i hi => absurd hi (by simp)⟩
  · simp at hcs
    subst hcs
    rw [Tryd.cells3] at hi
    have hlm : len ≤ m := by rw [hmm]; split <;> omega
    obtain ⟨l, hll, hq⟩ := exists_list (0 : Int) (Q := fun i p => W.cell? (a.add (i * 1)) = some (.int .i64 p) ∧ inI64 p) len (fun i hil => by
      obtain ⟨cs', hc, ht⟩ := hi i (by omega)
      obtain ⟨_, hcl, hat⟩ := World.cells?_some hc
      match cs', hcl with
      | [x], _ =>
        obtain ⟨p, rfl, hp⟩ := open_int1 ht
        refine ⟨p, ?_, hp⟩
        have := hat (i := 0) (by omega); simpa [Go.Deep.add_add] using this)
    obtain ⟨b, o, sp⟩ := a
    have hs : 0 < len → sp = none := fun hp => by
      have := (hq 0 hp).1
      simpa [Addr.add] using World.cell?_spot this
    refine ⟨l, some ⟨b, o, sp⟩, b, o, cap, by rw [hll], fun hp => by rw [hs (by omega)], by omega, hm, fun i hi' => ?_⟩
    obtain ⟨h1, h2⟩ := hq i (by omega)
    obtain rfl := hs (by omega)
    rw [add_plain, Nat.mul_one] at h1
    exact ⟨_, h1, rfl, h2⟩
end
set_option maxRecDepth 100000 in
theorem open_ints_arg {H : Type} {enc : TypeId × Value → H} {W : World} {base : Nat} {spare : Nat → Bool} {held : Bool} {b0 : Nat} {v : Value} {d : DataW H} {p : List MemPlace} (hv : Value.okWide Tryd.prog W .any b0 27 v) (h : DataW.Trod enc Tryd.prog W base spare held 27 v d p) : ∃ l, IntSl W v l := by
  obtain ⟨fuel, hf⟩ := h
  obtain ⟨a, n, c, rfl⟩ := okWide_slice Tryd.underlying27 hv
  exact open_intsl (by simpa [Value.cells] using hf)

section
variable {H : Type} {enc : TypeId × Value → H} {W W' : World}
theorem law_post {f : Func} {s : ChangeSpec} {args : Array Value} {ds gs : List (DataW H)} {before : List MemPlace}
    (hread : f.params.toList.all (fun t => Tryd.prog.readableRec t && decide (t < Tryd.prog.types.size)) = true) (hres : f.resultTypes = #[4]) (hv : s.vars = [])
    (hfn : (s.fn H (ds ++ gs)).results = [.lit (.bool true)] ∧ (s.fn H (ds ++ gs)).args = ds ∧ (s.fn H (ds ++ gs)).vars = [])
    (hW : DataW.Whole enc Tryd.prog f.params.toList s.vars false W args.toList ds gs before) (hx : Ext W W') :
    s.post enc Tryd.prog f false true false false W args (.bool true) W' := by
  have hW' := hW
  obtain ⟨p, q, hA0, hV, hpq, hfz, hnd⟩ := hW
  rw [hv] at hV
  obtain ⟨rfl, rfl⟩ := trodVars_none hV
  have hlt : ∀ x ∈ p, x.block < W.heap.size := fun x hx => hW'.lt x (by rw [hpq]; simp [hx])
  refine ⟨ds, [], before, [], p, [], hW', ?_, ?_, ?_, hx.frame _, fun h => by cases h⟩
  · rw [hres, hfn.1]; exact trodAll_mk1 (shut_bool Tryd.underlying4 _)
  · rw [hfn.2.1]; exact TrodAll_ext Tryd.laidOut hx hread hA0 hlt
  · rw [hfn.2.2, hv]; rfl
end
end Go.Proofs.YtcjiejbndmnjaaaDoor
