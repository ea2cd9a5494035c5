/- A loop over a function that hands on numbers with lists in memory of their own: what the body may know of what it is handed, and what it must keep. -/
import Derived.Test.YtkpdbceglejbnaaKd
import Derived.RangeFuncNested
import Derived.RangeFuncBound
import Derived.RangeFuncCalls
import Derived.RangeFuncLeaves
import Derived.Shelf.Abstract
import Derived.Shelf.RegionOpen
import Derived.WalkKit
import Derived.OwnWalkIn
import Derived.TacticsInMore
import Derived.LoopNIn
import Derived.LoopIn
namespace Go.Proofs.Ytkpdbceglejbnaa
open Go.RowKit Go.Shelf

/-- What lay below B, and every block of cells, lies as it lay. -/
structure Kc (B : Nat) (W W' : World) : Prop where
  os : W'.os = W.os
  tape : W'.tape = W.tape
  output : W'.output = W.output
  size : W.heap.size ≤ W'.heap.size
  low : ∀ b, b < B → W'.heap[b]? = W.heap[b]?
  cells : ∀ (b : Nat) (o : Obj), W.heap[b]? = some o → o.isCells = true → W'.heap[b]? = some o
theorem Kc.of_ext {B : Nat} {W W' : World} (h : Ext W W') (hB : B ≤ W.heap.size) : Kc B W W' :=
  ⟨h.os, h.tape, h.output, h.size, fun b hb => h.block b (by omega), fun b o ho _ => (h.block b (Array.getElem?_eq_some_iff.1 ho).1).trans ho⟩
theorem Kc.trans' {B : Nat} {a b c : World} (h : Kc B a b) (k : Kc B b c) : Kc B a c :=
  ⟨k.os.trans h.os, k.tape.trans h.tape, k.output.trans h.output, Nat.le_trans h.size k.size, fun i hi => (k.low i hi).trans (h.low i hi), fun i o hi ho => k.cells i o (h.cells i o hi ho) ho⟩
theorem Kc.put {B l : Nat} {W : World} {o o' : Obj} (hB : B ≤ l) (hl : W.heap[l]? = some o) (ho : o.isCells = false) : Kc B W (W.putObj l o') := by
  have hg := grownBy_putObj' W l o'
  refine ⟨hg.os, hg.tape, hg.output, hg.size, fun b hb => World.putObj_heap_other (by omega), fun b u hu hc => ?_⟩
  by_cases e : b = l
  · subst e; rw [hl] at hu; cases hu; rw [ho] at hc; cases hc
  · exact (World.putObj_heap_other e).trans hu
theorem Kc.ext {B : Nat} {w W W' : World} (h : Kc B W W') (he : Ext w W) (hB : w.heap.size ≤ B) : Ext w W' :=
  he.trans (⟨h.os, h.tape, h.output, h.size, fun b hb => h.low b (by omega)⟩ : W.Since w.heap.size W')
theorem Kc.keepI {B : Nat} {W W' : World} {v : Value} {l : List Int} {bs : List Nat} (h : Kc B W W') (ho : OwnI W v l bs) : OwnI W' v l bs :=
  ho.keep fun b hb => by
    obtain ⟨cur, hc⟩ := ho.1.typed b hb
    rw [h.cells b _ hc rfl, hc]

/-- What a round that goes on must keep: what lay below B but for the blocks X, and every block of numbers. -/
structure KpT (B : Nat) (X : List Nat) (W W' : World) : Prop where
  os : W'.os = W.os
  tape : W'.tape = W.tape
  output : W'.output = W.output
  size : W.heap.size ≤ W'.heap.size
  low : ∀ b, b < B → b ∉ X → W'.heap[b]? = W.heap[b]?
  ints : ∀ (b : Nat) c z, B ≤ b → W.heap[b]? = some (.cells c 3 z) → W'.heap[b]? = W.heap[b]?
theorem KpT.trans' {B : Nat} {X : List Nat} {a b c : World} (h : KpT B X a b) (k : KpT B X b c) : KpT B X a c :=
  ⟨k.os.trans h.os, k.tape.trans h.tape, k.output.trans h.output, Nat.le_trans h.size k.size, fun i hi hx => (k.low i hi hx).trans (h.low i hi hx),
    fun i cc z hi hc => (k.ints i cc z hi ((h.ints i cc z hi hc).trans hc)).trans (h.ints i cc z hi hc)⟩
theorem KpT.of_ext {B : Nat} {X : List Nat} {W W' : World} (h : Ext W W') (hB : B ≤ W.heap.size) : KpT B X W W' :=
  ⟨h.os, h.tape, h.output, h.size, fun b hb _ => h.block b (by omega), fun b c z _ hc => h.block b (Array.getElem?_eq_some_iff.1 hc).1⟩
theorem KpT.put {B l : Nat} {X : List Nat} {W : World} {o o' : Obj} (hB : B ≤ l) (hl : W.heap[l]? = some o) (ho : o.isCells = false) : KpT B X W (W.putObj l o') := by
  have hg := grownBy_putObj' W l o'
  refine ⟨hg.os, hg.tape, hg.output, hg.size, fun b hb _ => World.putObj_heap_other (by omega), fun b c z _ hc => ?_⟩
  by_cases e : b = l
  · subst e; rw [hl] at hc; cases hc; cases ho
  · exact World.putObj_heap_other e
theorem KpT.ext {B : Nat} {X : List Nat} {w W W' : World} (h : KpT B X W W') (he : Ext w W) (hB : w.heap.size ≤ B) (hX : ∀ b ∈ X, w.heap.size ≤ b) : Ext w W' :=
  he.trans (⟨h.os, h.tape, h.output, h.size, fun b hb => h.low b (by omega) fun hm => by have := hX b hm; omega⟩ : W.Since w.heap.size W')

/-- The iterator's word: it hands on the numbers below c, each with a value of which Rd holds (of the world in which the last round ended, and of the one in which it is handed on), as long as the rounds go on. -/
def SeqRun (n : Nat) (P : Program) (gf : Nat) (lb : Array Value) (B : Nat) (X : List Nat) (c : Nat) (Rd : Nat → Value → World → World → Prop) (Wst : World) : Prop :=
  ∀ (l : Nat) (J Jx : Nat → World → Prop) (W : World), Ext Wst W → (∀ k W W', J k W → Ext W W' → J k W') →
    (∀ k v W0 W1, k < c → J k W0 → Ext W0 W1 → Rd k v W0 W1 → YieldAt Fence.wide (n - 1) P l #[.int .i64 (k : Int), v] W1 fun e W' =>
      (e = .returned (.bool true) ∧ J (k + 1) W' ∧ KpT B X W1 W') ∨ (e = .returned (.bool false) ∧ Jx k W')) →
    J 0 W →
    CallsIn Fence.wide n P gf (#[.func (.yield l) #[] #[]] ++ lb) W fun e W' => (∃ v, e = .returned v) ∧ (J c W' ∨ ∃ k, k < c ∧ Jx k W')

/-- How the body of a round may be left. -/
def runPost (B : Nat) (X : List Nat) (I : Nat → World → Prop) (Ix : Code → Nat → World → Prop) (k : Nat) (W : World) : Exit → Act → World → Prop
  | .normal, _, W' => KeepsOthers W W' ∧ KpT B X W W' ∧ I (k + 1) W'
  | .ret, _, W' => KeepsOthers W W' ∧ Ix .ret k W'
  | .exit id, _, W' => KeepsOthers W W' ∧ Ix (.exit id) k W'
  | .goto t, _, W' => KeepsOthers W W' ∧ Ix (.goto t) k W'
  | .panic _, _, _ => False
  | .outgrown, _, _ => False

theorem rangeRun {n : Nat} {P : Program} {g : Operand} {p0 p1 : Tmp} {assign body : Code} {Q : Exit → Act → World → Prop} {a : Act} {w : World} {gf : Nat} {lb : Array Value} {X : List Nat} {c : Nat} {Rd : Nat → Value → World → World → Prop}
    (hn : 1 ≤ n) (hg : a.eval g = .func (.func gf) #[] lb) (eg : ∀ args w, (callFunc gf args).run P w = .ok (.enter gf args) w) (hseq : SeqRun (n - 1) P gf lb w.heap.size X c Rd w)
    (I : Nat → World → Prop) (Ix : Code → Nat → World → Prop) (hI : ∀ k W W', I k W → Kc w.heap.size W W' → I k W') (hIx : ∀ cd k W W', Ix cd k W → Kc w.heap.size W W' → Ix cd k W')
    (hRd : ∀ k v W0 W W', Rd k v W0 W → Kc w.heap.size W W' → Rd k v W0 W') (h0 : I 0 w) (a₁ : Nat → Value → Act)
    (hassign : ∀ (l k : Nat) (v : Value) (W : World) (K : Act → World → Prop), K (a₁ k v) W →
      assign.wpIn (Fence.wide.inRound l) (n - 1 - 1) P (Exit.then K (fun _ _ _ => False)) { tmps := ((#[p0, p1]).zip #[.int .i64 (k : Int), v]).foldl (fun t (p, v) => t.setIfInBounds p v) a.tmps, defers := [] } W)
    (hbody : ∀ (l k : Nat) (v : Value) (W0 W : World), k < c → I k W0 → Kc w.heap.size W0 W → Rd k v W0 W → body.wpIn (Fence.wide.inRound l) (n - 1 - 1) P (runPost w.heap.size X I Ix k W) (a₁ k v) W)
    (hdone : ∀ (D : Nat) (W : World), w.heap.size ≤ D → I c W → W.heap[D]? = some (.deferred (some [])) → Q .normal { a with defers := { target := .collected D, args := #[] } :: a.defers } W)
    (hstop : ∀ (D : Nat) (cd : Code) (k : Nat) (W : World), w.heap.size ≤ D → k < c → Ix cd k W → W.heap[D]? = some (.deferred (some [])) → cd.wpIn Fence.wide n P Q { a with defers := { target := .collected D, args := #[] } :: a.defers } W) :
    (Code.rangeFunc g #[p0, p1] assign body).wpIn Fence.wide n P Q a w := by
  refine wpIn_rangeFunc fun fn hfn => ?_
  have hro : Fence.wide.round = none := rfl
  rw [hro]
  -- the loop's record, by its state and what is pending
  obtain ⟨rec, hrec⟩ : ∃ rec : LoopState → Option Code → Loop, rec = fun st pe => { state := st, pending := pe, fn, tmps := a.tmps, params := #[p0, p1], assign, body, defers := w.heap.size } := ⟨_, rfl⟩
  let L := w.heap.size + 1
  obtain ⟨V, hV⟩ : ∃ V, V = (w.alloc (.deferred (some []))).alloc (.loop (rec .ready none)) := ⟨_, rfl⟩
  have vL : V.heap[w.heap.size + 1]? = some (.loop (rec .ready none)) := by
    rw [hV]; have := World.alloc_heap_new (w.alloc (.deferred (some []))) (.loop (rec .ready none)); rwa [World.size_alloc] at this
  have vD : V.heap[w.heap.size]? = some (.deferred (some [])) := by
    rw [hV]; exact (Below.heap_alloc _ _ _ (by simp)).trans (World.alloc_heap_new w _)
  have vE : Ext w V := by rw [hV]; exact ((Ext.rfl' w).alloc' _).alloc' _
  refine ⟨w.heap.size + 1, [{ target := .collected w.heap.size, args := #[] }], V, { target := .fn (.func gf) lb, args := #[.func (.yield (w.heap.size + 1)) #[] #[]] }, V, gf,
    #[.func (.yield (w.heap.size + 1)) #[] #[]] ++ lb, V, by rw [hV, hrec]; exact run_enterLoop_outer _ _ _ _ _, ?_, ?_, ?_, fun _ => hn, ?_⟩
  · simp only [resolve, hg]
    simp [go_sem]
  · intro _ _; trivial
  · simp [invoke, go_sem, eg]
  -- the iterator, at the caller's invariant beside the record and the block of deferred calls
  refine (hseq (w.heap.size + 1) (fun k W => I k W ∧ W.heap[w.heap.size + 1]? = some (.loop (rec .ready none)) ∧ W.heap[w.heap.size]? = some (.deferred (some [])))
    (fun k W => ∃ cd, Ix cd k W ∧ W.heap[w.heap.size + 1]? = some (.loop (rec .done (some cd))) ∧ W.heap[w.heap.size]? = some (.deferred (some []))) V vE ?_ ?_ ⟨hI 0 _ _ h0 (Kc.of_ext vE (Nat.le_refl _)), vL, vD⟩).mono ?_
  · rintro k A B ⟨i1, i2, i3⟩ he
    have s2 := (Array.getElem?_eq_some_iff.1 i2).1
    exact ⟨hI k _ _ i1 (Kc.of_ext he (by omega)), (he.block _ s2).trans i2, (he.block _ (by omega)).trans i3⟩
  · rintro k v W0 W hk ⟨i1, i2', i3'⟩ hxx hr
    have s2' := (Array.getElem?_eq_some_iff.1 i2').1
    have i2 := (hxx.block _ s2').trans i2'
    have i3 := (hxx.block _ (by omega)).trans i3'
    have s2 := (Array.getElem?_eq_some_iff.1 i2).1
    have hy := run_yield (P := P) (args := #[.int .i64 (k : Int), v]) i2 (by rw [hrec]; rfl)
    rw [hrec] at hy
    refine ⟨fn, _, assign, body, hy, roundIn_of_wpIn hfn (hassign _ k v W _ ⟨_, run_beginRound i2 (by rw [hrec]), ?_⟩)⟩
    have K1 : Kc w.heap.size W (W.putObj (w.heap.size + 1) (.loop { rec .ready none with state := .busy })) := Kc.put (by omega) i2 rfl
    have T1 : KpT w.heap.size X W (W.putObj (w.heap.size + 1) (.loop { rec .ready none with state := .busy })) := KpT.put (by omega) i2 rfl
    have b2 : (W.putObj (w.heap.size + 1) (.loop { rec .ready none with state := .busy })).heap[w.heap.size + 1]? = some (.loop { rec .ready none with state := .busy }) := World.putObj_heap_same s2
    have b3 : (W.putObj (w.heap.size + 1) (.loop { rec .ready none with state := .busy })).heap[w.heap.size]? = some (.deferred (some [])) := (World.putObj_heap_other (by omega)).trans i3
    refine wpIn_mono (hbody _ k v W0 _ hk i1 ((Kc.of_ext hxx (by omega)).trans' K1) (hRd k v _ _ _ hr K1)) ?_
    -- the end of a round
    have over : ∀ (jump : Option Code) (U : World), KeepsOthers (W.putObj (w.heap.size + 1) (.loop { rec .ready none with state := .busy })) U →
        (Instr.endRound (w.heap.size + 1) jump).run P U = .ok (.bool jump.isNone) (U.putObj (w.heap.size + 1) (.loop (rec (if jump.isNone then .ready else .done) jump))) ∧
        U.heap[w.heap.size + 1]? = some (.loop { rec .ready none with state := .busy }) ∧
        (U.putObj (w.heap.size + 1) (.loop (rec (if jump.isNone then .ready else .done) jump))).heap[w.heap.size + 1]? = some (.loop (rec (if jump.isNone then .ready else .done) jump)) ∧
        (U.putObj (w.heap.size + 1) (.loop (rec (if jump.isNone then .ready else .done) jump))).heap[w.heap.size]? = some (.deferred (some [])) := fun jump U ku => by
      have u2 := ku.same _ _ b2 rfl
      have hend := run_endRound (P := P) jump u2
      rw [hrec] at hend ⊢
      rw [hrec] at u2
      exact ⟨hend, u2, World.putObj_heap_same (Array.getElem?_eq_some_iff.1 u2).1, (World.putObj_heap_other (by omega)).trans (ku.same _ _ b3 rfl)⟩
    rintro x a3 U hp
    match x, hp with
    | .normal, hp =>
      obtain ⟨ku, kt, iu⟩ := hp
      obtain ⟨e1, e2, e3, e4⟩ := over none U ku
      exact ⟨_, _, e1, .inl ⟨rfl, ⟨hI _ _ _ iu (Kc.put (by omega) e2 rfl), e3, e4⟩, (T1.trans' kt).trans' (KpT.put (by omega) e2 rfl)⟩⟩
    | .ret, hp =>
      obtain ⟨ku, iu⟩ := hp
      obtain ⟨e1, e2, e3, e4⟩ := over (some .ret) U ku
      exact ⟨_, _, e1, .inr ⟨rfl, .ret, hIx _ _ _ _ iu (Kc.put (by omega) e2 rfl), e3, e4⟩⟩
    | .exit id, hp =>
      obtain ⟨ku, iu⟩ := hp
      obtain ⟨e1, e2, e3, e4⟩ := over (some (.exit id)) U ku
      exact ⟨_, _, e1, .inr ⟨rfl, .exit id, hIx _ _ _ _ iu (Kc.put (by omega) e2 rfl), e3, e4⟩⟩
    | .goto t, hp =>
      obtain ⟨ku, iu⟩ := hp
      obtain ⟨e1, e2, e3, e4⟩ := over (some (.goto t)) U ku
      exact ⟨_, _, e1, .inr ⟨rfl, .goto t, hIx _ _ _ _ iu (Kc.put (by omega) e2 rfl), e3, e4⟩⟩
    | .panic _, hp => exact hp.elim
    | .outgrown, hp => exact hp.elim
  · rintro e U ⟨⟨v, rfl⟩, hu⟩
    rcases hu with ⟨iu, u2, u3⟩ | ⟨k, hk, cd, iu, u2, u3⟩
    · have hend := run_endLoop (P := P) u2 (by rw [hrec]; simp)
      rw [hrec] at hend
      exact ⟨none, _, hend, hdone _ _ (Nat.le_refl _) (hI _ _ _ iu (Kc.put (by omega) u2 rfl)) ((World.putObj_heap_other (by omega)).trans u3)⟩
    · have hend := run_endLoop (P := P) u2 (by rw [hrec]; simp)
      rw [hrec] at hend
      exact ⟨some cd, _, hend, hstop _ cd k _ (Nat.le_refl _) hk (hIx _ _ _ _ iu (Kc.put (by omega) u2 rfl)) ((World.putObj_heap_other (by omega)).trans u3)⟩
end Go.Proofs.Ytkpdbceglejbnaa
