/- The range over a function, where a round may turn what lay below B: a map. -/
import Derived.Test.YtdcgpodjoalokaaMy
import Derived.Maps.OwnSet
import Derived.Maps.OwnOps
import Derived.WideKeyArr
namespace Go.Proofs.Ytdcgpodjoalokaa
open Go.RowKit Go.Shelf Go.Maps Go.WideShapes

/-- From block B on whatever is no cells stays. -/
structure KeepsF (B : Nat) (W W' : World) : Prop where
  size : W.heap.size ≤ W'.heap.size
  same : ∀ (k : Nat) (o : Obj), B ≤ k → W.heap[k]? = some o → o.isCells = false → W'.heap[k]? = some o
theorem KeepsF.of (B : Nat) {W W' : World} (h : KeepsOthers W W') : KeepsF B W W' := ⟨h.size, fun k o _ hk ho => h.same k o hk ho⟩
theorem KeepsF.trans {B : Nat} {W V U : World} (h : KeepsF B W V) (k : KeepsF B V U) : KeepsF B W U := ⟨Nat.le_trans h.size k.size, fun i o hi hk ho => k.same i o hi (h.same i o hi hk ho) ho⟩
theorem KeepsF.grown {B b : Nat} {W W' : World} (hg : W.grownBy W' (some b)) (hb : b < B) : KeepsF B W W' :=
  ⟨hg.size, fun k _ hB hk _ => (hg.block k (Array.getElem?_eq_some_iff.1 hk).1 fun e => by simp only [Option.some.injEq] at e; omega).trans hk⟩
theorem KpT.of_turn {B b : Nat} {X : List Nat} {W W' : World} (hg : W.grownBy W' (some b)) (hb : b < B) (hX : b ∈ X) (hB : B ≤ W.heap.size) : KpT B X W W' :=
  ⟨hg.os, hg.tape, hg.output, hg.size, fun k hk hx => hg.block k (by omega) fun e => by simp only [Option.some.injEq] at e; subst e; exact hx hX,
    fun k _ _ hk hc => hg.block k (Array.getElem?_eq_some_iff.1 hc).1 fun e => by simp only [Option.some.injEq] at e; omega⟩

/-- How the body of a round may be left. -/
def runPostF (B : Nat) (X : List Nat) (I : Nat → World → Prop) (Ix : Code → Nat → World → Prop) (k : Nat) (W : World) : Exit → Act → World → Prop
  | .normal, _, W' => KeepsF B W W' ∧ KpT B X W W' ∧ I (k + 1) W'
  | .ret, _, W' => KeepsF B W W' ∧ Ix .ret k W'
  | .exit id, _, W' => KeepsF B W W' ∧ Ix (.exit id) k W'
  | .goto t, _, W' => KeepsF B W W' ∧ Ix (.goto t) k W'
  | .panic _, _, _ => False
  | .outgrown, _, _ => False

theorem rangeRunF {n : Nat} {P : Program} {g : Operand} {p0 p1 : Tmp} {assign body : Code} {Q : Exit → Act → World → Prop} {a : Act} {w : World} {gf : Nat} {lb : Array Value} {X : List Nat} {c : Nat} {Rd : Nat → Value → World → World → Prop}
    (hn : 1 ≤ n) (hg : a.eval g = .func (.func gf) #[] lb) (eg : ∀ args w, (callFunc gf args).run P w = .ok (.enter gf args) w) (hseq : SeqRun (n - 1) P gf lb w.heap.size X c Rd w)
    (I : Nat → World → Prop) (Ix : Code → Nat → World → Prop) (hI : ∀ k W W', I k W → Kc w.heap.size W W' → I k W') (hIx : ∀ cd k W W', Ix cd k W → Kc w.heap.size W W' → Ix cd k W')
    (hRd : ∀ k v W0 W W', Rd k v W0 W → Kc w.heap.size W W' → Rd k v W0 W') (h0 : I 0 w) (a₁ : Nat → Value → Act)
    (hassign : ∀ (l k : Nat) (v : Value) (W : World) (K : Act → World → Prop), K (a₁ k v) W →
      assign.wpIn (Fence.wide.inRound l) (n - 1 - 1) P (Exit.then K (fun _ _ _ => False)) { tmps := ((#[p0, p1]).zip #[.int .i64 (k : Int), v]).foldl (fun t (p, v) => t.setIfInBounds p v) a.tmps, defers := [] } W)
    (hbody : ∀ (l k : Nat) (v : Value) (W0 W : World), k < c → I k W0 → Kc w.heap.size W0 W → Rd k v W0 W → body.wpIn (Fence.wide.inRound l) (n - 1 - 1) P (runPostF w.heap.size X I Ix k W) (a₁ k v) W)
    (hdone : ∀ (D : Nat) (W : World), w.heap.size ≤ D → I c W → W.heap[D]? = some (.deferred (some [])) → Q .normal { a with defers := { target := .collected D, args := #[] } :: a.defers } W)
    (hstop : ∀ (D : Nat) (cd : Code) (k : Nat) (W : World), w.heap.size ≤ D → k < c → Ix cd k W → W.heap[D]? = some (.deferred (some [])) → cd.wpIn Fence.wide n P Q { a with defers := { target := .collected D, args := #[] } :: a.defers } W) :
    (Code.rangeFunc g #[p0, p1] assign body).wpIn Fence.wide n P Q a w := by
  refine wpIn_rangeFunc fun fn hfn => ?_
  have hro : Fence.wide.round = none := rfl
  rw [hro]
  -- the loop's record, by its state and what is pending
  obtain ⟨rec, hrec⟩ : ∃ rec : LoopState → Option Code → Loop, rec = fun st pe => { state := st, pending := pe, fn, tmps := a.tmps, params := #[p0, p1], assign, body, defers := w.heap.size } := ⟨_, rfl⟩
  let L := w.heap.size + 1
  obtain ⟨V, hV⟩ : ∃ V, V = (w.alloc (.deferred (some []))).alloc (.loop (rec .ready none)) := ⟨_, rfl⟩
  have vL : V.heap[w.heap.size + 1]? = some (.loop (rec .ready none)) := by
    rw [hV]; have := World.alloc_heap_new (w.alloc (.deferred (some []))) (.loop (rec .ready none)); rwa [World.size_alloc] at this
  have vD : V.heap[w.heap.size]? = some (.deferred (some [])) := by
    rw [hV]; exact (Below.heap_alloc _ _ _ (by simp)).trans (World.alloc_heap_new w _)
  have vE : Ext w V := by rw [hV]; exact ((Ext.rfl' w).alloc' _).alloc' _
  refine ⟨w.heap.size + 1, [{ target := .collected w.heap.size, args := #[] }], V, { target := .fn (.func gf) lb, args := #[.func (.yield (w.heap.size + 1)) #[] #[]] }, V, gf,
    #[.func (.yield (w.heap.size + 1)) #[] #[]] ++ lb, V, by rw [hV, hrec]; exact run_enterLoop_outer _ _ _ _ _, ?_, ?_, ?_, fun _ => hn, ?_⟩
  · simp only [resolve, hg]
    simp [go_sem]
  · intro _ _; trivial
  · simp [invoke, go_sem, eg]
  -- the iterator, at the caller's invariant beside the record and the block of deferred calls
  refine (hseq (w.heap.size + 1) (fun k W => I k W ∧ W.heap[w.heap.size + 1]? = some (.loop (rec .ready none)) ∧ W.heap[w.heap.size]? = some (.deferred (some [])))
    (fun k W => ∃ cd, Ix cd k W ∧ W.heap[w.heap.size + 1]? = some (.loop (rec .done (some cd))) ∧ W.heap[w.heap.size]? = some (.deferred (some []))) V vE ?_ ?_ ⟨hI 0 _ _ h0 (Kc.of_ext vE (Nat.le_refl _)), vL, vD⟩).mono ?_
  · rintro k A B ⟨i1, i2, i3⟩ he
    have s2 := (Array.getElem?_eq_some_iff.1 i2).1
    exact ⟨hI k _ _ i1 (Kc.of_ext he (by omega)), (he.block _ s2).trans i2, (he.block _ (by omega)).trans i3⟩
  · rintro k v W0 W hk ⟨i1, i2', i3'⟩ hxx hr
    have s2' := (Array.getElem?_eq_some_iff.1 i2').1
    have i2 := (hxx.block _ s2').trans i2'
    have i3 := (hxx.block _ (by omega)).trans i3'
    have s2 := (Array.getElem?_eq_some_iff.1 i2).1
    have hy := run_yield (P := P) (args := #[.int .i64 (k : Int), v]) i2 (by rw [hrec]; rfl)
    rw [hrec] at hy
    refine ⟨fn, _, assign, body, hy, roundIn_of_wpIn hfn (hassign _ k v W _ ⟨_, run_beginRound i2 (by rw [hrec]), ?_⟩)⟩
    have K1 : Kc w.heap.size W (W.putObj (w.heap.size + 1) (.loop { rec .ready none with state := .busy })) := Kc.put (by omega) i2 rfl
    have T1 : KpT w.heap.size X W (W.putObj (w.heap.size + 1) (.loop { rec .ready none with state := .busy })) := KpT.put (by omega) i2 rfl
    have b2 : (W.putObj (w.heap.size + 1) (.loop { rec .ready none with state := .busy })).heap[w.heap.size + 1]? = some (.loop { rec .ready none with state := .busy }) := World.putObj_heap_same s2
    have b3 : (W.putObj (w.heap.size + 1) (.loop { rec .ready none with state := .busy })).heap[w.heap.size]? = some (.deferred (some [])) := (World.putObj_heap_other (by omega)).trans i3
    refine wpIn_mono (hbody _ k v W0 _ hk i1 ((Kc.of_ext hxx (by omega)).trans' K1) (hRd k v _ _ _ hr K1)) ?_
    -- the end of a round
    have over : ∀ (jump : Option Code) (U : World), KeepsF w.heap.size (W.putObj (w.heap.size + 1) (.loop { rec .ready none with state := .busy })) U →
        (Instr.endRound (w.heap.size + 1) jump).run P U = .ok (.bool jump.isNone) (U.putObj (w.heap.size + 1) (.loop (rec (if jump.isNone then .ready else .done) jump))) ∧
        U.heap[w.heap.size + 1]? = some (.loop { rec .ready none with state := .busy }) ∧
        (U.putObj (w.heap.size + 1) (.loop (rec (if jump.isNone then .ready else .done) jump))).heap[w.heap.size + 1]? = some (.loop (rec (if jump.isNone then .ready else .done) jump)) ∧
        (U.putObj (w.heap.size + 1) (.loop (rec (if jump.isNone then .ready else .done) jump))).heap[w.heap.size]? = some (.deferred (some [])) := fun jump U ku => by
      have u2 := ku.same _ _ (by omega) b2 rfl
      have hend := run_endRound (P := P) jump u2
      rw [hrec] at hend ⊢
      rw [hrec] at u2
      exact ⟨hend, u2, World.putObj_heap_same (Array.getElem?_eq_some_iff.1 u2).1, (World.putObj_heap_other (by omega)).trans (ku.same _ _ (by omega) b3 rfl)⟩
    rintro x a3 U hp
    match x, hp with
    | .normal, hp =>
      obtain ⟨ku, kt, iu⟩ := hp
      obtain ⟨e1, e2, e3, e4⟩ := over none U ku
      exact ⟨_, _, e1, .inl ⟨rfl, ⟨hI _ _ _ iu (Kc.put (by omega) e2 rfl), e3, e4⟩, (T1.trans' kt).trans' (KpT.put (by omega) e2 rfl)⟩⟩
    | .ret, hp =>
      obtain ⟨ku, iu⟩ := hp
      obtain ⟨e1, e2, e3, e4⟩ := over (some .ret) U ku
      exact ⟨_, _, e1, .inr ⟨rfl, .ret, hIx _ _ _ _ iu (Kc.put (by omega) e2 rfl), e3, e4⟩⟩
    | .exit id, hp =>
      obtain ⟨ku, iu⟩ := hp
      obtain ⟨e1, e2, e3, e4⟩ := over (some (.exit id)) U ku
      exact ⟨_, _, e1, .inr ⟨rfl, .exit id, hIx _ _ _ _ iu (Kc.put (by omega) e2 rfl), e3, e4⟩⟩
    | .goto t, hp =>
      obtain ⟨ku, iu⟩ := hp
      obtain ⟨e1, e2, e3, e4⟩ := over (some (.goto t)) U ku
      exact ⟨_, _, e1, .inr ⟨rfl, .goto t, hIx _ _ _ _ iu (Kc.put (by omega) e2 rfl), e3, e4⟩⟩
    | .panic _, hp => exact hp.elim
    | .outgrown, hp => exact hp.elim
  · rintro e U ⟨⟨v, rfl⟩, hu⟩
    rcases hu with ⟨iu, u2, u3⟩ | ⟨k, hk, cd, iu, u2, u3⟩
    · have hend := run_endLoop (P := P) u2 (by rw [hrec]; simp)
      rw [hrec] at hend
      exact ⟨none, _, hend, hdone _ _ (Nat.le_refl _) (hI _ _ _ iu (Kc.put (by omega) u2 rfl)) ((World.putObj_heap_other (by omega)).trans u3)⟩
    · have hend := run_endLoop (P := P) u2 (by rw [hrec]; simp)
      rw [hrec] at hend
      exact ⟨some cd, _, hend, hstop _ cd k _ (Nat.le_refl _) hk (hIx _ _ _ _ iu (Kc.put (by omega) u2 rfl)) ((World.putObj_heap_other (by omega)).trans u3)⟩

/-- A value as it stands. -/
def heldR (v : Value) : Option (DataW Value × List MemPlace) := some (.held v, [])
/-- Block b is a map of at most n entries with m keys; f says what stands at each key. -/
def MapV (w : World) (P : Program) (k : TypeId) (b n m : Nat) (f : Lit → Option Value) : Prop :=
  ∃ D, w.ownsMap P k heldR b n D ∧ Maps.size D = m ∧ ∀ kl, KeysOf P k kl → Maps.has D kl = (f kl).isSome ∧ ∀ v z, f kl = some v → D.atKey kl z = .held v
open Classical in
noncomputable def upd (f : Lit → Option Value) (k : Lit) (v : Option Value) : Lit → Option Value := fun x => if x = k then v else f x
theorem upd_same (f : Lit → Option Value) (k : Lit) (v : Option Value) : upd f k v k = v := by simp [upd]
theorem upd_other (f : Lit → Option Value) {k x : Lit} (v : Option Value) (h : x ≠ k) : upd f k v x = f x := by simp [upd, h]

section
variable {P : Program} {k e t : TypeId} {w w' : World} {b n m : Nat} {f : Lit → Option Value} {key val : Value} {kl : Lit}

theorem MapV.made (w : World) (P : Program) (k : TypeId) : MapV (w.alloc (.map #[] 0)) P k w.heap.size 0 0 (fun _ => none) :=
  ⟨_, World.ownsMap_made w P k heldR, rfl, fun kl _ => ⟨rfl, fun v z h => by cases h⟩⟩
theorem MapV.lt (h : MapV w P k b n m f) : b < w.heap.size := by obtain ⟨D, h, _⟩ := h; exact h.lt
theorem MapV.mono (h : MapV w P k b n m f) {n' : Nat} (hn : n ≤ n') : MapV w P k b n' m f := by obtain ⟨D, h, r⟩ := h; exact ⟨D, h.mono hn, r⟩
theorem MapV.congr (h : MapV w P k b n m f) {g : Lit → Option Value} (hg : ∀ x, KeysOf P k x → g x = f x) : MapV w P k b n m g := by
  obtain ⟨D, h, s, r⟩ := h
  exact ⟨D, h, s, fun kl hk => by rw [hg kl hk]; exact r kl hk⟩
theorem MapV.kept {row : Option Nat} (h : MapV w P k b n m f) (hg : w.grownBy w' row) (hne : some b ≠ row) : MapV w' P k b n m f := by
  obtain ⟨D, h, r⟩ := h; exact ⟨D, h.kept hg hne, r⟩
theorem MapV.block (h : MapV w P k b n m f) (hb : w'.heap[b]? = w.heap[b]?) : MapV w' P k b n m f := by
  obtain ⟨D, ⟨es, c, h1, h2⟩, r⟩ := h
  exact ⟨D, ⟨es, c, by rw [hb, h1], h2⟩, r⟩
theorem MapV.isMap (h : MapV w P k b n m f) : ∃ es c, w.heap[b]? = some (.map es c) := by
  obtain ⟨D, ⟨es, c, h1, h2⟩, r⟩ := h; exact ⟨es, c, h1⟩
theorem MapV.drew (h : MapV w P k b n m f) : MapV w.drew P k b n m f := h.block rfl
theorem MapV.m_le (h : MapV w P k b n m f) : m ≤ n := by obtain ⟨D, h, s, _⟩ := h; rw [← s]; exact h.size_le

theorem MapV.look (h : MapV w P k b n m f) (K : Keyed P k) (ht : P.underlying t = some (.map k e)) {z : Value} (hz : (zeroValue e).run P w = .ok z w) (hkey : keyOf P k key = some kl) :
    (Instr.lookup t (.map (some b)) key false).run P w = .ok ((f kl).getD z) w := by
  obtain ⟨D, ⟨es, clock, hb, F, _, rfl⟩, _, r⟩ := h
  obtain ⟨r1, r2⟩ := r kl ⟨key, hkey⟩
  rcases Maps.fit_look false K ht hz hb F hkey with ⟨hrun, _, hat⟩ | ⟨e0, y, _, _, hrun, hRv, hat, _⟩
  · cases hf : f kl with
    | none => simpa [hf] using hrun
    | some v => have := Maps.has_false_of_atKey hat; rw [hf] at r1; rw [this] at r1; cases r1
  · cases hf : f kl with
    | none => have := Maps.has_true_of_atKey hat; rw [hf] at r1; rw [this] at r1; cases r1
    | some v =>
      have e1 := r2 v .nil hf
      rw [hat .nil] at e1
      simp only [heldR, Option.some.injEq] at hRv
      rw [← hRv] at e1
      simp only [DataW.held.injEq] at e1
      simpa [e1] using hrun
theorem MapV.look_ok (h : MapV w P k b n m f) (K : Keyed P k) (ht : P.underlying t = some (.map k e)) {z : Value} (hz : (zeroValue e).run P w = .ok z w) (hkey : keyOf P k key = some kl) :
    (Instr.lookup t (.map (some b)) key true).run P w = .ok (.tuple #[(f kl).getD z, .bool (f kl).isSome]) w := by
  obtain ⟨D, ⟨es, clock, hb, F, _, rfl⟩, _, r⟩ := h
  obtain ⟨r1, r2⟩ := r kl ⟨key, hkey⟩
  rcases Maps.fit_look true K ht hz hb F hkey with ⟨hrun, _, hat⟩ | ⟨e0, y, _, _, hrun, hRv, hat, _⟩
  · cases hf : f kl with
    | none => simpa [hf] using hrun
    | some v => have := Maps.has_false_of_atKey hat; rw [hf] at r1; rw [this] at r1; cases r1
  · cases hf : f kl with
    | none => have := Maps.has_true_of_atKey hat; rw [hf] at r1; rw [this] at r1; cases r1
    | some v =>
      have e1 := r2 v .nil hf
      rw [hat .nil] at e1
      simp only [heldR, Option.some.injEq] at hRv
      rw [← hRv] at e1
      simp only [DataW.held.injEq] at e1
      simpa [e1] using hrun
theorem MapV.put (h : MapV w P k b n m f) (K : Keyed P k) (ht : P.underlying t = some (.map k e)) (hn : n < maxLen) (hkey : keyOf P k key = some kl) :
    ∃ w', (Instr.mapUpdate t (.map (some b)) key val).run P w = .ok () w' ∧ MapV w' P k b (n + 1) (if (f kl).isSome then m else m + 1) (upd f kl (some val)) ∧ w.grownBy w' (some b) := by
  obtain ⟨D, ho, hs, r⟩ := h
  obtain ⟨w1, h1, h2, h3⟩ := ho.store K ht hn hkey (val := val) (d := .held val) (ps := []) rfl
  refine ⟨w1, h1, ⟨_, h2, ?_, fun x hx => ?_⟩, h3.grown⟩
  · obtain ⟨r1, _⟩ := r kl ⟨key, hkey⟩
    rw [Maps.size_put (ho.tidy K), r1, hs]
  · by_cases e1 : x = kl
    · subst e1
      rw [upd_same]
      refine ⟨Maps.has_put_same ho.isMap (K.key hkey) _, fun v z hv => ?_⟩
      simp only [Option.some.injEq] at hv
      subst hv
      exact Maps.atKey_put_same ho.isMap (K.key hkey) _ _
    · rw [upd_other _ _ e1, Maps.has_put_other e1]
      obtain ⟨r1, r2⟩ := r x hx
      exact ⟨r1, fun v z hv => by rw [Maps.atKey_put_other e1]; exact r2 v z hv⟩
theorem MapV.drop (h : MapV w P k b n m f) (K : Keyed P k) (ht : P.underlying t = some (.map k e)) (hkey : keyOf P k key = some kl) (ty : TypeId) :
    ∃ w', (Builtin.delete_ #[t, k] ty #[.map (some b), key]).run P w = .ok (.tuple #[]) w' ∧ MapV w' P k b n (if (f kl).isSome then m - 1 else m) (upd f kl none) ∧ w.grownBy w' (some b) := by
  obtain ⟨D, ho, hs, r⟩ := h
  obtain ⟨w1, h1, h2, h3⟩ := ho.drop K ht hkey ty
  refine ⟨w1, h1, ⟨_, h2, ?_, fun x hx => ?_⟩, h3.grown⟩
  · obtain ⟨r1, _⟩ := r kl ⟨key, hkey⟩
    have e0 := Maps.size_del (k := kl) (ho.tidy K)
    rw [r1, hs] at e0
    split <;> simp_all <;> omega
  · by_cases e1 : x = kl
    · subst e1
      rw [upd_same]
      exact ⟨Maps.has_del_same, fun v z hv => by cases hv⟩
    · rw [upd_other _ _ e1, Maps.has_del_other e1]
      obtain ⟨r1, r2⟩ := r x hx
      exact ⟨r1, fun v z hv => by rw [Maps.atKey_del_other e1]; exact r2 v z hv⟩
theorem MapV.len (h : MapV w P k b n m f) (ht : P.underlying t = some (.map k e)) (ty : TypeId) : (Builtin.len_ #[t] ty #[.map (some b)]).run P w = .ok (.int .i64 m) w := by
  obtain ⟨D, ho, hs, _⟩ := h
  rw [ho.len ht, hs]


/-! ### at the operation, in a fence -/
variable {F : Fence} {nF : Nat} {ops : Array Oper} {rest : List Oper} {o : Oper} {a : Act} {Q : Exit → Act → World → Prop}
theorem wpListIn_lookV_ok (hg : o.guard = none) (mm x : Operand) (hop : o.op = Op.lookup t mm x true) (h : MapV w P k b n m f) (K : Keyed P k) (ht : P.underlying t = some (.map k e)) {z : Value} (hz : (zeroValue e).run P w = .ok z w)
    (hm : a.eval mm = .map (some b)) (hx : a.eval x = key) (hkey : keyOf P k key = some kl) (u : Value) (c : Bool) (hu : (f kl).getD z = u) (hc : (f kl).isSome = c) (hK : wpListIn F nF P ops Q rest (a.put o.dst (.tuple #[u, .bool c])) w) : wpListIn F nF P ops Q (o :: rest) a w := by
  refine wpListIn_plain hg fun K' hK' => ?_
  have hrun := h.look_ok K ht hz hkey
  rw [hu, hc] at hrun
  unfold Oper.wpIn
  refine ⟨by simp [Oper.about, hop], ?_⟩
  rw [Oper.semAt_plain F _ _ (by rw [hop]; intro c hc'; cases hc')]
  simp [execOp, hop, hm, hx, hrun, Result.andThen]
  exact hK' _ _ hK
theorem wpListIn_putV (hg : o.guard = none) (mm x v : Operand) (hop : o.op = Op.mapUpdate t mm x v) (h : MapV w P k b n m f) (K : Keyed P k) (ht : P.underlying t = some (.map k e)) (hn : n < maxLen)
    (hm : a.eval mm = .map (some b)) (hx : a.eval x = key) (hv : a.eval v = val) (hkey : keyOf P k key = some kl)
    (hK : ∀ w', MapV w' P k b (n + 1) (if (f kl).isSome then m else m + 1) (upd f kl (some val)) → w.grownBy w' (some b) → wpListIn F nF P ops Q rest (a.put o.dst undef) w') : wpListIn F nF P ops Q (o :: rest) a w := by
  refine wpListIn_plain hg fun K' hK' => ?_
  obtain ⟨w1, h1, h2, h3⟩ := h.put K ht hn hkey (val := val)
  unfold Oper.wpIn
  refine ⟨by simp [Oper.about, hop], ?_⟩
  rw [Oper.semAt_plain F _ _ (by rw [hop]; intro c hc'; cases hc')]
  simp [execOp, hop, hm, hx, hv, h1, Result.andThen]
  exact hK' _ _ (hK w1 h2 h3)
theorem wpListIn_loadRow (hg : o.guard = none) (ty : TypeId) (x : Operand) (hop : o.op = .load ty x) (g : Nat) (hx : a.eval x = .pointer (some ⟨g, 0, none⟩)) (t : TypeId) (cs : Array Value) (fr : Nat × Nat) (d : TypeDesc) (hh : w.heap[g]? = some (.cells cs t fr))
    (hu : P.underlying ty = some d) (hd : (match d with | .struct _ | .array _ _ => true | _ => false) = true) (hi : (P.info? ty).map (·.size) = some cs.size) (hK : wpListIn F nF P ops Q rest (a.put o.dst (.agg cs)) w) : wpListIn F nF P ops Q (o :: rest) a w := by
  refine wpListIn_plain hg fun K' hK' => ?_
  unfold Oper.wpIn
  refine ⟨by simp [Oper.about, hop], ?_⟩
  rw [Oper.semAt_plain F _ _ (by rw [hop]; intro c hc'; cases hc')]
  simp only [execOp, hop, hx, Instr.loadAt, Instr.sureAddr, Sem.run_bind, Sem.run_pure, Result.andThen_ok, run_loadVar_row w g t ty cs fr d hh hu hd hi]
  exact hK' _ _ hK
theorem wpListIn_copySplice (hgd : o.guard = none) (d s : Operand) (dT sT : TypeId)
    (ho : o.op = .call { callee := .builtin .copy, args := #[d, s], argTypes := #[dT, sT] }) (elem : TypeId) (hu : P.underlying dT = some (.slice elem)) (hsz : (P.info? elem).map (·.size) = some 1)
    (g dLen dCap sLen sCap : Nat) (ad : Addr) (hd : a.eval d = .slice (some ⟨g, 0, none⟩) dLen dCap) (hs : a.eval s = .slice (some ad) sLen sCap)
    (cur : Array Value) (t : TypeId) (hg : w.heap[g]? = some (.cells cur t (0, 0))) (cs : List Value) (hn : cs.length = Nat.min sLen dLen)
    (hsrc : ∀ j v, cs[j]? = some v → w.cell? (ad.add j) = some v) (hfit : 0 + cs.length ≤ cur.size) (h1 : ∀ v ∈ cs, v.oneCell' = true)
    (hK : wpListIn F nF P ops Q rest (a.put o.dst (goInt cs.length)) (w.setRow g (cur.toList.take 0 ++ (cs ++ cur.toList.drop (0 + cs.length))).toArray)) : wpListIn F nF P ops Q (o :: rest) a w := by
  refine wpListIn_plain hgd fun K' hK' => ?_
  have hrun := run_copy_row (P := P) w dT sT o.type elem g 0 dLen dCap ad sLen sCap cur t cs hu hsz hg hn hsrc hfit h1
  unfold Oper.wpIn
  refine ⟨by simp [Oper.about, ho, resolve, Target.leads, Sem.run_pure], ?_⟩
  rw [Oper.semAt_plain F _ _ (by rw [ho]; intro c hc'; cases hc')]
  simp [execOp, ho, resolve, invoke, builtin, hd, hs, hrun, Result.andThen]
  exact hK' _ _ (by simpa using hK)
theorem wpListIn_allocV (hg : o.guard = none) (ty : TypeId) (hop : o.op = .alloc ty) (z : Value) (hz : (zeroValue ty).run P w = .ok z w) (hK : wpListIn F nF P ops Q rest (a.put o.dst (.pointer (some ⟨w.heap.size, 0, none⟩))) (w.alloc (.cells z.cells ty))) : wpListIn F nF P ops Q (o :: rest) a w := by
  refine wpListIn_plain hg fun K' hK' => ?_
  unfold Oper.wpIn
  refine ⟨by simp [Oper.about, hop], ?_⟩
  rw [Oper.semAt_plain F _ _ (by rw [hop]; intro c hc'; cases hc')]
  simp [execOp, hop, Instr.alloc, newVar, newRow, newObj, hz, Result.andThen]
  exact hK' _ _ hK
end
end Go.Proofs.Ytdcgpodjoalokaa
