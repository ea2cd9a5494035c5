/- A map that a call makes: what stands at each key, whatever the values are. -/
import Derived.Maps.OwnSet
import Derived.Maps.OwnOps
namespace Go.Proofs.Ytkpdbceglejbnaa
open Go.Maps Go.WideShapes

/-- A value as it stands. -/
def heldR (v : Value) : Option (DataW Value × List MemPlace) := some (.held v, [])
def lk (x : Int) : Lit := .int .i64 x
/-- Block b is a map of at most n entries with m keys; f says what stands at each key. -/
def MapV (w : World) (P : Program) (k : TypeId) (b n m : Nat) (f : Lit → Option Value) : Prop :=
  ∃ D, w.ownsMap P k heldR b n D ∧ Maps.size D = m ∧ ∀ kl, KeysOf P k kl → Maps.has D kl = (f kl).isSome ∧ ∀ v z, f kl = some v → D.atKey kl z = .held v
open Classical in
noncomputable def upd (f : Lit → Option Value) (k : Lit) (v : Option Value) : Lit → Option Value := fun x => if x = k then v else f x
theorem upd_same (f : Lit → Option Value) (k : Lit) (v : Option Value) : upd f k v k = v := by simp [upd]
theorem upd_other (f : Lit → Option Value) {k x : Lit} (v : Option Value) (h : x ≠ k) : upd f k v x = f x := by simp [upd, h]

section
variable {P : Program} {k e t : TypeId} {w w' : World} {b n m : Nat} {f : Lit → Option Value} {key val : Value} {kl : Lit}

theorem MapV.made (w : World) (P : Program) (k : TypeId) : MapV (w.alloc (.map #[] 0)) P k w.heap.size 0 0 (fun _ => none) :=
  ⟨_, World.ownsMap_made w P k heldR, rfl, fun kl _ => ⟨rfl, fun v z h => by cases h⟩⟩
theorem MapV.lt (h : MapV w P k b n m f) : b < w.heap.size := by obtain ⟨D, h, _⟩ := h; exact h.lt
theorem MapV.mono (h : MapV w P k b n m f) {n' : Nat} (hn : n ≤ n') : MapV w P k b n' m f := by obtain ⟨D, h, r⟩ := h; exact ⟨D, h.mono hn, r⟩
theorem MapV.congr (h : MapV w P k b n m f) {g : Lit → Option Value} (hg : ∀ x, KeysOf P k x → g x = f x) : MapV w P k b n m g := by
  obtain ⟨D, h, s, r⟩ := h
  exact ⟨D, h, s, fun kl hk => by rw [hg kl hk]; exact r kl hk⟩
theorem MapV.kept {row : Option Nat} (h : MapV w P k b n m f) (hg : w.grownBy w' row) (hne : some b ≠ row) : MapV w' P k b n m f := by
  obtain ⟨D, h, r⟩ := h; exact ⟨D, h.kept hg hne, r⟩
theorem MapV.block (h : MapV w P k b n m f) (hb : w'.heap[b]? = w.heap[b]?) : MapV w' P k b n m f := by
  obtain ⟨D, ⟨es, c, h1, h2⟩, r⟩ := h
  exact ⟨D, ⟨es, c, by rw [hb, h1], h2⟩, r⟩
theorem MapV.isMap (h : MapV w P k b n m f) : ∃ es c, w.heap[b]? = some (.map es c) := by
  obtain ⟨D, ⟨es, c, h1, h2⟩, r⟩ := h; exact ⟨es, c, h1⟩
theorem MapV.drew (h : MapV w P k b n m f) : MapV w.drew P k b n m f := h.block rfl
theorem MapV.m_le (h : MapV w P k b n m f) : m ≤ n := by obtain ⟨D, h, s, _⟩ := h; rw [← s]; exact h.size_le

theorem MapV.look (h : MapV w P k b n m f) (K : Keyed P k) (ht : P.underlying t = some (.map k e)) {z : Value} (hz : (zeroValue e).run P w = .ok z w) (hkey : keyOf P k key = some kl) :
    (Instr.lookup t (.map (some b)) key false).run P w = .ok ((f kl).getD z) w := by
  obtain ⟨D, ⟨es, clock, hb, F, _, rfl⟩, _, r⟩ := h
  obtain ⟨r1, r2⟩ := r kl ⟨key, hkey⟩
  rcases Maps.fit_look false K ht hz hb F hkey with ⟨hrun, _, hat⟩ | ⟨e0, y, _, _, hrun, hRv, hat, _⟩
  · cases hf : f kl with
    | none => simpa [hf] using hrun
    | some v => have := Maps.has_false_of_atKey hat; rw [hf] at r1; rw [this] at r1; cases r1
  · cases hf : f kl with
    | none => have := Maps.has_true_of_atKey hat; rw [hf] at r1; rw [this] at r1; cases r1
    | some v =>
      have e1 := r2 v .nil hf
      rw [hat .nil] at e1
      simp only [heldR, Option.some.injEq] at hRv
      rw [← hRv] at e1
      simp only [DataW.held.injEq] at e1
      simpa [e1] using hrun
theorem MapV.look_ok (h : MapV w P k b n m f) (K : Keyed P k) (ht : P.underlying t = some (.map k e)) {z : Value} (hz : (zeroValue e).run P w = .ok z w) (hkey : keyOf P k key = some kl) :
    (Instr.lookup t (.map (some b)) key true).run P w = .ok (.tuple #[(f kl).getD z, .bool (f kl).isSome]) w := by
  obtain ⟨D, ⟨es, clock, hb, F, _, rfl⟩, _, r⟩ := h
  obtain ⟨r1, r2⟩ := r kl ⟨key, hkey⟩
  rcases Maps.fit_look true K ht hz hb F hkey with ⟨hrun, _, hat⟩ | ⟨e0, y, _, _, hrun, hRv, hat, _⟩
  · cases hf : f kl with
    | none => simpa [hf] using hrun
    | some v => have := Maps.has_false_of_atKey hat; rw [hf] at r1; rw [this] at r1; cases r1
  · cases hf : f kl with
    | none => have := Maps.has_true_of_atKey hat; rw [hf] at r1; rw [this] at r1; cases r1
    | some v =>
      have e1 := r2 v .nil hf
      rw [hat .nil] at e1
      simp only [heldR, Option.some.injEq] at hRv
      rw [← hRv] at e1
      simp only [DataW.held.injEq] at e1
      simpa [e1] using hrun
theorem MapV.put (h : MapV w P k b n m f) (K : Keyed P k) (ht : P.underlying t = some (.map k e)) (hn : n < maxLen) (hkey : keyOf P k key = some kl) :
    ∃ w', (Instr.mapUpdate t (.map (some b)) key val).run P w = .ok () w' ∧ MapV w' P k b (n + 1) (if (f kl).isSome then m else m + 1) (upd f kl (some val)) ∧ w.grownBy w' (some b) := by
  obtain ⟨D, ho, hs, r⟩ := h
  obtain ⟨w1, h1, h2, h3⟩ := ho.store K ht hn hkey (val := val) (d := .held val) (ps := []) rfl
  refine ⟨w1, h1, ⟨_, h2, ?_, fun x hx => ?_⟩, h3.grown⟩
  · obtain ⟨r1, _⟩ := r kl ⟨key, hkey⟩
    rw [Maps.size_put (ho.tidy K), r1, hs]
  · by_cases e1 : x = kl
    · subst e1
      rw [upd_same]
      refine ⟨Maps.has_put_same ho.isMap (K.key hkey) _, fun v z hv => ?_⟩
      simp only [Option.some.injEq] at hv
      subst hv
      exact Maps.atKey_put_same ho.isMap (K.key hkey) _ _
    · rw [upd_other _ _ e1, Maps.has_put_other e1]
      obtain ⟨r1, r2⟩ := r x hx
      exact ⟨r1, fun v z hv => by rw [Maps.atKey_put_other e1]; exact r2 v z hv⟩
theorem MapV.drop (h : MapV w P k b n m f) (K : Keyed P k) (ht : P.underlying t = some (.map k e)) (hkey : keyOf P k key = some kl) (ty : TypeId) :
    ∃ w', (Builtin.delete_ #[t, k] ty #[.map (some b), key]).run P w = .ok (.tuple #[]) w' ∧ MapV w' P k b n (if (f kl).isSome then m - 1 else m) (upd f kl none) ∧ w.grownBy w' (some b) := by
  obtain ⟨D, ho, hs, r⟩ := h
  obtain ⟨w1, h1, h2, h3⟩ := ho.drop K ht hkey ty
  refine ⟨w1, h1, ⟨_, h2, ?_, fun x hx => ?_⟩, h3.grown⟩
  · obtain ⟨r1, _⟩ := r kl ⟨key, hkey⟩
    have e0 := Maps.size_del (k := kl) (ho.tidy K)
    rw [r1, hs] at e0
    split <;> simp_all <;> omega
  · by_cases e1 : x = kl
    · subst e1
      rw [upd_same]
      exact ⟨Maps.has_del_same, fun v z hv => by cases hv⟩
    · rw [upd_other _ _ e1, Maps.has_del_other e1]
      obtain ⟨r1, r2⟩ := r x hx
      exact ⟨r1, fun v z hv => by rw [Maps.atKey_del_other e1]; exact r2 v z hv⟩
theorem MapV.len (h : MapV w P k b n m f) (ht : P.underlying t = some (.map k e)) (ty : TypeId) : (Builtin.len_ #[t] ty #[.map (some b)]).run P w = .ok (.int .i64 m) w := by
  obtain ⟨D, ho, hs, _⟩ := h
  rw [ho.len ht, hs]

/-! ### at the operation -/
variable {ops : Array Oper} {rest : List Oper} {o : Oper} {a : Act} {Q : Exit → Act → World → Prop}
theorem wpList_lookV (hg : o.guard = none) (mm x : Operand) (hop : o.op = Op.lookup t mm x false) (h : MapV w P k b n m f) (K : Keyed P k) (ht : P.underlying t = some (.map k e)) {z : Value} (hz : (zeroValue e).run P w = .ok z w)
    (hm : a.eval mm = .map (some b)) (hx : a.eval x = key) (hkey : keyOf P k key = some kl) (u : Value) (hu : (f kl).getD z = u) (hK : wpList P ops Q rest (a.put o.dst u) w) : wpList P ops Q (o :: rest) a w := by
  refine wpList_plain hg fun K' hK' => ?_
  have hrun := h.look K ht hz hkey
  rw [hu] at hrun
  unfold Oper.wp
  simp [execOp, hop, hm, hx, hrun, Result.andThen]
  exact hK' _ _ hK
theorem wpList_lookV_ok (hg : o.guard = none) (mm x : Operand) (hop : o.op = Op.lookup t mm x true) (h : MapV w P k b n m f) (K : Keyed P k) (ht : P.underlying t = some (.map k e)) {z : Value} (hz : (zeroValue e).run P w = .ok z w)
    (hm : a.eval mm = .map (some b)) (hx : a.eval x = key) (hkey : keyOf P k key = some kl) (u : Value) (c : Bool) (hu : (f kl).getD z = u) (hc : (f kl).isSome = c) (hK : wpList P ops Q rest (a.put o.dst (.tuple #[u, .bool c])) w) : wpList P ops Q (o :: rest) a w := by
  refine wpList_plain hg fun K' hK' => ?_
  have hrun := h.look_ok K ht hz hkey
  rw [hu, hc] at hrun
  unfold Oper.wp
  simp [execOp, hop, hm, hx, hrun, Result.andThen]
  exact hK' _ _ hK
theorem wpList_putV (hg : o.guard = none) (mm x v : Operand) (hop : o.op = Op.mapUpdate t mm x v) (h : MapV w P k b n m f) (K : Keyed P k) (ht : P.underlying t = some (.map k e)) (hn : n < maxLen)
    (hm : a.eval mm = .map (some b)) (hx : a.eval x = key) (hv : a.eval v = val) (hkey : keyOf P k key = some kl)
    (hK : ∀ w', MapV w' P k b (n + 1) (if (f kl).isSome then m else m + 1) (upd f kl (some val)) → w.grownBy w' (some b) → wpList P ops Q rest (a.put o.dst undef) w') : wpList P ops Q (o :: rest) a w := by
  refine wpList_plain hg fun K' hK' => ?_
  obtain ⟨w1, h1, h2, h3⟩ := h.put K ht hn hkey (val := val)
  unfold Oper.wp
  simp [execOp, hop, hm, hx, hv, h1, Result.andThen]
  exact hK' _ _ (hK w1 h2 h3)
theorem wpList_dropV (hg : o.guard = none) (mm x : Operand) (hop : o.op = Op.call { callee := Callee.builtin Builtin.delete, args := #[mm, x], argTypes := #[t, k] }) (h : MapV w P k b n m f) (K : Keyed P k) (ht : P.underlying t = some (.map k e))
    (hm : a.eval mm = .map (some b)) (hx : a.eval x = key) (hkey : keyOf P k key = some kl)
    (hK : ∀ w', MapV w' P k b n (if (f kl).isSome then m - 1 else m) (upd f kl none) → w.grownBy w' (some b) → wpList P ops Q rest (a.put o.dst (.tuple #[])) w') : wpList P ops Q (o :: rest) a w := by
  obtain ⟨D, ho, hs, r⟩ := h
  refine wpList_delete_own w hg mm x t k hop e K ht heldR b n D hm ho key kl hx hkey fun w1 h2 h3 => ?_
  refine hK w1 ⟨_, h2, ?_, fun x hx => ?_⟩ h3.grown
  · obtain ⟨r1, _⟩ := r kl ⟨key, hkey⟩
    have e0 := Maps.size_del (k := kl) (ho.tidy K)
    rw [r1, hs] at e0
    split <;> simp_all <;> omega
  · by_cases e1 : x = kl
    · subst e1
      rw [upd_same]
      exact ⟨Maps.has_del_same, fun v z hv => by cases hv⟩
    · rw [upd_other _ _ e1, Maps.has_del_other e1]
      obtain ⟨r1, r2⟩ := r x hx
      exact ⟨r1, fun v z hv => by rw [Maps.atKey_del_other e1]; exact r2 v z hv⟩
theorem wpList_lenV (hg : o.guard = none) (mm : Operand) (hop : o.op = Op.call { callee := Callee.builtin Builtin.len, args := #[mm], argTypes := #[t] }) (h : MapV w P k b n m f) (ht : P.underlying t = some (.map k e)) (hm : a.eval mm = .map (some b))
    (hK : wpList P ops Q rest (a.put o.dst (.int .i64 m)) w) : wpList P ops Q (o :: rest) a w := by
  obtain ⟨D, ho, hs, r⟩ := h
  exact wpList_len_own w hg mm t hop k e ht heldR b n D hm ho (by rw [hs]; exact hK)
end
end Go.Proofs.Ytkpdbceglejbnaa
