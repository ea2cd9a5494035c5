/- append onto a slice in memory of its own that is there already: where the new one lies; one row of a list of rows is taken out and put back. -/
import Derived.Test.YtndgbildkeglfaaZero
namespace Go.Proofs.Ytndgbildkeglfaa
open Go.RowKit

theorem OwnSl.owns {w : World} {v : Value} {n k t : Nat} {f : Nat → Value} {bs : List Nat} {B : Nat} {xs : List Value} (h : OwnSl w v n k t f bs) (hb : ∀ b ∈ bs, B ≤ b) (hl : xs.length = n * k) (hx : ∀ i, i < n * k → xs[i]? = some (f i)) : w.ownsRow B t k v n xs := by
  obtain ⟨c, h1, h2, h3⟩ := h
  refine ⟨hl, ?_⟩
  rcases h3 with ⟨rfl, rfl, a, ⟨rfl, rfl⟩, rfl⟩ | ⟨b, m, g, rfl, rfl, ⟨hm, rfl⟩, ⟨cur, hc, hcs, hg⟩, hf⟩
  · exact .inl ⟨rfl, rfl⟩
  · refine .inr ⟨b, c, cur, rfl, hb b (by simp), hc, h1, h2, hcs, ?_⟩
    refine List.ext_getElem? fun i => ?_
    by_cases hi : i < n * k
    · rw [List.getElem?_take, if_pos hi, hx i hi, ← hf i hi]
      simpa using hg i (by omega)
    · rw [List.getElem?_take, if_neg hi, List.getElem?_eq_none (by omega)]
theorem OwnE.owns {w : World} {v : Value} {l : List (Int × Int)} {bs : List Nat} {B : Nat} (h : OwnE w v l bs) (hb : ∀ b ∈ bs, B ≤ b) : w.ownsRow B 44 2 v l.length (endCells l) := h.1.owns hb (by simp [endCells]) (fun i hi => endCells_get l i hi)
theorem OwnI.owns {w : World} {v : Value} {l : List Int} {bs : List Nat} {B : Nat} (h : OwnI w v l bs) (hb : ∀ b ∈ bs, B ≤ b) : w.ownsRow B 3 1 v l.length (intCells l) := h.1.owns hb (by simp [intCells]) (fun i hi => intCells_get l i (by omega))

/-- Where the slice that append gives lies. -/
theorem app_place {P : Program} (w : World) (base : Nat) (t ty e : TypeId) (i : TypeInfo) (z : Value) (size bytes : Nat) (ht : P.underlying t = some (.slice e)) (hi : P.info? e = some i) (hz : i.zero = some z)
    (hsize : i.size = size) (hby : i.bytes = bytes) (hzs : z.cells.size = size) (hsz : 0 < size)
    (v : Value) (n : Nat) (xs : List Value) (hown : w.ownsRow base e size v n xs)
    (ao : Option Addr) (m c : Nat) (news : List Value) (hsrc : SrcAt w ao m size news)
    (h63 : n + m ≤ maxLen) (hbytes : (n + m) * bytes ≤ 140737488355328) {v' : Value} {w' : World}
    (hr : (Builtin.append_ #[t, t] ty #[v, .slice ao m c]).run P w = .ok v' w') : ∀ b, v'.ownBlock = some b → v.ownBlock = some b ∨ w.heap.size ≤ b := by
  obtain ⟨hl, hnone, hnews, h1⟩ := hsrc
  cases ao with
  | none =>
    have h := run_append_owned_nil (P := P) base t ty e i size ht hi v n c xs hown
    obtain rfl := hnone rfl
    rw [h] at hr
    simp only [Result.ok.injEq] at hr
    obtain ⟨rfl, rfl⟩ := hr
    exact fun b hb => .inl hb
  | some ad =>
    have hnews := hnews ad rfl
    rcases hown.2 with ⟨rfl, rfl⟩ | ⟨g, cap, cur, rfl, hbg, hg, hnc, hcm, hcs, htake⟩
    · have hx : xs = [] := List.eq_nil_of_length_eq_zero (by simpa using hown.1)
      subst hx
      obtain ⟨v2, w2, hr2, h2, _⟩ := run_append_own (P := P) w w.heap.size t ty e i z size bytes ht hi hz hsize hby hzs hsz (.slice none 0 0) 0 [] (World.ownsRow_nil _ _ _ _) ad m c news hl hnews h1 h63 hbytes (Nat.le_refl _)
      rw [hr2] at hr
      simp only [Result.ok.injEq] at hr
      obtain ⟨rfl, rfl⟩ := hr
      exact fun b hb => .inr (h2.lt b hb).1
    · subst hsize
      subst hby
      have hsmall : n + m ≤ 9223372036854775807 := by simp only [maxLen] at h63; omega
      by_cases hroom : n + m ≤ cap
      · have hfit : n * i.size + news.length ≤ cur.size := by rw [hl, hcs, ← Nat.add_mul]; exact Nat.mul_le_mul_right _ hroom
        have h := run_append_room (P := P) w t ty e i ht hi g n cap cur hg ad m c news hl hnews h1 hroom hfit
        rw [h] at hr
        simp only [Result.ok.injEq] at hr
        obtain ⟨rfl, rfl⟩ := hr
        exact fun b hb => .inl hb
      · have holds : ∀ j u, xs[j]? = some u → w.cell? ((⟨g, 0, none⟩ : Addr).add j) = some u := hown.cells (g := g) rfl
        have h := run_append_grow (P := P) w t ty e i z ht hi hz ⟨g, 0, none⟩ n cap xs hown.1 holds ad m c news hl hnews (by omega) (by omega) (growslice_fits (by omega) hbytes)
        rw [h] at hr
        simp only [Result.ok.injEq] at hr
        obtain ⟨rfl, rfl⟩ := hr
        intro b hb
        simp only [Value.ownBlock, Option.some.injEq] at hb
        exact .inr (by omega)

def Grew2 (w w' : World) (base : Nat) (e : TypeId) (size : Nat) (v v' : Value) (n : Nat) (xs : List Value) : Prop := Grew w w' base e size v v' n xs ∧ ∀ b, v'.ownBlock = some b → v.ownBlock = some b ∨ w.heap.size ≤ b

theorem wp_app2 {P : Program} {w : World} {o : Oper} {a : Act} {K : Act → World → Prop} {Q : Exit → Act → World → Prop} (s x : Operand) (t : TypeId)
    (ho : o.op = .call { callee := .builtin .append, args := #[s, x], argTypes := #[t, t] })
    (base : Nat) (e : TypeId) (i : TypeInfo) (z : Value) (size bytes : Nat) (ht : P.underlying t = some (.slice e)) (hi : P.info? e = some i) (hz : i.zero = some z)
    (hsize : i.size = size) (hby : i.bytes = bytes) (hzs : z.cells.size = size) (hsz : 0 < size)
    (v : Value) (n : Nat) (xs : List Value) (hs : a.eval s = v) (hown : w.ownsRow base e size v n xs)
    (ao : Option Addr) (m c : Nat) (news : List Value) (hx : a.eval x = .slice ao m c) (hsrc : SrcAt w ao m size news)
    (h63 : n + m ≤ maxLen) (hbytes : (n + m) * bytes ≤ 140737488355328) (hbase : base ≤ w.heap.size)
    (h : ∀ v' w', Grew2 w w' base e size v v' (n + m) (xs ++ news) → K (a.put o.dst v') w') : o.wp P a w K Q := by
  obtain ⟨v', w', hr, h2⟩ := run_app (P := P) w base t o.type e i z size bytes ht hi hz hsize hby hzs hsz v n xs hown ao m c news hsrc h63 hbytes hbase
  have h3 := app_place (P := P) w base t o.type e i z size bytes ht hi hz hsize hby hzs hsz v n xs hown ao m c news hsrc h63 hbytes hr
  unfold Oper.wp execOp
  simp only [ho, resolve, invoke, builtin, Sem.run_bind, Sem.run_pure, Result.andThen_ok, List.map_toArray, List.map_cons, List.map_nil, hs, hx, hr]
  exact h v' w' ⟨h2, h3⟩

theorem wpList_app2 {P : Program} {w : World} {ops : Array Oper} {rest : List Oper} {o : Oper} {a : Act} {Q : Exit → Act → World → Prop} (hgd : o.guard = none) (s x : Operand) (t : TypeId)
    (ho : o.op = .call { callee := .builtin .append, args := #[s, x], argTypes := #[t, t] })
    (base : Nat) (e : TypeId) (i : TypeInfo) (z : Value) (size bytes : Nat) (ht : P.underlying t = some (.slice e)) (hi : P.info? e = some i) (hz : i.zero = some z)
    (hsize : i.size = size) (hby : i.bytes = bytes) (hzs : z.cells.size = size) (hsz : 0 < size)
    (v : Value) (n : Nat) (xs : List Value) (hs : a.eval s = v) (hown : w.ownsRow base e size v n xs)
    (ao : Option Addr) (m c : Nat) (news : List Value) (hx : a.eval x = .slice ao m c) (hsrc : SrcAt w ao m size news)
    (h63 : n + m ≤ maxLen) (hbytes : (n + m) * bytes ≤ 140737488355328) (hbase : base ≤ w.heap.size)
    (h : ∀ v' w', Grew2 w w' base e size v v' (n + m) (xs ++ news) → wpList P ops Q rest (a.put o.dst v') w') : wpList P ops Q (o :: rest) a w :=
  wpList_plain hgd fun _ hK => wp_app2 s x t ho base e i z size bytes ht hi hz hsize hby hzs hsz v n xs hs hown ao m c news hx hsrc h63 hbytes hbase fun v' w' h2 => hK _ _ (h v' w' h2)

theorem step_app2 {P : Program} {w : World} {ops : Array Oper} {o : Oper} {a : Act} {K : Act → World → Prop} {Q : Exit → Act → World → Prop} {E : Prop} (hgd : o.guard = none) (s x : Operand) (t : TypeId)
    (ho : o.op = .call { callee := .builtin .append, args := #[s, x], argTypes := #[t, t] })
    (base : Nat) (e : TypeId) (i : TypeInfo) (z : Value) (size bytes : Nat) (ht : P.underlying t = some (.slice e)) (hi : P.info? e = some i) (hz : i.zero = some z)
    (hsize : i.size = size) (hby : i.bytes = bytes) (hzs : z.cells.size = size) (hsz : 0 < size)
    (v : Value) (n : Nat) (xs : List Value) (hs : a.eval s = v) (hown : w.ownsRow base e size v n xs)
    (ao : Option Addr) (m c : Nat) (news : List Value) (hx : a.eval x = .slice ao m c) (hsrc : SrcAt w ao m size news)
    (h63 : n + m ≤ maxLen) (hbytes : (n + m) * bytes ≤ 140737488355328) (hbase : base ≤ w.heap.size)
    (h : ∀ v' w', Grew2 w w' base e size v v' (n + m) (xs ++ news) → K (a.put o.dst v') w') : if Region.wanted o (yielded ops a.tmps) = true then Oper.wp P o a w K Q else E := by
  have hw : Region.wanted o (yielded ops a.tmps) = true := by simp [Region.wanted, hgd]
  rw [if_pos hw]
  exact wp_app2 s x t ho base e i z size bytes ht hi hz hsize hby hzs hsz v n xs hs hown ao m c news hx hsrc h63 hbytes hbase h

theorem flatMap_congr {n : Nat} {S T : Nat → List Nat} (h : ∀ i, i < n → S i = T i) : (List.range n).flatMap S = (List.range n).flatMap T := by
  rw [List.flatMap_def, List.flatMap_def]
  congr 1
  exact List.map_congr_left fun i hi => h i (List.mem_range.1 hi)
theorem nodup_flat {n : Nat} {T : Nat → List Nat} (h1 : ∀ i, i < n → (T i).Nodup) (h2 : ∀ i j, i < n → j < n → i ≠ j → ∀ b ∈ T i, b ∉ T j) : ((List.range n).flatMap T).Nodup := by
  induction n with
  | zero => simp
  | succ n ih =>
    rw [List.range_succ, List.flatMap_append]
    refine List.nodup_append.2 ⟨ih (fun i hi => h1 i (by omega)) (fun i j hi hj => h2 i j (by omega) (by omega)), by simpa using h1 n (by omega), fun a ha b hb e => ?_⟩
    subst e
    obtain ⟨i, hi, hai⟩ := List.mem_flatMap.1 ha
    have := List.mem_range.1 hi
    exact h2 i n (by omega) (by omega) (by omega) a hai (by simpa using hb)
theorem gr_set {α : Type} (l : List (List α)) (k i : Nat) (r : List α) (hk : k < l.length) : gr (l.set k r) i = if i = k then r else gr l i := by
  unfold gr
  rw [List.getD_eq_getElem?_getD, List.getElem?_set]
  by_cases e : k = i
  · subst e; simp [hk]
  · rw [if_neg e, if_neg (fun h => e h.symm), List.getD_eq_getElem?_getD]

/-- One row is taken out and put back. -/
theorem OwnSS.focus {w : World} {v : Value} {l : List (List (Int × Int))} {bs : List Nat} (h : OwnSS w v l bs) (hnd : bs.Nodup) {k : Nat} (hk : k < l.length) :
    ∃ b c x t, v = .slice (some ⟨b, 0, none⟩) l.length c ∧ b ∈ bs ∧ w.cell? ⟨b, k, none⟩ = some x ∧ w.frozen? ⟨b, k, none⟩ = false ∧ OwnE w x (gr l k) t ∧ (∀ y ∈ t, y ∈ bs ∧ y ≠ b) ∧
      ∀ (w' : World) (x' : Value) (r : List (Int × Int)) (cs : List Nat), (∀ y, y < w.heap.size → y ∉ t → w'.heap[y]? = w.heap[y]?) → OwnE w' x' r cs → (∀ y ∈ cs, y ∈ t ∨ w.heap.size ≤ y) →
        ∃ ds, OwnSS (w'.setCell ⟨b, k, none⟩ x') v (l.set k r) ds ∧ ds.Nodup ∧ ∀ y ∈ ds, y ∈ bs ∨ w.heap.size ≤ y := by
  obtain ⟨R, b0, T, ⟨c, hc1, hc2, ho⟩, hrows, rfl⟩ := h
  rcases ho with ⟨hn, _⟩ | ⟨b, m, g, rfl, rfl, ⟨hm, hmc⟩, hrow, hg⟩
  · omega
  · obtain ⟨hd1, hd2⟩ := nodup_rows hnd
    have hT : ∀ i, i < l.length → ∀ y ∈ T i, y ∈ [b] ++ (List.range l.length).flatMap T := fun i hi y hy => List.mem_append.2 (.inr (List.mem_flatMap.2 ⟨i, List.mem_range.2 hi, hy⟩))
    have hbT : ∀ i, i < l.length → b ∉ T i := fun i hi => hd1 i hi b (by simp)
    refine ⟨b, c, R k, T k, rfl, by simp, by rw [hrow.cell (by omega), hg k (by omega)], hrow.frozen _, hrows k hk, fun y hy => ⟨hT k hk y hy, fun e => hbT k hk (e ▸ hy)⟩, ?_⟩
    intro w' x' r cs hw ho hcs
    have hblt : b < w.heap.size := hrow.lt
    have hne : ∀ y, y ≠ b → (w'.setCell ⟨b, k, none⟩ x').heap[y]? = w'.heap[y]? := fun y hy => Below.heap_setCell _ _ _ _ hy
    have hrow' : w'.rowIs b 70 m g := hrow.of_block (hw b hblt (hbT k hk))
    have hcb : ∀ y ∈ cs, y ≠ b := fun y hy e => by
      subst e
      rcases hcs y hy with h | h
      · exact hbT k hk h
      · omega
    have hsep : ∀ i, i < l.length → i ≠ k → ∀ y ∈ T i, y ∉ cs := fun i hi hik y hy hyc => by
      rcases hcs y hyc with h | h
      · exact hd2 i k hi hk hik y hy h
      · have := (hrows i hi).1.lt y hy; omega
    refine ⟨[b] ++ (List.range l.length).flatMap (fun i => if i = k then cs else T i), ⟨fun i => if i = k then x' else R i, [b], fun i => if i = k then cs else T i, ⟨c, by simpa using hc1, hc2, .inr ⟨b, m, _, rfl, by simp, ⟨by simpa using hm, hmc⟩, hrow'.set k x', ?_⟩⟩, ?_, by simp⟩, ?_, ?_⟩
    · intro i hi
      by_cases e : i = k
      · simp [e]
      · simp only [if_neg e]
        exact hg i (by simpa using hi)
    · intro i hi
      have hi : i < l.length := by simpa using hi
      rw [gr_set _ _ _ _ hk]
      by_cases e : i = k
      · subst e
        simp only [if_true]
        exact ho.keep fun y hy => hne y (hcb y hy)
      · simp only [if_neg e]
        exact (hrows i hi).keep fun y hy => by
          rw [hne y (fun e' => hbT i hi (e' ▸ hy)), hw y ((hrows i hi).1.lt y hy) (hd2 i k hi hk e y hy)]
    · refine List.nodup_append.2 ⟨by simp, nodup_flat (fun i hi => ?_) (fun i j hi hj hij y hy => ?_), fun a ha y hy e => ?_⟩
      · by_cases e : i = k
        · simp only [if_pos e]; exact ho.1.nodup
        · simp only [if_neg e]; exact (hrows i hi).1.nodup
      · by_cases e : i = k
        · subst e
          simp only [if_true] at hy
          rw [if_neg (fun h => hij h.symm)]
          exact fun hy' => hsep j hj (fun h => hij h.symm) y hy' hy
        · simp only [if_neg e] at hy
          by_cases e' : j = k
          · rw [if_pos e']; exact hsep i hi e y hy
          · rw [if_neg e']; exact hd2 i j hi hj hij y hy
      · obtain rfl := List.mem_singleton.1 ha
        subst e
        obtain ⟨i, hi, hyi⟩ := List.mem_flatMap.1 hy
        have hi := List.mem_range.1 hi
        by_cases e : i = k
        · simp only [if_pos e] at hyi; exact hcb a hyi rfl
        · simp only [if_neg e] at hyi; exact hbT i hi hyi
    · intro y hy
      rcases List.mem_append.1 hy with hy | hy
      · exact .inl (List.mem_append.2 (.inl hy))
      · obtain ⟨i, hi, hyi⟩ := List.mem_flatMap.1 hy
        have hi := List.mem_range.1 hi
        by_cases e : i = k
        · simp only [if_pos e] at hyi
          rcases hcs y hyi with h | h
          · exact .inl (hT k hk y h)
          · exact .inr h
        · simp only [if_neg e] at hyi
          exact .inl (hT i hi y hyi)

/-- The same of a network. -/
theorem OwnNet.focus {w : World} {v0 v1 v2 : Value} {N : Net} {bs : List Nat} (h : OwnNet w (.agg #[v0, v1, v2]) N bs) (hnd : bs.Nodup) {k : Nat} (hk : k < N.ends.length) :
    ∃ b c x t, v0 = .slice (some ⟨b, 0, none⟩) N.ends.length c ∧ b ∈ bs ∧ w.cell? ⟨b, k, none⟩ = some x ∧ w.frozen? ⟨b, k, none⟩ = false ∧ OwnE w x (gr N.ends k) t ∧ (∀ y ∈ t, y ∈ bs ∧ y ≠ b) ∧
      ∀ (w' : World) (x' : Value) (r : List (Int × Int)) (cs : List Nat), (∀ y, y < w.heap.size → y ∉ t → w'.heap[y]? = w.heap[y]?) → OwnE w' x' r cs → (∀ y ∈ cs, y ∈ t ∨ w.heap.size ≤ y) →
        ∃ ds, OwnNet (w'.setCell ⟨b, k, none⟩ x') (.agg #[v0, v1, v2]) { N with ends := N.ends.set k r } ds ∧ ds.Nodup ∧ ∀ y ∈ ds, y ∈ bs ∨ w.heap.size ≤ y := by
  obtain ⟨y0, y1, y2, b0, b1, b2, e, h0, h1, h2, rfl⟩ := h
  simp only [Value.agg.injEq, Array.mk.injEq, List.cons.injEq, and_true] at e
  obtain ⟨rfl, rfl, rfl⟩ := e
  obtain ⟨n0, n12, n3⟩ := List.nodup_append.1 hnd
  obtain ⟨b, c, x, t, hv, hb, hx, hf, hE, ht, hback⟩ := h0.focus n0 hk
  refine ⟨b, c, x, t, hv, by simp [hb], hx, hf, hE, fun y hy => ⟨by simp [(ht y hy).1], (ht y hy).2⟩, ?_⟩
  intro w' x' r cs hw ho hcs
  obtain ⟨ds, g1, g2, g3⟩ := hback w' x' r cs hw ho hcs
  have hlt : ∀ y ∈ b1 ++ b2, y < w.heap.size := fun y hy => by
    rcases List.mem_append.1 hy with hy | hy
    · exact h1.1.lt y hy
    · exact h2.1.lt y hy
  have hkeep : ∀ y ∈ b1 ++ b2, (w'.setCell ⟨b, k, none⟩ x').heap[y]? = w.heap[y]? := fun y hy => by
    rw [Below.heap_setCell _ _ _ _ (fun e => n3 b hb y hy e.symm), hw y (hlt y hy) (fun hyt => n3 y (ht y hyt).1 y hy rfl)]
  refine ⟨ds ++ (b1 ++ b2), ⟨_, _, _, ds, b1, b2, rfl, g1, h1.keep fun y hy => hkeep y (by simp [hy]), h2.keep fun y hy => hkeep y (by simp [hy]), rfl⟩, List.nodup_append.2 ⟨g2, n12, fun a ha y hy e => ?_⟩, fun y hy => ?_⟩
  · subst e
    rcases g3 a ha with h | h
    · exact n3 a h a hy rfl
    · have := hlt a hy; omega
  · rcases List.mem_append.1 hy with hy | hy
    · rcases g3 y hy with h | h
      · exact .inl (by simp [h])
      · exact .inr h
    · exact .inl (by simp only [List.mem_append] at hy ⊢; exact .inr hy)
end Go.Proofs.Ytndgbildkeglfaa
