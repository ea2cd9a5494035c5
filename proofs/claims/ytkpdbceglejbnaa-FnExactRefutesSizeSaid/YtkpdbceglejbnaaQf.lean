/- Rows of numbers that grow one by one, each in memory of its own: they lie in a list of lists or in a map. -/
import Derived.Test.YtkpdbceglejbnaaQa
import Derived.Test.YtkpdbceglejbnaaQm
import Derived.Test.YtkpdbceglejbnaaIi
namespace Go.Proofs.Ytkpdbceglejbnaa
open Go.RowKit Go.Maps

structure Fam (B : Nat) (w : World) (n : Nat) (R : Nat → Value) (L : Nat → List Int) : Prop where
  own : ∀ i, i < n → GrowN B w (R i) (L i)
  ap : ∀ i j, i < n → j < n → i ≠ j → ∀ b, (R i).ownBlock = some b → (R j).ownBlock ≠ some b
def nils : Nat → Value := fun _ => .slice none 0 0
theorem Fam.nil (B : Nat) (w : World) (n : Nat) : Fam B w n nils (fun _ => []) :=
  ⟨fun i _ => GrowN.nil B w, fun i j _ _ _ b h => by simp [nils, Value.ownBlock] at h⟩
theorem Fam.keep {B n : Nat} {w w' : World} {R : Nat → Value} {L : Nat → List Int} (h : Fam B w n R L) (he : ∀ b, B ≤ b → b < w.heap.size → (∃ cur, w.heap[b]? = some (.cells cur 3 (0, 0))) → w'.heap[b]? = w.heap[b]?) : Fam B w' n R L :=
  ⟨fun i hi => (h.own i hi).keep fun b hb => he b ((h.own i hi).lt b hb).1 ((h.own i hi).lt b hb).2 (owns_typed (h.own i hi) b hb), h.ap⟩
theorem Fam.ext {B n : Nat} {w w' : World} {R : Nat → Value} {L : Nat → List Int} (h : Fam B w n R L) (he : Ext w w') : Fam B w' n R L := h.keep fun b _ hb _ => he.block b hb
/-- A block that holds no numbers is turned. -/
theorem Fam.turn {B n b : Nat} {w w' : World} {R : Nat → Value} {L : Nat → List Int} (h : Fam B w n R L) (hg : w.grownBy w' (some b)) (hb : ∀ cur, w.heap[b]? ≠ some (.cells cur 3 (0, 0))) : Fam B w' n R L :=
  h.keep fun x _ hx ht => hg.block x hx fun e => by
    obtain ⟨cur, ht⟩ := ht
    simp only [Option.some.injEq] at e
    subst e
    exact hb cur ht
def app1 (L : Nat → List Int) (k : Nat) (x : Int) : Nat → List Int := fun i => if i = k then L i ++ [x] else L i
def put1 (R : Nat → Value) (k : Nat) (v : Value) : Nat → Value := fun i => if i = k then v else R i
theorem blk_mem {w : World} {v : Value} {n k t : Nat} {f : Nat → Value} {bs : List Nat} (h : OwnSl w v n k t f bs) : ∀ b, v.ownBlock = some b ↔ b ∈ bs := by
  obtain ⟨c, h1, h2, h3⟩ := h
  intro b
  rcases h3 with ⟨rfl, rfl, a, ⟨rfl, rfl⟩, rfl⟩ | ⟨b', m, g, rfl, rfl, hm, hr, hf⟩
  · simp [Value.ownBlock]
  · simp [Value.ownBlock, eq_comm]
theorem intCells_one (x : Int) : intCells [x] = [.int .i64 x] := rfl
/-- One row grows. -/
theorem Fam.step {B n k : Nat} {w W w2 : World} {R : Nat → Value} {L : Nat → List Int} {v' : Value} {x : Int} (h : Fam B w n R L) (hx : Ext w W) (hk : k < n) (hg : Grew2 W w2 B 3 1 (R k) v' ((L k).length + 1) (intCells (L k) ++ [.int .i64 x])) :
    Fam B w2 n (put1 R k v') (app1 L k x) := by
  have H := h.ext hx
  refine ⟨fun i hi => ?_, fun i j hi hj hij b => ?_⟩
  · by_cases e : i = k
    · subst e
      simp only [put1, app1, if_true]
      exact GrowN.step (news := [x]) hg.1 rfl
    · simp only [put1, app1, if_neg e]
      refine (H.own i hi).other hg.1.2.1 fun b hb => ?_
      exact H.ap i k hi hk e b hb
  · have hv : ∀ q, q < n → q ≠ k → ∀ b, (R q).ownBlock = some b → v'.ownBlock ≠ some b := fun q hq hqk b hb e1 => by
      rcases hg.2 b e1 with e2 | e2
      · exact H.ap q k hq hk hqk b hb e2
      · have := ((H.own q hq).lt b hb).2; omega
    by_cases e : i = k
    · subst e
      have e2 : j ≠ i := fun e => hij e.symm
      simp only [put1, if_true, if_neg e2]
      intro h1 h2
      exact hv j hj e2 b h2 h1
    · by_cases e3 : j = k
      · subst e3
        simp only [put1, if_true, if_neg e]
        exact hv i hi e b
      · simp only [put1, if_neg e, if_neg e3]
        exact H.ap i j hi hj hij b
theorem Fam.congr {B n : Nat} {w : World} {R R' : Nat → Value} {L L' : Nat → List Int} (h : Fam B w n R L) (hR : ∀ i, i < n → R' i = R i) (hL : ∀ i, i < n → L' i = L i) : Fam B w n R' L' :=
  ⟨fun i hi => by rw [hR i hi, hL i hi]; exact h.own i hi, fun i j hi hj hij b => by rw [hR i hi, hR j hj]; exact h.ap i j hi hj hij b⟩
theorem app1_fib {m : List Int} {k : Nat} {z : Nat} (hz : gi m k = (z : Int)) : app1 (fun (i : Nat) => fibTo m (i : Int) k) z (k : Int) = fun (i : Nat) => fibTo m (i : Int) (k + 1) := by
  funext i
  unfold app1
  by_cases e : i = z
  · subst e; rw [if_pos rfl, fibTo_yes hz]
  · rw [if_neg e, fibTo_no (by rw [hz]; omega)]
/-- All rows, laid in a row of their own, are a list of lists. -/
theorem Fam.done {B n b : Nat} {w : World} {R : Nat → Value} {l : List (List Int)} (h : Fam B w n R (gr l)) (hl : l.length = n) (hn : n ≤ maxLen) (hr : ∀ i, i < n → ∀ j, j < (gr l i).length → inI64 (gi (gr l i) j))
    (hb : w.rowIs b 26 n R) (hB : B ≤ b) : ∃ bs, OwnII w (.slice (some ⟨b, 0, none⟩) n n) l bs ∧ bs.Nodup ∧ ∀ x ∈ bs, B ≤ x := by
  subst hl
  have hT : ∀ i, i < l.length → ∃ T, OwnI w (R i) (gr l i) T ∧ T.Nodup ∧ (∀ x ∈ T, B ≤ x) := fun i hi => (h.own i hi).own (hr i hi)
  classical
  let T : Nat → List Nat := fun i => if hi : i < l.length then Classical.choose (hT i hi) else []
  have hTs : ∀ i, i < l.length → OwnI w (R i) (gr l i) (T i) ∧ (T i).Nodup ∧ ∀ x ∈ T i, B ≤ x := fun i hi => by
    have := Classical.choose_spec (hT i hi)
    simp only [T, dif_pos hi]; exact this
  have hty : Typed w 26 [b] := Typed.one hb
  refine ⟨[b] ++ (List.range l.length).flatMap T, ⟨R, [b], T, own_made (g := R) (by simpa using hb) hn (fun i _ => rfl), fun i hi => (hTs i hi).1, rfl⟩, ?_, fun x hx => ?_⟩
  · have ht : ∀ i, i < l.length → ∀ x ∈ T i, x ≠ b := fun i hi x hx e => by
      subst e
      exact (hTs i hi).1.1.typed.apart hty (by decide) x hx (by simp)
    rw [List.nodup_append]
    refine ⟨by simp, nodup_flat (fun i hi => (hTs i hi).2.1) fun i j hi hj hij x hx hy => ?_, fun x hx y hy e => ?_⟩
    · have e1 := (blk_mem (hTs i hi).1.1 x).2 hx
      have e2 := (blk_mem (hTs j hj).1.1 x).2 hy
      exact h.ap i j hi hj hij x e1 e2
    · simp only [List.mem_singleton] at hx
      subst hx
      obtain ⟨i, hi, hy⟩ := List.mem_flatMap.1 hy
      exact ht i (List.mem_range.1 hi) y hy e.symm
  · rcases List.mem_append.1 hx with hx | hx
    · simp only [List.mem_singleton] at hx; subst hx; exact hB
    · obtain ⟨i, hi, hx⟩ := List.mem_flatMap.1 hx
      exact (hTs i (List.mem_range.1 hi)).2.2 x hx
theorem fib_in {m : List Int} (hm : m.length ≤ 1048576) (w : Int) (k : Nat) (hk : k ≤ m.length) : ∀ j, j < (fibTo m w k).length → inI64 (gi (fibTo m w k) j) := fun j hj => by
  obtain ⟨v, h1, h2, _⟩ := fibTo_at hj
  rw [h2]; unfold inI64; omega

/-- What a map of rows has at its keys: the numbers below c for which p holds. -/
noncomputable def fm (c : Nat) (p : Nat → Prop) (R : Nat → Value) : Lit → Option Value := fun kl => match kl with
  | .int _ x => if dec (0 ≤ x ∧ x < (c : Int) ∧ p x.toNat) = true then some (R x.toNat) else none
  | _ => none
theorem fm_yes {c : Nat} {p : Nat → Prop} {R : Nat → Value} {z : Nat} (h : z < c) (hp : p z) : fm c p R (lk z) = some (R z) := by
  simp only [fm, lk]
  rw [if_pos (dec_true ⟨by omega, by omega, by simpa using hp⟩)]; simp
theorem fm_no {c : Nat} {p : Nat → Prop} {R : Nat → Value} {x : Int} (h : ¬ (0 ≤ x ∧ x < (c : Int) ∧ p x.toNat)) : fm c p R (lk x) = none := by
  simp only [fm, lk]
  rw [if_neg (by rw [dec_false h]; simp)]
theorem key_int {P : Program} {k : TypeId} (hk : P.underlying k = some (.int .i64)) {kl : Lit} (h : KeysOf P k kl) : ∃ x : Int, kl = lk x := by
  obtain ⟨v, hv⟩ := h
  rw [keyOf_int hk] at hv
  cases v <;> simp [mapKey, hk] at hv
  obtain ⟨⟨_, _⟩, rfl⟩ := hv
  exact ⟨_, rfl⟩
theorem key_mk {P : Program} {k : TypeId} (hk : P.underlying k = some (.int .i64)) {x : Int} (h : inI64 x) : keyOf P k (.int .i64 x) = some (lk x) :=
  keyOf_int_mk hk (WalkArith.wf_i64 h)
end Go.Proofs.Ytkpdbceglejbnaa
