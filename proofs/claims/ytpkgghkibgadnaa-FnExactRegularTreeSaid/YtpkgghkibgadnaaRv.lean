/- Regular trees level by level, as plain data: what the model keeps. -/
import Derived.Test.YtpkgghkibgadnaaRu
import Derived.Test.YtpkgghkibgadnaaSd
namespace Go.Proofs.Ytpkgghkibgadnaa
open Go.RowKit

/-- Consecutive numbers. -/
def run (a b : Nat) : List Int := (List.range (b - a)).map fun i => ((a + i : Nat) : Int)
theorem run_len (a b : Nat) : (run a b).length = b - a := by simp [run]
theorem run_gi {a b i : Nat} (h : i < b - a) : gi (run a b) i = ((a + i : Nat) : Int) := by simp [gi, run, List.getD, h]
theorem run_snoc {a b : Nat} (h : a ≤ b) : run a b ++ [((b : Nat) : Int)] = run a (b + 1) := by
  unfold run
  rw [show b + 1 - a = (b - a) + 1 by omega, List.range_succ, List.map_append]
  congr 1
  simp; omega
theorem run_nil (a : Nat) : run a a = [] := by simp [run]
theorem run_range {a b : Nat} (h : b ≤ 1000) : ∀ i, i < (run a b).length → inI64 (gi (run a b) i) := fun i hi => by
  rw [run_len] at hi; rw [run_gi hi]; unfold inI64; omega

/-- The distance of a node. -/
def dst (d v : Nat) : Int := gi (treeD d v) v
theorem dst_at (d : Nat) {v k : Nat} (h : v ≤ k) : gi (treeD d k) v = dst d v := by
  obtain ⟨m, rfl⟩ : ∃ m, k = v + m := ⟨k - v, by omega⟩
  exact gi_treeD_le d m v (Nat.le_refl _)
theorem dst_kid (d : Nat) {k : Nat} (h : tpar d k ≤ k) : dst d (k + 1) = dst d (tpar d k) + 1 := by
  unfold dst
  rw [gi_treeD_new]
  rw [dst_at d h]; rfl
theorem treeAt_next {d v : Nat} {dep : Int} (hv : v ≤ 40) (hc : v ≤ tcnt d v) :
    treeAt d dep v = if dst d v < dep then (if 40 ≤ tcnt d (v + 1) then none else treeAt d dep (v + 1)) else some (tcnt d v) := by
  rw [treeAt_step hv, dst_at d hc]
  by_cases h : dst d v < dep
  · rw [if_pos ⟨by omega, h⟩, if_pos h]
  · rw [if_neg (fun k => h k.2), if_neg h]
theorem treeAt_end {d v : Nat} {dep : Int} (hv : v ≤ 40) (hc : v = tcnt d v + 1) : treeAt d dep v = some (tcnt d v) := by
  rw [treeAt_step hv, if_neg (fun k => by have := k.1; omega)]

theorem addEnd_more (M : Net) (k : Nat) (p : Int × Int) (hk : k < M.ends.length) : addEnd (addIn (addRow M []) 0) k p = addIn (addRow (addEnd M k p) []) 0 := by
  have e : gr (addIn (addRow M []) 0).ends k = gr M.ends k := by
    show gr (addRow M []).ends k = _
    rw [gr_addRow, if_neg (by omega)]
  unfold addEnd
  rw [e]
  simp only [addIn, addRow]
  rw [List.set_append_left _ _ hk]
theorem joinAt_more (M : Net) {k l : Nat} (hl : l < M.ends.length) : joinAt (addIn (addRow M []) 0) k l = joinAt M k l := by
  have e : gr (addIn (addRow M []) 0).ends l = gr M.ends l := by
    show gr (addRow M []).ends l = _
    rw [gr_addRow, if_neg (by omega)]
  unfold joinAt
  rw [e]
theorem join_more (M : Net) {k l : Nat} (hk : k < M.ends.length) (hl : l < M.ends.length) : joinNet (addIn (addRow M []) 0) k l = addIn (addRow (joinNet M k l) []) 0 := by
  have e : gr (addIn (addRow M []) 0).ends k = gr M.ends k := by
    show gr (addRow M []).ends k = _
    rw [gr_addRow, if_neg (by omega)]
  unfold joinNet
  rw [joinAt_more M hl, e, addEnd_more M k _ hk, addEnd_more _ l _ (by rw [addEnd_len]; exact hl)]
theorem ge_app {E F : List (Int × Int)} {i : Nat} (h : i < E.length) : gn (E ++ F) i = gn E i ∧ gp (E ++ F) i = gp E i := by
  simp [gn, gp, List.getD, List.getElem?_append_left h]
theorem made_more {n : Nat} {E F : List (Int × Int)} (hE : ∀ i, i < E.length → (gn E i).toNat < n ∧ (gp E i).toNat < n) : ∀ i, i ≤ E.length → madeTo (blank (n + 1) 0) (E ++ F) i = addIn (addRow (madeTo (blank n 0) E i) []) 0
  | 0, _ => by
    simp only [madeTo, blank, addIn, addRow, List.replicate_zero]
    rw [List.replicate_succ', List.replicate_succ']
  | i + 1, h => by
    obtain ⟨e1, e2⟩ := ge_app (F := F) (show i < E.length by omega)
    have hl : (madeTo (blank n 0) E i).ends.length = n := by rw [length_madeTo]; simp [blank]
    obtain ⟨h1, h2⟩ := hE i (by omega)
    rw [madeTo, made_more hE i (by omega), e1, e2, join_more _ (by omega) (by omega), madeTo]
theorem treeE_at (d : Nat) : ∀ k i, i < k → gn (treeE d k) i = (tpar d i : Int) ∧ gp (treeE d k) i = (i : Int) + 1
  | 0, _, h => absurd h (by omega)
  | k + 1, i, h => by
    rw [treeE]
    by_cases e : i = k
    · subst e
      have : (treeE d i).length = i := treeE_len d i
      simp [gn, gp, List.getD, this]
    · obtain ⟨e1, e2⟩ := ge_app (E := treeE d k) (F := [((tpar d k : Int), (k : Int) + 1)]) (show i < (treeE d k).length by rw [treeE_len]; omega)
      rw [e1, e2]
      exact treeE_at d k i (by omega)
theorem tpar_le' (d : Nat) (h : 1 ≤ d) (k : Nat) : tpar d k ≤ k := by
  unfold tpar
  split
  · omega
  · have := Nat.div_le_self (k - d) (d - 1)
    omega
/-- A child more. -/
theorem treeNet_succ (d k : Nat) (h : 1 ≤ d) : treeNet d (k + 1) = joinNet (addIn (addRow (treeNet d k) []) 0) (tpar d k) (k + 1) := by
  have hp : ∀ i, tpar d i ≤ i := tpar_le' d h
  unfold treeNet
  rw [treeE_len, treeE_len, madeTo, treeE]
  rw [made_more (n := k + 1) (F := [((tpar d k : Int), (k : Int) + 1)]) (fun i hi => by
    rw [treeE_len] at hi
    obtain ⟨e1, e2⟩ := treeE_at d k i hi
    rw [e1, e2]
    have := hp i
    omega) k (by rw [treeE_len]; exact Nat.le_refl _)]
  have e := treeE_at d (k + 1) k (by omega)
  rw [treeE] at e
  rw [e.1, e.2]
  simp only [Int.toNat_natCast]
  congr 1

/-- A list of integers that grows in memory of the call's own. -/
def GrowJ (B : Nat) (w : World) (v : Value) (l : List Int) : Prop := w.ownsRow B 3 1 v l.length (intCells l)
theorem GrowJ.nil (B : Nat) (w : World) : GrowJ B w (.slice none 0 0) [] := World.ownsRow_nil _ _ _ _
theorem GrowJ.ext {B : Nat} {w w' : World} {v : Value} {l : List Int} (h : GrowJ B w v l) (he : Ext w w') : GrowJ B w' v l := owns_ext h he
theorem GrowJ.lt {B : Nat} {w : World} {v : Value} {l : List Int} (h : GrowJ B w v l) : ∀ b, v.ownBlock = some b → B ≤ b ∧ b < w.heap.size := World.ownsRow.lt h
theorem GrowJ.keep {B : Nat} {w w' : World} {v : Value} {l : List Int} (h : GrowJ B w v l) (he : ∀ b, v.ownBlock = some b → w'.heap[b]? = w.heap[b]?) : GrowJ B w' v l := by
  refine ⟨h.1, ?_⟩
  rcases h.2 with ⟨rfl, hn⟩ | ⟨g, cap, cur, rfl, hb, hh, rest⟩
  · exact .inl ⟨rfl, hn⟩
  · exact .inr ⟨g, cap, cur, rfl, hb, by rw [he g rfl]; exact hh, rest⟩
theorem GrowJ.typed {B : Nat} {w : World} {v : Value} {l : List Int} (h : GrowJ B w v l) {b : Nat} (hb : v.ownBlock = some b) : Typed w 3 [b] := fun y hy => by
  obtain rfl := List.mem_singleton.1 hy
  exact owns_typed h y hb
/-- It is left alone where a row of another type grows. -/
theorem GrowJ.beside {B C t k n : Nat} {w w' : World} {v u : Value} {l : List Int} {xs : List Value} (h : GrowJ B w v l) (ho : w.ownsRow C t k u n xs) (hg : w.grownBy w' u.ownBlock) (hne : 3 ≠ t) : GrowJ B w' v l :=
  h.keep fun b hb => kept_grown ho hg (h.typed hb) hne b (by simp)
/-- .. where a box is written. -/
theorem GrowJ.store {B t n : Nat} {w : World} {v : Value} {l : List Int} {f : Nat → Value} (h : GrowJ B w v l) {p : Addr} (hp : w.rowIs p.block t n f) (hne : 3 ≠ t) (u : Value) : GrowJ B (w.setCell p u) v l := by
  obtain ⟨c, hc⟩ := rowIs.blk hp
  exact h.keep fun b hb => kept_store hc (h.typed hb) hne b (by simp)
/-- .. where another list grows. -/
theorem GrowJ.other {B : Nat} {w w' : World} {v u : Value} {l : List Int} (h : GrowJ B w v l) (hg : w.grownBy w' u.ownBlock) (hne : ∀ b, v.ownBlock = some b → u.ownBlock ≠ some b) : GrowJ B w' v l := by
  refine World.ownsRow.kept h hg ?_
  cases e : v.ownBlock with
  | none => exact .inl rfl
  | some b => exact .inr fun e2 => hne b e e2.symm
theorem GrowJ.slice {B : Nat} {w : World} {v : Value} {l : List Int} (h : GrowJ B w v l) : ∃ a c, v = .slice a l.length c := owns_slice h
theorem GrowJ.form {B : Nat} {w : World} {v : Value} {l : List Int} (h : GrowJ B w v l) (hn : 0 < l.length) :
    ∃ g cap, v = .slice (some ⟨g, 0, none⟩) l.length cap ∧ l.length ≤ cap ∧ cap ≤ maxLen ∧ B ≤ g ∧ g < w.heap.size ∧ ∀ j, j < l.length → w.cell? ⟨g, j, none⟩ = some (.int .i64 (gi l j)) := by
  rcases h.2 with ⟨_, h0⟩ | ⟨g, cap, cur, rfl, hb, hg, h1, h2, _⟩
  · omega
  · refine ⟨g, cap, rfl, h1, h2, hb, (Array.getElem?_eq_some_iff.1 hg).1, fun j hj => ?_⟩
    rw [World.ownsRow.cellAt h j (by omega)]
    exact intCells_get l j hj
/-- The network in the box is left alone where a list of integers grows that lies apart from its inputs. -/
theorem HNet.other {W0 w w' : World} {M : Net} {p : Nat} {v0 v1 v2 x : Value} {l : List Int} (h : HNet W0 w M p v0 v1 v2) (hne1 : ∀ b, v1.ownBlock = some b → x.ownBlock ≠ some b) (hl : GrowJ W0.heap.size w x l) (hg : w.grownBy w' x.ownBlock) (hne : ∀ b, x.ownBlock = some b → v2.ownBlock ≠ some b) : HNet W0 w' M p v0 v1 v2 := by
  obtain ⟨bs, ⟨y0, y1, y2, b0, b1, b2, e, h0, h1, h2, rfl⟩, hnd, hge⟩ := h.net
  simp only [Value.agg.injEq, Array.mk.injEq, List.cons.injEq, and_true] at e
  obtain ⟨rfl, rfl, rfl⟩ := e
  have hE : Ext W0 w' := grown_ext h.ext (Nat.le_refl _) hl hg
  have k0 : ∀ b ∈ b0, w'.heap[b]? = w.heap[b]? := fun b hb => hg.block b (h0.lt b hb) fun e => h0.apart (cs := [b]) (hl.typed e.symm) (by decide) (by decide) b hb (by simp)
  have hv1 : ∀ b, v1.ownBlock = some b → x.ownBlock ≠ some b := hne1
  have k1 : ∀ b ∈ b1, w'.heap[b]? = w.heap[b]? := fun b hb => by
    obtain ⟨⟨c, _, _, h3⟩, _⟩ := h1
    rcases h3 with ⟨_, rfl, _⟩ | ⟨b', m, g, rfl, hv, hm, hr, _⟩
    · simp at hb
    · simp at hb; subst hb
      exact hg.block b hr.lt fun e => hv1 b (by rw [hv]; rfl) e.symm
  have k2 : ∀ b ∈ b2, w'.heap[b]? = w.heap[b]? := fun b hb => by
    obtain ⟨⟨c, _, _, h3⟩, _⟩ := h2
    rcases h3 with ⟨_, rfl, _⟩ | ⟨b', m, g, rfl, hv, hm, hr, _⟩
    · simp at hb
    · simp at hb; subst hb
      exact hg.block b hr.lt fun e => hne b e.symm (by rw [hv]; rfl)
  exact ⟨hE, h.hp, row_grown h.box hl hg (by decide), b0 ++ (b1 ++ b2), ⟨_, _, _, b0, b1, b2, rfl, h0.keep k0, h1.keep k1, h2.keep k2, rfl⟩, hnd, hge⟩

theorem tpar_lt {d v i : Nat} (h : i < tcnt d v) : tpar d i < v := by
  unfold tcnt at h
  unfold tpar
  by_cases hv : v = 0
  · subst hv; simp at h
  · rw [if_neg hv] at h
    split
    · omega
    · rename_i hi
      have : (i - d) / (d - 1) < v - 1 := Nat.div_lt_of_lt_mul (by rw [Nat.mul_comm]; omega)
      omega
theorem tcnt_mono (d : Nat) {u v : Nat} (h : u ≤ v) : tcnt d u ≤ tcnt d v := by
  obtain ⟨m, rfl⟩ : ∃ m, v = u + m := ⟨v - u, by omega⟩
  clear h
  induction m with
  | zero => exact Nat.le_refl _
  | succ m ih => rw [← Nat.add_assoc, tcnt_succ]; omega
def degT (d k v : Nat) : Nat := (gr (treeNet d k).ends v).length
theorem treeNet_len (d k : Nat) : (treeNet d k).ends.length = k + 1 := by
  unfold treeNet; rw [length_madeTo]; simp [blank]
theorem degT_succ {d k v : Nat} (h : 1 ≤ d) : degT d (k + 1) v = (if v = k + 1 then 0 else degT d k v) + (if v = tpar d k then 1 else 0) + (if v = k + 1 then 1 else 0) := by
  have hp := tpar_le' d h k
  unfold degT
  have hl : (addIn (addRow (treeNet d k) []) 0).ends.length = k + 2 := by
    show (addRow (treeNet d k) []).ends.length = _
    rw [addRow_len, treeNet_len]
  rw [treeNet_succ d k h, deg_joinNet (by rw [hl]; omega) (by rw [hl]; omega)]
  congr 2
  show (gr (addRow (treeNet d k) []).ends v).length = _
  rw [gr_addRow, treeNet_len]
  by_cases e : v = k + 1
  · rw [if_pos e, if_pos e]; rfl
  · rw [if_neg e, if_neg e]
theorem degT_old {d v : Nat} (h : 1 ≤ d) : ∀ m, v + m ≤ tcnt d v → degT d (v + m) v = if v = 0 then 0 else 1
  | 0, _ => by
    by_cases e : v = 0
    · subst e; rw [if_pos rfl]; unfold degT treeNet; simp [treeE, madeTo, blank, gr]
    · obtain ⟨u, rfl⟩ : ∃ u, v = u + 1 := ⟨v - 1, by omega⟩
      have hp := tpar_le' d h u
      rw [Nat.add_zero, degT_succ h, if_pos rfl, if_neg (by omega), if_pos rfl, if_neg e]
  | m + 1, hm => by
    have hp := tpar_lt (d := d) (v := v) (i := v + m) (by omega)
    rw [← Nat.add_assoc, degT_succ h, if_neg (by omega), if_neg (by omega), if_neg (by omega), degT_old h m (by omega)]; rfl
theorem degT_at {d v : Nat} (h : 1 ≤ d) (hv : v ≤ tcnt d v) : ∀ j, j ≤ tkid d v → degT d (tcnt d v + j) v = (if v = 0 then 0 else 1) + j
  | 0, _ => by
    obtain ⟨m, hm⟩ : ∃ m, tcnt d v = v + m := ⟨tcnt d v - v, by omega⟩
    rw [Nat.add_zero, Nat.add_zero, hm, degT_old h m (by omega)]
  | j + 1, hj => by
    rw [← Nat.add_assoc, degT_succ h, if_neg (by omega), if_pos (tpar_at (by omega)).symm, if_neg (by omega), degT_at h hv j (by omega)]
    omega
/-- Whether a node has all its children. -/
theorem degT_test {d v j : Nat} (h : 1 ≤ d ∨ v = 0) (hv : v ≤ tcnt d v) (hj : j ≤ tkid d v) : degT d (tcnt d v + j) v < d ↔ j < tkid d v := by
  by_cases hd : 1 ≤ d
  · rw [degT_at hd hv j hj]
    unfold tkid at hj ⊢
    by_cases e : v = 0
    · rw [if_pos e, if_pos e]; omega
    · rw [if_neg e, if_neg e]; omega
  · obtain rfl : d = 0 := by omega
    unfold tkid
    by_cases e : v = 0
    · rw [if_pos e]; omega
    · rw [if_neg e]; omega
theorem treeNet_good {d k : Nat} (h6 : 0 < k → d ≤ 6 ∧ 1 ≤ d ∧ (d = 1 → k ≤ 1)) (hk : k ≤ 39) : Good (treeNet d k) := by
  unfold treeNet
  refine (made_good (n := k + 1) (by omega) (by omega) (edgesC_ok ?_) _ (Nat.le_refl _)).1
  by_cases e : k = 0
  · subst e; rfl
  · obtain ⟨a, b, c⟩ := h6 (by omega)
    exact tree_fits d a k hk b c
theorem treeNet_ids (d k : Nat) : (treeNet d k).ids = [] := by
  unfold treeNet
  have : ∀ (n : Nat) (E : List (Int × Int)) i, (madeTo (blank n 0) E i).ids = [] := fun n E i => by
    induction i with
    | zero => rfl
    | succ i ih => rw [madeTo]; exact ih
  exact this _ _ _
theorem more_small {M : Net} (h : Good M) : (addIn (addRow M []) 0).small := by
  have hs := good_small h
  refine ⟨?_, fun i => ?_, hs.2.2.1, ?_⟩
  · show (addRow M []).ends.length ≤ _
    rw [addRow_len]; have := h.1.2; omega
  · show (gr (addRow M []).ends i).length ≤ _
    rw [gr_addRow]; split
    · simp
    · exact hs.2.1 i
  · show (M.inputs ++ [0]).length ≤ _
    have := h.1.2; have := h.2.2.2.1; simp; omega

theorem run_k {d : Nat} {dep : Int} : ∀ f v k, treeRun d dep f v = some k → ∃ u, k = tcnt d u
  | 0, _, _, h => by simp [treeRun] at h
  | f + 1, v, k, h => by
    rw [treeRun] at h
    by_cases c : v < tcnt d v + 1 ∧ gi (treeD d (tcnt d v)) v < dep
    · rw [if_pos c] at h
      by_cases e : 40 ≤ tcnt d (v + 1)
      · rw [if_pos e] at h; exact absurd h (by simp)
      · rw [if_neg e] at h; exact run_k f (v + 1) k h
    · rw [if_neg c] at h
      exact ⟨v, (Option.some.inj h).symm⟩
theorem tree_small {d : Nat} {dep : Int} (h6 : 0 < dep → d ≤ 6) {k : Nat} (h : treeAt d dep 0 = some k) : (treeNet d k).small := by
  have hk := treeAt_le _ 0 _ h (by simp [tcnt])
  obtain ⟨u, hu⟩ := run_k _ _ _ h
  refine good_small (treeNet_good (fun h0 => ⟨?_, ?_, fun e => ?_⟩) (by omega))
  · by_cases hd : 0 < dep
    · exact h6 hd
    · exfalso
      rw [treeAt_step (by omega), if_neg (fun c => hd (by have := c.2; have e : gi (treeD d (tcnt d 0)) 0 = 0 := rfl; omega))] at h
      have := Option.some.inj h
      have e : tcnt d 0 = 0 := rfl
      omega
  · rcases Nat.eq_zero_or_pos d with e | e
    · subst e; rw [hu] at h0; unfold tcnt at h0; split at h0 <;> simp at h0
    · exact e
  · subst e; rw [hu]; unfold tcnt; split <;> simp
/-- The network under way, the list of the level and that of the next one. -/
structure TreeSt (W0 wr : World) (M : Net) (p : Nat) (v0 v1 v2 nx lv : Value) (X L : List Int) : Prop where
  net : HNet W0 wr M p v0 v1 v2
  gx : GrowJ W0.heap.size wr nx X
  gl : GrowJ W0.heap.size wr lv L
  ox : ∀ b, nx.ownBlock = some b → v1.ownBlock ≠ some b ∧ v2.ownBlock ≠ some b
  ol : ∀ b, lv.ownBlock = some b → v1.ownBlock ≠ some b ∧ v2.ownBlock ≠ some b
  xl : ∀ b, nx.ownBlock = some b → lv.ownBlock ≠ some b
theorem TreeSt.mono {W0 wr w' : World} {M : Net} {p : Nat} {v0 v1 v2 nx lv : Value} {X L : List Int} (h : TreeSt W0 wr M p v0 v1 v2 nx lv X L) (hx : Ext wr w') : TreeSt W0 w' M p v0 v1 v2 nx lv X L :=
  ⟨h.net.mono hx, h.gx.ext hx, h.gl.ext hx, h.ox, h.ol, h.xl⟩
theorem own_nilRow (w : World) : OwnE w (.slice none 0 0) [] [] := ⟨⟨0, by simp, by unfold maxLen; omega, .inl ⟨rfl, rfl, none, ⟨rfl, rfl⟩, rfl⟩⟩, fun i hi => by simp at hi⟩
theorem TreeSt.row {W0 wr : World} {M : Net} {p : Nat} {v0 v1 v2 nx lv : Value} {X L : List Int} (h : TreeSt W0 wr M p v0 v1 v2 nx lv X L) :
    ∃ R : Nat → Value, wr.ownsRow W0.heap.size 59 1 v0 M.ends.length ((List.range M.ends.length).map R) ∧
      ∀ (wx w1 : World) (v' : Value), Ext wr wx → Grew wx w1 W0.heap.size 59 1 v0 v' (M.ends.length + 1) ((List.range M.ends.length).map R ++ [.slice none 0 0]) →
        w1.rowIs p 29 3 (tri v0 v1 v2) ∧ TreeSt W0 (w1.setCell ⟨p, 0, none⟩ v') (addRow M []) p v' v1 v2 nx lv X L := by
  obtain ⟨R, h1, h2⟩ := h.net.rows
  refine ⟨R, h1, fun wx w1 v' hx hg => ?_⟩
  obtain ⟨k1, k2⟩ := h2 wx w1 (.slice none 0 0) v' [] [] hx (own_nilRow _) (by simp) hg
  have ho := owns_ext h1 hx
  exact ⟨k1, k2, ((h.gx.ext hx).beside ho hg.2.1 (by decide)).store k1 (by decide) _, ((h.gl.ext hx).beside ho hg.2.1 (by decide)).store k1 (by decide) _, h.ox, h.ol, h.xl⟩
theorem TreeSt.int {W0 wr : World} {M : Net} {p : Nat} {v0 v1 v2 nx lv : Value} {X L : List Int} (h : TreeSt W0 wr M p v0 v1 v2 nx lv X L) :
    wr.ownsRow W0.heap.size 3 1 v2 M.inputs.length (intCells M.inputs) ∧
      ∀ (wx w1 : World) (v' : Value), Ext wr wx → Grew2 wx w1 W0.heap.size 3 1 v2 v' (M.inputs.length + 1) (intCells M.inputs ++ [.int .i64 0]) →
        w1.rowIs p 29 3 (tri v0 v1 v2) ∧ TreeSt W0 (w1.setCell ⟨p, 2, none⟩ v') (addIn M 0) p v0 v1 v' nx lv X L := by
  obtain ⟨h1, h2⟩ := h.net.ints
  refine ⟨h1, fun wx w1 v' hx hg => ?_⟩
  obtain ⟨k1, k2⟩ := h2 wx w1 v' 0 hx (by unfold inI64; omega) hg
  have new : ∀ {u : Value} {Z : List Int}, GrowJ W0.heap.size wr u Z → (∀ b, u.ownBlock = some b → v1.ownBlock ≠ some b ∧ v2.ownBlock ≠ some b) → ∀ b, u.ownBlock = some b → v1.ownBlock ≠ some b ∧ v'.ownBlock ≠ some b := fun hu ho b hb => ⟨(ho b hb).1, fun e => by
    rcases hg.2 b e with e2 | e2
    · exact (ho b hb).2 e2
    · have := (hu.lt b hb).2; have := hx.size; omega⟩
  exact ⟨k1, k2, ((h.gx.ext hx).other hg.1.2.1 fun b hb => (h.ox b hb).2).store k1 (by decide) _, ((h.gl.ext hx).other hg.1.2.1 fun b hb => (h.ol b hb).2).store k1 (by decide) _, new h.gx h.ox, new h.gl h.ol, h.xl⟩
theorem OwnI.block_in {w : World} {v : Value} {l : List Int} {bs : List Nat} (h : OwnI w v l bs) : ∀ b, v.ownBlock = some b → b ∈ bs := fun b hb => by
  obtain ⟨⟨c, _, _, h3⟩, _⟩ := h
  rcases h3 with ⟨_, rfl, a, ⟨rfl, rfl⟩, rfl⟩ | ⟨b', m, g, rfl, rfl, hm, hr, _⟩
  · simp [Value.ownBlock] at hb
  · simp [Value.ownBlock] at hb; simp [hb]
theorem TreeSt.over {W0 wr w1 : World} {M M' : Net} {p : Nat} {y0 y1 y2 v0 v1 v2 nx lv : Value} {X L : List Int} {bs : List Nat} (h : TreeSt W0 wr M p y0 y1 y2 nx lv X L) (hx : Ext wr w1) (ho : OwnNet w1 (.agg #[v0, v1, v2]) M' bs) (hf : Fresh wr bs) :
    TreeSt W0 (((w1.setCell ⟨p, 0, none⟩ v0).setCell ⟨p, 1, none⟩ v1).setCell ⟨p, 2, none⟩ v2) M' p v0 v1 v2 nx lv X L := by
  have k0 := row_ext h.net.box hx
  have k1 := row3_set0 k0 v0
  have k2 := row3_set1 k1 v1
  have hb : ∀ b, v1.ownBlock = some b ∨ v2.ownBlock = some b → wr.heap.size ≤ b := fun b hb => by
    obtain ⟨z0, z1, z2, b0, b1, b2, e, h0, h1, h2, rfl⟩ := ho
    simp only [Value.agg.injEq, Array.mk.injEq, List.cons.injEq, and_true] at e
    obtain ⟨rfl, rfl, rfl⟩ := e
    rcases hb with hb | hb
    · exact hf.2 b (by simp [h1.block_in b hb])
    · exact hf.2 b (by simp [h2.block_in b hb])
  have new : ∀ {u : Value} {Z : List Int}, GrowJ W0.heap.size wr u Z → ∀ b, u.ownBlock = some b → v1.ownBlock ≠ some b ∧ v2.ownBlock ≠ some b := fun hu b hb' => by
    have := (hu.lt b hb').2
    exact ⟨fun e => by have := hb b (.inl e); omega, fun e => by have := hb b (.inr e); omega⟩
  exact ⟨h.net.over hx ho hf, (((h.gx.ext hx).store k0 (by decide) _).store k1 (by decide) _).store k2 (by decide) _, (((h.gl.ext hx).store k0 (by decide) _).store k1 (by decide) _).store k2 (by decide) _, new h.gx, new h.gl, h.xl⟩
theorem TreeSt.next {W0 wr : World} {M : Net} {p : Nat} {v0 v1 v2 nx lv : Value} {X L : List Int} (h : TreeSt W0 wr M p v0 v1 v2 nx lv X L) {wx w1 : World} {v' : Value} {y : Int} (hx : Ext wr wx)
    (hg : Grew2 wx w1 W0.heap.size 3 1 nx v' (X.length + 1) (intCells X ++ [.int .i64 y])) : TreeSt W0 w1 M p v0 v1 v2 v' lv (X ++ [y]) L := by
  have k := h.mono hx
  have hblk : ∀ b, v'.ownBlock = some b → (v1.ownBlock ≠ some b ∧ v2.ownBlock ≠ some b) ∧ lv.ownBlock ≠ some b := fun b hb => by
    rcases hg.2 b hb with e | e
    · exact ⟨h.ox b e, h.xl b e⟩
    · obtain ⟨bs, ⟨z0, z1, z2, b0, b1, b2, e2, h0, h1, h2, rfl⟩, _, _⟩ := k.net.net
      simp only [Value.agg.injEq, Array.mk.injEq, List.cons.injEq, and_true] at e2
      obtain ⟨rfl, rfl, rfl⟩ := e2
      exact ⟨⟨fun e3 => by have := h1.1.lt b (h1.block_in b e3); omega, fun e3 => by have := h2.1.lt b (h2.block_in b e3); omega⟩, fun e3 => by have := (k.gl.lt b e3).2; omega⟩
  have hgx : GrowJ W0.heap.size w1 v' (X ++ [y]) := by
    have := hg.1.1
    have e : intCells X ++ [.int .i64 y] = intCells (X ++ [y]) := by simp [intCells]
    rw [e] at this
    unfold GrowJ
    rw [List.length_append]; exact this
  exact ⟨k.net.other (fun b hb e => (h.ox b e).1 hb) k.gx hg.1.2.1 (fun b hb => (h.ox b hb).2), hgx, k.gl.other hg.1.2.1 (fun b hb e => h.xl b e hb), fun b hb => (hblk b hb).1, h.ol, fun b hb => (hblk b hb).2⟩
end Go.Proofs.Ytpkgghkibgadnaa
