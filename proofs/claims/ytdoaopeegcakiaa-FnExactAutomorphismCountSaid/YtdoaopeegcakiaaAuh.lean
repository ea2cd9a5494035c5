/- The model's isParts: what is known while the parts are found. -/
import Derived.Test.YtdoaopeegcakiaaAuk
namespace Go.Proofs.Ytdoaopeegcakiaa
open Go.RowKit

theorem putL_ins (x : Int) : ∀ l : List Int, putL l x = insI x l
  | [] => rfl
  | a :: l => by simp only [putL, insI]; rw [putL_ins x l]
theorem rep_iff {N : Net} {k : Nat} : rep N k = true ↔ ¬ lea N (k : Int) < (k : Int) := by
  have h := lea_le (N := N) (v := (k : Int)) wk_self
  unfold rep
  rw [decide_eq_true_iff]
  omega
theorem nd_len {N : Net} (hN : Leads' N) {k : Nat} (hk : k < N.ends.length) : (nd N k).length ≤ N.ends.length := nodup_len _ _ (nd_nodup N k) fun x hx => (wk_ok hN (v := (k : Int)) (by omega)).range x (mem_nd.1 hx)
theorem lea_of_rep {N : Net} (hN : Leads' N) (hM : Mutual N) {k : Nat} (hk : k < N.ends.length) (hr : rep N k = true) {x : Int} (hx : InN N x) : lea N x = (k : Int) ↔ x ∈ wk N (k : Int) := by
  have hl : lea N (k : Int) = (k : Int) := of_decide_eq_true hr
  have ik : InN N (k : Int) := by unfold InN; omega
  constructor
  · intro e
    have h := lea_in (N := N) (v := x)
    rw [e] at h
    exact wk_symm hN hM hx h
  · intro h
    rw [lea_same hN hM ik h]; exact hl
theorem lea_not {N : Net} (hN : Leads' N) (hM : Mutual N) {k : Nat} (hr : ¬ rep N k = true) {x : Int} (hx : InN N x) : lea N x ≠ (k : Int) := fun e => by
  have h := lea_in (N := N) (v := x)
  have := lea_same hN hM hx h
  rw [e] at this
  exact hr (decide_eq_true this)

theorem own_nilI' (w : World) : OwnI w (.slice none 0 0) [] [] := ⟨⟨0, Nat.le_refl _, by unfold maxLen; omega, .inl ⟨rfl, rfl, none, ⟨rfl, rfl⟩, rfl⟩⟩, fun i hi => absurd hi (by simp)⟩
theorem insI_len (x : Int) : ∀ l : List Int, (insI x l).length ≤ l.length + 1
  | [] => by simp [insI]
  | a :: l => by
    simp only [insI]
    split
    · have := insI_len x l; simp; omega
    · split <;> simp
theorem ordTo_le (l : List Int) : ∀ t, (ordTo l t).length ≤ t
  | 0 => by simp [ordTo]
  | t + 1 => by have := ordTo_le l t; have := insI_len (gi l t) (ordTo l t); rw [ordTo]; omega
theorem ordTo_len (l : List Int) (t : Nat) (h : t ≤ l.length) (h2 : l.length ≤ 40) : (ordTo l t).length ≤ 40 := by have := ordTo_le l t; omega

theorem heap_oth (W : World) (p : Addr) (v : Value) {c : Nat} (h : c ≠ p.block) : (W.setCell p v).heap[c]? = W.heap[c]? := Below.heap_setCell _ _ _ _ h
/-- A list in memory that is not the value's own. -/
def HeldBy (w : World) (s v : Value) (l : List Int) : Prop := ∃ bs, OwnI w v l bs ∧ Off s bs
theorem HeldBy.ext {w w' : World} {s v : Value} {l : List Int} (h : HeldBy w s v l) (he : Ext w w') : HeldBy w' s v l := ⟨h.choose, h.choose_spec.1.ext he, h.choose_spec.2⟩
theorem HeldBy.seen {w w' : World} {B n : Nat} {s s' v : Value} {l : List Int} {xs : List Value} (h : HeldBy w s v l) (hg : Grew2 w w' B 3 1 s s' n xs) : HeldBy w' s' v l := by
  obtain ⟨bs, h1, h2⟩ := h
  exact ⟨bs, h1.other h2 hg.1.2.1, h2.grew h1.1.lt hg.2⟩
theorem HeldBy.other {w w' : World} {B t k n : Nat} {o s v : Value} {l : List Int} {xs : List Value} (h : HeldBy w s v l) (ho : w.ownsRow B t k o n xs) (hg : w.grownBy w' o.ownBlock) (ht : 3 ≠ t) : HeldBy w' s v l := by
  obtain ⟨bs, h1, h2⟩ := h
  exact ⟨bs, h1.keep (kept_grown ho hg h1.1.typed ht), h2⟩
theorem HeldBy.box {w : World} {b t m : Nat} {f : Nat → Value} {s v x : Value} {j : Nat} {l : List Int} (h : HeldBy w s v l) (hr : w.rowIs b t m f) (ht : 3 ≠ t) : HeldBy (w.setCell ⟨b, j, none⟩ x) s v l := by
  obtain ⟨bs, h1, h2⟩ := h
  refine ⟨bs, h1.keep fun c hc => Below.heap_setCell _ _ _ _ fun e => ?_, h2⟩
  obtain ⟨c1, h3⟩ := h1.1.typed c hc
  obtain ⟨c2, h4⟩ := rowIs.blk hr
  exact type_ne h3 h4 ht e
theorem owns_other {w w' : World} {B t k n B' t' k' n' : Nat} {v v' : Value} {xs xs' : List Value} (h : w.ownsRow B t k v n xs) (ho : w.ownsRow B' t' k' v' n' xs') (hg : w.grownBy w' v'.ownBlock) (ht : t ≠ t') : w'.ownsRow B t k v n xs := by
  refine ⟨h.1, ?_⟩
  rcases h.2 with h' | ⟨g, cap, cur, rfl, hb, hh, rest⟩
  · exact .inl h'
  · refine .inr ⟨g, cap, cur, rfl, hb, ?_, rest⟩
    rw [kept_grown (bs := [g]) ho hg (fun b hb' => by obtain rfl := List.mem_singleton.1 hb'; exact ⟨cur, hh⟩) ht g (by simp)]
    exact hh
theorem src_ints {w : World} {v : Value} {l : List Int} (h : IntSl w v l) (hn : 0 < l.length) : ∃ b o c, v = .slice (some ⟨b, o, none⟩) l.length c ∧ SrcAt w (some ⟨b, o, none⟩) l.length 1 (intCells l) := by
  obtain ⟨a, b, o, c, rfl, ha, hl, hm, hc⟩ := h
  obtain rfl := ha hn
  refine ⟨b, o, c, rfl, ?_⟩
  have := src_part (w := w) (b := b) (o := o) (n := l.length) (c := c) (l := l) (k := 0) (fun i hi => by obtain ⟨_, h1, rfl, _⟩ := hc i hi; exact h1) (by omega) l rfl (fun i hi => by rw [Nat.zero_add]) hl
  simpa using this
/-- What is known while the best node of a component is looked for: t nodes have been asked. -/
def LB (N : Net) (M : List Int) (xb : Nat) (w4 : World) (t : Nat) (wx : World) : Prop :=
  Chg w4 wx [xb] ∧ ∃ (ca wa : Option Addr) (c1 cc w1 wc cnt : Nat), wx.rowIs xb 64 3 (tri (.slice ca c1 cc) (.slice wa w1 wc) (.int .i64 (cnt : Int))) ∧ cnt ≤ t ∧ (t = 0 → cnt = 0) ∧
    (0 < t → 0 < cnt ∧ ∃ (b : Int) (bsc bsw : List Nat), bstTo N M t = some (b, cnt) ∧ OwnI wx (.slice ca c1 cc) (code N b) bsc ∧ OwnI wx (.slice wa w1 wc) (wk N b) bsw ∧ (∀ c ∈ bsc, w4.heap.size ≤ c) ∧ ∀ c ∈ bsw, w4.heap.size ≤ c)
theorem int_cell {w : World} {b o n c : Nat} {l : List Int} (h : IntSl w (.slice (some ⟨b, o, none⟩) n c) l) {i : Nat} (hi : i < l.length) : w.cell? ⟨b, o + i, none⟩ = some (.int .i64 (gi l i)) := by
  obtain ⟨a, b', o', c', hv, ha, _, _, hc⟩ := h
  have e := ha (by omega)
  subst e
  cases hv
  obtain ⟨_, h1, rfl, _⟩ := hc i hi
  exact h1
theorem own_box {w : World} {xb j : Nat} {x v : Value} {l : List Int} {bs : List Nat} (h : OwnI w v l bs) (hb : ∀ b ∈ bs, b ≠ xb) : OwnI (w.setCell ⟨xb, j, none⟩ x) v l bs := h.keep fun c hc => heap_oth w ⟨xb, j, none⟩ x (hb c hc)
theorem LB.stay {N : Net} {M : List Int} {xb t : Nat} {w4 wx wy : World} (h : LB N M xb w4 t wx) (he : Ext wx wy) (ht : 0 < t) (hs : bstTo N M (t + 1) = bstTo N M t) : LB N M xb w4 (t + 1) wy := by
  obtain ⟨hc, ca, wa, c1, cc, w1, wc, cnt, hr, h1, h2, h3⟩ := h
  obtain ⟨h4, b, bsc, bsw, h5, h6, h7, h8, h9⟩ := h3 ht
  exact ⟨hc.trans' (Chg.of_ext he _), ca, wa, c1, cc, w1, wc, cnt, row_ext hr he, by omega, fun h => absurd h (by omega), fun _ => ⟨h4, b, bsc, bsw, hs.trans h5, h6.ext he, h7.ext he, h8, h9⟩⟩
theorem LB.take {N : Net} {M : List Int} {xb t : Nat} {w4 wy : World} {ca wa : Option Addr} {c1 cc w1 wc : Nat} {y : Int} {bsc bsw : List Nat} {f0 f1 f2 : Value} (hc : Chg w4 wy [xb]) (hr : wy.rowIs xb 64 3 (tri f0 f1 f2)) (hx : xb < w4.heap.size)
    (h6 : OwnI wy (.slice ca c1 cc) (code N y) bsc) (h7 : OwnI wy (.slice wa w1 wc) (wk N y) bsw) (h8 : ∀ c ∈ bsc, w4.heap.size ≤ c) (h9 : ∀ c ∈ bsw, w4.heap.size ≤ c) (hs : bstTo N M (t + 1) = some (y, 1)) :
    LB N M xb w4 (t + 1) (((wy.setCell ⟨xb, 0, none⟩ (.slice ca c1 cc)).setCell ⟨xb, 1, none⟩ (.slice wa w1 wc)).setCell ⟨xb, 2, none⟩ (.int .i64 1)) := by
  have n1 : ∀ b ∈ bsc, b ≠ xb := fun b hb => by have := h8 b hb; omega
  have n2 : ∀ b ∈ bsw, b ≠ xb := fun b hb => by have := h9 b hb; omega
  exact ⟨((hc.store (by simp) _).store (by simp) _).store (by simp) _, ca, wa, c1, cc, w1, wc, 1, row3_set2 (row3_set1 (row3_set0 hr _) _) _, by omega, fun h => absurd h (by omega), fun _ => ⟨by omega, y, bsc, bsw, hs, own_box (own_box (own_box h6 n1) n1) n1, own_box (own_box (own_box h7 n2) n2) n2, h8, h9⟩⟩
theorem LB.more {N : Net} {M : List Int} {xb t : Nat} {w4 wy : World} {ca wa : Option Addr} {c1 cc w1 wc cnt : Nat} {y : Int} {bsc bsw : List Nat} (hc : Chg w4 wy [xb]) (hr : wy.rowIs xb 64 3 (tri (.slice ca c1 cc) (.slice wa w1 wc) (.int .i64 (cnt : Int)))) (hx : xb < w4.heap.size) (ht : cnt ≤ t)
    (h6 : OwnI wy (.slice ca c1 cc) (code N y) bsc) (h7 : OwnI wy (.slice wa w1 wc) (wk N y) bsw) (h8 : ∀ c ∈ bsc, w4.heap.size ≤ c) (h9 : ∀ c ∈ bsw, w4.heap.size ≤ c) (hs : bstTo N M (t + 1) = some (y, cnt + 1)) :
    LB N M xb w4 (t + 1) (wy.setCell ⟨xb, 2, none⟩ (.int .i64 ((cnt : Int) + 1))) := by
  have n1 : ∀ b ∈ bsc, b ≠ xb := fun b hb => by have := h8 b hb; omega
  have n2 : ∀ b ∈ bsw, b ≠ xb := fun b hb => by have := h9 b hb; omega
  exact ⟨hc.store (by simp) _, ca, wa, c1, cc, w1, wc, cnt + 1, row3_set2 hr _, by omega, fun h => absurd h (by omega), fun _ => ⟨by omega, y, bsc, bsw, hs, own_box h6 n1, own_box h7 n2, h8, h9⟩⟩
def pcells (N : Net) (C Wv : Nat → Value) (L : List Nat) : List Value := L.flatMap fun r => [C r, Wv r, .int .i64 (bcnt N r : Int)]
theorem pcells_cons {N : Net} {C Wv : Nat → Value} {a : Nat} {l : List Nat} : pcells N C Wv (a :: l) = C a :: Wv a :: .int .i64 (bcnt N a : Int) :: pcells N C Wv l := rfl
theorem pcells_app {N : Net} {C Wv : Nat → Value} {a b : List Nat} : pcells N C Wv (a ++ b) = pcells N C Wv a ++ pcells N C Wv b := List.flatMap_append
theorem pcells_len {N : Net} {C Wv : Nat → Value} : ∀ L : List Nat, (pcells N C Wv L).length = L.length * 3
  | [] => rfl
  | a :: l => by rw [pcells_cons]; simp only [List.length_cons, pcells_len l]; omega
theorem pcells_take {N : Net} {C Wv : Nat → Value} : ∀ (L : List Nat) (k : Nat), (pcells N C Wv L).take (k * 3) = pcells N C Wv (L.take k)
  | [], k => by simp [pcells]
  | a :: l, 0 => by simp [pcells]
  | a :: l, k + 1 => by rw [pcells_cons, show (k + 1) * 3 = k * 3 + 1 + 1 + 1 by omega, List.take_succ_cons, List.take_succ_cons, List.take_succ_cons, pcells_take l k, List.take_succ_cons, pcells_cons]
theorem pcells_drop {N : Net} {C Wv : Nat → Value} : ∀ (L : List Nat) (k : Nat), (pcells N C Wv L).drop (k * 3) = pcells N C Wv (L.drop k)
  | [], k => by simp [pcells]
  | a :: l, 0 => by simp
  | a :: l, k + 1 => by rw [pcells_cons, show (k + 1) * 3 = k * 3 + 1 + 1 + 1 by omega, List.drop_succ_cons, List.drop_succ_cons, List.drop_succ_cons, pcells_drop l k, List.drop_succ_cons]
def ig (L : List Nat) (i : Nat) : Nat := L.getD i 0
theorem ig_in {L : List Nat} {i : Nat} (h : i < L.length) : ig L i ∈ L := by simp [ig, List.getD, h]
theorem pcells_at {N : Net} {C Wv : Nat → Value} : ∀ (L : List Nat) (i : Nat), i < L.length → (pcells N C Wv L)[i * 3]? = some (C (ig L i))
  | a :: l, 0, _ => rfl
  | a :: l, i + 1, h => by
    rw [pcells_cons, show (i + 1) * 3 = i * 3 + 1 + 1 + 1 by omega]
    simp only [List.getElem?_cons_succ]
    rw [pcells_at l i (by simpa using h)]
    simp [ig, List.getD]
theorem pcells_congr {N : Net} {C Wv C' Wv' : Nat → Value} {L : List Nat} (h : ∀ r ∈ L, C r = C' r ∧ Wv r = Wv' r) : pcells N C Wv L = pcells N C' Wv' L := by
  induction L with
  | nil => rfl
  | cons a l ih => rw [pcells_cons, pcells_cons, (h a (by simp)).1, (h a (by simp)).2, ih fun r hr => h r (by simp [hr])]
theorem insR_at {key : Nat → List Int} {r : Nat} : ∀ (L : List Nat) (k : Nat), k ≤ L.length → (∀ i, i < k → before (key r) (key (ig L i)) = false) → (k < L.length → before (key r) (key (ig L k)) = true) → insR key r L = L.take k ++ r :: L.drop k
  | [], k, hk, _, _ => by obtain rfl : k = 0 := by simpa using hk
                          rfl
  | a :: l, 0, _, _, h => by
    have h0 := h (by simp)
    simp only [insR, if_pos (show before (key r) (key a) = true from h0)]
    simp
  | a :: l, k + 1, hk, hf, ht => by
    have h0 : before (key r) (key a) = false := hf 0 (by omega)
    have ih := insR_at (key := key) (r := r) l k (by simpa using hk) (fun i hi => by have := hf (i + 1) (by omega); simpa [ig, List.getD] using this) (fun h => by have := ht (by simpa using h); simpa [ig, List.getD] using this)
    simp only [insR, h0, Bool.false_eq_true, if_false, ih]
    simp
theorem owns_same {w w' : World} {B t k n : Nat} {v : Value} {xs : List Value} (h : w.ownsRow B t k v n xs) (he : ∀ b, v.ownBlock = some b → w'.heap[b]? = w.heap[b]?) : w'.ownsRow B t k v n xs := by
  refine ⟨h.1, ?_⟩
  rcases h.2 with h' | ⟨g, cap, cur, rfl, hb, hh, rest⟩
  · exact .inl h'
  · exact .inr ⟨g, cap, cur, rfl, hb, by rw [he g rfl]; exact hh, rest⟩
theorem own_typed {w : World} {B t s n : Nat} {v : Value} {xs : List Value} (h : w.ownsRow B t s v n xs) (b : Nat) (hb : v.ownBlock = some b) : ∃ c, w.heap[b]? = some (.cells c t (0, 0)) := by
  rcases h.2 with ⟨rfl, _⟩ | ⟨g, cap, cur, rfl, _, hh, _⟩
  · cases hb
  · cases hb; exact ⟨cur, hh⟩
theorem owns_pre {w : World} {B t s g n c k : Nat} {xs : List Value} (h : w.ownsRow B t s (.slice (some ⟨g, 0, none⟩) n c) n xs) (hk : k ≤ n) : w.ownsRow B t s (.slice (some ⟨g, 0, none⟩) k c) k (xs.take (k * s)) := by
  obtain ⟨h1, h2⟩ := h
  have hks : k * s ≤ n * s := Nat.mul_le_mul_right _ hk
  refine ⟨by rw [List.length_take, h1]; omega, ?_⟩
  rcases h2 with ⟨e, _⟩ | ⟨g', cap, cur, e, a1, a2, a3, a4, a5, a6⟩
  · cases e
  · cases e
    exact .inr ⟨g, c, cur, rfl, a1, a2, by omega, a4, a5, by rw [← a6, List.take_take, Nat.min_eq_left hks]⟩
theorem src_rest {w : World} {B t s g n c : Nat} {xs : List Value} (h : w.ownsRow B t s (.slice (some ⟨g, 0, none⟩) n c) n xs) (h1 : ∀ u ∈ xs, u.oneCell' = true) (k : Nat) : SrcAt w (some ⟨g, k * s, none⟩) (n - k) s (xs.drop (k * s)) := by
  refine ⟨by rw [List.length_drop, h.1, Nat.sub_mul], by simp, fun ad e j u hu => ?_, fun u hu => h1 u (List.mem_of_mem_drop hu)⟩
  obtain rfl := Option.some.inj e
  rw [List.getElem?_drop] at hu
  have hj : k * s + j < n * s := by have := (List.getElem?_eq_some_iff.1 hu).1; rw [h.1] at this; exact this
  have hadd : (⟨g, k * s, none⟩ : Addr).add j = ⟨g, k * s + j, none⟩ := by unfold Addr.add; split <;> simp_all
  rw [hadd, World.ownsRow.cellAt h _ hj, hu]
theorem src_rest0 {w : World} {s : Nat} : SrcAt w none 0 s [] := ⟨by simp, fun _ => rfl, by simp, by simp⟩
theorem src_three (w : World) (x y z : Value) (t : TypeId) (h1 : x.oneCell' = true) (h2 : y.oneCell' = true) (h3 : z.oneCell' = true) : SrcAt (w.alloc (.cells #[x, y, z] t)) (some ⟨w.heap.size, 0, none⟩) 1 3 [x, y, z] := by
  have h := World.ownsRow_lit (base := 0) (e := t) (size := 3) w #[x, y, z] 1 (Nat.zero_le _) (by decide) rfl
  have h2' := src_rest h (fun u hu => by simp at hu; rcases hu with rfl | rfl | rfl <;> assumption) 0
  simpa using h2'
theorem src_owns {w : World} {B t s n c : Nat} {a : Option Addr} {xs : List Value} (h : w.ownsRow B t s (.slice a n c) n xs) (h1 : ∀ u ∈ xs, u.oneCell' = true) : SrcAt w a n s xs := by
  rcases h.2 with ⟨e, rfl⟩ | ⟨g, cap, cur, e, _⟩
  · cases e
    obtain rfl := List.eq_nil_of_length_eq_zero (h.1.trans (Nat.zero_mul _))
    exact src_rest0
  · cases e
    have h2' := src_rest h h1 0
    simpa using h2'
theorem src_zero {w : World} {ao : Option Addr} {n s : Nat} {xs : List Value} (hn : n = 0) (hx : xs = []) : SrcAt w ao n s xs := by
  subst hn hx
  exact ⟨by simp, fun _ => rfl, by simp, by simp⟩
theorem infoPart : (Try.prog.info? 64).map (fun i => (i.zero, i.size, i.bytes)) = some (some (.agg #[.slice none 0 0, .slice none 0 0, .int .i64 0]), 3, 56) := by kernel_rfl
theorem undPart : Try.prog.underlying 61 = some (.slice 64) := by kernel_rfl
/-- What is known ahead of node k. -/
structure PSt (W0 : World) (N : Net) (k : Nat) (sv ov : Value) (Ls : List Int) (C Wv : Nat → Value) (wr : World) : Prop where
  ext : Ext W0 wr
  seen : GrowN W0.heap.size wr sv Ls
  mem : ∀ x, x ∈ Ls ↔ InN N x ∧ lea N x < (k : Int)
  len : Ls.length ≤ 40 * k
  out : wr.ownsRow W0.heap.size 64 3 ov (partsR N k).length (pcells N C Wv (partsR N k))
  code : ∀ r ∈ partsR N k, HeldBy wr sv (C r) (keyN N r)
  walk : ∀ r ∈ partsR N k, HeldBy wr sv (Wv r) (wk N (bn N r))
theorem PSt.skip {W0 wr w' : World} {N : Net} {k : Nat} {sv ov : Value} {Ls : List Int} {C Wv : Nat → Value} (h : PSt W0 N k sv ov Ls C Wv wr) (hN : Leads' N) (hM : Mutual N) (hr : ¬ rep N k = true) (he : Ext wr w') : PSt W0 N (k + 1) sv ov Ls C Wv w' := by
  have e : partsR N (k + 1) = partsR N k := by rw [partsR, if_neg hr]
  refine ⟨h.ext.trans' he, h.seen.ext he, fun x => ?_, by have := h.len; omega, by rw [e]; exact owns_ext h.out he, by rw [e]; exact fun r hr => (h.code r hr).ext he, by rw [e]; exact fun r hr => (h.walk r hr).ext he⟩
  rw [h.mem]
  constructor
  · rintro ⟨a, b⟩; exact ⟨a, by omega⟩
  · rintro ⟨a, b⟩; exact ⟨a, by have := lea_not hN hM hr a; omega⟩

/-- The parts behind a component that was put in. -/
theorem parts_step {W0 wd w15 w16 w17 : World} {N : Net} {k kk n15 n16 n17 : Nat} {sv v0 a15 a16 a17 f0 f1 : Value} {Ls M : List Int} {C Wv : Nat → Value} {bsc bsw : List Nat} {z : Value} (hN : Leads' N) (hM : Mutual N) (hkN : k < N.ends.length) (hr : rep N k = true)
    (hE : Ext W0 wd) (hS : GrowN W0.heap.size wd sv (Ls ++ M)) (hmem : ∀ x, x ∈ Ls ↔ InN N x ∧ lea N x < (k : Int)) (hMM : ∀ x, x ∈ M ↔ x ∈ wk N (k : Int)) (hlen : Ls.length ≤ 40 * k) (hM40 : M.length ≤ 40)
    (hO : wd.ownsRow W0.heap.size 64 3 v0 kk (pcells N C Wv ((partsR N k).take kk)))
    (hC : ∀ r ∈ partsR N k, HeldBy wd sv (C r) (keyN N r)) (hW : ∀ r ∈ partsR N k, HeldBy wd sv (Wv r) (wk N (bn N r)))
    (hc : OwnI wd f0 (keyN N k) bsc) (hw : OwnI wd f1 (wk N (bn N k)) bsw) (oc : Off sv bsc) (ow : Off sv bsw)
    (g15 : Grew2 (wd.alloc (.cells #[] 64)) w15 wd.heap.size 64 3 z a15 n15 (pcells N C Wv ((partsR N k).drop kk))) (hz : ∀ b, z.ownBlock = some b → wd.heap.size ≤ b)
    (g16 : Grew2 (w15.alloc (.cells #[f0, f1, .int .i64 (bcnt N k : Int)] 64)).drew w16 W0.heap.size 64 3 v0 a16 n16 (pcells N C Wv ((partsR N k).take kk) ++ [f0, f1, .int .i64 (bcnt N k : Int)]))
    (g17 : Grew2 w16 w17 W0.heap.size 64 3 a16 a17 n17 (pcells N C Wv ((partsR N k).take kk) ++ [f0, f1, .int .i64 (bcnt N k : Int)] ++ pcells N C Wv ((partsR N k).drop kk)))
    (hI : insR (keyN N) k (partsR N k) = (partsR N k).take kk ++ k :: (partsR N k).drop kk) :
    PSt W0 N (k + 1) sv a17 (Ls ++ M) (fun r => if r = k then f0 else C r) (fun r => if r = k then f1 else Wv r) w17 := by
  have hP : partsR N (k + 1) = (partsR N k).take kk ++ k :: (partsR N k).drop kk := by rw [partsR, if_pos hr, hI]
  have hne : ∀ r ∈ partsR N k, r ≠ k := fun r hr e => by
    have := (partsR_perm N k).mem_iff.1 hr
    have := List.mem_range.1 (List.mem_filter.1 this).1
    omega
  have e15 : Ext wd w15 := g15.1.ext ((Ext.rfl' wd).alloc' _) hz
  have e15' : Ext wd (w15.alloc (.cells #[f0, f1, .int .i64 (bcnt N k : Int)] 64)).drew := (e15.alloc' _).drew'
  have o15 := owns_ext hO e15'
  have hOw : ∀ (v : Value) (l : List Int) (bs : List Nat), OwnI wd v l bs → OwnI w17 v l bs := fun v l bs h =>
    ((h.ext e15').keep (kept_grown o15 g16.1.2.1 (h.ext e15').1.typed (by decide))).keep (kept_grown g16.1.1 g17.1.2.1 ((h.ext e15').keep (kept_grown o15 g16.1.2.1 (h.ext e15').1.typed (by decide))).1.typed (by decide))
  have hH : ∀ (v : Value) (l : List Int), HeldBy wd sv v l → HeldBy w17 sv v l := fun v l ⟨bs, h1, h2⟩ => ⟨bs, hOw _ _ _ h1, h2⟩
  have hE17 : Ext W0 w17 := by
    have x1 := grown_ext (hE.trans' e15') (Nat.le_refl _) o15 g16.1.2.1
    exact grown_ext x1 (Nat.le_refl _) g16.1.1 g17.1.2.1
  refine ⟨hE17, ?_, fun x => ?_, by rw [List.length_append]; omega, ?_, fun r h => ?_, fun r h => ?_⟩
  · exact owns_other (owns_other (owns_ext hS e15') o15 g16.1.2.1 (by decide)) g16.1.1 g17.1.2.1 (by decide)
  · rw [List.mem_append, hmem, hMM]
    constructor
    · rintro (⟨a, b⟩ | h)
      · exact ⟨a, by omega⟩
      · have hx : InN N x := (wk_ok hN (v := (k : Int)) (by omega)).range x h
        exact ⟨hx, by have := (lea_of_rep hN hM hkN hr hx).2 h; omega⟩
    · rintro ⟨a, b⟩
      by_cases e : lea N x = (k : Int)
      · exact .inr ((lea_of_rep hN hM hkN hr a).1 e)
      · exact .inl ⟨a, by omega⟩
  · have h := g17.1.1
    have hcell : pcells N C Wv ((partsR N k).take kk) ++ [f0, f1, .int .i64 (bcnt N k : Int)] ++ pcells N C Wv ((partsR N k).drop kk) = pcells N (fun r => if r = k then f0 else C r) (fun r => if r = k then f1 else Wv r) (partsR N (k + 1)) := by
      rw [hP, pcells_app, pcells_cons]
      rw [pcells_congr (C := C) (Wv := Wv) (C' := fun r => if r = k then f0 else C r) (Wv' := fun r => if r = k then f1 else Wv r) (L := (partsR N k).take kk) fun r hr => by simp [hne r (List.mem_of_mem_take hr)]]
      rw [pcells_congr (C := C) (Wv := Wv) (C' := fun r => if r = k then f0 else C r) (Wv' := fun r => if r = k then f1 else Wv r) (L := (partsR N k).drop kk) fun r hr => by simp [hne r (List.mem_of_mem_drop hr)]]
      simp
    rw [hcell] at h
    have hn := h.1
    rw [pcells_len] at hn
    rw [show (partsR N (k + 1)).length = n17 by omega]
    exact h
  · by_cases e : r = k
    · subst e; simp only [if_pos]; exact hH _ _ ⟨bsc, hc, oc⟩
    · simp only [if_neg e]
      rw [hP] at h
      refine hH _ _ (hC r ?_)
      rcases List.mem_append.1 h with h | h
      · exact List.mem_of_mem_take h
      · rcases List.mem_cons.1 h with h | h
        · exact absurd h e
        · exact List.mem_of_mem_drop h
  · by_cases e : r = k
    · subst e; simp only [if_pos]; exact hH _ _ ⟨bsw, hw, ow⟩
    · simp only [if_neg e]
      rw [hP] at h
      refine hH _ _ (hW r ?_)
      rcases List.mem_append.1 h with h | h
      · exact List.mem_of_mem_take h
      · rcases List.mem_cons.1 h with h | h
        · exact absurd h e
        · exact List.mem_of_mem_drop h

set_option maxHeartbeats 6400000 in
set_option maxRecDepth 100000 in
theorem isParts_any {w : World} {v : Value} {N : Net} (h : NetAt w v N) (hG : Good N) :
    Calls Try.prog 45 #[v] w fun e w' => ∃ (ov : Value) (C Wv : Nat → Value), e = .returned ov ∧ Ext w w' ∧ w'.ownsRow w.heap.size 64 3 ov (partsR N N.ends.length).length (pcells N C Wv (partsR N N.ends.length)) ∧ ∀ r ∈ partsR N N.ends.length, IntSl w' (C r) (keyN N r) ∧ IntSl w' (Wv r) (wk N (bn N r)) := by
  have HN := Lib.hid h
  have GW := Lib.hid (good_w hG)
  have HM := Lib.hid (mutual_of hG)
  have h40 : N.ends.length ≤ 40 := hG.1.2
  obtain ⟨v0, v1, v2, rfl, hE, -, -⟩ := h
  obtain ⟨ea, _, _, ec, rfl, -, -, hem, -⟩ := hE
  unfold maxLen at hem
  obtain ⟨i0, hi, hz0, hz1, hz2⟩ := info_parts Try.info3
  have I0 := Lib.hid (And.intro hi (And.intro hz0 (And.intro hz1 hz2)))
  clear hi hz0 hz1 hz2 hG
  obtain ⟨i1, hi, hz0, hz1, hz2⟩ := info_parts infoPart
  have I1 := Lib.hid (And.intro hi (And.intro hz0 (And.intro hz1 hz2)))
  clear hi hz0 hz1 hz2
  obtain ⟨W0, hW0⟩ : ∃ W0, W0 = w.alloc (.cells #[.slice ea N.ends.length ec, v1, v2] 31) := ⟨_, rfl⟩
  have X0 := Lib.hid (show Ext w W0 by rw [hW0]; exact boxed_ext w _ _ _ _)
  have RX := Lib.hid (show W0.rowIs w.heap.size 31 3 (tri (.slice ea N.ends.length ec) v1 v2) by rw [hW0]; exact row3_made _ _ _ _ _)
  have SZ0 := Lib.hid (show W0.heap.size = w.heap.size + 1 by rw [hW0]; simp)
  obtain ⟨p0, p1, p2, -, -, -⟩ := row3_facts RX.out
  obtain ⟨n, hnn⟩ : ∃ n, n = N.ends.length := ⟨_, rfl⟩
  have HNN := Lib.hid hnn
  rw [← hnn] at h40 p0 RX hW0 HN ⊢
  clear hnn
  go_enter Try.func45, Try.ntmps45
  go_wp2_with fail
  rw [← hW0]
  clear hW0
  have HRG := Lib.hid (show ∀ x, InN N x → 0 ≤ lea N x ∧ lea N x < N.ends.length from fun x hx => (wk_ok GW.out.leads hx).range _ lea_in)
  go_loopg [3, 4, 19] n (fun g t3 t4 i wr => ∃ (k : Nat) (Ls : List Int) (C Wv : Nat → Value), k ≤ n ∧ g = n - k ∧ i = .int .i64 (k : Int) ∧ Hid (PSt W0 N k t4 t3 Ls C Wv wr))
  case atStart =>
    refine ⟨0, [], fun _ => .slice none 0 0, fun _ => .slice none 0 0, Nat.zero_le _, rfl, rfl, Ext.rfl' _, GrowN.nil _ _, fun x => ?_, Nat.le_refl _, World.ownsRow_nil _ _ _ _, fun r hr => (by cases hr), fun r hr => (by cases hr)⟩
    constructor
    · intro h; cases h
    · rintro ⟨a, b⟩; have := (HRG.out x a).1; omega
  case round =>
    obtain ⟨k, Ls, C, Wv, hk, rfl, rfl, Hr⟩ := hrel
    by_cases hlt : k < n
    · have hkN : k < N.ends.length := by have := HNN.out; omega
      obtain ⟨wo, hwo⟩ : ∃ W : World, W = wr := ⟨_, rfl⟩
      subst hwo
      have SR := Lib.hid (Hr.out.seen.read fun i hi => by have := ((Hr.out.mem _).1 (gi_in hi)).1; have := HNN.out; unfold InN at *; unfold inI64; omega)
      obtain ⟨q0, q1, q2, -, -, -⟩ := row3_facts (row_ext RX.out Hr.out.ext)
      clear p0 p1 p2
      by_cases hr : rep N k = true
      case neg =>
        have HH := Lib.hid (dec_true (p := Has Ls (k : Int)) ((has_iff _ _).2 ((Hr.out.mem _).2 ⟨by unfold InN; omega, by have := fun h => hr (rep_iff.2 h); exact Classical.not_not.1 this⟩)))
        have HS := Lib.hid (Hr.out.skip GW.out.leads HM.out hr (Ext.rfl' _))
        clear hr
        go_wp2_with (first | (go_at_call 76; (with_reducible refine (l1Has_any _ SR.out).mono ?_); rintro e w1 ⟨rfl, rfl⟩; rw [HH.out]))
        go_roundg (n - (k + 1))
        case measure => omega
        case rel => exact ⟨k + 1, Ls, C, Wv, by omega, rfl, by go_num, HS.out⟩
      have HH := Lib.hid (dec_false (p := Has Ls (k : Int)) fun h => rep_iff.1 hr ((Hr.out.mem _).1 ((has_iff _ _).1 h)).2)
      have HRP := Lib.hid hr
      clear hr
      go_wp2_with fail
      (with_reducible refine (l1Has_any _ SR.out).mono ?_)
      rintro e w1 ⟨rfl, rfl⟩
      rw [HH.out]
      obtain ⟨W1, hW1⟩ : ∃ W1, W1 = wo.alloc (.cells #[.slice none 0 0, .slice none 0 0, .int .i64 0] 64) := ⟨_, rfl⟩
      have X1 := Lib.hid (show Ext wo W1 by rw [hW1]; exact (Ext.rfl' wo).alloc' _)
      have RB := Lib.hid (show W1.rowIs wo.heap.size 64 3 (tri (.slice none 0 0) (.slice none 0 0) (.int .i64 0)) by rw [hW1]; exact row3_made _ _ _ _ _)
      obtain ⟨xb, hxb⟩ : ∃ xb, xb = wo.heap.size := ⟨_, rfl⟩
      have HXB := Lib.hid hxb
      rw [← hxb] at RB
      have q0' := X1.out.cell' q0
      have q1' := X1.out.cell' q1
      have q2' := X1.out.cell' q2
      rw [hW1] at q0' q1' q2'
      go_wp2_with fail
      rw [← hW1, ← hxb]
      clear hW1 hxb q0 q1 q2
      (with_reducible refine (isWalk_any k hkN (HN.out.ext (X0.out.trans' (Hr.out.ext.trans' X1.out))) GW.out).mono ?_)
      rintro e w2 ⟨v', bs, rfl, hx, ho, -⟩
      have X2 := Lib.hid (X1.out.trans' hx)
      have RB2 := Lib.hid (row_ext RB.out hx)
      have WOK := Lib.hid (wk_ok GW.out.leads (v := (k : Int)) (by omega))
      obtain ⟨la, lb, lo, lcp, rfl, hla, hll, hlm, hlc⟩ := ho.read
      unfold maxLen at hlm
      have HLA := Lib.hid hla
      have HLC := Lib.hid hlc
      have hwl : (wk N k).length ≤ 40 := by have := WOK.out.len; have := HNN.out; omega
      obtain ⟨L, hL⟩ : ∃ L, L = wk N (k : Int) := ⟨_, rfl⟩
      have HL := Lib.hid hL
      rw [← hL] at HLC HLA hll hwl ⊢
      clear hx ho hla hlc q0' q1' q2' hL
      go_wp2_with fail
      go_loopg [7, 30] L.length (fun g t7 i wx => ∃ t : Nat, t ≤ L.length ∧ g = L.length - t ∧ i = .int .i64 (t : Int) ∧ Hid (Ext w2 wx ∧ OwnB wx t7 (ordTo L t) w2.heap.size))
      case atStart => exact ⟨0, Nat.zero_le _, rfl, rfl, Ext.rfl' _, [], own_nilI' _, by simp⟩
      case round =>
        obtain ⟨t, ht, rfl, rfl, Hs⟩ := hrel
        by_cases htl : t < L.length
        · obtain ⟨_, z1, rfl, hz⟩ := HLC.out t htl
          obtain rfl := HLA.out (by omega)
          have z1' := Hs.out.1.cell' z1
          obtain ⟨bs7, o7, b7⟩ := Hs.out.2
          have O7 := Lib.hid o7
          have B7 := Lib.hid b7
          have HZ := Lib.hid hz
          have HO := Lib.hid (show putL (ordTo L t) (gi L t) = ordTo L (t + 1) from putL_ins _ _)
          have hol : (ordTo L t).length ≤ 40 := ordTo_len L t (by omega) hwl
          clear z1 o7 b7 hz
          go_wp2_with (first | (go_at_call 78; (with_reducible refine (l1Put_any O7.out HZ.out (by omega) B7.out Hs.out.1.size).mono ?_); rintro e w5 ⟨v5, rfl, hx, hb⟩; have X5 := Lib.hid (Hs.out.1.trans' hx); have OB := Lib.hid hb; clear hx hb))
          go_roundg (L.length - (t + 1))
          case measure => omega
          case rel => exact ⟨t + 1, by omega, rfl, by go_num, X5.out, by rw [← HO.out]; exact OB.out⟩
        · have e : t = L.length := by omega
          subst e
          obtain ⟨M, hM⟩ : ∃ M, M = nd N (k : Int) := ⟨_, rfl⟩
          have hLM : ordTo L L.length = M := by rw [hM, HL.out]; rfl
          obtain ⟨bs7, o7, b7⟩ := Hs.out.2
          rw [hLM] at o7
          have MM := Lib.hid (show ∀ x, x ∈ M ↔ x ∈ wk N (k : Int) from fun x => by rw [hM]; exact mem_nd)
          have hM0 : 0 < M.length := List.length_pos_of_mem ((MM.out (k : Int)).2 wk_self)
          have hM40 : M.length ≤ 40 := by rw [← hLM]; exact ordTo_len L _ (Nat.le_refl _) hwl
          have HMD := Lib.hid hM
          have MR := Lib.hid (show ∀ i, i < M.length → ∃ y : Nat, y < N.ends.length ∧ gi M i = (y : Int) from fun i hi => by
            have := WOK.out.range _ ((MM.out _).1 (gi_in hi))
            exact ⟨(gi M i).toNat, by omega, by omega⟩)
          have HLS := Lib.hid Hr.out.len
          have hls : Ls.length ≤ 2000 := by have := Hr.out.len; omega
          obtain ⟨nb, no, nc, rfl, hsrc⟩ := src_ints o7.read hM0
          have SRC := Lib.hid hsrc
          have O7 := Lib.hid o7
          have B7 := Lib.hid b7
          obtain ⟨sa, sc, hsv⟩ := GrowN.slice Hr.out.seen
          subst hsv
          have XR := Lib.hid (show Ext wo wr from X2.out.trans' Hs.out.1)
          clear hM hLM o7 b7 hsrc
          go_wp2_with (at_builtin; refine wpList_app2 rfl (.tmp 38) (.tmp 39) 23 rfl W0.heap.size 3 i0 (.int .i64 0) 1 8 Try.underlying23 I0.out.1 I0.out.2.1 I0.out.2.2.1 I0.out.2.2.2 rfl (by decide) _ Ls.length (intCells Ls) rfl (Hr.out.seen.ext XR.out) (some ⟨nb, no, none⟩) M.length nc (intCells M) rfl SRC.out (by unfold maxLen; omega) (by omega) ?_ ?_)
          · have := Hr.out.ext.size; have := XR.out.size; omega
          intro v4 w4 hg4
          have G4 := Lib.hid hg4
          clear hg4
          have E4 := Lib.hid (show Ext W0 w4 from grown_ext (Hr.out.ext.trans' XR.out) (Nat.le_refl _) (Hr.out.seen.ext XR.out) G4.out.1.2.1)
          have SEEN4 := Lib.hid (show GrowN W0.heap.size w4 v4 (Ls ++ M) from GrowN.step G4.out.1 rfl)
          have OUT4 := Lib.hid (owns_other (owns_ext Hr.out.out XR.out) (Hr.out.seen.ext XR.out) G4.out.1.2.1 (by decide))
          have COD4 := Lib.hid (show ∀ r ∈ partsR N k, HeldBy w4 v4 (C r) (keyN N r) from fun r hr => ((Hr.out.code r hr).ext XR.out).seen G4.out)
          have WAL4 := Lib.hid (show ∀ r ∈ partsR N k, HeldBy w4 v4 (Wv r) (wk N (bn N r)) from fun r hr => ((Hr.out.walk r hr).ext XR.out).seen G4.out)
          have RB4 := Lib.hid (row_grown (row_ext RB2.out Hs.out.1) (Hr.out.seen.ext XR.out) G4.out.1.2.1 (by decide))
          have hsl := fun b hb => (GrowN.lt Hr.out.seen b hb).2
          have NOD4 := Lib.hid (show OwnI w4 (.slice (some ⟨nb, no, none⟩) M.length nc) M bs7 from O7.out.other (fun b hb e => by have h1 := hsl b e; have h2 := B7.out b hb; have := X2.out.size; omega) G4.out.1.2.1)
          have NB7 := Lib.hid (show ∀ b ∈ bs7, b ≠ xb from fun b hb => by have h2 := B7.out b hb; have := RB2.out.lt; omega)
          have XB4 := Lib.hid RB4.out.lt
          have SV4 := Lib.hid (show ∀ c, v4.ownBlock = some c → c < w4.heap.size from fun c hc => (GrowN.lt SEEN4.out c hc).2)
          clear hsl
          obtain ⟨va, vc4, hv4⟩ := GrowN.slice SEEN4.out
          rw [List.length_append] at hv4
          subst hv4
          go_wp2_with fail
          go_loopg [43] M.length (fun g i wx => ∃ t : Nat, t ≤ M.length ∧ g = M.length - t ∧ i = .int .i64 (t : Int) ∧ Hid (LB N M xb w4 t wx))
          case atStart => exact ⟨0, Nat.zero_le _, rfl, rfl, Chg.rfl' _ _, none, none, 0, 0, 0, 0, 0, RB4.out, Nat.le_refl _, fun _ => rfl, fun h => absurd h (by omega)⟩
          case round =>
            obtain ⟨t, ht, rfl, rfl, Hl⟩ := hrel
            have XBW := Lib.hid (show W0.heap.size ≤ xb by have := HXB.out; have := Hr.out.ext.size; omega)
            have EX := Lib.hid (show Ext W0 wr from Chg.ext E4.out Hl.out.1 (by have := XBW.out; simpa using this))
            obtain ⟨q0, q1, q2, -, -, -⟩ := row3_facts (row_ext RX.out EX.out)
            by_cases htl : t < M.length
            · obtain ⟨y, hy, hgy⟩ := MR.out t htl
              have z1 := int_cell (NOD4.out.keep (w' := wr) fun b hb => Hl.out.1.block b (NOD4.out.1.lt b hb) (by simpa using NB7.out b hb)).read htl
              rw [hgy] at z1
              have HGY := Lib.hid hgy
              obtain ⟨wq, hwq⟩ : ∃ W : World, W = wr := ⟨_, rfl⟩
              subst hwq
              have OKY := Lib.hid (wk_ok GW.out.leads (v := (y : Int)) (by omega))
              have S4 := Lib.hid Hl.out.1.size
              clear hgy
              go_wp2_with fail
              (with_reducible refine (isWalk_any y hy (HN.out.ext (X0.out.trans' EX.out)) GW.out).mono ?_)
              rintro e w5 ⟨v5, bs5, rfl, hx5, ho5, hf5⟩
              obtain ⟨wa5, wc5, rfl⟩ := ho5.1.slice
              have X5 := Lib.hid hx5
              have O5 := Lib.hid ho5
              have F5 := Lib.hid (show ∀ b ∈ bs5, w4.heap.size ≤ b from fun b hb => Nat.le_trans S4.out (hf5.2 b hb))
              have q0' := hx5.cell' q0
              have q1' := hx5.cell' q1
              have q2' := hx5.cell' q2
              clear hx5 ho5 hf5 q0 q1 q2 z1
              go_wp2_with fail
              (with_reducible refine (isCode_any (HN.out.ext (X0.out.trans' (EX.out.trans' X5.out))) O5.out.read GW.out OKY.out).mono ?_)
              rintro e w6 ⟨v6, bs6, rfl, hx6, ho6, hf6⟩
              obtain ⟨ca6, cc6, rfl⟩ := ho6.1.slice
              have X6 := Lib.hid (X5.out.trans' hx6)
              have O6 := Lib.hid (show OwnI w6 (.slice ca6 (cd N (wk N y)).length cc6) (code N (y : Int)) bs6 from ho6)
              have O5' := Lib.hid (O5.out.ext hx6)
              have F6 := Lib.hid (show ∀ b ∈ bs6, w4.heap.size ≤ b from fun b hb => Nat.le_trans S4.out (Nat.le_trans X5.out.size (hf6.2 b hb)))
              obtain ⟨hcx, ca, wa, c1, cc, w1', wc, cnt, hrow, hct, ht0, htp⟩ := Hl.out
              have hrow6 := row_ext hrow X6.out
              have R6 := Lib.hid hrow6
              have CX6 := Lib.hid (hcx.trans' (Chg.of_ext X6.out _))
              obtain ⟨b0, b1, b2, bf0, bf1, bf2⟩ := row3_facts hrow6
              have HST := Lib.hid (show bstTo N M (t + 1) = bstStep N (bstTo N M t) (gi M t) from rfl)
              clear hx6 ho6 hf6 q0' q1' q2' hcx hrow hrow6
              by_cases h0 : t = 0
              · have hc0 := ht0 h0
                subst h0
                subst hc0
                have TK := Lib.hid (LB.take (M := M) (t := 0) CX6.out R6.out XB4.out O6.out O5'.out F6.out F5.out (by rw [HST.out, HGY.out]; rfl))
                clear ht0 htp
                go_wp2
                go_roundg (M.length - (0 + 1))
                case measure => omega
                case rel => exact ⟨0 + 1, by omega, rfl, by go_num, TK.out⟩
              · obtain ⟨hcp, bb, bsc, bsw, hb1, hb2, hb3, hb4, hb5⟩ := htp (by omega)
                have BC := Lib.hid (hb2.ext X6.out)
                have BW := Lib.hid (hb3.ext X6.out)
                have HB45 := Lib.hid (And.intro hb4 hb5)
                have HB1 := Lib.hid hb1
                have e1 : decide (0 < (cnt : Int)) = true := decide_eq_true (by omega)
                have e2 : decide (0 < cnt) = true := decide_eq_true hcp
                have e3 : ((cnt : Int) == 0) = false := by simp; omega
                have e4 : (cnt == 0) = false := by simp; omega
                have HCT := Lib.hid hct
                clear ht0 htp hb1 hb2 hb3 hb4 hb5
                by_cases hsame : code N (y : Int) = code N bb
                · have D1 := Lib.hid (show decide (code N (y : Int) = code N bb) = true from decide_eq_true hsame)
                  have MR2 := Lib.hid (show bstTo N M (t + 1) = some (bb, cnt + 1) by rw [HST.out, HB1.out, HGY.out]; simp only [bstStep, if_pos hsame])
                  clear hsame
                  go_wp2_with (first | (go_at_call 46; (with_reducible refine (l1Same_any O6.out.read BC.out.read).mono ?_); rintro e w7 ⟨rfl, hx⟩; rw [D1.out]; have X7 := Lib.hid hx; obtain ⟨d0, d1, d2, df0, df1, df2⟩ := row3_facts (row_ext R6.out hx); clear hx b0 b1 b2 bf0 bf1 bf2))
                  go_roundg (M.length - (t + 1))
                  case measure => omega
                  case rel => exact ⟨t + 1, by omega, rfl, by go_num, LB.more (CX6.out.trans' (Chg.of_ext X7.out _)) (row_ext R6.out X7.out) XB4.out HCT.out (BC.out.ext X7.out) (BW.out.ext X7.out) HB45.out.1 HB45.out.2 MR2.out⟩
                · have D1 := Lib.hid (show decide (code N (y : Int) = code N bb) = false from decide_eq_false hsame)
                  have HSM := Lib.hid hsame
                  clear hsame
                  go_wp2_with fail
                  (with_reducible refine (l1Same_any O6.out.read BC.out.read).mono ?_)
                  rintro e w7 ⟨rfl, hx⟩
                  rw [D1.out]
                  have X7 := Lib.hid hx
                  obtain ⟨d0, d1, d2, df0, df1, df2⟩ := row3_facts (row_ext R6.out hx)
                  clear hx b0 b1 b2 bf0 bf1 bf2
                  cases hbf : before (code N (y : Int)) (code N bb) with
                  | true =>
                    have HBF := Lib.hid hbf
                    have MR2 := Lib.hid (show bstTo N M (t + 1) = some ((y : Int), 1) by rw [HST.out, HB1.out, HGY.out]; simp only [bstStep, if_neg HSM.out, if_pos hbf])
                    clear hbf
                    go_wp2_with fail
                    (with_reducible refine (isBefore_any (O6.out.read.ext X7.out) (BC.out.read.ext X7.out)).mono ?_)
                    rintro e w8 ⟨rfl, hx⟩
                    rw [HBF.out]
                    have X8 := Lib.hid (X7.out.trans' hx)
                    obtain ⟨g0, g1, g2, gf0, gf1, gf2⟩ := row3_facts (row_ext R6.out X8.out)
                    have TK := Lib.hid (LB.take (M := M) (t := t) (CX6.out.trans' (Chg.of_ext X8.out _)) (row_ext R6.out X8.out) XB4.out (O6.out.ext X8.out) (O5'.out.ext X8.out) F6.out F5.out MR2.out)
                    clear hx d0 d1 d2 df0 df1 df2
                    go_wp2
                    go_roundg (M.length - (t + 1))
                    case measure => omega
                    case rel => exact ⟨t + 1, by omega, rfl, by go_num, TK.out⟩
                  | false =>
                    have HBF := Lib.hid hbf
                    have MR2 := Lib.hid (show bstTo N M (t + 1) = bstTo N M t by rw [HST.out, HB1.out, HGY.out]; simp only [bstStep, if_neg HSM.out]; rw [if_neg (by rw [hbf]; simp)])
                    clear hbf
                    go_wp2_with fail
                    (with_reducible refine (isBefore_any (O6.out.read.ext X7.out) (BC.out.read.ext X7.out)).mono ?_)
                    rintro e w8 ⟨rfl, hx⟩
                    rw [HBF.out]
                    have X8 := Lib.hid (X6.out.trans' (X7.out.trans' hx))
                    clear hx d0 d1 d2 df0 df1 df2
                    go_wp2
                    go_roundg (M.length - (t + 1))
                    case measure => omega
                    case rel => exact ⟨t + 1, by omega, rfl, by go_num, LB.stay Hl.out X8.out (by omega) MR2.out⟩
            · have e : t = M.length := by omega
              subst e
              obtain ⟨hcx, ca, wa, c1, cc, w1', wc, cnt, hrow, hct, ht0, htp⟩ := Hl.out
              obtain ⟨hcp, bb, bsc, bsw, hb1, hb2, hb3, hb4, hb5⟩ := htp hM0
              have hbst : bstTo N M M.length = some (bn N k, bcnt N k) := by rw [HMD.out]; exact (best_spec GW.out.leads hkN).2.2.2.2
              rw [hbst] at hb1
              obtain ⟨rfl, rfl⟩ := Prod.mk.inj (Option.some.inj hb1)
              have BOX := Lib.hid hrow
              have BC := Lib.hid (show OwnI wr (.slice ca c1 cc) (keyN N k) bsc from hb2)
              have BW := Lib.hid hb3
              have HB45 := Lib.hid (And.intro hb4 hb5)
              have KP := Lib.hid (show ∀ b, b < w4.heap.size → b ≠ xb → wr.heap[b]? = w4.heap[b]? from fun b h1 h2 => hcx.block b h1 (by simpa using h2))
              have WS := Lib.hid hcx.size
              clear hcx hrow hct ht0 htp hb1 hb2 hb3 hb4 hb5 hbst q0 q1 q2
              have OVB := Lib.hid (show ∀ b, _ → b < xb from fun b hb => by have := (World.ownsRow.lt Hr.out.out b hb).2; rw [HXB.out]; exact this)
              have OUT5 := Lib.hid (owns_same OUT4.out fun b hb => KP.out b (World.ownsRow.lt OUT4.out b hb).2 (Nat.ne_of_lt (OVB.out b hb)))
              have NXB := Lib.hid (show ∀ (l : List Int) (v : Value) (bs : List Nat), OwnI w4 v l bs → ∀ b ∈ bs, b ≠ xb from fun l v bs h b hb => by
                obtain ⟨c1, h3⟩ := h.1.typed b hb
                obtain ⟨c2, h4⟩ := rowIs.blk RB4.out
                exact type_ne h3 h4 (by decide))
              have HK5 := Lib.hid (show ∀ (s v : Value) (l : List Int), HeldBy w4 s v l → HeldBy wr s v l from fun s v l ⟨bs, h1, h2⟩ => ⟨bs, h1.keep fun b hb => KP.out b (h1.1.lt b hb) (NXB.out _ _ _ h1 b hb), h2⟩)
              have COD5 := Lib.hid (show ∀ r ∈ partsR N k, HeldBy wr (.slice va (Ls.length + M.length) vc4) (C r) (keyN N r) from fun r hr => HK5.out _ _ _ (COD4.out r hr))
              have WAL5 := Lib.hid (show ∀ r ∈ partsR N k, HeldBy wr (.slice va (Ls.length + M.length) vc4) (Wv r) (wk N (bn N r)) from fun r hr => HK5.out _ _ _ (WAL4.out r hr))
              have SEEN5 := Lib.hid (SEEN4.out.keep fun b hb => KP.out b (SV4.out b hb) fun e => by
                obtain ⟨c1, h3⟩ := own_typed SEEN4.out b hb
                obtain ⟨c2, h4⟩ := rowIs.blk RB4.out
                exact type_ne h3 h4 (by decide) e)
              have OFC := Lib.hid (show Off (.slice va (Ls.length + M.length) vc4) bsc from fun b hb e => by have h1 := SV4.out b e; have h2 := HB45.out.1 b hb; omega)
              have OFW := Lib.hid (show Off (.slice va (Ls.length + M.length) vc4) bsw from fun b hb e => by have h1 := SV4.out b e; have h2 := HB45.out.2 b hb; omega)
              have PL := Lib.hid (show (partsR N k).length ≤ k by
                have := (partsR_perm N k).length_eq
                rw [this]
                exact Nat.le_trans (List.length_filter_le _ _) (by simp))
              have pl40 : (partsR N k).length ≤ 40 := by have := PL.out; omega
              rcases OUT4.out.2 with ⟨e0, e1⟩ | ⟨g, cap, cur, e0, e1, e2, e3, e4, e5, e6⟩
              · have HNIL := Lib.hid (List.eq_nil_of_length_eq_zero e1)
                subst e0
                clear e1
                obtain ⟨b0, b1, b2, -, -, -⟩ := row3_facts BOX.out
                clear b1 b2
                obtain ⟨wq, hwq⟩ : ∃ W : World, W = wr := ⟨_, rfl⟩
                subst hwq
                go_wp2_with fail
                go_loopg [14] 0 (fun g i wx => g = 0 ∧ i = .int .i64 0 ∧ Hid (Ext wq wx))
                case atStart => exact ⟨rfl, rfl, Ext.rfl' _⟩
                case round =>
                  obtain ⟨rfl, rfl, Hc⟩ := hrel
                  have HS := Lib.hid (show insR (keyN N) k (partsR N k) = (partsR N k).take 0 ++ k :: (partsR N k).drop 0 by rw [HNIL.out]; rfl)
                  have DR := Lib.hid (show pcells N C Wv ((partsR N k).drop 0) = [] by rw [HNIL.out]; rfl)
                  have z0 := Hc.out.cell' b0
                  clear b0
                  go_wp2_with fail
                  go_quiet (fail)
                  obtain ⟨wd, hwd⟩ : ∃ W, W = wr.drewN nq := ⟨_, rfl⟩
                  rw [← hwd]
                  have XD := Lib.hid (show Ext wq wd by rw [hwd]; exact Hc.out.drewN' _)
                  have ONE := Lib.hid (show ∀ u ∈ pcells N C Wv (partsR N k), u.oneCell' = true from fun u hu => by
                    obtain ⟨r, hr, hu⟩ := List.mem_flatMap.1 hu
                    obtain ⟨_, h1, _⟩ := COD5.out r hr
                    obtain ⟨_, h2, _⟩ := WAL5.out r hr
                    obtain ⟨_, _, e1⟩ := h1.1.slice
                    obtain ⟨_, _, e2⟩ := h2.1.slice
                    simp only [List.mem_cons, List.not_mem_nil, or_false] at hu
                    rcases hu with rfl | rfl | rfl
                    · rw [e1]; rfl
                    · rw [e2]; rfl
                    · rfl)
                  have SEEND := Lib.hid (SEEN5.out.ext XD.out)
                  clear hwd z0
                  go_wp2_with (at_builtin; go_loud (refine wpList_app2 rfl (.tmp 96) (.tmp 99) 61 rfl wd.heap.size 64 i1 (.agg #[.slice none 0 0, .slice none 0 0, .int .i64 0]) 3 56 undPart I1.out.1 I1.out.2.1 I1.out.2.2.1 I1.out.2.2.2 rfl (by decide) (.slice (some ⟨wd.heap.size, 0, none⟩) 0 0) 0 [] rfl (World.ownsRow_lit (size := 3) wd #[] 0 (Nat.le_refl _) (by decide) rfl) _ _ _ (pcells N C Wv ((partsR N k).drop 0)) rfl (src_zero rfl DR.out) (by unfold maxLen; omega) (by omega) (by simp) ?_; intro v15 w15 hg15; rw [Nat.zero_add, List.nil_append] at hg15; have G15 := Lib.hid hg15; clear hg15; obtain ⟨a15, c15, rfl⟩ := owns_slice G15.out.1.1))
                  have XW := Lib.hid (show Ext wq w15 from XD.out.trans' (G15.out.1.ext ((Ext.rfl' wd).alloc' _) fun b hb => by cases hb; exact Nat.le_refl _))
                  obtain ⟨b0, b1, b2, -, -, -⟩ := row3_facts (row_ext BOX.out XW.out)
                  have BLE := Lib.hid (show W0.heap.size ≤ w15.heap.size by have := EX.out.size; have := XW.out.size; omega)
                  have R15 := Lib.hid (World.ownsRow.lt G15.out.1.1)
                  go_upto_region 29 with fail
                  go_region_law (first
                    | (refine step_app2 rfl (.tmp 103) (.tmp 105) 61 rfl W0.heap.size 64 i1 (.agg #[.slice none 0 0, .slice none 0 0, .int .i64 0]) 3 56 undPart I1.out.1 I1.out.2.1 I1.out.2.2.1 I1.out.2.2.2 rfl (by decide) (.slice none 0 0) 0 [] rfl (World.ownsRow_nil _ _ _ _) (some ⟨w15.heap.size, 0, none⟩) 1 1 [.slice ca c1 cc, .slice wa w1' wc, .int .i64 (bcnt N k : Int)] rfl (by first | exact src_three w15.drew _ _ _ _ rfl rfl rfl | exact src_drew (src_three w15 _ _ _ _ rfl rfl rfl)) (by unfold maxLen; omega) (by omega) (by have := BLE.out; simp; omega) ?_; intro v16 w16 hg16; have G16 := Lib.hid hg16; clear hg16; obtain ⟨a16, c16, rfl⟩ := owns_slice G16.out.1.1)
                    | (refine step_app2 rfl (.tmp 106) (.tmp 107) 61 rfl W0.heap.size 64 i1 (.agg #[.slice none 0 0, .slice none 0 0, .int .i64 0]) 3 56 undPart I1.out.1 I1.out.2.1 I1.out.2.2.1 I1.out.2.2.2 rfl (by decide) (.slice a16 (0 + 1) c16) (0 + 1) _ rfl G16.out.1.1 a15 _ c15 (pcells N C Wv ((partsR N k).drop 0)) rfl (src_owns (owns_same (owns_ext G15.out.1.1 (by first | exact (Ext.rfl' _).drew'.alloc' _ | exact ((Ext.rfl' _).alloc' _).drew')) fun b hb => G16.out.1.2.1.block b (by have := (R15.out b hb).2; simp; omega) (fun e => by cases e)) fun u hu => by rw [DR.out] at hu; cases hu) (by unfold maxLen; omega) (by omega) (by have := BLE.out; have := G16.out.1.2.2; simp at this; omega) ?_; intro v17 w17 hg17; have G17 := Lib.hid hg17; clear hg17; obtain ⟨a17, c17, rfl⟩ := owns_slice G17.out.1.1))
                  go_wp2
                  go_roundg (n - (k + 1))
                  case measure => omega
                  case rel =>
                    have G15' := G15.out
                    have G16' := G16.out
                    have G17' := G17.out
                    exact ⟨k + 1, Ls ++ M, _, _, by omega, rfl, by go_num, parts_step (wd := wd) (Wv := Wv) (C := C) (kk := 0) GW.out.leads HM.out hkN HRP.out (EX.out.trans' XD.out) SEEND.out Hr.out.mem MM.out HLS.out hM40 (World.ownsRow_nil _ _ _ _) (fun r hr => (COD5.out r hr).ext XD.out) (fun r hr => (WAL5.out r hr).ext XD.out) (BC.out.ext XD.out) (BW.out.ext XD.out) OFC.out OFW.out G15' (fun b hb => by cases hb; exact Nat.le_refl _) G16' G17' HS.out⟩
              · subst e0
                clear e1 e2 e5 e6
                obtain ⟨b0, b1, b2, -, -, -⟩ := row3_facts BOX.out
                clear b1 b2
                unfold maxLen at e4
                obtain ⟨wq, hwq⟩ : ∃ W : World, W = wr := ⟨_, rfl⟩
                subst hwq
                go_wp2_with fail
                go_loopg [14] (partsR N k).length (fun g i wx => ∃ kk : Nat, kk ≤ (partsR N k).length ∧ g = (partsR N k).length - kk ∧ i = .int .i64 (kk : Int) ∧ Hid (Ext wq wx ∧ ∀ i, i < kk → before (keyN N k) (keyN N (ig (partsR N k) i)) = false))
                case atStart => exact ⟨0, Nat.zero_le _, rfl, rfl, Ext.rfl' _, fun i hi => absurd hi (by omega)⟩
                case round =>
                  obtain ⟨kk, hkk, rfl, rfl, Hc⟩ := hrel
                  have z0 := Hc.out.1.cell' b0
                  clear b0
                  by_cases hlt : kk < (partsR N k).length
                  · have z1 := World.ownsRow.cellAt (owns_ext OUT5.out Hc.out.1) (kk * 3) (by omega)
                    rw [pcells_at _ _ hlt] at z1
                    obtain ⟨bsr, hor, hfr⟩ := COD5.out _ (ig_in hlt)
                    have RC := Lib.hid (hor.read.ext Hc.out.1)
                    have BCR := Lib.hid (BC.out.read.ext Hc.out.1)
                    have hltI : decide ((kk : Int) < ((partsR N k).length : Int)) = true := decide_eq_true (by omega)
                    cases hbf : before (keyN N k) (keyN N (ig (partsR N k) kk)) with
                    | false =>
                      have HBF := Lib.hid hbf
                      clear hbf
                      go_wp2_with fail
                      go_quiet (exact isBefore_quiet BCR.out RC.out HBF.out)
                      go_wp2_with fail
                      go_roundg ((partsR N k).length - (kk + 1))
                      case measure => omega
                      case rel => exact ⟨kk + 1, by omega, rfl, by go_num, Hc.out.1.drewN' _, fun i hi => by
                        by_cases e : i = kk
                        · subst e; exact HBF.out
                        · exact Hc.out.2 i (by omega)⟩
                    | true =>
                      have HBF := Lib.hid hbf
                      have HS := Lib.hid (insR_at (key := keyN N) (r := k) (partsR N k) kk hkk Hc.out.2 fun _ => HBF.out)
                      clear hbf
                      go_wp2_with fail
                      go_quiet (exact isBefore_quiet BCR.out RC.out HBF.out)
                      obtain ⟨wd, hwd⟩ : ∃ W, W = wr.drewN nq := ⟨_, rfl⟩
                      rw [← hwd]
                      have XD := Lib.hid (show Ext wq wd by rw [hwd]; exact Hc.out.1.drewN' _)
                      have ONE := Lib.hid (show ∀ u ∈ pcells N C Wv (partsR N k), u.oneCell' = true from fun u hu => by
                        obtain ⟨r, hr, hu⟩ := List.mem_flatMap.1 hu
                        obtain ⟨_, h1, _⟩ := COD5.out r hr
                        obtain ⟨_, h2, _⟩ := WAL5.out r hr
                        obtain ⟨_, _, e1⟩ := h1.1.slice
                        obtain ⟨_, _, e2⟩ := h2.1.slice
                        simp only [List.mem_cons, List.not_mem_nil, or_false] at hu
                        rcases hu with rfl | rfl | rfl
                        · rw [e1]; rfl
                        · rw [e2]; rfl
                        · rfl)
                      have SEEND := Lib.hid (SEEN5.out.ext XD.out)
                      clear hwd z0 z1
                      go_wp2_with (at_builtin; refine wpList_app2 rfl (.tmp 96) (.tmp 99) 61 rfl wd.heap.size 64 i1 (.agg #[.slice none 0 0, .slice none 0 0, .int .i64 0]) 3 56 undPart I1.out.1 I1.out.2.1 I1.out.2.2.1 I1.out.2.2.2 rfl (by decide) (.slice (some ⟨wd.heap.size, 0, none⟩) 0 0) 0 [] rfl (World.ownsRow_lit (size := 3) wd #[] 0 (Nat.le_refl _) (by decide) rfl) _ ((partsR N k).length - kk) _ ((pcells N C Wv (partsR N k)).drop (kk * 3)) rfl (src_rest (owns_ext OUT5.out (XD.out.alloc' _)) ONE.out kk) (by unfold maxLen; omega) (by omega) (by simp) ?_; intro v15 w15 hg15; rw [Nat.zero_add, List.nil_append] at hg15; have G15 := Lib.hid hg15; clear hg15; obtain ⟨a15, c15, rfl⟩ := owns_slice G15.out.1.1)
                      have XW := Lib.hid (show Ext wq w15 from XD.out.trans' (G15.out.1.ext ((Ext.rfl' wd).alloc' _) fun b hb => by cases hb; exact Nat.le_refl _))
                      obtain ⟨b0, b1, b2, -, -, -⟩ := row3_facts (row_ext BOX.out XW.out)
                      have GLT := Lib.hid (show g < wd.heap.size from Nat.lt_of_lt_of_le (World.ownsRow.lt OUT5.out g rfl).2 XD.out.size)
                      have BLE := Lib.hid (show W0.heap.size ≤ w15.heap.size by have := EX.out.size; have := XW.out.size; omega)
                      have R15 := Lib.hid (show ∀ b, Value.ownBlock (.slice a15 ((partsR N k).length - kk) c15) = some b → wd.heap.size ≤ b ∧ b < w15.heap.size from World.ownsRow.lt G15.out.1.1)
                      have hkc : kk ≤ cap := by omega
                      go_upto_region 29 with fail
                      go_region_law (first
                        | (refine step_app2 rfl (.tmp 103) (.tmp 105) 61 rfl W0.heap.size 64 i1 (.agg #[.slice none 0 0, .slice none 0 0, .int .i64 0]) 3 56 undPart I1.out.1 I1.out.2.1 I1.out.2.2.1 I1.out.2.2.2 rfl (by decide) (.slice (some ⟨g, 0, none⟩) kk _) kk ((pcells N C Wv (partsR N k)).take (kk * 3)) rfl (owns_pre (owns_ext OUT5.out (by first | exact XW.out.drew'.alloc' _ | exact (XW.out.alloc' _).drew')) hkk) (some ⟨w15.heap.size, 0, none⟩) 1 1 [.slice ca c1 cc, .slice wa w1' wc, .int .i64 (bcnt N k : Int)] rfl (by first | exact src_three w15.drew _ _ _ _ rfl rfl rfl | exact src_drew (src_three w15 _ _ _ _ rfl rfl rfl)) (by unfold maxLen; omega) (by omega) (by have := BLE.out; simp; omega) ?_; intro v16 w16 hg16; have G16 := Lib.hid hg16; clear hg16; obtain ⟨a16, c16, rfl⟩ := owns_slice G16.out.1.1)
                        | (refine step_app2 rfl (.tmp 106) (.tmp 107) 61 rfl W0.heap.size 64 i1 (.agg #[.slice none 0 0, .slice none 0 0, .int .i64 0]) 3 56 undPart I1.out.1 I1.out.2.1 I1.out.2.2.1 I1.out.2.2.2 rfl (by decide) (.slice a16 (kk + 1) c16) (kk + 1) _ rfl G16.out.1.1 a15 ((partsR N k).length - kk) c15 ((pcells N C Wv (partsR N k)).drop (kk * 3)) rfl (src_owns (owns_same (owns_ext G15.out.1.1 (by first | exact (Ext.rfl' _).drew'.alloc' _ | exact ((Ext.rfl' _).alloc' _).drew')) fun b hb => G16.out.1.2.1.block b (by have := (R15.out b hb).2; simp; omega) (fun e => by have h1 := (R15.out b hb).1; have h2 := GLT.out; have h3 : b = g := Option.some.inj e; omega)) fun u hu => ONE.out u (List.mem_of_mem_drop hu)) (by unfold maxLen; omega) (by omega) (by have := BLE.out; have := G16.out.1.2.2; simp at this; omega) ?_; intro v17 w17 hg17; have G17 := Lib.hid hg17; clear hg17; obtain ⟨a17, c17, rfl⟩ := owns_slice G17.out.1.1))
                      go_wp2
                      go_roundg (n - (k + 1))
                      case measure => omega
                      case rel =>
                        have G15' := G15.out
                        have G16' := G16.out
                        have G17' := G17.out
                        rw [pcells_drop] at G15' G17'
                        rw [pcells_take] at G16' G17'
                        exact ⟨k + 1, Ls ++ M, _, _, by omega, rfl, by go_num, parts_step (wd := wd) (Wv := Wv) (C := C) GW.out.leads HM.out hkN HRP.out (EX.out.trans' XD.out) SEEND.out Hr.out.mem MM.out HLS.out hM40 (by have h := owns_pre (owns_ext OUT5.out XD.out) hkk; rwa [pcells_take] at h) (fun r hr => (COD5.out r hr).ext XD.out) (fun r hr => (WAL5.out r hr).ext XD.out) (BC.out.ext XD.out) (BW.out.ext XD.out) OFC.out OFW.out G15' (fun b hb => by cases hb; exact Nat.le_refl _) G16' G17' HS.out⟩
                  · have HS := Lib.hid (insR_at (key := keyN N) (r := k) (partsR N k) kk hkk Hc.out.2 fun h => absurd h hlt)
                    have hltB : decide ((kk : Int) < ((partsR N k).length : Int)) = false := decide_eq_false (by omega)
                    have hkc : kk ≤ cap := by omega
                    have DR := Lib.hid (show (pcells N C Wv (partsR N k)).drop (kk * 3) = [] by rw [pcells_drop, List.drop_eq_nil_of_le (Nat.le_of_not_lt hlt)]; rfl)
                    have LZ := Lib.hid (show (partsR N k).length - kk = 0 by omega)
                    rcases (show kk = cap ∨ ¬ cap = kk by omega) with rfl | hck
                    all_goals (
                      go_wp2_with fail
                      go_quiet (fail)
                      obtain ⟨wd, hwd⟩ : ∃ W, W = wr.drewN nq := ⟨_, rfl⟩
                      rw [← hwd]
                      have XD := Lib.hid (show Ext wq wd by rw [hwd]; exact Hc.out.1.drewN' _)
                      have ONE := Lib.hid (show ∀ u ∈ pcells N C Wv (partsR N k), u.oneCell' = true from fun u hu => by
                        obtain ⟨r, hr, hu⟩ := List.mem_flatMap.1 hu
                        obtain ⟨_, h1, _⟩ := COD5.out r hr
                        obtain ⟨_, h2, _⟩ := WAL5.out r hr
                        obtain ⟨_, _, e1⟩ := h1.1.slice
                        obtain ⟨_, _, e2⟩ := h2.1.slice
                        simp only [List.mem_cons, List.not_mem_nil, or_false] at hu
                        rcases hu with rfl | rfl | rfl
                        · rw [e1]; rfl
                        · rw [e2]; rfl
                        · rfl)
                      have SEEND := Lib.hid (SEEN5.out.ext XD.out)
                      clear hwd z0
                      go_wp2_with (at_builtin; go_loud (refine wpList_app2 rfl (.tmp 96) (.tmp 99) 61 rfl wd.heap.size 64 i1 (.agg #[.slice none 0 0, .slice none 0 0, .int .i64 0]) 3 56 undPart I1.out.1 I1.out.2.1 I1.out.2.2.1 I1.out.2.2.2 rfl (by decide) (.slice (some ⟨wd.heap.size, 0, none⟩) 0 0) 0 [] rfl (World.ownsRow_lit (size := 3) wd #[] 0 (Nat.le_refl _) (by decide) rfl) _ _ _ ((pcells N C Wv (partsR N k)).drop (kk * 3)) rfl (src_zero (by first | exact LZ.out | rfl | omega) DR.out) (by unfold maxLen; omega) (by omega) (by simp) ?_; intro v15 w15 hg15; rw [Nat.zero_add, List.nil_append] at hg15; have G15 := Lib.hid hg15; clear hg15; obtain ⟨a15, c15, rfl⟩ := owns_slice G15.out.1.1))
                      have XW := Lib.hid (show Ext wq w15 from XD.out.trans' (G15.out.1.ext ((Ext.rfl' wd).alloc' _) fun b hb => by cases hb; exact Nat.le_refl _))
                      obtain ⟨b0, b1, b2, -, -, -⟩ := row3_facts (row_ext BOX.out XW.out)
                      have GLT := Lib.hid (show g < wd.heap.size from Nat.lt_of_lt_of_le (World.ownsRow.lt OUT5.out g rfl).2 XD.out.size)
                      have BLE := Lib.hid (show W0.heap.size ≤ w15.heap.size by have := EX.out.size; have := XW.out.size; omega)
                      have R15 := Lib.hid (World.ownsRow.lt G15.out.1.1)
                      go_upto_region 29 with fail
                      go_region_law (first
                        | (refine step_app2 rfl (.tmp 103) (.tmp 105) 61 rfl W0.heap.size 64 i1 (.agg #[.slice none 0 0, .slice none 0 0, .int .i64 0]) 3 56 undPart I1.out.1 I1.out.2.1 I1.out.2.2.1 I1.out.2.2.2 rfl (by decide) (.slice (some ⟨g, 0, none⟩) kk _) kk ((pcells N C Wv (partsR N k)).take (kk * 3)) rfl (owns_pre (owns_ext OUT5.out (by first | exact XW.out.drew'.alloc' _ | exact (XW.out.alloc' _).drew')) hkk) (some ⟨w15.heap.size, 0, none⟩) 1 1 [.slice ca c1 cc, .slice wa w1' wc, .int .i64 (bcnt N k : Int)] rfl (by first | exact src_three w15.drew _ _ _ _ rfl rfl rfl | exact src_drew (src_three w15 _ _ _ _ rfl rfl rfl)) (by unfold maxLen; omega) (by omega) (by have := BLE.out; simp; omega) ?_; intro v16 w16 hg16; have G16 := Lib.hid hg16; clear hg16; obtain ⟨a16, c16, rfl⟩ := owns_slice G16.out.1.1)
                        | (refine step_app2 rfl (.tmp 106) (.tmp 107) 61 rfl W0.heap.size 64 i1 (.agg #[.slice none 0 0, .slice none 0 0, .int .i64 0]) 3 56 undPart I1.out.1 I1.out.2.1 I1.out.2.2.1 I1.out.2.2.2 rfl (by decide) (.slice a16 (kk + 1) c16) (kk + 1) _ rfl G16.out.1.1 a15 _ c15 ((pcells N C Wv (partsR N k)).drop (kk * 3)) rfl (src_owns (owns_same (owns_ext G15.out.1.1 (by first | exact (Ext.rfl' _).drew'.alloc' _ | exact ((Ext.rfl' _).alloc' _).drew')) fun b hb => G16.out.1.2.1.block b (by have := (R15.out b hb).2; simp; omega) (fun e => by have h1 := (R15.out b hb).1; have h2 := GLT.out; have h3 : b = g := Option.some.inj e; omega)) fun u hu => ONE.out u (List.mem_of_mem_drop hu)) (by unfold maxLen; omega) (by omega) (by have := BLE.out; have := G16.out.1.2.2; simp at this; omega) ?_; intro v17 w17 hg17; have G17 := Lib.hid hg17; clear hg17; obtain ⟨a17, c17, rfl⟩ := owns_slice G17.out.1.1))
                      go_wp2
                      go_roundg (n - (k + 1))
                      case measure => omega
                      case rel =>
                        have G15' := G15.out
                        have G16' := G16.out
                        have G17' := G17.out
                        rw [pcells_drop] at G15' G17'
                        rw [pcells_take] at G16' G17'
                        exact ⟨k + 1, Ls ++ M, _, _, by omega, rfl, by go_num, parts_step (wd := wd) (Wv := Wv) (C := C) GW.out.leads HM.out hkN HRP.out (EX.out.trans' XD.out) SEEND.out Hr.out.mem MM.out HLS.out hM40 (by have h := owns_pre (owns_ext OUT5.out XD.out) hkk; rwa [pcells_take] at h) (fun r hr => (COD5.out r hr).ext XD.out) (fun r hr => (WAL5.out r hr).ext XD.out) (BC.out.ext XD.out) (BW.out.ext XD.out) OFC.out OFW.out G15' (fun b hb => by cases hb; exact Nat.le_refl _) G16' G17' HS.out⟩)
    · obtain rfl : k = n := by omega
      go_wp2
      go_ret
      refine ⟨_, C, Wv, rfl, X0.out.trans' Hr.out.ext, ?_, fun r hr => ⟨?_, ?_⟩⟩
      · obtain ⟨a1, a2⟩ := Hr.out.out
        refine ⟨a1, ?_⟩
        rcases a2 with a2 | ⟨g, cap, cur, b1, b2, b3⟩
        · exact .inl a2
        · exact .inr ⟨g, cap, cur, b1, by have := SZ0.out; omega, b3⟩
      · obtain ⟨_, a, _⟩ := Hr.out.code r hr
        exact a.read
      · obtain ⟨_, a, _⟩ := Hr.out.walk r hr
        exact a.read
end Go.Proofs.Ytdoaopeegcakiaa
