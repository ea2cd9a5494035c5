/- Several texts in one: Ii, Ed, NeEd, Eo. -/
import Derived.Test.YtpkgghkibgadnaaKf
import Derived.Test.YtpkgghkibgadnaaKc
/- Lists of lists of integers: in memory of their own, compared, marked, held, and grown by append. -/
namespace Go.Proofs.Ytpkgghkibgadnaa
open Go.RowKit

def OwnII (w : World) (v : Value) (l : List (List Int)) (bs : List Nat) : Prop :=
  ∃ (R : Nat → Value) (b0 : List Nat) (T : Nat → List Nat), OwnSl w v l.length 1 23 R b0 ∧ (∀ i, i < l.length → OwnI w (R i) (gr l i) (T i)) ∧ bs = b0 ++ (List.range l.length).flatMap T
/-- Short enough for the marks. -/
def IISmall (l : List (List Int)) : Prop := l.length ≤ 1048576 ∧ ∀ i, (gr l i).length ≤ 1048576

theorem OwnII.keep {w w' : World} {v : Value} {l : List (List Int)} {bs : List Nat} (h : OwnII w v l bs) (he : ∀ b ∈ bs, w'.heap[b]? = w.heap[b]?) : OwnII w' v l bs := by
  obtain ⟨R, b0, T, h1, h2, rfl⟩ := h
  refine ⟨R, b0, T, h1.keep fun b hb => he b (by simp [hb]), fun i hi => (h2 i hi).keep fun b hb => he b ?_, rfl⟩
  exact List.mem_append.2 (.inr (List.mem_flatMap.2 ⟨i, List.mem_range.2 hi, hb⟩))

theorem OwnII.lt {w : World} {v : Value} {l : List (List Int)} {bs : List Nat} (h : OwnII w v l bs) : ∀ b ∈ bs, b < w.heap.size := by
  obtain ⟨R, b0, T, h1, h2, rfl⟩ := h
  intro b hb
  rcases List.mem_append.1 hb with hb | hb
  · exact h1.lt b hb
  · obtain ⟨i, hi, hb⟩ := List.mem_flatMap.1 hb
    exact (h2 i (List.mem_range.1 hi)).1.lt b hb

theorem OwnII.ext {w w' : World} {v : Value} {l : List (List Int)} {bs : List Nat} (h : OwnII w v l bs) (he : Ext w w') : OwnII w' v l bs := h.keep fun b hb => he.block b (h.lt b hb)

theorem OwnII.read {w : World} {v : Value} {l : List (List Int)} {bs : List Nat} (h : OwnII w v l bs) : IntSS w v l := by
  obtain ⟨R, b0, T, ⟨c, h1, h2, h3⟩, h4, rfl⟩ := h
  rcases h3 with ⟨hn, rfl, a, -, rfl⟩ | ⟨b, m, g, rfl, rfl, hm, hr, hf⟩
  · exact ⟨a, 0, 0, c, by rw [hn], fun h => absurd h (by omega), by omega, h2, fun i hi => absurd hi (by omega)⟩
  · refine ⟨_, b, 0, c, rfl, fun _ => rfl, h1, h2, fun i hi => ⟨R i, ?_, (h4 i hi).read⟩⟩
    rw [Nat.zero_add, hr.cell (by omega), hf i (by omega)]

/-- The mark with which row i begins. -/
def iAt (k : Int) (l : List (List Int)) : Nat → Int
  | 0 => k
  | i + 1 => iAt k l i + (gr l i).length
theorem iAt_le (k : Int) (l : List (List Int)) (hs : ∀ i, (gr l i).length ≤ 1048576) : ∀ i, k ≤ iAt k l i ∧ iAt k l i ≤ k + 1048576 * i
  | 0 => by simp [iAt]
  | i + 1 => by
    have h1 := iAt_le k l hs i
    have h2 := hs i
    simp only [iAt]
    omega
def imarks (k : Int) (l : List (List Int)) : List (List Int) := (List.range l.length).map fun i => marks (iAt k l i) (gr l i).length
theorem length_imarks (k : Int) (l : List (List Int)) : (imarks k l).length = l.length := by simp [imarks]
theorem gr_imarks (k : Int) (l : List (List Int)) (i : Nat) (h : i < l.length) : gr (imarks k l) i = marks (iAt k l i) (gr l i).length := by simp [gr, imarks, h]
def iLast (l : List (List Int)) : Int := iAt 1 l l.length
theorem iLast_bound {l : List (List Int)} (h : IISmall l) : 0 ≤ iLast l ∧ iLast l ≤ 1099511627777 := by
  obtain ⟨a, b⟩ := iAt_le 1 l h.2 l.length
  have := h.1
  unfold iLast
  omega

/-- The first k rows of l are built in the slice v; all blocks are behind B. -/
def GrowI (B : Nat) (w : World) (v : Value) (l : List (List Int)) (k : Nat) : Prop :=
  ∃ (R : Nat → Value) (T : Nat → List Nat), w.ownsRow B 23 1 v k ((List.range k).map R) ∧ (∀ i, i < k → OwnI w (R i) (gr l i) (T i)) ∧ ((List.range k).flatMap T).Nodup ∧ ∀ b ∈ (List.range k).flatMap T, B ≤ b


theorem GrowI.nil (B : Nat) (w : World) (l : List (List Int)) : GrowI B w (.slice none 0 0) l 0 :=
  ⟨fun _ => undef, fun _ => [], World.ownsRow_nil _ _ _ _, fun i hi => absurd hi (by omega), by simp, by simp⟩

theorem GrowI.lt {B : Nat} {w : World} {v : Value} {l : List (List Int)} {k : Nat} (h : GrowI B w v l k) : ∀ b, v.ownBlock = some b → B ≤ b ∧ b < w.heap.size := by
  obtain ⟨R, T, h1, _⟩ := h
  exact h1.lt

theorem GrowI.keep {B : Nat} {w w' : World} {v : Value} {l : List (List Int)} {k : Nat} (h : GrowI B w v l k) (he : ∀ b, B ≤ b → b < w.heap.size → w'.heap[b]? = w.heap[b]?) : GrowI B w' v l k := by
  obtain ⟨R, T, h1, h2, h3, h4⟩ := h
  refine ⟨R, T, ⟨h1.1, ?_⟩, fun i hi => (h2 i hi).keep fun b hb => he b (h4 b (List.mem_flatMap.2 ⟨i, List.mem_range.2 hi, hb⟩)) ((h2 i hi).1.lt b hb), h3, h4⟩
  rcases h1.2 with ⟨rfl, hn⟩ | ⟨g, cap, cur, rfl, hb, hh, rest⟩
  · exact .inl ⟨rfl, hn⟩
  · exact .inr ⟨g, cap, cur, rfl, hb, by rw [he g hb (Array.getElem?_eq_some_iff.1 hh).1]; exact hh, rest⟩

theorem GrowI.ext {B : Nat} {w w' : World} {v : Value} {l : List (List Int)} {k : Nat} (h : GrowI B w v l k) (he : Ext w w') : GrowI B w' v l k := h.keep fun b _ hb => he.block b hb


/-- A further row. (w: the world at the append; x: the row.) -/
theorem GrowI.step {B : Nat} {w w' : World} {v v' x : Value} {l : List (List Int)} {k : Nat} {R : Nat → Value} {T : Nat → List Nat} {bs : List Nat}
    (h1 : w.ownsRow B 23 1 v k ((List.range k).map R)) (h2 : ∀ i, i < k → OwnI w (R i) (gr l i) (T i)) (h3 : ((List.range k).flatMap T).Nodup) (h4 : ∀ b ∈ (List.range k).flatMap T, B ≤ b)
    (ho : OwnI w x (gr l k) bs) (hnew : ∀ b ∈ bs, B ≤ b ∧ b ∉ (List.range k).flatMap T) (hg : Grew w w' B 23 1 v v' (k + 1) ((List.range k).map R ++ [x])) : GrowI B w' v' l (k + 1) := by
  have hcong : (List.range k).flatMap (fun i => if i = k then bs else T i) = (List.range k).flatMap T := by
    rw [List.flatMap_def, List.flatMap_def]
    congr 1
    exact List.map_congr_left fun i hi => if_neg (by have := List.mem_range.1 hi; omega)
  have hcongR : (List.range k).map (fun i => if i = k then x else R i) = (List.range k).map R :=
    List.map_congr_left fun i hi => if_neg (by have := List.mem_range.1 hi; omega)
  have hfl : (List.range (k + 1)).flatMap (fun i => if i = k then bs else T i) = (List.range k).flatMap T ++ bs := by
    rw [List.range_succ, List.flatMap_append, hcong]
    simp
  refine ⟨fun i => if i = k then x else R i, fun i => if i = k then bs else T i, ?_, fun i hi => ?_, ?_, ?_⟩
  · rw [← map_range_succ, hcongR]
    simpa using hg.1
  · by_cases e : i = k
    · subst e
      simp only [if_true]
      exact ho.keep (kept_grown h1 hg.2.1 ho.1.typed (by decide))
    · simp only [if_neg e]
      exact (h2 i (by omega)).keep (kept_grown h1 hg.2.1 (h2 i (by omega)).1.typed (by decide))
  · rw [hfl]
    exact List.nodup_append.2 ⟨h3, ho.1.nodup, fun a ha b hb e => (hnew b hb).2 (e ▸ ha)⟩
  · rw [hfl]
    intro b hb
    rcases List.mem_append.1 hb with hb | hb
    · exact h4 b hb
    · exact (hnew b hb).1


/-- All rows are built. -/
theorem GrowI.done {B : Nat} {w : World} {v : Value} {l : List (List Int)} (h : GrowI B w v l l.length) : ∃ bs, OwnII w v l bs ∧ bs.Nodup ∧ ∀ b ∈ bs, B ≤ b := by
  obtain ⟨R, T, ⟨hl, h1⟩, h2, h3, h4⟩ := h
  rcases h1 with ⟨rfl, hn⟩ | ⟨g, cap, cur, rfl, hb, hh, hc1, hc2, hs, ht⟩
  · refine ⟨[], ⟨R, [], T, ⟨0, by omega, by unfold maxLen; omega, .inl ⟨hn, rfl, none, ⟨rfl, rfl⟩, rfl⟩⟩, h2, ?_⟩, List.nodup_nil, by simp⟩
    rw [hn]; rfl
  · refine ⟨[g] ++ (List.range l.length).flatMap T, ⟨R, [g], T, ⟨cap, hc1, hc2, .inr ⟨g, cap * 1, fun i => cur.getD i undef, rfl, rfl, by omega, ⟨cur, hh, by omega, fun i hi => ?_⟩, fun i hi => ?_⟩⟩, h2, rfl⟩, ?_, ?_⟩
    · have hlt : i < cur.size := by omega
      simp [hlt]
    · have hlt : i < cur.size := by omega
      have e : ((List.range l.length).map R)[i]? = some (R i) := by simp [show i < l.length by omega]
      rw [← ht, List.getElem?_take, if_pos (by omega)] at e
      simp only [Array.getElem?_toList] at e
      simp [Array.getD, hlt]
      simpa [hlt] using e
    · refine List.nodup_append.2 ⟨by simp, h3, fun a ha b hb e => ?_⟩
      obtain rfl := List.mem_singleton.1 ha
      subst e
      obtain ⟨i, hi, hbi⟩ := List.mem_flatMap.1 hb
      obtain ⟨cur', hc'⟩ := (h2 i (List.mem_range.1 hi)).1.typed _ hbi
      exact type_ne hh hc' (by decide) rfl
    · intro b hb'
      rcases List.mem_append.1 hb' with hb' | hb'
      · obtain rfl := List.mem_singleton.1 hb'; exact hb
      · exact h4 b hb'


end Go.Proofs.Ytpkgghkibgadnaa

/- The edges of a network as plain data; the contract of neFirst; a list of lists that grows by one row. -/
namespace Go.Proofs.Ytpkgghkibgadnaa
open Go.RowKit

theorem Try.info23 : (Try.prog.info? 23).map (fun i => (i.zero, i.size, i.bytes)) = some (some (.slice none 0 0), 1, 24) := by kernel_rfl

def First (N : Net) (v i : Nat) : Prop := (v : Int) < gn (gr N.ends v) i ∨ ((v : Int) = gn (gr N.ends v) i ∧ (i : Int) ≤ gp (gr N.ends v) i)
def quad (N : Net) (v i : Nat) : List Int := [(v : Int), (i : Int), gn (gr N.ends v) i, gp (gr N.ends v) i]
noncomputable def portEdge (N : Net) (v i : Nat) : List (List Int) := if dec (First N v i) = true then [quad N v i] else []
theorem portEdge_t {N : Net} {v i : Nat} (h : First N v i) : portEdge N v i = [quad N v i] := by simp [portEdge, dec_true h]
theorem portEdge_f {N : Net} {v i : Nat} (h : ¬ First N v i) : portEdge N v i = [] := by simp [portEdge, dec_false h]
/-- The edges that begin at the first k ports of node v. -/
noncomputable def rowEdges (N : Net) (v : Nat) : Nat → List (List Int)
  | 0 => []
  | k + 1 => rowEdges N v k ++ portEdge N v k
/-- The edges that begin at the first v nodes. -/
noncomputable def edgesTo (N : Net) : Nat → List (List Int)
  | 0 => []
  | v + 1 => edgesTo N v ++ rowEdges N v (gr N.ends v).length
noncomputable def someEdges (N : Net) (v k : Nat) : List (List Int) := edgesTo N v ++ rowEdges N v k
theorem someEdges_zero (N : Net) (v : Nat) : someEdges N v 0 = edgesTo N v := by simp [someEdges, rowEdges]
theorem someEdges_all (N : Net) (v : Nat) : someEdges N v (gr N.ends v).length = edgesTo N (v + 1) := rfl
theorem someEdges_yes {N : Net} {v k : Nat} (h : First N v k) : someEdges N v (k + 1) = someEdges N v k ++ [quad N v k] := by simp [someEdges, rowEdges, portEdge_t h]
theorem someEdges_no {N : Net} {v k : Nat} (h : ¬ First N v k) : someEdges N v (k + 1) = someEdges N v k := by simp [someEdges, rowEdges, portEdge_f h]
theorem rowEdges_len (N : Net) (v : Nat) : ∀ k, (rowEdges N v k).length ≤ k ∧ ∀ r ∈ rowEdges N v k, r.length = 4
  | 0 => by simp [rowEdges]
  | k + 1 => by
    have h := rowEdges_len N v k
    by_cases hf : First N v k
    · simp only [rowEdges, portEdge_t hf, List.length_append, List.length_singleton, List.mem_append, List.mem_singleton]
      refine ⟨by omega, fun r hr => ?_⟩
      rcases hr with hr | rfl
      · exact h.2 r hr
      · rfl
    · simp only [rowEdges, portEdge_f hf, List.append_nil]
      exact ⟨by omega, h.2⟩
theorem edgesTo_len (N : Net) (hs : ∀ v, v < N.ends.length → (gr N.ends v).length ≤ 6) : ∀ k, k ≤ N.ends.length → (edgesTo N k).length ≤ 6 * k ∧ ∀ r ∈ edgesTo N k, r.length = 4
  | 0, _ => by simp [edgesTo]
  | k + 1, hk => by
    have h := edgesTo_len N hs k (by omega)
    have h1 := rowEdges_len N k (gr N.ends k).length
    have h2 := hs k (by omega)
    simp only [edgesTo, List.length_append, List.mem_append]
    refine ⟨by omega, fun r hr => ?_⟩
    rcases hr with hr | hr
    · exact h.2 r hr
    · exact h1.2 r hr
noncomputable def edAns (N : Net) : List (List Int) := if dec (Good N) = true then edgesTo N N.ends.length else []
theorem edAns_t {N : Net} (h : Good N) : edAns N = edgesTo N N.ends.length := by simp [edAns, dec_true h]
theorem edAns_f {N : Net} (h : ¬ Good N) : edAns N = [] := by simp [edAns, dec_false h]
theorem good_rows {N : Net} (h : Good N) : ∀ v, v < N.ends.length → (gr N.ends v).length ≤ 6 := fun v hv => (h.2.1 v hv).1
theorem edAns_small (N : Net) : IISmall (edAns N) := by
  by_cases h : Good N
  · rw [edAns_t h]
    have h1 := edgesTo_len N (good_rows h) N.ends.length (Nat.le_refl _)
    have h2 := h.1.2
    refine ⟨by omega, fun i => ?_⟩
    by_cases hi : i < (edgesTo N N.ends.length).length
    · have : gr (edgesTo N N.ends.length) i = (edgesTo N N.ends.length)[i] := by simp [gr, hi]
      rw [this, h1.2 _ (List.getElem_mem hi)]
      omega
    · rw [gr_out _ _ (by omega)]; simp
  · rw [edAns_f h]
    exact ⟨by simp, fun i => by simp [gr]⟩

theorem gr_snoc (l : List (List Int)) (r : List Int) (i : Nat) : gr (l ++ [r]) i = if i = l.length then r else gr l i := by
  unfold gr
  by_cases e : i = l.length
  · subst e; simp
  · rw [if_neg e]
    by_cases h : i < l.length
    · simp [List.getD, List.getElem?_append_left h]
    · simp [List.getD, List.getElem?_eq_none (show l.length ≤ i by omega), List.getElem?_eq_none (show (l ++ [r]).length ≤ i by simp; omega)]
/-- The parts of a grown list, read as the beginning of one with a further row. -/
theorem GrowI.parts {B : Nat} {w : World} {v : Value} {l : List (List Int)} (h : GrowI B w v l l.length) (r : List Int) :
    ∃ (R : Nat → Value) (T : Nat → List Nat), w.ownsRow B 23 1 v l.length ((List.range l.length).map R) ∧ (∀ i, i < l.length → OwnI w (R i) (gr (l ++ [r]) i) (T i)) ∧ ((List.range l.length).flatMap T).Nodup ∧ ∀ b ∈ (List.range l.length).flatMap T, B ≤ b ∧ b < w.heap.size := by
  obtain ⟨R, T, h1, h2, h3, h4⟩ := h
  refine ⟨R, T, h1, fun i hi => by rw [gr_snoc, if_neg (by omega)]; exact h2 i hi, h3, fun b hb => ⟨h4 b hb, ?_⟩⟩
  obtain ⟨i, hi, hbi⟩ := List.mem_flatMap.1 hb
  exact (h2 i (List.mem_range.1 hi)).1.lt b hbi

theorem own_quad (w : World) (N : Net) (v i : Nat) (h : inI64 v ∧ inI64 i ∧ inI64 (gn (gr N.ends v) i) ∧ inI64 (gp (gr N.ends v) i)) :
    OwnI (w.alloc (.cells #[.int .i64 v, .int .i64 i, .int .i64 (gn (gr N.ends v) i), .int .i64 (gp (gr N.ends v) i)] 3)) (.slice (some ⟨w.heap.size, 0, none⟩) 4 4) (quad N v i) [w.heap.size] := by
  refine ⟨⟨4, by simp [quad], by unfold maxLen; omega, .inr ⟨w.heap.size, 4, fun j => .int .i64 (gi (quad N v i) j), rfl, rfl, by simp [quad], World.rowIs_alloc w _ 3 _ fun j hj => ?_, fun j hj => rfl⟩⟩, fun j hj => ?_⟩
  · have h : j < 4 := hj
    match j, h with
    | 0, _ => rfl
    | 1, _ => rfl
    | 2, _ => rfl
    | 3, _ => rfl
  · have h' : j < 4 := hj
    match j, h' with
    | 0, _ => exact h.1
    | 1, _ => exact h.2.1
    | 2, _ => exact h.2.2.1
    | 3, _ => exact h.2.2.2

/-- A further edge: w2: the world ahead of it; w3: the one behind append. -/
theorem edge_step {B : Nat} {w2 w3 : World} {s v' : Value} {N : Net} {v i : Nat} {l : List (List Int)} {R : Nat → Value} {T : Nat → List Nat}
    (h : inI64 v ∧ inI64 i ∧ inI64 (gn (gr N.ends v) i) ∧ inI64 (gp (gr N.ends v) i)) (hB : B ≤ w2.heap.size)
    (h1 : w2.ownsRow B 23 1 s l.length ((List.range l.length).map R)) (h2 : ∀ j, j < l.length → OwnI w2 (R j) (gr (l ++ [quad N v i]) j) (T j)) (h3 : ((List.range l.length).flatMap T).Nodup) (h4 : ∀ b ∈ (List.range l.length).flatMap T, B ≤ b ∧ b < w2.heap.size)
    (hg : Grew ((w2.alloc (.cells #[.int .i64 v, .int .i64 i, .int .i64 (gn (gr N.ends v) i), .int .i64 (gp (gr N.ends v) i)] 3)).alloc (.cells #[.slice (some ⟨w2.heap.size, 0, none⟩) 4 4] 23)) w3 B 23 1 s v' (l.length + 1) ((List.range l.length).map R ++ [.slice (some ⟨w2.heap.size, 0, none⟩) 4 4])) :
    GrowI B w3 v' (l ++ [quad N v i]) (l ++ [quad N v i]).length ∧ ∀ W : World, Ext W w2 → W.heap.size ≤ B → Ext W w3 := by
  have hx : Ext w2 ((w2.alloc (.cells #[.int .i64 v, .int .i64 i, .int .i64 (gn (gr N.ends v) i), .int .i64 (gp (gr N.ends v) i)] 3)).alloc (.cells #[.slice (some ⟨w2.heap.size, 0, none⟩) 4 4] 23)) := ((Ext.rfl' w2).alloc' _).alloc' _
  have hq := (own_quad w2 N v i h).ext ((Ext.rfl' _).alloc' (.cells #[.slice (some ⟨w2.heap.size, 0, none⟩) 4 4] 23))
  have hl : (l ++ [quad N v i]).length = l.length + 1 := by simp
  refine ⟨?_, fun W hW hWB => hg.ext (hW.trans' hx) fun b hb => Nat.le_trans hWB (h1.lt b hb).1⟩
  rw [hl]
  refine GrowI.step (owns_ext h1 hx) (fun j hj => (h2 j hj).ext hx) h3 (fun b hb => (h4 b hb).1) (bs := [w2.heap.size]) (x := .slice (some ⟨w2.heap.size, 0, none⟩) 4 4) ?_ (fun b hb => ?_) hg
  · rw [gr_snoc, if_pos rfl]; exact hq
  · obtain rfl := List.mem_singleton.1 hb
    exact ⟨hB, fun hb' => by have := (h4 _ hb').2; omega⟩

end Go.Proofs.Ytpkgghkibgadnaa

/- The contract of neEdges. -/
namespace Go.Proofs.Ytpkgghkibgadnaa
open Go.RowKit
end Go.Proofs.Ytpkgghkibgadnaa

/- The contracts of both EdgesOf. -/
namespace Go.Proofs.Ytpkgghkibgadnaa
open Go.RowKit

theorem own_nilII (w : World) : OwnII w (.slice none 0 0) [] [] := ⟨fun _ => undef, [], fun _ => [], ⟨0, Nat.le_refl _, by unfold maxLen; omega, .inl ⟨rfl, rfl, none, ⟨rfl, rfl⟩, rfl⟩⟩, fun i hi => absurd hi (by simp), rfl⟩

end Go.Proofs.Ytpkgghkibgadnaa
