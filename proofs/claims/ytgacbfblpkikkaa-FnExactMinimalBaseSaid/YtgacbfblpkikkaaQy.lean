/- The contracts of the model's neEmpty and coQuotient. -/
import Derived.Test.YtgacbfblpkikkaaQx
import Derived.Test.YtgacbfblpkikkaaSnoc
import Derived.RegionTactic
namespace Go.Proofs.Ytgacbfblpkikkaa
open Go.RowKit Go.Maps

/-- The rows and the inputs when the last j nodes are written, the last one first. -/
def rowsDown (N : Net) (cl : List Int) : Nat → Nat → List (Int × Int)
  | 0 => fun _ => []
  | j + 1 => fun i => if i = (gi cl (N.ends.length - 1 - j)).toNat then under cl (gr N.ends (N.ends.length - 1 - j)) else rowsDown N cl j i
def inpDown (N : Net) (cl : List Int) : Nat → Nat → Int
  | 0 => fun _ => 0
  | j + 1 => fun i => if i = (gi cl (N.ends.length - 1 - j)).toNat then gi N.inputs (N.ends.length - 1 - j) else inpDown N cl j i
theorem down_step {N : Net} {cl : List Int} {v z : Nat} (hv : v < N.ends.length) (hz : gi cl v = (z : Int)) :
    rowsDown N cl (N.ends.length - v) = (fun i => if i = z then under cl (gr N.ends v) else rowsDown N cl (N.ends.length - (v + 1)) i) ∧ inpDown N cl (N.ends.length - v) = (fun i => if i = z then gi N.inputs v else inpDown N cl (N.ends.length - (v + 1)) i) := by
  have e : N.ends.length - v = (N.ends.length - (v + 1)) + 1 := by omega
  have e2 : N.ends.length - 1 - (N.ends.length - (v + 1)) = v := by omega
  rw [e]
  simp only [rowsDown, inpDown, e2, hz, Int.toNat_natCast]
  exact ⟨trivial, trivial⟩
theorem down_first {N : Net} {cl : List Int} {n i : Nat} (hin : ImIn cl n) (hl : cl.length = N.ends.length) : ∀ j u, j ≤ N.ends.length → N.ends.length - j ≤ u → u < N.ends.length → gi cl u = (i : Int) → (∀ x, x < u → gi cl x ≠ (i : Int)) →
    rowsDown N cl j i = under cl (gr N.ends u) ∧ inpDown N cl j i = gi N.inputs u
  | 0, u, _, h1, h2, _, _ => by omega
  | j + 1, u, h0, h1, h2, h3, h4 => by
    simp only [rowsDown, inpDown]
    by_cases e : u = N.ends.length - 1 - j
    · subst e
      rw [h3, Int.toNat_natCast, if_pos rfl, if_pos rfl]
      exact ⟨rfl, rfl⟩
    · have hlt : N.ends.length - 1 - j < u := by omega
      have h5 := h4 _ hlt
      have h6 := (hin (N.ends.length - 1 - j) (by omega)).1
      rw [if_neg (by omega), if_neg (by omega)]
      exact down_first hin hl j u (by omega) (by omega) h2 h3 h4
def downNet (N : Net) (cl : List Int) (c : Nat) : Net := ⟨(List.range c).map (rowsDown N cl N.ends.length), [], (List.range c).map (inpDown N cl N.ends.length)⟩
theorem least_of {cl : List Int} {z : Int} : ∀ x, gi cl x = z → ∃ y, y ≤ x ∧ gi cl y = z ∧ ∀ u, u < y → gi cl u ≠ z := by
  intro x
  induction x using Nat.strongRecOn with
  | ind x ih =>
    intro e
    by_cases h : ∃ u, u < x ∧ gi cl u = z
    · obtain ⟨u, hu, he⟩ := h
      obtain ⟨y, hy, h2⟩ := ih u hu he
      exact ⟨y, by omega, h2⟩
    · exact ⟨x, Nat.le_refl _, e, fun u hu he => h ⟨u, hu, he⟩⟩
theorem fst_low {cl : List Int} {k : Nat} (h : 0 < (fib cl (k : Int)).length) : ∀ x, x < fst cl (k : Int) → gi cl x ≠ (k : Int) := by
  intro x hx e
  obtain ⟨f1, -, f3⟩ := fst_of h
  obtain ⟨y, hy, hmin⟩ : ∃ y, (y < cl.length ∧ gi cl y = (k : Int)) ∧ ∀ u, u < y → gi cl u ≠ (k : Int) := by
    obtain ⟨y, hyx, hy⟩ := least_of x e
    exact ⟨y, ⟨by omega, hy.1⟩, hy.2⟩
  have h2 := (fibTo_first cl.length y hy.1 hy.2 hmin).2
  have h3 : gi (fibTo cl (k : Int) cl.length) 0 = (fst cl (k : Int) : Int) := f3
  have : y = fst cl (k : Int) := by omega
  exact hmin x (by omega) e
theorem downNet_quot {N : Net} {cl : List Int} (hin : ImIn cl N.ends.length) (hl : cl.length = N.ends.length) (hu : Used cl) : downNet N cl (mny cl) = quotNet N cl (mny cl) := by
  have hk : ∀ k, k < mny cl → rowsDown N cl N.ends.length k = under cl (gr N.ends (fst cl (k : Int))) ∧ inpDown N cl N.ends.length k = gi N.inputs (fst cl (k : Int)) := fun k h => by
    obtain ⟨f1, f2, f3⟩ := fst_of (hu k h)
    exact down_first hin hl N.ends.length _ (Nat.le_refl _) (by omega) (by omega) f2 (fst_low (hu k h))
  unfold downNet quotNet
  congr 1
  · exact List.map_congr_left fun k h => (hk k (List.mem_range.1 h)).1
  · exact List.map_congr_left fun k h => (hk k (List.mem_range.1 h)).2

theorem row_farQ {w : World} {p : Addr} {u : Value} {b t t' n n' : Nat} {f f' : Nat → Value} (h : w.rowIs b t n f) (k : w.rowIs p.block t' n' f') (hne : t ≠ t') : (w.setCell p u).rowIs b t n f := by
  obtain ⟨c, hc⟩ := rowIs.blk h
  obtain ⟨d, hd⟩ := rowIs.blk k
  exact h.of_block (Below.heap_setCell _ _ _ _ (type_ne hc hd hne))
theorem ownE_farQ {w : World} {p : Addr} {u v : Value} {t' n' : Nat} {f' : Nat → Value} {l : List (Int × Int)} {bs : List Nat} (h : OwnE w v l bs) (k : w.rowIs p.block t' n' f') (hne : 76 ≠ t') : OwnE (w.setCell p u) v l bs := by
  obtain ⟨d, hd⟩ := rowIs.blk k
  exact h.keep (kept_store hd h.1.typed hne)
theorem nodup_of_rowsQ {T : Nat → List Nat} : ∀ n, (∀ i, i < n → (T i).Nodup) → (∀ i j, i < n → j < n → i ≠ j → ∀ b ∈ T i, b ∉ T j) → ((List.range n).flatMap T).Nodup
  | 0, _, _ => by simp
  | n + 1, h1, h2 => by
    rw [List.range_succ, List.flatMap_append]
    refine List.nodup_append.2 ⟨nodup_of_rowsQ n (fun i hi => h1 i (by omega)) (fun i j hi hj => h2 i j (by omega) (by omega)), by simpa using h1 n (by omega), fun a ha b hb e => ?_⟩
    subst e
    obtain ⟨i, hi, hb'⟩ := List.mem_flatMap.1 ha
    have hi' := List.mem_range.1 hi
    exact h2 i n (by omega) (by omega) (by omega) a hb' (by simpa using hb)

/-- A network of n nodes that is filled, its rows at R. -/
structure QB (W wr : World) (n p eb ib : Nat) (R : Nat → Value) (T : Nat → List Nat) (L : Nat → List (Int × Int)) (I : Nat → Int) : Prop where
  ext : Ext W wr
  hp : W.heap.size ≤ p
  he : W.heap.size ≤ eb
  hi : W.heap.size ≤ ib
  box : wr.rowIs p 29 3 (tri (.slice (some ⟨eb, 0, none⟩) n n) (.slice none 0 0) (.slice (some ⟨ib, 0, none⟩) n n))
  ends : wr.rowIs eb 74 n R
  ins : wr.rowIs ib 3 n (fun i => .int .i64 (I i))
  rows : ∀ i, i < n → OwnE wr (R i) (L i) (T i)
  apart : ∀ i j, i < n → j < n → i ≠ j → ∀ b ∈ T i, b ∉ T j
  ge : ∀ i, i < n → ∀ b ∈ T i, W.heap.size ≤ b
theorem QB.mono {W wr w' : World} {n p eb ib : Nat} {R : Nat → Value} {T : Nat → List Nat} {L : Nat → List (Int × Int)} {I : Nat → Int} (h : QB W wr n p eb ib R T L I) (hx : Ext wr w') : QB W w' n p eb ib R T L I :=
  ⟨h.ext.trans' hx, h.hp, h.he, h.hi, row_ext h.box hx, row_ext h.ends hx, row_ext h.ins hx, fun v hv => (h.rows v hv).ext hx, h.apart, h.ge⟩
theorem QB.setE {W wr wb : World} {n p eb ib c : Nat} {R : Nat → Value} {T : Nat → List Nat} {L : Nat → List (Int × Int)} {I : Nat → Int} {v' : Value} {r : List (Int × Int)} {bs : List Nat} (h : QB W wr n p eb ib R T L I)
    (hx : Ext wr wb) (ho : OwnE wb v' r bs) (hf : ∀ b ∈ bs, wr.heap.size ≤ b) :
    QB W (wb.setCell ⟨eb, c, none⟩ v') n p eb ib (put1 R c v') (fun i => if i = c then bs else T i) (fun i => if i = c then r else L i) I := by
  have g := h.mono hx
  have s := h.ext.size
  refine ⟨g.ext.store h.he _, h.hp, h.he, h.hi, row_farQ g.box g.ends (by decide), (g.ends.set c _).congr fun i hi => by unfold put1; rfl, row_farQ g.ins g.ends (by decide), fun i hi => ?_, fun i j hi hj hij => ?_, fun i hi => ?_⟩
  · unfold put1
    by_cases e : i = c
    · simp only [if_pos e]; exact ownE_farQ ho g.ends (by decide)
    · simp only [if_neg e]; exact ownE_farQ (g.rows i hi) g.ends (by decide)
  · by_cases e : i = c
    · by_cases e2 : j = c
      · exact absurd (e.trans e2.symm) hij
      · simp only [if_pos e, if_neg e2]
        intro b hb hb'
        have := (h.rows j hj).1.lt b hb'
        have := hf b hb
        omega
    · by_cases e2 : j = c
      · simp only [if_neg e, if_pos e2]
        intro b hb hb'
        have := (h.rows i hi).1.lt b hb
        have := hf b hb'
        omega
      · simp only [if_neg e, if_neg e2]
        exact h.apart i j hi hj hij
  · by_cases e : i = c
    · simp only [if_pos e]
      intro b hb
      have := hf b hb
      omega
    · simp only [if_neg e]
      exact h.ge i hi
theorem QB.setI {W wr : World} {n p eb ib c : Nat} {R : Nat → Value} {T : Nat → List Nat} {L : Nat → List (Int × Int)} {I : Nat → Int} {x : Int} (h : QB W wr n p eb ib R T L I) :
    QB W (wr.setCell ⟨ib, c, none⟩ (.int .i64 x)) n p eb ib R T L (fun i => if i = c then x else I i) :=
  ⟨h.ext.store h.hi _, h.hp, h.he, h.hi, row_farQ h.box h.ins (by decide), row_farQ h.ends h.ins (by decide), (h.ins.set c _).congr fun i _ => by by_cases e : i = c <;> simp [e], fun v hv => ownE_farQ (h.rows v hv) h.ins (by decide), h.apart, h.ge⟩
theorem QB.done {W wr : World} {n p eb ib : Nat} {R : Nat → Value} {T : Nat → List Nat} {L : Nat → List (Int × Int)} {I : Nat → Int} (h : QB W wr n p eb ib R T L I) (hn : n ≤ 1048576) (hr : ∀ i, i < n → inI64 (I i)) :
    ∃ bs, OwnNet wr (.agg #[.slice (some ⟨eb, 0, none⟩) n n, .slice none 0 0, .slice (some ⟨ib, 0, none⟩) n n]) ⟨(List.range n).map L, [], (List.range n).map I⟩ bs ∧ Fresh W bs := by
  have hgr : ∀ i, i < n → gr ((List.range n).map L) i = L i := fun i hi => by simp [gr, hi]
  have hgi : ∀ i, i < n → gi ((List.range n).map I) i = I i := fun i hi => by simp [gi, hi]
  have o0 : OwnSS wr (.slice (some ⟨eb, 0, none⟩) n n) ((List.range n).map L) ([eb] ++ (List.range n).flatMap T) :=
    ⟨R, [eb], T, by rw [List.length_map, List.length_range]; exact ⟨n, by simp, small_max hn, .inr ⟨eb, n, _, rfl, by simp, by simp, h.ends, fun i hi => rfl⟩⟩, fun i hi => by rw [List.length_map, List.length_range] at hi; rw [hgr i hi]; exact h.rows i hi, by simp⟩
  have o2 : OwnI wr (.slice (some ⟨ib, 0, none⟩) n n) ((List.range n).map I) [ib] := by
    refine ⟨⟨n, by simp, small_max hn, .inr ⟨ib, n, _, rfl, by simp, by simp, h.ins, fun i hi => ?_⟩⟩, fun i hi => ?_⟩
    · show _ = Value.int .i64 (gi ((List.range n).map I) i)
      rw [hgi i (by simpa using hi)]
    · rw [List.length_map, List.length_range] at hi
      rw [hgi i hi]; exact hr i hi
  have n0 : ([eb] ++ (List.range n).flatMap T).Nodup := by
    refine List.nodup_append.2 ⟨by simp, nodup_of_rowsQ n (fun i hi => (h.rows i hi).1.nodup) h.apart, fun a ha b hb e => ?_⟩
    subst e
    obtain rfl := List.mem_singleton.1 ha
    obtain ⟨i, hi, hb⟩ := List.mem_flatMap.1 hb
    obtain ⟨cur, hc⟩ := (h.rows i (List.mem_range.1 hi)).1.typed _ hb
    obtain ⟨cur', hc'⟩ := rowIs.blk h.ends
    rw [hc] at hc'
    cases hc'
  have g0 : ∀ b ∈ [eb] ++ (List.range n).flatMap T, W.heap.size ≤ b := by
    intro b hb
    rcases List.mem_append.1 hb with hb | hb
    · obtain rfl := List.mem_singleton.1 hb; exact h.he
    · obtain ⟨i, hi, hb⟩ := List.mem_flatMap.1 hb
      exact h.ge i (List.mem_range.1 hi) b hb
  obtain ⟨a, b⟩ := net_of_parts (W := W) (N := ⟨(List.range n).map L, [], (List.range n).map I⟩) o0 (own_nilI wr) o2 n0 (by simp) g0 (by simp; exact h.hi)
  exact ⟨_, a, b⟩

theorem row_nilsQ {w : World} {eb n : Nat} (h : w.heap[eb]? = some (.cells (madeCells #[.slice none 0 0] n) 74)) : w.rowIs eb 74 n (fun _ => .slice none 0 0) := ⟨_, h, size_madeCells _ _, fun i hi => by simp [madeCells, hi, Nat.mod_one]⟩
theorem row_zerosQ {w : World} {eb n : Nat} (h : w.heap[eb]? = some (.cells (madeCells #[.int .i64 0] n) 3)) : w.rowIs eb 3 n (fun _ => .int .i64 0) := ⟨_, h, size_madeCells _ _, fun i hi => by simp [madeCells, hi, Nat.mod_one]⟩
theorem two_madeQ (w : World) (o1 o2 : Obj) : ((w.alloc o1).alloc o2).heap[w.heap.size]? = some o1 ∧ ((w.alloc o1).alloc o2).heap[w.heap.size + 1]? = some o2 := by
  have hs : ∀ (z : World) (o : Obj), (z.alloc o).heap.size = z.heap.size + 1 := fun z o => World.size_alloc _ _
  have h1 : (w.alloc o1).heap[w.heap.size]? = some o1 := Go.Deep.blk_alloc_new _ _
  have h2 : ((w.alloc o1).alloc o2).heap[w.heap.size + 1]? = some o2 := by have := Go.Deep.blk_alloc_new (w.alloc o1) o2; rwa [hs] at this
  exact ⟨by rw [((Ext.rfl' (w.alloc o1)).alloc' o2).block _ (by rw [hs]; omega)]; exact h1, h2⟩
/-- What neEmpty answers. -/
def EmpQ (w w' : World) (n : Nat) (e : Value) : Prop := ∃ eb ib, e = .agg #[.slice (some ⟨eb, 0, none⟩) n n, .slice none 0 0, .slice (some ⟨ib, 0, none⟩) n n] ∧ Ext w w' ∧ w'.rowIs eb 74 n (fun _ => .slice none 0 0) ∧ w'.rowIs ib 3 n (fun _ => .int .i64 0) ∧ w.heap.size ≤ eb ∧ w.heap.size ≤ ib
theorem empQ_one (w : World) (bx : Obj) (n : Nat) : EmpQ w (((w.alloc bx).alloc (.cells (madeCells #[.slice none 0 0] n) 74)).alloc (.cells (madeCells #[.int .i64 0] n) 3)).drew n (.agg #[.slice (some ⟨w.heap.size + 1, 0, none⟩) n n, .slice none 0 0, .slice (some ⟨w.heap.size + 1 + 1, 0, none⟩) n n]) := by
  have h := two_madeQ (w.alloc bx) (.cells (madeCells #[.slice none 0 0] n) 74) (.cells (madeCells #[.int .i64 0] n) 3)
  rw [World.size_alloc] at h
  exact ⟨_, _, rfl, ((((Ext.rfl' w).alloc' _).alloc' _).alloc' _).drew', row_nilsQ h.1, row_zerosQ h.2, by omega, by omega⟩
theorem empQ_two (w : World) (bx : Obj) (n : Nat) : EmpQ w (((w.alloc bx).alloc (.cells (madeCells #[.int .i64 0] n) 3)).alloc (.cells (madeCells #[.slice none 0 0] n) 74)).drew n (.agg #[.slice (some ⟨w.heap.size + 1 + 1, 0, none⟩) n n, .slice none 0 0, .slice (some ⟨w.heap.size + 1, 0, none⟩) n n]) := by
  have h := two_madeQ (w.alloc bx) (.cells (madeCells #[.int .i64 0] n) 3) (.cells (madeCells #[.slice none 0 0] n) 74)
  rw [World.size_alloc] at h
  exact ⟨_, _, rfl, ((((Ext.rfl' w).alloc' _).alloc' _).alloc' _).drew', row_nilsQ h.2, row_zerosQ h.1, by omega, by omega⟩

set_option maxHeartbeats 1600000 in
set_option maxRecDepth 100000 in
theorem neEmptyQ_any {w : World} (n : Nat) (hn : n ≤ 1048576) :
    Calls Try.prog 107 #[.int .i64 n] w fun e w' => ∃ v', e = .returned v' ∧ EmpQ w w' n v' := by
  have hmk := run_make_row' (P := Try.prog) 27 74 (.slice none 0 0) 24 Try.underlying27 info27 rfl .i64 .i64 n (by omega) (by omega)
  have hmj := run_make_row' (P := Try.prog) 23 3 (.int .i64 0) 8 Try.underlying23 Try.info3 rfl .i64 .i64 n (by omega) (by omega)
  go_enter Try.func107, Try.ntmps107
  go_wp2_with fail
  go_region
  · go_wp2
    refine bodyPost_ret (v := .agg #[.slice (some ⟨w.heap.size + 1, 0, none⟩) n n, .slice none 0 0, .slice (some ⟨w.heap.size + 1 + 1, 0, none⟩) n n]) (by simp [results, Try.results107, go_sem]) rfl ⟨_, rfl, empQ_one w _ n⟩
  · go_wp2
    refine bodyPost_ret (v := .agg #[.slice (some ⟨w.heap.size + 1 + 1, 0, none⟩) n n, .slice none 0 0, .slice (some ⟨w.heap.size + 1, 0, none⟩) n n]) (by simp [results, Try.results107, go_sem]) rfl ⟨_, rfl, empQ_two w _ n⟩

theorem downI_range {N : Net} (g : ∀ v, v < N.ends.length → 0 ≤ gi N.inputs v ∧ gi N.inputs v ≤ 9) (h0 : 0 < N.ends.length) {cl : List Int} : ∀ j i, 0 ≤ inpDown N cl j i ∧ inpDown N cl j i ≤ 9
  | 0, i => by simp [inpDown]
  | j + 1, i => by
    simp only [inpDown]
    split
    · exact g _ (by omega)
    · exact downI_range g h0 j i
/-- The first k ends of a row. -/
def eTo (l : List (Int × Int)) (k : Nat) : List (Int × Int) := (List.range k).map fun j => (gn l j, gp l j)
theorem eTo_len (l : List (Int × Int)) (k : Nat) : (eTo l k).length = k := by simp [eTo]
theorem eTo_succ (l : List (Int × Int)) (k : Nat) : eTo l (k + 1) = eTo l k ++ [(gn l k, gp l k)] := by simp [eTo, List.range_succ]
theorem eTo_all (l : List (Int × Int)) : eTo l l.length = l := ends_eq (by simp [eTo]) fun i hi => by
  rw [eTo_len] at hi
  simp [eTo, gn, gp, hi]
theorem endCells_snocQ (l : List (Int × Int)) (p : Int × Int) : endCells (l ++ [p]) = endCells l ++ [.int .i64 p.1, .int .i64 p.2] := by
  have h := ends_snocS (l ++ [p]) l.length (by simp)
  rw [List.take_left, List.take_of_length_le (by simp)] at h
  rw [← h]
  simp [gn, gp]
def RowQ (B : Nat) (w : World) (v : Value) (n : Nat) (l : List (Int × Int)) : Prop := w.ownsRow B 76 2 v n (endCells l)

set_option maxHeartbeats 6400000 in
set_option maxRecDepth 100000 in
theorem specQuot_any {w : World} {v vl : Value} {N : Net} {cl : List Int} {c : Nat} (h : NetAt w v N) (hf : IntSl w vl cl) (hg : Good N) (hl : cl.length = N.ends.length) (hin : ImIn cl c) (hc : c ≤ 1048576) :
    Calls Try.prog 94 #[v, vl, .int .i64 c] w fun e w' => ∃ v' bs, e = .returned v' ∧ Ext w w' ∧ OwnNet w' v' (downNet N cl c) bs ∧ Fresh w bs := by
  have HN := Lib.hid h
  have HF := Lib.hid hf
  obtain ⟨w0, v1, w2, rfl, hE, -, hP⟩ := h
  obtain ⟨ea, eb0, eo, ec, rfl, hea, hel, hem, hec⟩ := hE
  obtain ⟨pa, pb, po, pc, rfl, hpa, hpl, hpm, hpc⟩ := hP
  obtain ⟨la, lb, lo, lc, rfl, hla, hll, hlm, hlc⟩ := hf
  unfold maxLen at hem hpm hlm
  have HX := Lib.hid (boxed2_ext w (.slice ea N.ends.length ec) v1 (.slice pa N.inputs.length pc))
  have HR := Lib.hid (boxed2_row w (.slice ea N.ends.length ec) v1 (.slice pa N.inputs.length pc))
  have HQ := Lib.hid (boxed2_res w (.slice ea N.ends.length ec) v1 (.slice pa N.inputs.length pc))
  have h40 := hg.1.2
  have h01 := hg.1.1
  have GW := Lib.hid (good_w hg)
  have HIL := Lib.hid (good_w hg).ilen
  have HL := Lib.hid hl
  have HIN := Lib.hid hin
  have hpp : 0 < N.inputs.length := by have := HIL.out; omega
  obtain rfl := hea (by omega)
  obtain rfl := hpa hpp
  obtain rfl := hla (by omega)
  have HEC := Lib.hid hec
  have HPC := Lib.hid hpc
  have HLC := Lib.hid hlc
  obtain ⟨i1, hi, hz0, hz1, hz2⟩ := info_parts Try.info44
  have I1 := Lib.hid (And.intro hi (And.intro hz0 (And.intro hz1 hz2)))
  clear hi hz0 hz1 hz2 hea hpa hla hec hpc hlc hpp hg hl hin
  go_enter Try.func94, Try.ntmps94
  go_wp2_with fail
  (with_reducible refine (neEmptyQ_any c hc).mono ?_)
  rintro e w1 ⟨z, rfl, hz⟩
  obtain ⟨eb, ib, rfl, hx1, hr1, hr2, hb1, hb2⟩ := hz
  obtain ⟨W0, EW, RN, RQ, hx1, hb1, hb2⟩ : ∃ W0 : World, Hid (Ext w W0) ∧ Hid (W0.rowIs w.heap.size 29 3 (tri (.slice (some ⟨eb0, eo, none⟩) N.ends.length ec) v1 (.slice (some ⟨pb, po, none⟩) N.inputs.length pc))) ∧ Hid (W0.rowIs (w.heap.size + 1) 29 3 (tri (.slice none 0 0) (.slice none 0 0) (.slice none 0 0))) ∧ Ext W0 w1 ∧ W0.heap.size ≤ eb ∧ W0.heap.size ≤ ib := ⟨_, HX, HR, HQ, hx1, hb1, hb2⟩
  have hQ0 : QB W0 (w1.alloc (.cells #[.slice (some ⟨eb, 0, none⟩) c c, .slice none 0 0, .slice (some ⟨ib, 0, none⟩) c c] 29)) c w1.heap.size eb ib (fun _ => .slice none 0 0) (fun _ => []) (rowsDown N cl (N.ends.length - N.ends.length)) (inpDown N cl (N.ends.length - N.ends.length)) := by
    rw [Nat.sub_self]
    exact ⟨hx1.alloc' _, hx1.size, hb1, hb2, row3_made w1 _ _ _ _, row_ext hr1 ((Ext.rfl' _).alloc' _), row_ext hr2 ((Ext.rfl' _).alloc' _), fun i _ => ⟨⟨0, Nat.le_refl _, by unfold maxLen; omega, .inl ⟨rfl, rfl, none, ⟨rfl, rfl⟩, rfl⟩⟩, fun j hj => absurd hj (by simp [rowsDown])⟩, fun i j _ _ _ b hb => absurd hb (by simp), fun i _ b hb => absurd hb (by simp)⟩
  obtain ⟨p, hp⟩ : ∃ p, p = w1.heap.size := ⟨_, rfl⟩
  obtain ⟨W2, hW2⟩ : ∃ W2, W2 = w1.alloc (.cells #[.slice (some ⟨eb, 0, none⟩) c c, .slice none 0 0, .slice (some ⟨ib, 0, none⟩) c c] 29) := ⟨_, rfl⟩
  have Q0 := Lib.hid hQ0
  rw [← hW2, ← hp] at Q0
  obtain ⟨p0, p1, p2, -, -, -⟩ := row3_facts (row_ext RN.out Q0.out.ext)
  rw [hW2] at p0 p1 p2
  go_wp2_with fail
  rw [← hW2, ← hp]
  clear hW2 hp hQ0 p0 p1 p2 hr1 hr2 hb1 hb2 hx1 HX HR HQ
  go_loopg [8] N.ends.length (fun g i wr => ∃ m : Nat, m ≤ N.ends.length ∧ m = g ∧ i = .int .i64 ((m : Int) - 1) ∧ Hid (∃ R T, QB W0 wr c p eb ib R T (rowsDown N cl (N.ends.length - m)) (inpDown N cl (N.ends.length - m))))
  case atStart => exact ⟨N.ends.length, Nat.le_refl _, rfl, rfl, _, _, Q0.out⟩
  case round =>
    obtain ⟨m, hm, rfl, rfl, Hr⟩ := hrel
    obtain ⟨WR, hWR⟩ : ∃ WR : World, WR = wr := ⟨_, rfl⟩
    subst hWR
    obtain ⟨R, T, hq⟩ := Hr.out
    have S := Lib.hid hq
    have KR := Lib.hid (EW.out.trans' hq.ext)
    clear hq Hr
    rcases Nat.eq_zero_or_pos m with hm0 | hm0
    · subst hm0
      rw [Nat.sub_zero] at S
      obtain ⟨bs, ho, hfr⟩ := S.out.done hc (fun i hi => by
        have := downI_range (cl := cl) GW.out.irange (by omega) N.ends.length i
        unfold inI64; omega)
      obtain ⟨s0, s1, s2, -, -, -⟩ := row3_facts S.out.box
      have Q8 := Lib.hid (row_ext RQ.out S.out.ext)
      obtain ⟨q0, q1, q2, t0, t1, t2⟩ := row3_facts Q8.out
      have hQl := RQ.out.lt
      go_wp2
      obtain ⟨c0, c1, c2⟩ := close_net KR.out ho hfr.1 (fun x hx => by have := hfr.2 x hx; omega)
      refine bodyPost_ret (v := .agg #[.slice (some ⟨eb, 0, none⟩) c c, .slice none 0 0, .slice (some ⟨ib, 0, none⟩) c c]) (by simp [results, Try.results94, go_sem, q0, q1, q2]) rfl ⟨_, bs, rfl, c0, c1, c2⟩
    · obtain ⟨v, rfl⟩ : ∃ v, m = v + 1 := ⟨m - 1, by omega⟩
      rw [show ((v + 1 : Nat) : Int) - 1 = (v : Int) by omega]
      clear hm0
      have hv : v < N.ends.length := by omega
      have hvl : v < cl.length := by have := HL.out; omega
      have hvi : v < N.inputs.length := by have := HIL.out; omega
      obtain ⟨_, hra, hrow⟩ := HEC.out v hv
      obtain ⟨aa, ab, ao, ac, rfl, haa, hal, ham, hac⟩ := hrow
      obtain ⟨_, hpi, rfl, hpr⟩ := HPC.out v hvi
      obtain ⟨_, hci, rfl, -⟩ := HLC.out v hvl
      obtain ⟨hz0, hz1⟩ := HIN.out v hvl
      obtain ⟨z, hz⟩ := Int.eq_ofNat_of_zero_le hz0
      rw [hz] at hci hz1
      have hzc : z < c := by omega
      unfold maxLen at ham
      have h6 := GW.out.deg v hv
      obtain ⟨xi, hxi⟩ : ∃ x, gi N.inputs v = x := ⟨_, rfl⟩
      rw [hxi] at hpi
      obtain ⟨ds1, ds2⟩ := down_step hv hz
      rw [hxi] at ds2
      have DS1 := Lib.hid ds1
      have DS2 := Lib.hid ds2
      obtain ⟨row, hrw⟩ : ∃ r, r = gr N.ends v := ⟨_, rfl⟩
      have HNI := Lib.hid (show ∀ k, k < row.length → 0 ≤ gn row k ∧ gn row k < (cl.length : Int) by
        rw [hrw]
        intro k hk
        have := GW.out.leads.node v hv k hk
        have := HL.out
        omega)
      have HRG := Lib.hid (show ∀ k, k < row.length → inI64 (gp row k) by
        rw [hrw]
        intro k hk
        exact (hac k hk).2.2.2)
      rw [← hrw] at hra haa hal hac h6 ds1
      have DS1 := Lib.hid ds1
      obtain ⟨L, hL⟩ : ∃ L, L = under cl row := ⟨_, rfl⟩
      have HU : ∀ k, k < row.length → gn L k = gi cl (gn row k).toNat ∧ gp L k = gp row k := fun k hk => by rw [hL]; exact under_at cl row k hk
      have HLL : L.length = row.length := by rw [hL]; exact length_under _ _
      rw [← hL] at ds1
      have DS1 := Lib.hid ds1
      have HU := Lib.hid HU
      have HLL := Lib.hid HLL
      have HAC := Lib.hid hac
      have HAA := Lib.hid haa
      have HRA := Lib.hid hra
      have HPI := Lib.hid hpi
      have HCI := Lib.hid hci
      clear hpi hpr hci hz hz0 hz1 hxi hL hac hra haa ds1 ds2 hrw
      obtain ⟨p0, p1, p2, -, -, -⟩ := row3_facts (row_ext RN.out S.out.ext)
      have d1 := KR.out.cell' HRA.out
      go_wp2_with fail
      clear p0 p1 p2 d1
      go_loopg [9, 28] row.length (fun g s i wi => ∃ (k : Nat) (sa : Option Addr) (sc : Nat), k ≤ row.length ∧ g = row.length - k ∧ s = .slice sa k sc ∧ i = .int .i64 k ∧ Hid (Ext WR wi ∧ RowQ WR.heap.size wi (.slice sa k sc) k (eTo L k)))
      case atStart => exact ⟨0, none, 0, Nat.zero_le _, rfl, rfl, rfl, Ext.rfl' WR, World.ownsRow_nil _ _ _ _⟩
      case round =>
        obtain ⟨wi, hwi⟩ : ∃ wi : World, wi = wr := ⟨_, rfl⟩
        subst hwi
        obtain ⟨k, sa, sc, hk, rfl, rfl, rfl, Hi⟩ := hrel
        have XI := Lib.hid Hi.out.1
        have KI := Lib.hid (KR.out.trans' Hi.out.1)
        by_cases hlt : k < row.length
        · obtain rfl := HAA.out (by omega)
          obtain ⟨e1, e2, -⟩ := HAC.out k hlt
          obtain ⟨hn0, hn1⟩ := HNI.out k hlt
          obtain ⟨u1, u2⟩ := HU.out k hlt
          obtain ⟨x, hx⟩ := Int.eq_ofNat_of_zero_le hn0
          obtain ⟨y, hy⟩ : ∃ y, y = gp row k := ⟨_, rfl⟩
          rw [hx] at e1 hn1 u1
          rw [← hy] at e2 u2
          rw [Int.toNat_natCast] at u1
          have hxl : x < cl.length := by omega
          obtain ⟨_, hcx, rfl, -⟩ := HLC.out x hxl
          obtain ⟨q, hq⟩ : ∃ q, q = gi cl x := ⟨_, rfl⟩
          rw [← hq] at hcx u1
          have U := Lib.hid (And.intro u1 u2)
          have d1 := KI.out.cell' e1
          have d2 := KI.out.cell' e2
          have HCX := Lib.hid hcx
          have ROW := Lib.hid Hi.out.2
          clear hcx u1 u2 hq hx hy hn0 hn1 e1 e2 Hi
          obtain ⟨W4, hW4⟩ : ∃ W4, W4 = wi.alloc (.cells #[.int .i64 (x : Int), .int .i64 y] 76) := ⟨_, rfl⟩
          have X4 := Lib.hid (show Ext wi W4 by rw [hW4]; exact (Ext.rfl' wi).alloc' _)
          have f0 : W4.cell? ⟨wi.heap.size, 0, none⟩ = some (.int .i64 (x : Int)) := by rw [hW4]; simp [go_sem]
          have f1 : W4.cell? ⟨wi.heap.size, 1, none⟩ = some (.int .i64 y) := by rw [hW4]; simp [go_sem]
          have mkS : ∀ w' : World, Ext W4 w' → w'.cell? ⟨wi.heap.size, 0, none⟩ = some (.int .i64 (x : Int)) ∧ w'.cell? ⟨wi.heap.size, 1, none⟩ = some (.int .i64 y) ∧ w'.cell? ⟨lb, lo + x, none⟩ = some (.int .i64 q) :=
            fun w' hw => ⟨hw.cell' f0, hw.cell' f1, hw.cell' ((KI.out.trans' X4.out).cell' HCX.out)⟩
          have SZ := Lib.hid (XI.out.trans' X4.out).size
          have F0 := Lib.hid (show (W4.cell? ⟨wi.heap.size, 0, none⟩ = some (.int .i64 (x : Int)) ∧ W4.cell? ⟨wi.heap.size, 1, none⟩ = some (.int .i64 y)) ∧ wi.heap.size < W4.heap.size from ⟨⟨f0, f1⟩, by rw [hW4]; simp⟩)
          go_wp2_with fail
          rw [← hW4]
          clear hW4 d1 d2 f0 f1
          refine wp_region_gate (n := 11) (S := fun w' => w'.cell? ⟨wi.heap.size, 0, none⟩ = some (.int .i64 (x : Int)) ∧ w'.cell? ⟨wi.heap.size, 1, none⟩ = some (.int .i64 y) ∧ w'.cell? ⟨lb, lo + x, none⟩ = some (.int .i64 q)) (by kernel_rfl) (mkS _ (Ext.rfl' W4).drew') (fun hHeld => ?_)
          refine wpAnyG_take (i := 0) (v := ?_) rfl (by decide +kernel) (by kernel_rfl) (by decide) (by kernel_rfl) (by kernel_rfl) (fun _ _ _ h => h) (Or.inl ⟨by rfl, ?_⟩) hHeld ?_
          rotate_left 1
          · (intro w' hSw; (try dsimp only at hSw); go_simp) <;> with_reducible rfl
          simp only [Act.put]
          refine wpAnyG_take (i := 1) (v := ?_) rfl (by decide +kernel) (by kernel_rfl) (by decide) (by kernel_rfl) (by kernel_rfl) (fun _ _ _ h => h) (Or.inl ⟨by rfl, ?_⟩) hHeld ?_
          rotate_left 1
          · (intro w' hSw; (try dsimp only at hSw); go_simp) <;> with_reducible rfl
          simp only [Act.put]
          refine wpAnyG_take (i := 2) (v := ?_) rfl (by decide +kernel) (by kernel_rfl) (by decide) (by kernel_rfl) (by kernel_rfl) (fun _ _ _ h => h) (Or.inl ⟨by rfl, ?_⟩) hHeld ?_
          rotate_left 1
          · (intro w' hSw; (try dsimp only at hSw); go_simp) <;> with_reducible rfl
          simp only [Act.put]
          refine wpAnyG_take (i := 3) (v := ?_) rfl (by decide +kernel) (by kernel_rfl) (by decide) (by kernel_rfl) (by kernel_rfl) (fun _ _ _ h => h) (Or.inl ⟨by rfl, ?_⟩) hHeld ?_
          rotate_left 1
          · (intro w' hSw; (try dsimp only at hSw); go_simp) <;> with_reducible rfl
          simp only [Act.put]
          refine wpAnyG_take (i := 4) (v := ?_) rfl (by decide +kernel) (by kernel_rfl) (by decide) (by kernel_rfl) (by kernel_rfl) (fun _ _ _ h => h) (Or.inl ⟨by rfl, ?_⟩) hHeld ?_
          rotate_left 1
          · (intro w' hSw; (try dsimp only at hSw); go_simp) <;> with_reducible rfl
          simp only [Act.put]
          refine wpAnyG_take (i := 5) (v := ?_) rfl (by decide +kernel) (by kernel_rfl) (by decide) (by kernel_rfl) (by kernel_rfl) (fun _ _ _ h => h) (Or.inl ⟨by rfl, ?_⟩) hHeld ?_
          rotate_left 1
          · (intro w' hSw; (try dsimp only at hSw); go_simp) <;> with_reducible rfl
          simp only [Act.put]
          refine wpAnyG_take (i := 6) (v := ?_) rfl (by decide +kernel) (by kernel_rfl) (by decide) (by kernel_rfl) (by kernel_rfl) (fun _ _ _ h => h) (Or.inl ⟨by rfl, ?_⟩) hHeld ?_
          rotate_left 1
          · (intro w' hSw; (try dsimp only at hSw); go_simp) <;> with_reducible rfl
          simp only [Act.put]
          refine wpAnyG_take (i := 7) (v := ?_) rfl (by decide +kernel) (by kernel_rfl) (by decide) (by kernel_rfl) (by kernel_rfl) (fun _ _ _ h => h) (Or.inl ⟨by rfl, ?_⟩) hHeld ?_
          rotate_left 1
          · (intro w' hSw; (try dsimp only at hSw); go_simp) <;> with_reducible rfl
          simp only [Act.put]
          refine wpAnyG_take (i := 8) (v := ?_) rfl (by decide +kernel) (by kernel_rfl) (by decide) (by kernel_rfl) (by kernel_rfl) (fun _ _ _ h => h) (Or.inl ⟨by rfl, ?_⟩) hHeld ?_
          rotate_left 1
          · (intro w' hSw; (try dsimp only at hSw); go_simp) <;> with_reducible rfl
          simp only [Act.put]
          refine wpAnyG_one (i := 9) rfl (by kernel_rfl) rfl (fun K hK => ?_)
          go_simp
          clear hHeld
          refine hK.out _ _ (fun _ => mkS _ (by first | exact (Ext.rfl' W4).drew'.alloc' _ | exact ((Ext.rfl' W4).alloc' _).drew')) (fun _ => ?_)
          clear hK K
          refine wpAnyG_one (i := 10) rfl (by kernel_rfl) rfl (fun K hK => ?_)
          have XA := Lib.hid (show Ext W4 (W4.alloc (.cells #[.int .i64 q, .int .i64 y] 76)).drew from ((Ext.rfl' W4).alloc' _).drew')
          have RWX := Lib.hid (owns_ext ROW.out (X4.out.trans' XA.out))
          refine wp_app2 (.tmp 32) (.tmp 41) 74 rfl WR.heap.size 76 i1 (.agg #[.int .i64 0, .int .i64 0]) 2 16 Try.underlying74 I1.out.1 I1.out.2.1 I1.out.2.2.1 I1.out.2.2.2 rfl (by decide) (.slice sa k sc) k (endCells (eTo L k)) rfl RWX.out (some ⟨W4.heap.size, 0, none⟩) 1 1 [.int .i64 q, .int .i64 y] rfl (by first | exact src_twoS W4.drew _ _ _ rfl rfl | exact src_twoS W4 _ _ _ rfl rfl | exact srcDrew (src_twoS W4 _ _ _ rfl rfl)) (by unfold maxLen; omega) (by omega) (by have := SZ.out; have := XA.out.size; simp at this ⊢; omega) ?_
          intro v' w5 hg
          have Z5 := Lib.hid (show Ext WR w5 from grown_ext (XI.out.trans' (X4.out.trans' XA.out)) (Nat.le_refl _) RWX.out hg.1.2.1)
          obtain ⟨ya, yc, rfl⟩ := owns_slice hg.1.1
          have R5 := Lib.hid (show RowQ WR.heap.size w5 (.slice ya (k + 1) yc) (k + 1) (eTo L (k + 1)) by
            unfold RowQ
            rw [eTo_succ, endCells_snocQ, U.out.1, U.out.2]
            exact hg.1.1)
          have hkeep : w5.heap[wi.heap.size]? = (W4.alloc (.cells #[.int .i64 q, .int .i64 y] 76)).drew.heap[wi.heap.size]? := hg.1.2.1.block _ (by have := F0.out.2; have := XA.out.size; omega) (fun e => by have := (World.ownsRow.lt ROW.out _ e.symm).2; omega)
          clear hg
          refine hK.out _ _ (fun _ => ⟨by rw [World.cell?_of_block hkeep]; exact XA.out.cell' F0.out.1.1, by rw [World.cell?_of_block hkeep]; exact XA.out.cell' F0.out.1.2, (KR.out.trans' Z5.out).cell' HCX.out⟩) (fun _ => ?_)
          clear hK K hkeep
          refine wpAnyG_one (i := 11) rfl (by kernel_rfl) rfl (fun K hK => ?_)
          go_simp
          refine hK.out _ _ (fun h => absurd rfl h) (fun _ => ?_)
          clear hK K
          refine wpAnyG_done (by kernel_rfl) ?_ _
          clear mkS
          go_wp2
          go_roundg (row.length - (k + 1))
          case measure => omega
          case rel => exact ⟨k + 1, ya, yc, by omega, rfl, rfl, by go_num, Z5.out, R5.out⟩
        · obtain rfl : k = row.length := by omega
          have hrow := Hi.out.2
          rw [show eTo L row.length = L by rw [← HLL.out]; exact eTo_all L] at hrow
          obtain ⟨bs, hob, hbn, hbg⟩ := end_own_of_row (l := L) (by rw [HLL.out]; exact hrow) (fun i hi => endCells_get L i hi) (fun i hi => by
            rw [HLL.out] at hi
            rw [(HU.out i hi).1, (HU.out i hi).2]
            obtain ⟨g1, g2⟩ := HNI.out i hi
            have g3 := HIN.out (gn row i).toNat (by omega)
            exact ⟨by unfold inI64; omega, HRG.out i hi⟩)
          clear Hi hrow
          have SI := Lib.hid (S.out.mono XI.out)
          have QE := Lib.hid (S.out.setE (c := z) XI.out hob hbg)
          rw [← DS1.out] at QE
          clear hob hbn hbg
          obtain ⟨s0, -, s2, -, -, -⟩ := row3_facts SI.out.box
          have mkS : ∀ w' : World, Ext wi w' → w'.cell? ⟨p, 0, none⟩ = some (.slice (some ⟨eb, 0, none⟩) c c) ∧ w'.cell? ⟨lb, lo + v, none⟩ = some (.int .i64 (z : Int)) := fun w' hw => ⟨hw.cell' s0, hw.cell' (KI.out.cell' HCI.out)⟩
          have z5 := SI.out.ends.cell hzc
          have z6 := SI.out.ends.frozen z
          go_wp2_with fail
          refine wp_region_gate (n := 8) (S := fun w' => w'.cell? ⟨p, 0, none⟩ = some (.slice (some ⟨eb, 0, none⟩) c c) ∧ w'.cell? ⟨lb, lo + v, none⟩ = some (.int .i64 (z : Int))) (by kernel_rfl) (mkS _ (Ext.rfl' wi).drew') (fun hHeld => ?_)
          refine wpAnyG_take (i := 0) (v := ?_) rfl (by decide +kernel) (by kernel_rfl) (by decide) (by kernel_rfl) (by kernel_rfl) (fun _ _ _ h => h) (Or.inl ⟨by rfl, ?_⟩) hHeld ?_
          rotate_left 1
          · (intro w' hSw; (try dsimp only at hSw); go_simp) <;> with_reducible rfl
          simp only [Act.put]
          refine wpAnyG_take (i := 1) (v := ?_) rfl (by decide +kernel) (by kernel_rfl) (by decide) (by kernel_rfl) (by kernel_rfl) (fun _ _ _ h => h) (Or.inl ⟨by rfl, ?_⟩) hHeld ?_
          rotate_left 1
          · (intro w' hSw; (try dsimp only at hSw); go_simp) <;> with_reducible rfl
          simp only [Act.put]
          refine wpAnyG_take (i := 2) (v := ?_) rfl (by decide +kernel) (by kernel_rfl) (by decide) (by kernel_rfl) (by kernel_rfl) (fun _ _ _ h => h) (Or.inl ⟨by rfl, ?_⟩) hHeld ?_
          rotate_left 1
          · (intro w' hSw; (try dsimp only at hSw); go_simp) <;> with_reducible rfl
          simp only [Act.put]
          refine wpAnyG_take (i := 3) (v := ?_) rfl (by decide +kernel) (by kernel_rfl) (by decide) (by kernel_rfl) (by kernel_rfl) (fun _ _ _ h => h) (Or.inl ⟨by rfl, ?_⟩) hHeld ?_
          rotate_left 1
          · (intro w' hSw; (try dsimp only at hSw); go_simp) <;> with_reducible rfl
          simp only [Act.put]
          refine wpAnyG_take (i := 4) (v := ?_) rfl (by decide +kernel) (by kernel_rfl) (by decide) (by kernel_rfl) (by kernel_rfl) (fun _ _ _ h => h) (Or.inl ⟨by rfl, ?_⟩) hHeld ?_
          rotate_left 1
          · (intro w' hSw; (try dsimp only at hSw); go_simp) <;> with_reducible rfl
          simp only [Act.put]
          refine wpAnyG_take (i := 5) (v := ?_) rfl (by decide +kernel) (by kernel_rfl) (by decide) (by kernel_rfl) (by kernel_rfl) (fun _ _ _ h => h) (Or.inl ⟨by rfl, ?_⟩) hHeld ?_
          rotate_left 1
          · (intro w' hSw; (try dsimp only at hSw); go_simp) <;> with_reducible rfl
          simp only [Act.put]
          refine wpAnyG_take (i := 6) (v := ?_) rfl (by decide +kernel) (by kernel_rfl) (by decide) (by kernel_rfl) (by kernel_rfl) (fun _ _ _ h => h) (Or.inl ⟨by rfl, ?_⟩) hHeld ?_
          rotate_left 1
          · (intro w' hSw; (try dsimp only at hSw); go_simp) <;> with_reducible rfl
          simp only [Act.put]
          refine wpAnyG_take (i := 7) (v := ?_) rfl (by decide +kernel) (by kernel_rfl) (by decide) (by kernel_rfl) (by kernel_rfl) (fun _ _ _ h => h) (Or.inl ⟨by rfl, ?_⟩) hHeld ?_
          rotate_left 1
          · (intro w' hSw; (try dsimp only at hSw); go_simp) <;> with_reducible rfl
          simp only [Act.put]
          refine wpAnyG_one (i := 8) rfl (by kernel_rfl) rfl (fun K hK => ?_)
          go_simp
          refine hK.out _ _ (fun h => absurd rfl h) (fun _ => ?_)
          clear hK K hHeld
          refine wpAnyG_done (by kernel_rfl) ?_ _
          clear mkS s0 s2
          clear z5 z6
          obtain ⟨W6, hW6⟩ : ∃ W6, W6 = (wi.setCell ⟨eb, z, none⟩ (.slice sa row.length sc)).drew := ⟨_, rfl⟩
          have Q6 := Lib.hid (QE.out.mono (Ext.rfl' _).drew')
          rw [← hW6] at Q6
          have KE := Lib.hid (EW.out.trans' Q6.out.ext)
          obtain ⟨s0, -, s2, -, -, -⟩ := row3_facts Q6.out.box
          obtain ⟨-, -, p2, -, -, -⟩ := row3_facts (row_ext RN.out Q6.out.ext)
          have mkS : ∀ w' : World, Ext W6 w' → w'.cell? ⟨p, 2, none⟩ = some (.slice (some ⟨ib, 0, none⟩) c c) ∧ w'.cell? ⟨lb, lo + v, none⟩ = some (.int .i64 (z : Int)) ∧ w'.cell? ⟨w.heap.size, 2, none⟩ = some (.slice (some ⟨pb, po, none⟩) N.inputs.length pc) ∧ w'.cell? ⟨pb, po + v, none⟩ = some (.int .i64 xi) := fun w' hw => ⟨hw.cell' s2, hw.cell' (KE.out.cell' HCI.out), hw.cell' p2, hw.cell' (KE.out.cell' HPI.out)⟩
          have z5 := Q6.out.ins.cell hzc
          have z6 := Q6.out.ins.frozen z
          rw [← hW6]
          clear hW6
          go_wp2_with fail
          refine wp_region_gate (n := 12) (S := fun w' => w'.cell? ⟨p, 2, none⟩ = some (.slice (some ⟨ib, 0, none⟩) c c) ∧ w'.cell? ⟨lb, lo + v, none⟩ = some (.int .i64 (z : Int)) ∧ w'.cell? ⟨w.heap.size, 2, none⟩ = some (.slice (some ⟨pb, po, none⟩) N.inputs.length pc) ∧ w'.cell? ⟨pb, po + v, none⟩ = some (.int .i64 xi)) (by kernel_rfl) (mkS _ (Ext.rfl' W6).drew') (fun hHeld => ?_)
          refine wpAnyG_take (i := 0) (v := ?_) rfl (by decide +kernel) (by kernel_rfl) (by decide) (by kernel_rfl) (by kernel_rfl) (fun _ _ _ h => h) (Or.inl ⟨by rfl, ?_⟩) hHeld ?_
          rotate_left 1
          · (intro w' hSw; (try dsimp only at hSw); go_simp) <;> with_reducible rfl
          simp only [Act.put]
          refine wpAnyG_take (i := 1) (v := ?_) rfl (by decide +kernel) (by kernel_rfl) (by decide) (by kernel_rfl) (by kernel_rfl) (fun _ _ _ h => h) (Or.inl ⟨by rfl, ?_⟩) hHeld ?_
          rotate_left 1
          · (intro w' hSw; (try dsimp only at hSw); go_simp) <;> with_reducible rfl
          simp only [Act.put]
          refine wpAnyG_take (i := 2) (v := ?_) rfl (by decide +kernel) (by kernel_rfl) (by decide) (by kernel_rfl) (by kernel_rfl) (fun _ _ _ h => h) (Or.inl ⟨by rfl, ?_⟩) hHeld ?_
          rotate_left 1
          · (intro w' hSw; (try dsimp only at hSw); go_simp) <;> with_reducible rfl
          simp only [Act.put]
          refine wpAnyG_take (i := 3) (v := ?_) rfl (by decide +kernel) (by kernel_rfl) (by decide) (by kernel_rfl) (by kernel_rfl) (fun _ _ _ h => h) (Or.inl ⟨by rfl, ?_⟩) hHeld ?_
          rotate_left 1
          · (intro w' hSw; (try dsimp only at hSw); go_simp) <;> with_reducible rfl
          simp only [Act.put]
          refine wpAnyG_take (i := 4) (v := ?_) rfl (by decide +kernel) (by kernel_rfl) (by decide) (by kernel_rfl) (by kernel_rfl) (fun _ _ _ h => h) (Or.inl ⟨by rfl, ?_⟩) hHeld ?_
          rotate_left 1
          · (intro w' hSw; (try dsimp only at hSw); go_simp) <;> with_reducible rfl
          simp only [Act.put]
          refine wpAnyG_take (i := 5) (v := ?_) rfl (by decide +kernel) (by kernel_rfl) (by decide) (by kernel_rfl) (by kernel_rfl) (fun _ _ _ h => h) (Or.inl ⟨by rfl, ?_⟩) hHeld ?_
          rotate_left 1
          · (intro w' hSw; (try dsimp only at hSw); go_simp) <;> with_reducible rfl
          simp only [Act.put]
          refine wpAnyG_take (i := 6) (v := ?_) rfl (by decide +kernel) (by kernel_rfl) (by decide) (by kernel_rfl) (by kernel_rfl) (fun _ _ _ h => h) (Or.inl ⟨by rfl, ?_⟩) hHeld ?_
          rotate_left 1
          · (intro w' hSw; (try dsimp only at hSw); go_simp) <;> with_reducible rfl
          simp only [Act.put]
          refine wpAnyG_take (i := 7) (v := ?_) rfl (by decide +kernel) (by kernel_rfl) (by decide) (by kernel_rfl) (by kernel_rfl) (fun _ _ _ h => h) (Or.inl ⟨by rfl, ?_⟩) hHeld ?_
          rotate_left 1
          · (intro w' hSw; (try dsimp only at hSw); go_simp) <;> with_reducible rfl
          simp only [Act.put]
          refine wpAnyG_take (i := 8) (v := ?_) rfl (by decide +kernel) (by kernel_rfl) (by decide) (by kernel_rfl) (by kernel_rfl) (fun _ _ _ h => h) (Or.inl ⟨by rfl, ?_⟩) hHeld ?_
          rotate_left 1
          · (intro w' hSw; (try dsimp only at hSw); go_simp) <;> with_reducible rfl
          simp only [Act.put]
          refine wpAnyG_take (i := 9) (v := ?_) rfl (by decide +kernel) (by kernel_rfl) (by decide) (by kernel_rfl) (by kernel_rfl) (fun _ _ _ h => h) (Or.inl ⟨by rfl, ?_⟩) hHeld ?_
          rotate_left 1
          · (intro w' hSw; (try dsimp only at hSw); go_simp) <;> with_reducible rfl
          simp only [Act.put]
          refine wpAnyG_take (i := 10) (v := ?_) rfl (by decide +kernel) (by kernel_rfl) (by decide) (by kernel_rfl) (by kernel_rfl) (fun _ _ _ h => h) (Or.inl ⟨by rfl, ?_⟩) hHeld ?_
          rotate_left 1
          · (intro w' hSw; (try dsimp only at hSw); go_simp) <;> with_reducible rfl
          simp only [Act.put]
          refine wpAnyG_take (i := 11) (v := ?_) rfl (by decide +kernel) (by kernel_rfl) (by decide) (by kernel_rfl) (by kernel_rfl) (fun _ _ _ h => h) (Or.inl ⟨by rfl, ?_⟩) hHeld ?_
          rotate_left 1
          · (intro w' hSw; (try dsimp only at hSw); go_simp) <;> with_reducible rfl
          simp only [Act.put]
          refine wpAnyG_one (i := 12) rfl (by kernel_rfl) rfl (fun K hK => ?_)
          go_simp
          refine hK.out _ _ (fun h => absurd rfl h) (fun _ => ?_)
          clear hK K hHeld
          refine wpAnyG_done (by kernel_rfl) ?_ _
          clear mkS s0 s2 p2 z5 z6
          go_wp2
          go_roundg v
          case measure => omega
          case rel =>
            have Q7 := (Q6.out.setI (c := z) (x := xi)).mono (Ext.rfl' _).drew'
            rw [← DS2.out] at Q7
            exact ⟨v, by omega, rfl, by go_num, _, _, Q7⟩

end Go.Proofs.Ytgacbfblpkikkaa
