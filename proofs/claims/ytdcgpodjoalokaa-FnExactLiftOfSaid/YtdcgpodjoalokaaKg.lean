/- Several texts in one: Em, Pu, Set, Hd, Fl, Lk. -/
import Derived.Test.YtdcgpodjoalokaaKd
import Derived.RegionTactic
import Derived.Test.YtdcgpodjoalokaaKf
/- Networks without ports: as plain data, and the contract of neEmpty. No condition but that there are not too many nodes. -/
namespace Go.Proofs.Ytdcgpodjoalokaa
open Go.RowKit

/-- n nodes with d ports each that are joined with port 0 of node 0. -/
def blank (n d : Nat) : Net := ⟨List.replicate n (List.replicate d (0, 0)), [], List.replicate n 0⟩
theorem gr_replicate {α : Type} (n i : Nat) (r : List α) (h : i < n) : gr (List.replicate n r) i = r := by simp [gr, List.getD, h]
theorem gi_replicate (n i : Nat) (x : Int) (h : i < n) : gi (List.replicate n x) i = x := by simp [gi, List.getD, h]

theorem own_rows_nil {w : World} {eb n : Nat} (h : w.rowIs eb 89 n (fun _ => .slice none 0 0)) (hn : n ≤ 1048576) : OwnSS w (.slice (some ⟨eb, 0, none⟩) n n) (List.replicate n []) [eb] := by
  refine ⟨fun _ => .slice none 0 0, [eb], fun _ => [], ⟨n, by simp, small_max hn, .inr ⟨eb, n, _, rfl, by simp, by simp, h, fun i hi => rfl⟩⟩, fun i hi => ?_, by simp⟩
  rw [gr_replicate _ _ _ (by simpa using hi)]
  exact ⟨⟨0, Nat.le_refl _, by unfold maxLen; omega, .inl ⟨rfl, rfl, none, ⟨rfl, rfl⟩, rfl⟩⟩, fun j hj => absurd hj (by simp)⟩
theorem own_zeros {w : World} {ib n : Nat} (h : w.rowIs ib 3 n (fun _ => .int .i64 0)) (hn : n ≤ 1048576) : OwnI w (.slice (some ⟨ib, 0, none⟩) n n) (List.replicate n 0) [ib] := by
  refine ⟨⟨n, by simp, small_max hn, .inr ⟨ib, n, _, rfl, by simp, by simp, h, fun i hi => ?_⟩⟩, fun i hi => ?_⟩
  · show _ = Value.int .i64 (gi (List.replicate n 0) i)
    rw [gi_replicate _ _ _ (by simpa using hi)]
  · rw [gi_replicate _ _ _ (by simpa using hi)]; unfold inI64; omega
theorem own_blank0 {w : World} {eb ib n : Nat} (h1 : w.rowIs eb 89 n (fun _ => .slice none 0 0)) (h2 : w.rowIs ib 3 n (fun _ => .int .i64 0)) (hn : n ≤ 1048576) :
    OwnNet w (.agg #[.slice (some ⟨eb, 0, none⟩) n n, .slice none 0 0, .slice (some ⟨ib, 0, none⟩) n n]) (blank n 0) [eb, ib] :=
  ⟨_, _, _, [eb], [], [ib], rfl, own_rows_nil h1 hn, own_nilI w, own_zeros h2 hn, rfl⟩

theorem two_made (w : World) (o1 o2 : Obj) : ((w.alloc o1).alloc o2).heap[w.heap.size]? = some o1 ∧ ((w.alloc o1).alloc o2).heap[w.heap.size + 1]? = some o2 := by
  have hs : ∀ (z : World) (o : Obj), (z.alloc o).heap.size = z.heap.size + 1 := fun z o => World.size_alloc _ _
  have h1 : (w.alloc o1).heap[w.heap.size]? = some o1 := Go.Deep.blk_alloc_new _ _
  have h2 : ((w.alloc o1).alloc o2).heap[w.heap.size + 1]? = some o2 := by have := Go.Deep.blk_alloc_new (w.alloc o1) o2; rwa [hs] at this
  exact ⟨by rw [((Ext.rfl' (w.alloc o1)).alloc' o2).block _ (by rw [hs]; omega)]; exact h1, h2⟩
theorem row_nils {w : World} {eb n : Nat} (h : w.heap[eb]? = some (.cells (madeCells #[.slice none 0 0] n) 89)) : w.rowIs eb 89 n (fun _ => .slice none 0 0) := ⟨_, h, size_madeCells _ _, fun i hi => by simp [madeCells, hi, Nat.mod_one]⟩
theorem row_zeros {w : World} {eb n : Nat} (h : w.heap[eb]? = some (.cells (madeCells #[.int .i64 0] n) 3)) : w.rowIs eb 3 n (fun _ => .int .i64 0) := ⟨_, h, size_madeCells _ _, fun i hi => by simp [madeCells, hi, Nat.mod_one]⟩

theorem empty_one (w : World) (bx : Obj) (n : Nat) (hn : n ≤ 1048576) : Ext w (((w.alloc bx).alloc (.cells (madeCells #[.slice none 0 0] n) 89)).alloc (.cells (madeCells #[.int .i64 0] n) 3)).drew ∧
    OwnNet (((w.alloc bx).alloc (.cells (madeCells #[.slice none 0 0] n) 89)).alloc (.cells (madeCells #[.int .i64 0] n) 3)).drew (.agg #[.slice (some ⟨w.heap.size + 1, 0, none⟩) n n, .slice none 0 0, .slice (some ⟨w.heap.size + 1 + 1, 0, none⟩) n n]) (blank n 0) [w.heap.size + 1, w.heap.size + 1 + 1] ∧ Fresh w [w.heap.size + 1, w.heap.size + 1 + 1] := by
  have h := two_made (w.alloc bx) (.cells (madeCells #[.slice none 0 0] n) 89) (.cells (madeCells #[.int .i64 0] n) 3)
  rw [World.size_alloc] at h
  exact ⟨((((Ext.rfl' w).alloc' _).alloc' _).alloc' _).drew', own_blank0 (row_nils h.1) (row_zeros h.2) hn, by simp, by simp; omega⟩
theorem empty_two (w : World) (bx : Obj) (n : Nat) (hn : n ≤ 1048576) : Ext w (((w.alloc bx).alloc (.cells (madeCells #[.int .i64 0] n) 3)).alloc (.cells (madeCells #[.slice none 0 0] n) 89)).drew ∧
    OwnNet (((w.alloc bx).alloc (.cells (madeCells #[.int .i64 0] n) 3)).alloc (.cells (madeCells #[.slice none 0 0] n) 89)).drew (.agg #[.slice (some ⟨w.heap.size + 1 + 1, 0, none⟩) n n, .slice none 0 0, .slice (some ⟨w.heap.size + 1, 0, none⟩) n n]) (blank n 0) [w.heap.size + 1 + 1, w.heap.size + 1] ∧ Fresh w [w.heap.size + 1 + 1, w.heap.size + 1] := by
  have h := two_made (w.alloc bx) (.cells (madeCells #[.int .i64 0] n) 3) (.cells (madeCells #[.slice none 0 0] n) 89)
  rw [World.size_alloc] at h
  exact ⟨((((Ext.rfl' w).alloc' _).alloc' _).alloc' _).drew', own_blank0 (row_nils h.2) (row_zeros h.1) hn, by simp, by simp; omega⟩

set_option maxHeartbeats 1600000 in
set_option maxRecDepth 100000 in
theorem neEmpty_any {w : World} (n : Nat) (hn : n ≤ 1048576) :
    Calls Try.prog 122 #[.int .i64 n] w fun e w' => ∃ v' bs, e = .returned v' ∧ Ext w w' ∧ OwnNet w' v' (blank n 0) bs ∧ Fresh w bs := by
  have hmk := run_make_row' (P := Try.prog) 41 89 (.slice none 0 0) 24 Try.underlying41 Try.info70 rfl .i64 .i64 n (by omega) (by omega)
  have hmj := run_make_row' (P := Try.prog) 24 3 (.int .i64 0) 8 Try.underlying24 Try.info3 rfl .i64 .i64 n (by omega) (by omega)
  go_enter Try.func122, Try.ntmps122
  go_wp2_with fail
  go_region
  · go_wp2
    obtain ⟨h1, h2, h3⟩ := empty_one w (.cells #[.slice (some ⟨w.heap.size + 1, 0, none⟩) n n, .slice none 0 0, .slice (some ⟨w.heap.size + 1 + 1, 0, none⟩) n n] 43) n hn
    refine bodyPost_ret (v := .agg #[.slice (some ⟨w.heap.size + 1, 0, none⟩) n n, .slice none 0 0, .slice (some ⟨w.heap.size + 1 + 1, 0, none⟩) n n]) (by simp [results, Try.results122, go_sem]) rfl ⟨_, _, rfl, h1, h2, h3⟩
  · go_wp2
    obtain ⟨h1, h2, h3⟩ := empty_two w (.cells #[.slice (some ⟨w.heap.size + 1 + 1, 0, none⟩) n n, .slice none 0 0, .slice (some ⟨w.heap.size + 1, 0, none⟩) n n] 43) n hn
    refine bodyPost_ret (v := .agg #[.slice (some ⟨w.heap.size + 1 + 1, 0, none⟩) n n, .slice none 0 0, .slice (some ⟨w.heap.size + 1, 0, none⟩) n n]) (by simp [results, Try.results122, go_sem]) rfl ⟨_, _, rfl, h1, h2, h3⟩
end Go.Proofs.Ytdcgpodjoalokaa

/- Networks that are made by edges, as plain data: what adding an edge makes of a good network, and when all the networks on the way are good. -/
namespace Go.Proofs.Ytdcgpodjoalokaa
open Go.RowKit

theorem dec_eq (p : Prop) [Decidable p] : dec p = decide p := by
  by_cases h : p
  · rw [dec_true h]; simp [h]
  · rw [dec_false h]; simp [h]

theorem ends_grow {l l' : List (List (Int × Int))} (hlen : l'.length = l.length) (hpre : ∀ v, v < l.length → ∃ t, gr l' v = gr l v ++ t) (h : EndsOK l) (hdeg : ∀ v, v < l.length → (gr l' v).length ≤ 6)
    (hnew : ∀ v i, v < l.length → (gr l v).length ≤ i → i < (gr l' v).length → JoinOK l' v i) : EndsOK l' := by
  intro v hv
  rw [hlen] at hv
  refine ⟨hdeg v hv, fun i hi => ?_⟩
  by_cases hlt : i < (gr l v).length
  · have old : ∀ u, u < l.length → ∀ j, j < (gr l u).length → gn (gr l' u) j = gn (gr l u) j ∧ gp (gr l' u) j = gp (gr l u) j := fun u hu j hj => by
      obtain ⟨t, ht⟩ := hpre u hu
      unfold gn gp
      rw [ht]
      simp [List.getD, List.getElem?_append_left hj]
    obtain ⟨⟨p1, p2, p3, p4⟩, q1, q2⟩ := (h v hv).2 i hlt
    obtain ⟨e1, e2⟩ := old v hv i hlt
    have hu : (gn (gr l v) i).toNat < l.length := by omega
    obtain ⟨e3, e4⟩ := old _ hu (gp (gr l v) i).toNat (by omega)
    obtain ⟨t, ht⟩ := hpre _ hu
    unfold JoinOK PortOK
    rw [e1, e2, e3, e4, hlen, ht]
    exact ⟨⟨p1, p2, p3, by rw [List.length_append]; omega⟩, q1, q2⟩
  · exact hnew v i hv (by omega) hi

theorem gr_addEnd (N : Net) (k v : Nat) (p : Int × Int) (hk : k < N.ends.length) : gr (addEnd N k p).ends v = if v = k then gr N.ends k ++ [p] else gr N.ends v := gr_set _ _ _ _ hk
theorem length_joinNet (N : Net) (k l : Nat) : (joinNet N k l).ends.length = N.ends.length := by simp [joinNet, addEnd]
theorem gr_joinNet {N : Net} {k l : Nat} (hk : k < N.ends.length) (hl : l < N.ends.length) (v : Nat) :
    gr (joinNet N k l).ends v = (gr N.ends v ++ (if v = k then [((l : Int), joinAt N k l)] else [])) ++ (if v = l then [((k : Int), ((gr N.ends k).length : Int))] else []) := by
  unfold joinNet
  rw [gr_addEnd _ _ _ _ (by rw [addEnd_len]; exact hl)]
  by_cases h : v = l
  · subst h
    rw [if_pos rfl, if_pos rfl, gr_addEnd _ _ _ _ hk]
    by_cases h2 : v = k
    · subst h2; simp
    · rw [if_neg h2, if_neg h2]; simp
  · rw [if_neg h, if_neg h, gr_addEnd _ _ _ _ hk]
    by_cases h2 : v = k
    · subst h2; simp
    · rw [if_neg h2, if_neg h2]; simp
theorem deg_joinNet {N : Net} {k l : Nat} (hk : k < N.ends.length) (hl : l < N.ends.length) (v : Nat) :
    (gr (joinNet N k l).ends v).length = (gr N.ends v).length + (if v = k then 1 else 0) + (if v = l then 1 else 0) := by
  rw [gr_joinNet hk hl]
  simp only [List.length_append]
  split <;> split <;> simp

theorem gn_snoc (a : List (Int × Int)) (p : Int × Int) : gn (a ++ [p]) a.length = p.1 ∧ gp (a ++ [p]) a.length = p.2 := by simp [gn, gp, List.getD]
theorem gn_fst (a : List (Int × Int)) (p q : Int × Int) : gn ((a ++ [p]) ++ [q]) a.length = p.1 ∧ gp ((a ++ [p]) ++ [q]) a.length = p.2 := by simp [gn, gp, List.getD]
theorem gn_snd (a : List (Int × Int)) (p q : Int × Int) : gn ((a ++ [p]) ++ [q]) (a.length + 1) = q.1 ∧ gp ((a ++ [p]) ++ [q]) (a.length + 1) = q.2 := by simp [gn, gp, List.getD]

/-- A good network with room for it takes an edge. -/
theorem good_join {N : Net} {k l : Nat} (hg : Good N) (hk : k < N.ends.length) (hl : l < N.ends.length) (hd : ∀ v, v < N.ends.length → (gr N.ends v).length + (if v = k then 1 else 0) + (if v = l then 1 else 0) ≤ 6) : Good (joinNet N k l) := by
  obtain ⟨h1, h2, h3, h4⟩ := hg
  have hlen := length_joinNet N k l
  refine ⟨by rw [hlen]; exact h1, ends_grow hlen (fun v hv => ⟨_, by rw [gr_joinNet hk hl, List.append_assoc]⟩) h2 (fun v hv => by rw [deg_joinNet hk hl]; exact hd v hv) ?_, by rw [hlen]; exact h3, by rw [hlen]; exact h4⟩
  intro v i hv hi hi2
  rw [deg_joinNet hk hl] at hi2
  unfold JoinOK PortOK
  by_cases e : k = l
  · subst e
    have hvk : v = k := by
      by_cases hvk : v = k
      · exact hvk
      · rw [if_neg hvk] at hi2; omega
    subst hvk
    have hj : joinAt N v v = ((gr N.ends v).length + 1 : Nat) := by simp [joinAt]
    have hgr : gr (joinNet N v v).ends v = (gr N.ends v ++ [((v : Int), (((gr N.ends v).length + 1 : Nat) : Int))]) ++ [((v : Int), ((gr N.ends v).length : Int))] := by rw [gr_joinNet hk hl, hj]; simp
    have f := gn_fst (gr N.ends v) ((v : Int), (((gr N.ends v).length + 1 : Nat) : Int)) ((v : Int), ((gr N.ends v).length : Int))
    have s := gn_snd (gr N.ends v) ((v : Int), (((gr N.ends v).length + 1 : Nat) : Int)) ((v : Int), ((gr N.ends v).length : Int))
    dsimp only at f s
    rw [if_pos rfl] at hi2
    rw [hlen]
    by_cases e2 : i = (gr N.ends v).length
    · subst e2
      rw [hgr, f.1, f.2]
      simp only [Int.toNat_natCast]
      rw [hgr, s.1, s.2]
      simp only [List.length_append, List.length_singleton]
      exact ⟨⟨by omega, by omega, by omega, by omega⟩, by trivial, by trivial⟩
    · obtain rfl : i = (gr N.ends v).length + 1 := by omega
      rw [hgr, s.1, s.2]
      simp only [Int.toNat_natCast]
      rw [hgr, f.1, f.2]
      simp only [List.length_append, List.length_singleton]
      exact ⟨⟨by omega, by omega, by omega, by omega⟩, by trivial, by trivial⟩
  · have hj : joinAt N k l = ((gr N.ends l).length : Int) := by simp [joinAt, e]
    have hgk : gr (joinNet N k l).ends k = gr N.ends k ++ [((l : Int), ((gr N.ends l).length : Int))] := by rw [gr_joinNet hk hl, hj]; simp [e]
    have hgl : gr (joinNet N k l).ends l = gr N.ends l ++ [((k : Int), ((gr N.ends k).length : Int))] := by rw [gr_joinNet hk hl, hj]; simp [Ne.symm e]
    have fk := gn_snoc (gr N.ends k) ((l : Int), ((gr N.ends l).length : Int))
    have fl := gn_snoc (gr N.ends l) ((k : Int), ((gr N.ends k).length : Int))
    dsimp only at fk fl
    rw [hlen]
    by_cases hvk : v = k
    · subst hvk
      rw [if_pos rfl, if_neg e] at hi2
      obtain rfl : i = (gr N.ends v).length := by omega
      rw [hgk, fk.1, fk.2]
      simp only [Int.toNat_natCast]
      rw [hgl, fl.1, fl.2]
      simp only [List.length_append, List.length_singleton]
      exact ⟨⟨by omega, by omega, by omega, by omega⟩, by trivial, by trivial⟩
    · rw [if_neg hvk] at hi2
      have hvl : v = l := by
        by_cases hvl : v = l
        · exact hvl
        · rw [if_neg hvl] at hi2; omega
      subst hvl
      rw [if_pos rfl] at hi2
      obtain rfl : i = (gr N.ends v).length := by omega
      rw [hgl, fl.1, fl.2]
      simp only [Int.toNat_natCast]
      rw [hgk, fk.1, fk.2]
      simp only [List.length_append, List.length_singleton]
      exact ⟨⟨by omega, by omega, by omega, by omega⟩, by trivial, by trivial⟩

theorem good_stub {N : Net} {k : Nat} (hg : Good N) (hk : k < N.ends.length) (hd : (gr N.ends k).length + 1 ≤ 6) : Good (stubNet N k) := by
  obtain ⟨h1, h2, h3, h4⟩ := hg
  have hlen : (stubNet N k).ends.length = N.ends.length := addEnd_len _ _ _
  have hgr : ∀ v, gr (stubNet N k).ends v = if v = k then gr N.ends k ++ [((k : Int), ((gr N.ends k).length : Int))] else gr N.ends v := fun v => gr_addEnd _ _ _ _ hk
  refine ⟨by rw [hlen]; exact h1, ends_grow hlen (fun v hv => ?_) h2 (fun v hv => ?_) ?_, by rw [hlen]; exact h3, by rw [hlen]; exact h4⟩
  · rw [hgr]
    by_cases e : v = k
    · subst e; exact ⟨_, if_pos rfl⟩
    · exact ⟨[], by rw [if_neg e]; simp⟩
  · rw [hgr]
    by_cases e : v = k
    · subst e; rw [if_pos rfl]; simp; omega
    · rw [if_neg e]; exact (h2 v hv).1
  · intro v i hv hi hi2
    rw [hgr] at hi2
    by_cases e : v = k
    · subst e
      rw [if_pos rfl] at hi2
      simp only [List.length_append, List.length_singleton] at hi2
      obtain rfl : i = (gr N.ends v).length := by omega
      have f := gn_snoc (gr N.ends v) ((v : Int), ((gr N.ends v).length : Int))
      have hg2 : gr (stubNet N v).ends v = gr N.ends v ++ [((v : Int), ((gr N.ends v).length : Int))] := by rw [hgr, if_pos rfl]
      dsimp only at f
      unfold JoinOK PortOK
      rw [hlen, hg2, f.1, f.2]
      simp only [Int.toNat_natCast]
      rw [hg2, f.1, f.2]
      simp only [List.length_append, List.length_singleton]
      exact ⟨⟨by omega, by omega, by omega, by omega⟩, by trivial, by trivial⟩
    · rw [if_neg e] at hi2; omega

theorem good_blank0 {n : Nat} (h1 : 1 ≤ n) (h2 : n ≤ 40) : Good (blank n 0) := by
  refine ⟨by simp [blank]; omega, fun v hv => ?_, ⟨.inl rfl, fun i hi => absurd hi (by simp [blank])⟩, ⟨by simp [blank], fun j hj => ?_⟩⟩
  · have : gr (blank n 0).ends v = [] := gr_replicate _ _ _ (by simpa [blank] using hv)
    refine ⟨by rw [this]; simp, fun i hi => ?_⟩
    rw [this] at hi
    exact absurd hi (by simp)
  · have : gi (blank n 0).inputs j = 0 := gi_replicate _ _ _ (by simpa [blank] using hj)
    rw [this]; omega

/-- Edges one after another: those of the first i pairs of E. -/
def madeTo (N : Net) (E : List (Int × Int)) : Nat → Net
  | 0 => N
  | i + 1 => joinNet (madeTo N E i) (gn E i).toNat (gp E i).toNat
theorem length_madeTo (N : Net) (E : List (Int × Int)) : ∀ i, (madeTo N E i).ends.length = N.ends.length
  | 0 => rfl
  | i + 1 => by rw [madeTo, length_joinNet, length_madeTo N E i]
/-- How many ports the first i edges give to node v. -/
def degTo (E : List (Int × Int)) (v : Nat) : Nat → Nat
  | 0 => 0
  | i + 1 => degTo E v i + (if gn E i = v then 1 else 0) + (if gp E i = v then 1 else 0)
theorem degTo_mono (E : List (Int × Int)) (v : Nat) {i j : Nat} (h : i ≤ j) : degTo E v i ≤ degTo E v j := by
  induction j with
  | zero => obtain rfl : i = 0 := by omega
            exact Nat.le_refl _
  | succ j ih =>
    by_cases e : i = j + 1
    · rw [e]; exact Nat.le_refl _
    · have := ih (by omega)
      simp only [degTo]
      omega
/-- The pairs are nodes, and no node gets too many ports. -/
def EdgesOK (n : Nat) (E : List (Int × Int)) : Prop := (∀ i, i < E.length → 0 ≤ gn E i ∧ gn E i < n ∧ 0 ≤ gp E i ∧ gp E i < n) ∧ ∀ v, v < n → degTo E v E.length ≤ 6
instance (n : Nat) (E : List (Int × Int)) : Decidable (EdgesOK n E) := by unfold EdgesOK; infer_instance

theorem made_good {n : Nat} {E : List (Int × Int)} (h1 : 1 ≤ n) (h2 : n ≤ 40) (h : EdgesOK n E) : ∀ i, i ≤ E.length → Good (madeTo (blank n 0) E i) ∧ ∀ v, v < n → (gr (madeTo (blank n 0) E i).ends v).length = degTo E v i
  | 0, _ => ⟨good_blank0 h1 h2, fun v hv => by rw [madeTo, show gr (blank n 0).ends v = [] from gr_replicate _ _ _ hv]; rfl⟩
  | i + 1, hi => by
    obtain ⟨g, hd⟩ := made_good h1 h2 h i (by omega)
    obtain ⟨a1, a2, a3, a4⟩ := h.1 i (by omega)
    have hlen : (madeTo (blank n 0) E i).ends.length = n := by rw [length_madeTo]; simp [blank]
    have hk : (gn E i).toNat < (madeTo (blank n 0) E i).ends.length := by omega
    have hl : (gp E i).toNat < (madeTo (blank n 0) E i).ends.length := by omega
    have hdeg : ∀ v, v < n → (gr (madeTo (blank n 0) E i).ends v).length + (if v = (gn E i).toNat then 1 else 0) + (if v = (gp E i).toNat then 1 else 0) = degTo E v (i + 1) := fun v hv => by
      rw [hd v hv]
      simp only [degTo]
      congr 1
      · congr 1
        by_cases e : v = (gn E i).toNat
        · rw [if_pos e, if_pos (by omega)]
        · rw [if_neg e, if_neg (by omega)]
      · by_cases e : v = (gp E i).toNat
        · rw [if_pos e, if_pos (by omega)]
        · rw [if_neg e, if_neg (by omega)]
    refine ⟨good_join g hk hl fun v hv => ?_, fun v hv => ?_⟩
    · rw [hlen] at hv
      rw [hdeg v hv]
      exact Nat.le_trans (degTo_mono E v hi) (h.2 v hv)
    · rw [madeTo, deg_joinNet hk hl]
      exact hdeg v hv

/-- What the program makes, edge after edge, and whether the last one was made. -/
noncomputable def mbTo (N : Net) (b : Bool) (E : List (Int × Int)) : Nat → Net × Bool
  | 0 => (N, b)
  | i + 1 => (joinAns (mbTo N b E i).1 (gn E i) (gp E i), dec (JoinB (mbTo N b E i).1 (gn E i) (gp E i)))
theorem mb_made {n : Nat} {E : List (Int × Int)} (h1 : 1 ≤ n) (h2 : n ≤ 40) (h : EdgesOK n E) : ∀ i, i ≤ E.length → mbTo (blank n 0) true E i = (madeTo (blank n 0) E i, true)
  | 0, _ => rfl
  | i + 1, hi => by
    have ih := mb_made h1 h2 h i (by omega)
    obtain ⟨a1, a2, a3, a4⟩ := h.1 i (by omega)
    have hlen : (madeTo (blank n 0) E i).ends.length = n := by rw [length_madeTo]; simp [blank]
    have hj : JoinB (madeTo (blank n 0) E i) (gn E i) (gp E i) := ⟨⟨(made_good h1 h2 h i (by omega)).1, a1, by rw [hlen]; exact a2⟩, ⟨a3, by rw [hlen]; exact a4⟩, (made_good h1 h2 h (i + 1) hi).1⟩
    rw [mbTo, ih]
    simp only [dec_true hj, joinAns_t hj]
    rfl
theorem mb_small (N : Net) (b : Bool) (E : List (Int × Int)) (hN : N.small) : ∀ i, (mbTo N b E i).1.small
  | 0 => hN
  | _ + 1 => joinAns_small _ _ _
end Go.Proofs.Ytdcgpodjoalokaa

/- A cell of a list of ints in memory of its own is overwritten; the same for the inputs and the identifiers of a network. -/
namespace Go.Proofs.Ytdcgpodjoalokaa
open Go.RowKit

theorem gi_set (l : List Int) (k i : Nat) (y : Int) (hk : k < l.length) : gi (l.set k y) i = if i = k then y else gi l i := by
  unfold gi
  rw [List.getD_eq_getElem?_getD, List.getElem?_set]
  by_cases e : k = i
  · subst e; simp [hk]
  · rw [if_neg e, if_neg (fun h => e h.symm), List.getD_eq_getElem?_getD]

theorem OwnI.put {w : World} {v : Value} {l : List Int} {bs : List Nat} (h : OwnI w v l bs) {k : Nat} (hk : k < l.length) :
    ∃ b c, v = .slice (some ⟨b, 0, none⟩) l.length c ∧ bs = [b] ∧ w.cell? ⟨b, k, none⟩ = some (.int .i64 (gi l k)) ∧ w.frozen? ⟨b, k, none⟩ = false ∧
      ∀ (w' : World) (y : Int), w'.heap[b]? = w.heap[b]? → inI64 y → OwnI (w'.setCell ⟨b, k, none⟩ (.int .i64 y)) v (l.set k y) [b] := by
  obtain ⟨⟨c, hc1, hc2, ho⟩, hr⟩ := h
  rcases ho with ⟨hn, _⟩ | ⟨b, m, g, rfl, rfl, ⟨hm, hmc⟩, hrow, hg⟩
  · omega
  · refine ⟨b, c, rfl, rfl, by rw [hrow.cell (by omega), hg k (by omega)], hrow.frozen _, fun w' y hw hy => ⟨⟨c, by simpa using hc1, hc2, .inr ⟨b, m, _, rfl, by simp, ⟨by simpa using hm, hmc⟩, (hrow.of_block hw).set k (.int .i64 y), fun i hi => ?_⟩⟩, fun i hi => ?_⟩⟩
    · show _ = Value.int .i64 (gi (l.set k y) i)
      rw [gi_set _ _ _ _ hk]
      by_cases e : i = k
      · simp [e]
      · simp only [if_neg e]; exact hg i (by simpa using hi)
    · rw [gi_set _ _ _ _ hk]
      by_cases e : i = k
      · rw [if_pos e]; exact hy
      · rw [if_neg e]; exact hr i (by simpa using hi)

theorem OwnNet.putInput {w : World} {v0 v1 v2 : Value} {N : Net} {bs : List Nat} (h : OwnNet w (.agg #[v0, v1, v2]) N bs) (hnd : bs.Nodup) {k : Nat} (hk : k < N.inputs.length) :
    ∃ b c, v2 = .slice (some ⟨b, 0, none⟩) N.inputs.length c ∧ b ∈ bs ∧ w.cell? ⟨b, k, none⟩ = some (.int .i64 (gi N.inputs k)) ∧ w.frozen? ⟨b, k, none⟩ = false ∧
      ∀ (w' : World) (y : Int), (∀ x ∈ bs, w'.heap[x]? = w.heap[x]?) → inI64 y → OwnNet (w'.setCell ⟨b, k, none⟩ (.int .i64 y)) (.agg #[v0, v1, v2]) { N with inputs := N.inputs.set k y } bs := by
  obtain ⟨y0, y1, y2, b0, b1, b2, e, h0, h1, h2, rfl⟩ := h
  simp only [Value.agg.injEq, Array.mk.injEq, List.cons.injEq, and_true] at e
  obtain ⟨rfl, rfl, rfl⟩ := e
  obtain ⟨n0, n12, n3⟩ := List.nodup_append.1 hnd
  obtain ⟨n1, n2, n4⟩ := List.nodup_append.1 n12
  obtain ⟨b, c, hv, rfl, hx, hf, hp⟩ := h2.put hk
  refine ⟨b, c, hv, by simp, hx, hf, fun w' y hw hy => ?_⟩
  have hk0 : ∀ x ∈ b0, (w'.setCell ⟨b, k, none⟩ (.int .i64 y)).heap[x]? = w.heap[x]? := fun x hx => by
    rw [Below.heap_setCell _ _ _ _ (fun e => n3 x hx b (by simp) e), hw x (by simp [hx])]
  have hk1 : ∀ x ∈ b1, (w'.setCell ⟨b, k, none⟩ (.int .i64 y)).heap[x]? = w.heap[x]? := fun x hx => by
    rw [Below.heap_setCell _ _ _ _ (fun e => n4 x hx b (by simp) e), hw x (by simp [hx])]
  exact ⟨_, _, _, b0, b1, [b], rfl, h0.keep hk0, h1.keep hk1, hp w' y (hw b (by simp)) hy, rfl⟩

theorem OwnNet.putId {w : World} {v0 v1 v2 : Value} {N : Net} {bs : List Nat} (h : OwnNet w (.agg #[v0, v1, v2]) N bs) (hnd : bs.Nodup) {k : Nat} (hk : k < N.ids.length) :
    ∃ b c, v1 = .slice (some ⟨b, 0, none⟩) N.ids.length c ∧ b ∈ bs ∧ w.cell? ⟨b, k, none⟩ = some (.int .i64 (gi N.ids k)) ∧ w.frozen? ⟨b, k, none⟩ = false ∧
      ∀ (w' : World) (y : Int), (∀ x ∈ bs, w'.heap[x]? = w.heap[x]?) → inI64 y → OwnNet (w'.setCell ⟨b, k, none⟩ (.int .i64 y)) (.agg #[v0, v1, v2]) { N with ids := N.ids.set k y } bs := by
  obtain ⟨y0, y1, y2, b0, b1, b2, e, h0, h1, h2, rfl⟩ := h
  simp only [Value.agg.injEq, Array.mk.injEq, List.cons.injEq, and_true] at e
  obtain ⟨rfl, rfl, rfl⟩ := e
  obtain ⟨n0, n12, n3⟩ := List.nodup_append.1 hnd
  obtain ⟨n1, n2, n4⟩ := List.nodup_append.1 n12
  obtain ⟨b, c, hv, rfl, hx, hf, hp⟩ := h1.put hk
  refine ⟨b, c, hv, by simp, hx, hf, fun w' y hw hy => ?_⟩
  have hk0 : ∀ x ∈ b0, (w'.setCell ⟨b, k, none⟩ (.int .i64 y)).heap[x]? = w.heap[x]? := fun x hx => by
    rw [Below.heap_setCell _ _ _ _ (fun e => n3 x hx b (by simp) e), hw x (by simp [hx])]
  have hk2 : ∀ x ∈ b2, (w'.setCell ⟨b, k, none⟩ (.int .i64 y)).heap[x]? = w.heap[x]? := fun x hx => by
    rw [Below.heap_setCell _ _ _ _ (fun e => n4 b (by simp) x hx e.symm), hw x (by simp [hx])]
  exact ⟨_, _, _, b0, [b], b2, rfl, h0.keep hk0, hp w' y (hw b (by simp)) hy, h2.keep hk2, rfl⟩
end Go.Proofs.Ytdcgpodjoalokaa

/- One end of a network in memory of its own is written over: whatever the network. -/
namespace Go.Proofs.Ytdcgpodjoalokaa
open Go.RowKit

theorem gn_set (l : List (Int × Int)) (j i : Nat) (p : Int × Int) (hj : j < l.length) : gn (l.set j p) i = if i = j then p.1 else gn l i := by
  unfold gn
  rw [List.getD_eq_getElem?_getD, List.getElem?_set]
  by_cases e : j = i
  · subst e; simp [hj]
  · rw [if_neg e, if_neg (fun h => e h.symm), List.getD_eq_getElem?_getD]
theorem gp_set (l : List (Int × Int)) (j i : Nat) (p : Int × Int) (hj : j < l.length) : gp (l.set j p) i = if i = j then p.2 else gp l i := by
  unfold gp
  rw [List.getD_eq_getElem?_getD, List.getElem?_set]
  by_cases e : j = i
  · subst e; simp [hj]
  · rw [if_neg e, if_neg (fun h => e h.symm), List.getD_eq_getElem?_getD]
theorem ecell_set {l : List (Int × Int)} {j i : Nat} {p : Int × Int} (hj : j < l.length) : ecell (l.set j p) i = if i = j * 2 + 1 then .int .i64 p.2 else if i = j * 2 then .int .i64 p.1 else ecell l i := by
  unfold ecell
  rw [gn_set _ _ _ _ hj, gp_set _ _ _ _ hj]
  by_cases e : i = j * 2 + 1
  · subst e
    rw [if_pos rfl, if_neg (by omega), if_pos (by omega)]
  · rw [if_neg e]
    by_cases e2 : i = j * 2
    · subst e2
      rw [if_pos rfl, if_pos (by omega), if_pos (by omega)]
    · rw [if_neg e2]
      by_cases h : i % 2 = 0
      · rw [if_pos h, if_pos h, if_neg (by omega)]
      · rw [if_neg h, if_neg h, if_neg (by omega)]

/-- What is asked of the two cells of an end that is stored. -/
def Two (w : World) (b j : Nat) (x y : Value) : Prop := w.cell? ⟨b, j * 2, none⟩ = some x ∧ w.frozen? ⟨b, j * 2, none⟩ = false ∧ (∀ v, (w.setCell ⟨b, j * 2, none⟩ v).cell? ⟨b, j * 2 + 1, none⟩ = some y) ∧ ∀ v, (w.setCell ⟨b, j * 2, none⟩ v).frozen? ⟨b, j * 2 + 1, none⟩ = false
def set2 (w : World) (b j : Nat) (p : Int × Int) : World := (w.setCell ⟨b, j * 2, none⟩ (.int .i64 p.1)).setCell ⟨b, j * 2 + 1, none⟩ (.int .i64 p.2)
theorem set2_heap {w : World} {b j y : Nat} {p : Int × Int} (h : y ≠ b) : (set2 w b j p).heap[y]? = w.heap[y]? := by
  unfold set2
  rw [Below.heap_setCell _ _ _ _ h, Below.heap_setCell _ _ _ _ h]

theorem OwnE.put {w : World} {v : Value} {l : List (Int × Int)} {bs : List Nat} (h : OwnE w v l bs) {j : Nat} (hj : j < l.length) :
    ∃ b c, v = .slice (some ⟨b, 0, none⟩) l.length c ∧ bs = [b] ∧ Two w b j (.int .i64 (gn l j)) (.int .i64 (gp l j)) ∧ ∀ p : Int × Int, inI64 p.1 → inI64 p.2 → OwnE (set2 w b j p) v (l.set j p) [b] := by
  obtain ⟨⟨c, hc1, hc2, ho⟩, hr⟩ := h
  rcases ho with ⟨hn, _⟩ | ⟨b, m, g, rfl, rfl, ⟨hm, hmc⟩, hrow, hg⟩
  · omega
  · have e0 : g (j * 2) = .int .i64 (gn l j) := by rw [hg _ (by omega)]; unfold ecell; rw [if_pos (by omega)]; congr 2; omega
    have e1 : g (j * 2 + 1) = .int .i64 (gp l j) := by rw [hg _ (by omega)]; unfold ecell; rw [if_neg (by omega)]; congr 2; omega
    have ht := row_two hrow (i := j * 2) (by omega)
    rw [e0, e1] at ht
    refine ⟨b, c, rfl, rfl, ht, fun p h1 h2 => ⟨⟨c, by simpa using hc1, hc2, .inr ⟨b, m, _, rfl, by simp, ⟨by simpa using hm, hmc⟩, (hrow.set (j * 2) (.int .i64 p.1)).set (j * 2 + 1) (.int .i64 p.2), fun i hi => ?_⟩⟩, fun i hi => ?_⟩⟩
    · rw [ecell_set hj]
      by_cases e : i = j * 2 + 1
      · simp [e]
      · simp only [if_neg e]
        by_cases e2 : i = j * 2
        · simp [e2]
        · simp only [if_neg e2]; exact hg i (by simpa using hi)
    · rw [gn_set _ _ _ _ hj, gp_set _ _ _ _ hj]
      by_cases e : i = j
      · rw [if_pos e, if_pos e]; exact ⟨h1, h2⟩
      · rw [if_neg e, if_neg e]; exact hr i (by simpa using hi)

theorem OwnSS.put {w : World} {v : Value} {l : List (List (Int × Int))} {bs : List Nat} (h : OwnSS w v l bs) (hnd : bs.Nodup) {u j : Nat} (hu : u < l.length) (hj : j < (gr l u).length) :
    ∃ b c q d, v = .slice (some ⟨b, 0, none⟩) l.length c ∧ b ∈ bs ∧ q ∈ bs ∧ w.cell? ⟨b, u, none⟩ = some (.slice (some ⟨q, 0, none⟩) (gr l u).length d) ∧ Two w q j (.int .i64 (gn (gr l u) j)) (.int .i64 (gp (gr l u) j)) ∧
      ∀ p : Int × Int, inI64 p.1 → inI64 p.2 → OwnSS (set2 w q j p) v (l.set u ((gr l u).set j p)) bs := by
  obtain ⟨R, b0, T, ⟨c, hc1, hc2, ho⟩, hrows, rfl⟩ := h
  rcases ho with ⟨hn, _⟩ | ⟨b, m, g, rfl, rfl, ⟨hm, hmc⟩, hrow, hg⟩
  · omega
  · obtain ⟨hd1, hd2⟩ := nodup_rows hnd
    obtain ⟨q, d, hRu, hTu, htwo, hput⟩ := (hrows u hu).put hj
    have hqb : b ≠ q := fun e => hd1 u hu b (by simp) (by rw [hTu]; simp [e])
    have hqT : ∀ i, i < l.length → i ≠ u → ∀ y ∈ T i, y ≠ q := fun i hi hiu y hy e => hd2 i u hi hu hiu y hy (by rw [hTu]; simp [e])
    refine ⟨b, c, q, d, rfl, by simp, List.mem_append.2 (.inr (List.mem_flatMap.2 ⟨u, List.mem_range.2 hu, by rw [hTu]; simp⟩)), by rw [hrow.cell (by omega), hg u (by omega), hRu], htwo, fun p h1 h2 => ⟨R, [b], T, ⟨c, by simpa using hc1, hc2, .inr ⟨b, m, g, rfl, by simp, ⟨by simpa using hm, hmc⟩, hrow.of_block (set2_heap hqb), fun i hi => hg i (by simpa using hi)⟩⟩, fun i hi => ?_, by simp⟩⟩
    have hi : i < l.length := by simpa using hi
    rw [gr_set _ _ _ _ hu]
    by_cases e : i = u
    · subst e
      rw [if_pos rfl, hTu]
      exact hput p h1 h2
    · rw [if_neg e]
      exact (hrows i hi).keep fun y hy => set2_heap (hqT i hi e y hy)

def setEnd (N : Net) (u j : Nat) (x : Int × Int) : Net := { N with ends := N.ends.set u ((gr N.ends u).set j x) }
theorem OwnNet.putEnd {w : World} {v0 v1 v2 : Value} {M : Net} {bs : List Nat} (h : OwnNet w (.agg #[v0, v1, v2]) M bs) (hnd : bs.Nodup) {u j : Nat} (hu : u < M.ends.length) (hj : j < (gr M.ends u).length) :
    ∃ b c q d, v0 = .slice (some ⟨b, 0, none⟩) M.ends.length c ∧ w.cell? ⟨b, u, none⟩ = some (.slice (some ⟨q, 0, none⟩) (gr M.ends u).length d) ∧ q ∈ bs ∧ Two w q j (.int .i64 (gn (gr M.ends u) j)) (.int .i64 (gp (gr M.ends u) j)) ∧
      ∀ x : Int × Int, inI64 x.1 → inI64 x.2 → OwnNet (set2 w q j x) (.agg #[v0, v1, v2]) (setEnd M u j x) bs := by
  obtain ⟨y0, y1, y2, b0, b1, b2, e, h0, k1, k2, rfl⟩ := h
  simp only [Value.agg.injEq, Array.mk.injEq, List.cons.injEq, and_true] at e
  obtain ⟨rfl, rfl, rfl⟩ := e
  obtain ⟨n0, n12, n3⟩ := List.nodup_append.1 hnd
  obtain ⟨b, c, q, d, hv, hb, hq, hx, htwo, hput⟩ := h0.put n0 hu hj
  refine ⟨b, c, q, d, hv, hx, by simp [hq], htwo, fun x h1 h2 => ?_⟩
  have hk : ∀ y ∈ b1 ++ b2, (set2 w q j x).heap[y]? = w.heap[y]? := fun y hy => set2_heap (fun e => n3 q hq y hy e.symm)
  exact ⟨_, _, _, b0, b1, b2, rfl, hput x h1 h2, k1.keep fun y hy => hk y (by simp [hy]), k2.keep fun y hy => hk y (by simp [hy]), rfl⟩
end Go.Proofs.Ytdcgpodjoalokaa

/- Slices of elements of two or of four integers: read, and grown by append; the contract of isBetween. -/
namespace Go.Proofs.Ytdcgpodjoalokaa
open Go.RowKit

theorem Try.infoT2 : (Try.prog.info? 133).map (fun i => (i.zero, i.size, i.bytes)) = some (some (.agg #[.int .i64 0, .int .i64 0]), 2, 16) := by kernel_rfl
theorem Try.infoTEE : (Try.prog.info? 124).map (fun i => (i.zero, i.size, i.bytes)) = some (some (.agg #[.int .i64 0, .int .i64 0, .int .i64 0, .int .i64 0]), 4, 32) := by kernel_rfl

/-- A slice of n elements that hold the pairs of E one after another. -/
def FlatSl (w : World) (v : Value) (n : Nat) (E : List (Int × Int)) : Prop :=
  ∃ (a : Option Addr) (b o c : Nat), v = .slice a n c ∧ (0 < n → a = some ⟨b, o, none⟩) ∧ n ≤ c ∧ c ≤ maxLen ∧
    ∀ i, i < E.length → w.cell? ⟨b, o + i * 2, none⟩ = some (.int .i64 (gn E i)) ∧ w.cell? ⟨b, o + i * 2 + 1, none⟩ = some (.int .i64 (gp E i)) ∧ inI64 (gn E i) ∧ inI64 (gp E i)
theorem FlatSl.ext {w w' : World} {v : Value} {n : Nat} {E : List (Int × Int)} (h : FlatSl w v n E) (he : Ext w w') : FlatSl w' v n E := by
  obtain ⟨a, b, o, c, h1, h2, h3, h4, h5⟩ := h
  exact ⟨a, b, o, c, h1, h2, h3, h4, fun i hi => let ⟨p, q, r⟩ := h5 i hi; ⟨he.cell' p, he.cell' q, r⟩⟩
theorem FlatSl.nil (w : World) : FlatSl w (.slice none 0 0) 0 [] := ⟨none, 0, 0, 0, rfl, fun h => absurd h (by omega), Nat.le_refl _, by unfold maxLen; omega, fun i hi => absurd hi (by simp)⟩

def PairsIn (E : List (Int × Int)) : Prop := ∀ i, i < E.length → inI64 (gn E i) ∧ inI64 (gp E i)
theorem flat_of_owns {w : World} {B t k n : Nat} {v : Value} {E : List (Int × Int)} (h : w.ownsRow B t k v n (endCells E)) (hl : n * k = E.length * 2) (hr : PairsIn E) : FlatSl w v n E := by
  rcases h.2 with ⟨rfl, rfl⟩ | ⟨g, cap, cur, rfl, hb, hh, hc1, hc2, hs, ht⟩
  · exact ⟨none, 0, 0, 0, rfl, fun h => absurd h (by omega), Nat.le_refl _, by unfold maxLen; omega, fun i hi => absurd hi (by omega)⟩
  · have hcell : ∀ j, j < E.length * 2 → w.cell? ⟨g, j, none⟩ = some (ecell E j) := fun j hj => by
      have e := endCells_get E j hj
      rw [← ht, List.getElem?_take, if_pos (by omega)] at e
      simp only [Array.getElem?_toList] at e
      have hlt : j < cur.size := (Array.getElem?_eq_some_iff.1 e).1
      have hrow : w.rowIs g t cur.size (fun i => cur.getD i undef) := ⟨cur, hh, rfl, fun i hi => by simp [hi]⟩
      rw [hrow.cell hlt]
      simp [Array.getD, hlt]
      simpa [hlt] using e
    refine ⟨_, g, 0, cap, rfl, fun _ => rfl, hc1, hc2, fun i hi => ⟨?_, ?_, hr i hi⟩⟩
    · rw [Nat.zero_add, hcell _ (by omega)]
      simp only [ecell]
      rw [if_pos (by omega)]
      congr 3; omega
    · rw [Nat.zero_add, hcell _ (by omega)]
      simp only [ecell]
      rw [if_neg (by omega)]
      congr 3; omega

theorem endCells_nil : endCells [] = [] := rfl
theorem owns_none (w : World) (B t k : Nat) : w.ownsRow B t k (.slice none 0 0) 0 (endCells []) := by rw [endCells_nil]; exact World.ownsRow_nil _ _ _ _

theorem flat_step2 {B t n : Nat} {w2 wa w3 : World} {s v' : Value} {E : List (Int × Int)} {x y : Int} (hx : Ext w2 wa) (h : w2.ownsRow B t 2 s n (endCells E))
    (hg : Grew wa w3 B t 2 s v' (n + 1) (endCells E ++ [.int .i64 x, .int .i64 y])) :
    w3.ownsRow B t 2 v' (n + 1) (endCells (E ++ [(x, y)])) ∧ ∀ W : World, Ext W w2 → W.heap.size ≤ B → Ext W w3 :=
  ⟨by rw [← endCells_snoc]; exact hg.1, fun W hW hWB => hg.ext (hW.trans' hx) fun b hb => Nat.le_trans hWB (h.lt b hb).1⟩
theorem flat_step4 {B t n : Nat} {w2 wa w3 : World} {s v' : Value} {E : List (Int × Int)} {x y z u : Int} (hx : Ext w2 wa) (h : w2.ownsRow B t 4 s n (endCells E))
    (hg : Grew wa w3 B t 4 s v' (n + 1) (endCells E ++ [.int .i64 x, .int .i64 y, .int .i64 z, .int .i64 u])) :
    w3.ownsRow B t 4 v' (n + 1) (endCells (E ++ [(x, y), (z, u)])) ∧ ∀ W : World, Ext W w2 → W.heap.size ≤ B → Ext W w3 := by
  refine ⟨?_, fun W hW hWB => hg.ext (hW.trans' hx) fun b hb => Nat.le_trans hWB (h.lt b hb).1⟩
  have e : endCells (E ++ [(x, y), (z, u)]) = endCells E ++ [.int .i64 x, .int .i64 y, .int .i64 z, .int .i64 u] := by
    rw [show E ++ [(x, y), (z, u)] = (E ++ [(x, y)]) ++ [(z, u)] by simp, ← endCells_snoc, ← endCells_snoc]
    simp
  rw [e]
  exact hg.1
theorem src_four (w : World) (x y z u : Value) (t : TypeId) (h1 : x.oneCell' = true) (h2 : y.oneCell' = true) (h3 : z.oneCell' = true) (h4 : u.oneCell' = true) : SrcAt (w.alloc (.cells #[x, y, z, u] t)) (some ⟨w.heap.size, 0, none⟩) 1 4 [x, y, z, u] := by
  refine ⟨rfl, fun h => by simp at h, fun ad e j c hc => ?_, fun c hc => by simp at hc; rcases hc with rfl | rfl | rfl | rfl <;> assumption⟩
  obtain rfl := Option.some.inj e
  rw [add_plain]
  match j with
  | 0 => simp at hc; subst hc; simp
  | 1 => simp at hc; subst hc; simp
  | 2 => simp at hc; subst hc; simp
  | 3 => simp at hc; subst hc; simp
  | j + 4 => simp at hc
theorem gn_app_lt {a b : List (Int × Int)} {i : Nat} (h : i < a.length) : gn (a ++ b) i = gn a i ∧ gp (a ++ b) i = gp a i := by simp [gn, gp, List.getD, List.getElem?_append_left h]
theorem gn_app_ge {a b : List (Int × Int)} {i : Nat} (h : a.length ≤ i) : gn (a ++ b) i = gn b (i - a.length) ∧ gp (a ++ b) i = gp b (i - a.length) := by simp [gn, gp, List.getD, List.getElem?_append_right h]
theorem PairsIn.app {a b : List (Int × Int)} (ha : PairsIn a) (hb : PairsIn b) : PairsIn (a ++ b) := by
  intro i hi
  by_cases h : i < a.length
  · rw [(gn_app_lt h).1, (gn_app_lt h).2]; exact ha i h
  · rw [(gn_app_ge (by omega)).1, (gn_app_ge (by omega)).2]
    exact hb _ (by rw [List.length_append] at hi; omega)
theorem PairsIn.nil : PairsIn [] := fun i hi => absurd hi (by simp)

set_option maxRecDepth 100000 in
theorem isBetween_any (n lo hi : Int) (w : World) : Calls Try.prog 73 #[.int .i64 n, .int .i64 lo, .int .i64 hi] w fun e w' => e = .returned (.bool (dec (InB n lo hi))) ∧ w = w' := by
  by_cases h1 : lo ≤ n
  · have d1 : decide (lo ≤ n) = true := by simpa using h1
    by_cases h2 : n ≤ hi
    · have e := Lib.hid (dec_true (p := InB n lo hi) ⟨h1, h2⟩)
      have d2 : decide (n ≤ hi) = true := by simpa using h2
      go_enter Try.func73, Try.ntmps73
      go_wp2
      go_ret
      exact ⟨ret_bool e.out.symm, rfl⟩
    · have e := Lib.hid (dec_false (p := InB n lo hi) (fun h => h2 h.2))
      have d2 : decide (n ≤ hi) = false := by simpa using h2
      go_enter Try.func73, Try.ntmps73
      go_wp2
      go_ret
      exact ⟨ret_bool e.out.symm, rfl⟩
  · have e := Lib.hid (dec_false (p := InB n lo hi) (fun h => h1 h.1))
    have d1 : decide (lo ≤ n) = false := by simpa using h1
    go_enter Try.func73, Try.ntmps73
    go_wp2
    go_ret
    exact ⟨ret_bool e.out.symm, rfl⟩
end Go.Proofs.Ytdcgpodjoalokaa

/- The contract of join: the ports of each edge are joined in the network's own memory. The ports must be there. -/
namespace Go.Proofs.Ytdcgpodjoalokaa
open Go.RowKit

/-- Two ports are joined. -/
def linkNet (N : Net) (p q : Int × Int) : Net := setEnd (setEnd N p.1.toNat p.2.toNat q) q.1.toNat q.2.toNat p
def ge (E : List (Int × Int)) (i : Nat) : Int × Int := (gn E i, gp E i)
/-- The first i edges, each given by its two ports. -/
def linkTo (N : Net) (E : List (Int × Int)) : Nat → Net
  | 0 => N
  | i + 1 => linkNet (linkTo N E i) (ge E (2 * i)) (ge E (2 * i + 1))
theorem setEnd_len (N : Net) (u j : Nat) (x : Int × Int) : (setEnd N u j x).ends.length = N.ends.length := by simp [setEnd]
theorem setEnd_row (N : Net) (u j v : Nat) (x : Int × Int) : (gr (setEnd N u j x).ends v).length = (gr N.ends v).length := by
  by_cases hu : u < N.ends.length
  · rw [show gr (setEnd N u j x).ends v = _ from gr_set _ _ _ _ hu]
    by_cases e : v = u
    · subst e; simp
    · rw [if_neg e]
  · unfold setEnd
    rw [show ({ N with ends := N.ends.set u ((gr N.ends u).set j x) } : Net).ends = N.ends from List.set_eq_of_length_le (by omega)]
theorem linkNet_len (N : Net) (p q : Int × Int) : (linkNet N p q).ends.length = N.ends.length := by simp [linkNet, setEnd_len]
theorem linkNet_row (N : Net) (p q : Int × Int) (v : Nat) : (gr (linkNet N p q).ends v).length = (gr N.ends v).length := by simp [linkNet, setEnd_row]
theorem linkTo_len (N : Net) (E : List (Int × Int)) : ∀ i, (linkTo N E i).ends.length = N.ends.length
  | 0 => rfl
  | i + 1 => by rw [linkTo, linkNet_len, linkTo_len]
theorem linkTo_row (N : Net) (E : List (Int × Int)) (v : Nat) : ∀ i, (gr (linkTo N E i).ends v).length = (gr N.ends v).length
  | 0 => rfl
  | i + 1 => by rw [linkTo, linkNet_row, linkTo_row]
/-- Each end is a port of the network. -/
def PortsOK (N : Net) (E : List (Int × Int)) : Prop := ∀ i, i < E.length → 0 ≤ gn E i ∧ gn E i < N.ends.length ∧ 0 ≤ gp E i ∧ gp E i < (gr N.ends (gn E i).toNat).length

set_option maxHeartbeats 3200000 in
set_option maxRecDepth 100000 in
theorem join_any {w0 w : World} {v0 v1 v2 ve : Value} {N : Net} {bs : List Nat} {E : List (Int × Int)} (m : Nat) (hm : E.length = 2 * m) (h : OwnNet w (.agg #[v0, v1, v2]) N bs) (hnd : bs.Nodup) (hE : FlatSl w0 ve m E) (h0 : Ext w0 w) (hge : ∀ b ∈ bs, w0.heap.size ≤ b) (hp : PortsOK N E) :
    Calls Try.prog 118 #[.agg #[v0, v1, v2], ve] w fun e w' => e = .returned (.tuple #[]) ∧ Chg w w' bs ∧ OwnNet w' (.agg #[v0, v1, v2]) (linkTo N E m) bs := by
  obtain ⟨a0, c0, a1, c1, a2, c2, hagg⟩ := h.agg
  obtain ⟨rfl, rfl, rfl⟩ : v0 = .slice a0 N.ends.length c0 ∧ v1 = .slice a1 N.ids.length c1 ∧ v2 = .slice a2 N.inputs.length c2 := by simpa using hagg
  have HO := Lib.hid h
  have HND := Lib.hid hnd
  have HP := Lib.hid hp
  have HM := Lib.hid hm
  have HGE := Lib.hid hge
  have H0 := Lib.hid h0
  obtain ⟨a, b, o, c, rfl, ha, hl, hmx, hc⟩ := hE
  unfold maxLen at hmx
  have Hc := Lib.hid hc
  have Ha := Lib.hid ha
  have HLT := Lib.hid h.lt
  clear hc ha hp h hnd hm hagg hge h0
  have HX := Lib.hid ((Ext.rfl' w).alloc' (.cells #[.slice a0 N.ends.length c0, .slice a1 N.ids.length c1, .slice a2 N.inputs.length c2] 43))
  have HB := Lib.hid (row3_made w (.slice a0 N.ends.length c0) (.slice a1 N.ids.length c1) (.slice a2 N.inputs.length c2) 43)
  go_enter Try.func118, Try.ntmps118
  go_wp2_with fail
  go_loopg [8] m (fun g i wr => ∃ k : Nat, k ≤ m ∧ g = m - k ∧ i = .int .i64 k ∧ Hid (Chg (w.alloc (.cells #[.slice a0 N.ends.length c0, .slice a1 N.ids.length c1, .slice a2 N.inputs.length c2] 43)) wr bs ∧ OwnNet wr (.agg #[.slice a0 N.ends.length c0, .slice a1 N.ids.length c1, .slice a2 N.inputs.length c2]) (linkTo N E k) bs))
  case atStart => exact ⟨0, Nat.zero_le _, rfl, rfl, Chg.rfl' _ _, HO.out.ext HX.out⟩
  case round =>
    obtain ⟨k, hk, rfl, rfl, Hr⟩ := hrel
    by_cases hlt : k < m
    · obtain ⟨y1, y2, y3, y4⟩ := Hc.out (2 * k) (by have := HM.out; omega)
      obtain ⟨z1, z2, z3, z4⟩ := Hc.out (2 * k + 1) (by have := HM.out; omega)
      obtain rfl := Ha.out (by omega)
      obtain ⟨g1, g2, g3, g4⟩ := HP.out (2 * k) (by have := HM.out; omega)
      obtain ⟨f1, f2, f3, f4⟩ := HP.out (2 * k + 1) (by have := HM.out; omega)
      obtain ⟨pu, hpu⟩ := Int.eq_ofNat_of_zero_le g1
      obtain ⟨pj, hpj⟩ := Int.eq_ofNat_of_zero_le g3
      obtain ⟨qu, hqu⟩ := Int.eq_ofNat_of_zero_le f1
      obtain ⟨qj, hqj⟩ := Int.eq_ofNat_of_zero_le f3
      rw [hpu] at y1 y3 g2 g4
      rw [hpj] at y2 y4 g4
      rw [hqu] at z1 z3 f2 f4
      rw [hqj] at z2 z4 f4
      rw [Int.toNat_natCast] at g4 f4
      have g2' : pu < N.ends.length := by omega
      have f2' : qu < N.ends.length := by omega
      have g4' : pj < (gr N.ends pu).length := by omega
      have f4' : qj < (gr N.ends qu).length := by omega
      have hlen := linkTo_len N E k
      have eL : linkTo N E (k + 1) = setEnd (setEnd (linkTo N E k) pu pj ((qu : Int), (qj : Int))) qu qj ((pu : Int), (pj : Int)) := by
        rw [linkTo, linkNet, ge, ge, hpu, hpj, hqu, hqj]
        simp only [Int.toNat_natCast]
      have EL := Lib.hid eL
      have EX : Hid (Ext w0 wr) := Chg.ext (H0.out.trans' HX.out) Hr.out.1 HGE.out
      have q1 : wr.cell? ⟨b, o + k * 4, none⟩ = some (.int .i64 pu) := by rw [← EX.out.cell' y1]; congr 2; omega
      have q2 : wr.cell? ⟨b, o + k * 4 + 1, none⟩ = some (.int .i64 pj) := by rw [← EX.out.cell' y2]; congr 2; omega
      have q3 : wr.cell? ⟨b, o + k * 4 + 2, none⟩ = some (.int .i64 qu) := by rw [← EX.out.cell' z1]; congr 2; omega
      have q4 : wr.cell? ⟨b, o + k * 4 + 3, none⟩ = some (.int .i64 qj) := by rw [← EX.out.cell' z2]; congr 2; omega
      have BX : Hid (wr.rowIs w.heap.size 43 3 (tri (.slice a0 N.ends.length c0) (.slice a1 N.ids.length c1) (.slice a2 N.inputs.length c2))) := HB.out.of_block (Hr.out.1.block _ HB.out.lt (fun hb => absurd (HLT.out _ hb) (by omega)))
      have hwsz : w.heap.size < wr.heap.size := BX.out.lt
      have hxe := (Ext.rfl' wr).alloc' (.cells #[.int .i64 (pu : Int), .int .i64 (pj : Int), .int .i64 (qu : Int), .int .i64 (qj : Int)] 124)
      obtain ⟨b0, c', r, d, hv, hrow, hr, htwo, hput⟩ := (Hr.out.2.ext hxe).putEnd HND.out (u := pu) (j := pj) (by omega) (by rw [linkTo_row]; exact g4')
      obtain ⟨rfl, rfl⟩ : a0 = some ⟨b0, 0, none⟩ ∧ c0 = c' := by simp at hv; exact ⟨hv.1, hv.2.2⟩
      rw [linkTo_row] at hrow
      have M1 := Lib.hid ((hput ((qu : Int), (qj : Int)) z3 z4).ext (Ext.rfl' _).drew')
      have hrw : r < w.heap.size := HLT.out r hr
      have C1 : Hid (Chg (w.alloc (.cells #[.slice (some ⟨b0, 0, none⟩) N.ends.length c0, .slice a1 N.ids.length c1, .slice a2 N.inputs.length c2] 43)) (set2 (wr.alloc (.cells #[.int .i64 (pu : Int), .int .i64 (pj : Int), .int .i64 (qu : Int), .int .i64 (qj : Int)] 124)) r pj ((qu : Int), (qj : Int))).drew bs) := ((Hr.out.1.trans' (Chg.of_ext hxe bs)).store (p := ⟨r, pj * 2, none⟩) hr _).store (p := ⟨r, pj * 2 + 1, none⟩) hr _ |>.trans' (Chg.of_ext (Ext.rfl' _).drew' bs)
      obtain ⟨p0, p1, p2, -, -, -⟩ := row3_facts (row_ext BX.out hxe)
      obtain ⟨t0, t1, t2, t3⟩ := htwo
      have e0 : (wr.alloc (.cells #[.int .i64 (pu : Int), .int .i64 (pj : Int), .int .i64 (qu : Int), .int .i64 (qj : Int)] 124)).cell? ⟨wr.heap.size, 0, none⟩ = some (.int .i64 pu) := by simp
      have e1 : (wr.alloc (.cells #[.int .i64 (pu : Int), .int .i64 (pj : Int), .int .i64 (qu : Int), .int .i64 (qj : Int)] 124)).cell? ⟨wr.heap.size, 1, none⟩ = some (.int .i64 pj) := by simp
      have e2 : (wr.alloc (.cells #[.int .i64 (pu : Int), .int .i64 (pj : Int), .int .i64 (qu : Int), .int .i64 (qj : Int)] 124)).cell? ⟨wr.heap.size, 2, none⟩ = some (.int .i64 qu) := by simp
      have e3 : (wr.alloc (.cells #[.int .i64 (pu : Int), .int .i64 (pj : Int), .int .i64 (qu : Int), .int .i64 (qj : Int)] 124)).cell? ⟨wr.heap.size, 3, none⟩ = some (.int .i64 qj) := by simp
      have far : ∀ i, (set2 (wr.alloc (.cells #[.int .i64 (pu : Int), .int .i64 (pj : Int), .int .i64 (qu : Int), .int .i64 (qj : Int)] 124)) r pj ((qu : Int), (qj : Int))).drew.cell? ⟨wr.heap.size, i, none⟩ = (wr.alloc (.cells #[.int .i64 (pu : Int), .int .i64 (pj : Int), .int .i64 (qu : Int), .int .i64 (qj : Int)] 124)).cell? ⟨wr.heap.size, i, none⟩ := fun i => by
        show (set2 (wr.alloc (.cells #[.int .i64 (pu : Int), .int .i64 (pj : Int), .int .i64 (qu : Int), .int .i64 (qj : Int)] 124)) r pj ((qu : Int), (qj : Int))).cell? ⟨wr.heap.size, i, none⟩ = _
        unfold set2
        rw [World.cell?_setCell_far _ _ _ _ (by show r ≠ wr.heap.size; omega), World.cell?_setCell_far _ _ _ _ (by show r ≠ wr.heap.size; omega)]
      have E0 := Lib.hid ((far 0).trans e0)
      have E1 := Lib.hid ((far 1).trans e1)
      have E2 := Lib.hid ((far 2).trans e2)
      have E3 := Lib.hid ((far 3).trans e3)
      have hBX2 : Hid ((set2 (wr.alloc (.cells #[.int .i64 (pu : Int), .int .i64 (pj : Int), .int .i64 (qu : Int), .int .i64 (qj : Int)] 124)) r pj ((qu : Int), (qj : Int))).drew.rowIs w.heap.size 43 3 (tri (.slice (some ⟨b0, 0, none⟩) N.ends.length c0) (.slice a1 N.ids.length c1) (.slice a2 N.inputs.length c2))) := (row_ext BX.out hxe).of_block (show (set2 _ r pj _).heap[w.heap.size]? = _ from set2_heap (by omega))
      have HZ := Lib.hid hwsz
      have HI := Lib.hid (And.intro y3 y4)
      clear hxe hv hput far y1 y2 y3 y4 z1 z2 z3 z4 g1 g3 f1 f3 hpu hpj hqu hqj eL
      go_upto_region 4 with fail
      go_region
      clear p0 p1 p2 t0 t1 t2 t3 e0 e1 e2 e3 q1 q2 q3 q4 hrow
      revert M1 C1 E0 E1 E2 E3 hBX2
      unfold set2
      generalize (((wr.alloc (.cells #[.int .i64 (pu : Int), .int .i64 (pj : Int), .int .i64 (qu : Int), .int .i64 (qj : Int)] 124)).setCell ⟨r, pj * 2, none⟩ (.int .i64 (qu : Int))).setCell ⟨r, pj * 2 + 1, none⟩ (.int .i64 (qj : Int))).drew = W2
      intro M1 C1 E0 E1 E2 E3 hBX2
      obtain ⟨b1, c'', r2, d2, hv, hrow, hr2, htwo, hput⟩ := M1.out.putEnd HND.out (u := qu) (j := qj) (by rw [setEnd_len]; omega) (by rw [setEnd_row, linkTo_row]; exact f4')
      obtain ⟨rfl, rfl⟩ : b0 = b1 ∧ c0 = c'' := by simp at hv; exact ⟨hv.1, hv.2.2⟩
      rw [setEnd_row, linkTo_row] at hrow
      have M2 : Hid (OwnNet ((W2.setCell ⟨r2, qj * 2, none⟩ (.int .i64 (pu : Int))).setCell ⟨r2, qj * 2 + 1, none⟩ (.int .i64 (pj : Int))).drew (.agg #[.slice (some ⟨b0, 0, none⟩) N.ends.length c0, .slice a1 N.ids.length c1, .slice a2 N.inputs.length c2]) (linkTo N E (k + 1)) bs) := by
        rw [EL.out]
        exact (hput ((pu : Int), (pj : Int)) HI.out.1 HI.out.2).ext (Ext.rfl' _).drew'
      have C2 := Lib.hid (((C1.out.store (p := ⟨r2, qj * 2, none⟩) hr2 (.int .i64 (pu : Int))).store (p := ⟨r2, qj * 2 + 1, none⟩) hr2 (.int .i64 (pj : Int))).trans' (Chg.of_ext (Ext.rfl' _).drew' bs))
      obtain ⟨p0, p1, p2, -, -, -⟩ := row3_facts hBX2.out
      obtain ⟨t0, t1, t2, t3⟩ := htwo
      have e0 := E0.out
      have e1 := E1.out
      have e2 := E2.out
      have e3 := E3.out
      clear hv hput
      go_upto_region 5 with fail
      go_region
      clear p0 p1 p2 t0 t1 t2 t3 e0 e1 e2 e3 hrow
      go_wp2
      go_roundg (m - (k + 1))
      case measure => omega
      case rel => exact ⟨k + 1, by omega, rfl, by go_num, C2.out, M2.out⟩
    · obtain rfl : k = m := by omega
      go_wp2
      refine bodyPost_end (results_none rfl _ _ _) rfl ?_
      exact ⟨rfl, ⟨Hr.out.1.os, Hr.out.1.tape, Hr.out.1.output, Nat.le_trans HX.out.size Hr.out.1.size, fun y hy hb => (Hr.out.1.block y (Nat.lt_of_lt_of_le hy HX.out.size) hb).trans (HX.out.block y hy)⟩, Hr.out.2⟩
end Go.Proofs.Ytdcgpodjoalokaa
