/- Several texts in one: Mark, Mark2, Mark3, Hold, Hold2, App2, Cp, Build. -/
import Derived.Test.YtbddjejpacaglaaDoorKb
import Derived.Deep.RegionLaw
import Derived.Deep.RegionHeldLaw
/- Contracts of the functions that write marks into memory of its own, and that look whether they are still there: integers. -/
namespace Go.Proofs.YtbddjejpacaglaaDoor
open Go.RowKit

/-- Nothing that was there has changed but the blocks in bs. -/
structure Chg (w w' : World) (bs : List Nat) : Prop where
  os : w'.os = w.os
  tape : w'.tape = w.tape
  output : w'.output = w.output
  size : w.heap.size ≤ w'.heap.size
  block : ∀ k, k < w.heap.size → k ∉ bs → w'.heap[k]? = w.heap[k]?

theorem Chg.rfl' (w : World) (bs : List Nat) : Chg w w bs := ⟨rfl, rfl, rfl, Nat.le_refl _, fun _ _ _ => rfl⟩
theorem Chg.of_ext {w w' : World} (h : Ext w w') (bs : List Nat) : Chg w w' bs := ⟨h.os, h.tape, h.output, h.size, fun k hk _ => h.block k hk⟩
theorem Chg.mono {w w' : World} {bs cs : List Nat} (h : Chg w w' bs) (hs : ∀ b ∈ bs, b ∈ cs) : Chg w w' cs := ⟨h.os, h.tape, h.output, h.size, fun k hk hn => h.block k hk fun hb => hn (hs k hb)⟩
theorem Chg.trans' {a b c : World} {bs : List Nat} (h : Chg a b bs) (k : Chg b c bs) : Chg a c bs :=
  ⟨k.os.trans h.os, k.tape.trans h.tape, k.output.trans h.output, Nat.le_trans h.size k.size, fun i hi hn => (k.block i (Nat.lt_of_lt_of_le hi h.size) hn).trans (h.block i hi hn)⟩
theorem Chg.store {a b : World} {bs : List Nat} (h : Chg a b bs) {p : Addr} (hp : p.block ∈ bs) (v : Value) : Chg a (b.setCell p v) bs :=
  ⟨h.os, h.tape, h.output, by simp [World.setCell]; exact h.size, fun k hk hn => (Below.heap_setCell _ _ _ _ (fun e => hn (by rw [e]; exact hp))).trans (h.block k hk hn)⟩
/-- New blocks alone have changed: nothing that was there. -/
theorem Chg.ext {W w w' : World} {bs : List Nat} (he : Ext W w) (h : Chg w w' bs) (hb : ∀ b ∈ bs, W.heap.size ≤ b) : Ext W w' :=
  ⟨h.os.trans he.os, h.tape.trans he.tape, h.output.trans he.output, Nat.le_trans he.size h.size, fun k hk => (h.block k (Nat.lt_of_lt_of_le hk he.size) (fun hn => by have := hb k hn; omega)).trans (he.block k hk)⟩

def marks (k : Int) (n : Nat) : List Int := (List.range n).map fun (i : Nat) => k + (i : Int)
theorem length_marks (k : Int) (n : Nat) : (marks k n).length = n := by simp [marks]
theorem gi_marks (k : Int) (n i : Nat) (h : i < n) : gi (marks k n) i = k + i := by simp [gi, marks, h]

end Go.Proofs.YtbddjejpacaglaaDoor

/- Contracts of the functions that write marks into a network of its own. -/
namespace Go.Proofs.YtbddjejpacaglaaDoor
open Go.RowKit

def emarks (k : Int) (n : Nat) : List (Int × Int) := (List.range n).map fun (i : Nat) => (k + 2 * (i : Int), k + 2 * (i : Int) + 1)
theorem length_emarks (k : Int) (n : Nat) : (emarks k n).length = n := by simp [emarks]
theorem gn_emarks (k : Int) (n i : Nat) (h : i < n) : gn (emarks k n) i = k + 2 * i := by simp [gn, emarks, h]
theorem gp_emarks (k : Int) (n i : Nat) (h : i < n) : gp (emarks k n) i = k + 2 * i + 1 := by simp [gp, emarks, h]
theorem ecell_emarks (k : Int) (n j : Nat) (h : j < n * 2) : ecell (emarks k n) j = .int .i64 (k + j) := by
  simp only [ecell]
  by_cases e : j % 2 = 0
  · rw [if_pos e, gn_emarks _ _ _ (by omega)]; congr 1; omega
  · rw [if_neg e, gp_emarks _ _ _ (by omega)]; congr 1; omega

theorem nodup_rows {b0 : List Nat} {n : Nat} {T : Nat → List Nat} (h : (b0 ++ (List.range n).flatMap T).Nodup) :
    (∀ i, i < n → ∀ b ∈ b0, b ∉ T i) ∧ ∀ i j, i < n → j < n → i ≠ j → ∀ b ∈ T i, b ∉ T j := by
  obtain ⟨h1, h2, h3⟩ := List.nodup_append.1 h
  refine ⟨fun i hi b hb hb' => h3 b hb b (List.mem_flatMap.2 ⟨i, List.mem_range.2 hi, hb'⟩) rfl, fun i j hi hj hne b hb hb' => ?_⟩
  have h4 := List.pairwise_flatMap.1 h2
  have h5 := List.pairwise_iff_getElem.1 h4.2
  rcases Nat.lt_or_gt_of_ne hne with hlt | hgt
  · have := h5 i j (by simpa using hi) (by simpa using hj) hlt
    simp only [List.getElem_range] at this
    exact this b hb b hb' rfl
  · have := h5 j i (by simpa using hj) (by simpa using hi) hgt
    simp only [List.getElem_range] at this
    exact this b hb' b hb rfl

end Go.Proofs.YtbddjejpacaglaaDoor

/- The contract of markNetwork. -/
namespace Go.Proofs.YtbddjejpacaglaaDoor
open Go.RowKit

/-- Two readings of one list are equal. -/
theorem eqIntS_same {w : World} {v1 v2 : Value} {l : List Int} (h1 : IntSl w v1 l) (h2 : IntSl w v2 l) : Calls Tryd.prog 19 #[v1, v2] w fun e w' => e = .returned (.bool true) ∧ Ext w w' :=
  (eqIntS_any h1 h2).mono fun _ _ ⟨he, hx⟩ => ⟨by rw [he]; simp, hx⟩

end Go.Proofs.YtbddjejpacaglaaDoor

/- Marks of networks: what markNetwork leaves, and that heldNetwork finds it. -/
namespace Go.Proofs.YtbddjejpacaglaaDoor
open Go.RowKit

/-- The mark with which row i begins. -/
def kAt (k : Int) (l : List (List (Int × Int))) : Nat → Int
  | 0 => k
  | i + 1 => kAt k l i + 2 * (gr l i).length
theorem kAt_le (k : Int) (l : List (List (Int × Int))) (hs : ∀ i, (gr l i).length ≤ 1048576) : ∀ i, k ≤ kAt k l i ∧ kAt k l i ≤ k + 2097152 * i
  | 0 => by simp [kAt]
  | i + 1 => by
    have h1 := kAt_le k l hs i
    have h2 := hs i
    simp only [kAt]
    omega
def smarks (k : Int) (l : List (List (Int × Int))) : List (List (Int × Int)) := (List.range l.length).map fun i => emarks (kAt k l i) (gr l i).length
theorem length_smarks (k : Int) (l : List (List (Int × Int))) : (smarks k l).length = l.length := by simp [smarks]
theorem gr_smarks (k : Int) (l : List (List (Int × Int))) (i : Nat) (h : i < l.length) : gr (smarks k l) i = emarks (kAt k l i) (gr l i).length := by simp [gr, smarks, h]

/-- The network with marks in the place of its values, the first of them 1. -/
def netMarks (N : Net) : Net where
  ends := smarks 1 N.ends
  ids := marks (kAt 1 N.ends N.ends.length) N.ids.length
  inputs := marks (kAt 1 N.ends N.ends.length + N.ids.length) N.inputs.length
/-- The mark behind the last one. -/
def netLast (N : Net) : Int := kAt 1 N.ends N.ends.length + N.ids.length + N.inputs.length

end Go.Proofs.YtbddjejpacaglaaDoor

/- heldNetwork finds the marks that markNetwork leaves. -/
namespace Go.Proofs.YtbddjejpacaglaaDoor
open Go.RowKit
end Go.Proofs.YtbddjejpacaglaaDoor

/- append onto a slice of the call's own, of a slice whatever its address: as a law for the walk and for regions that draw their order. -/
namespace Go.Proofs.YtbddjejpacaglaaDoor
open Go.RowKit

theorem run_append_owned_nil {P : Program} {w : World} (base : Nat) (t ty e : TypeId) (i : TypeInfo) (size : Nat) (ht : P.underlying t = some (.slice e)) (hi : P.info? e = some i)
    (v : Value) (n c : Nat) (xs : List Value) (hown : w.ownsRow base e size v n xs) :
    (Builtin.append_ #[t, t] ty #[v, .slice none 0 c]).run P w = .ok v w := by
  rcases hown.2 with ⟨rfl, rfl⟩ | ⟨g, cap, cur, rfl, _, _, hnc, _⟩
  · simp [Builtin.append_, run_underlying ht, sizeOf, typeInfo, hi, Builtin.lenOf, Builtin.firstCells]
  · simp [Builtin.append_, run_underlying ht, sizeOf, typeInfo, hi, Builtin.lenOf, Builtin.firstCells, hnc, storeCells]

/-- What is appended: m elements of k cells each behind the address, if there is one. -/
def SrcAt (w : World) (ao : Option Addr) (m k : Nat) (news : List Value) : Prop :=
  news.length = m * k ∧ (ao = none → m = 0) ∧ (∀ ad, ao = some ad → ∀ j u, news[j]? = some u → w.cell? (ad.add j) = some u) ∧ ∀ u ∈ news, u.oneCell' = true

/-- What the call leaves. -/
def Grew (w w' : World) (base : Nat) (e : TypeId) (size : Nat) (v v' : Value) (n : Nat) (xs : List Value) : Prop :=
  w'.ownsRow base e size v' n xs ∧ w.grownBy w' v.ownBlock ∧ w.heap.size ≤ w'.heap.size

theorem run_app {P : Program} (w : World) (base : Nat) (t ty e : TypeId) (i : TypeInfo) (z : Value) (size bytes : Nat) (ht : P.underlying t = some (.slice e)) (hi : P.info? e = some i) (hz : i.zero = some z)
    (hsize : i.size = size) (hby : i.bytes = bytes) (hzs : z.cells.size = size) (hsz : 0 < size)
    (v : Value) (n : Nat) (xs : List Value) (hown : w.ownsRow base e size v n xs)
    (ao : Option Addr) (m c : Nat) (news : List Value) (hsrc : SrcAt w ao m size news)
    (h63 : n + m ≤ maxLen) (hbytes : (n + m) * bytes ≤ 140737488355328) (hbase : base ≤ w.heap.size) :
    ∃ v' w', (Builtin.append_ #[t, t] ty #[v, .slice ao m c]).run P w = .ok v' w' ∧ Grew w w' base e size v v' (n + m) (xs ++ news) := by
  obtain ⟨hl, hnone, hnews, h1⟩ := hsrc
  cases ao with
  | some ad =>
    obtain ⟨v', w', hr, h2, h3, _⟩ := run_append_own (P := P) w base t ty e i z size bytes ht hi hz hsize hby hzs hsz v n xs hown ad m c news hl (hnews ad rfl) h1 h63 hbytes hbase
    exact ⟨v', w', hr, h2, h3, h3.size⟩
  | none =>
    obtain rfl := hnone rfl
    have hn : news = [] := List.eq_nil_of_length_eq_zero (by simpa using hl)
    subst hn
    exact ⟨v, w, run_append_owned_nil base t ty e i size ht hi v n c xs hown, by simpa using hown, World.grownBy.refl _ _, Nat.le_refl _⟩

theorem wp_app {P : Program} {w : World} {o : Oper} {a : Act} {K : Act → World → Prop} {Q : Exit → Act → World → Prop} (s x : Operand) (t : TypeId)
    (ho : o.op = .call { callee := .builtin .append, args := #[s, x], argTypes := #[t, t] })
    (base : Nat) (e : TypeId) (i : TypeInfo) (z : Value) (size bytes : Nat) (ht : P.underlying t = some (.slice e)) (hi : P.info? e = some i) (hz : i.zero = some z)
    (hsize : i.size = size) (hby : i.bytes = bytes) (hzs : z.cells.size = size) (hsz : 0 < size)
    (v : Value) (n : Nat) (xs : List Value) (hs : a.eval s = v) (hown : w.ownsRow base e size v n xs)
    (ao : Option Addr) (m c : Nat) (news : List Value) (hx : a.eval x = .slice ao m c) (hsrc : SrcAt w ao m size news)
    (h63 : n + m ≤ maxLen) (hbytes : (n + m) * bytes ≤ 140737488355328) (hbase : base ≤ w.heap.size)
    (h : ∀ v' w', Grew w w' base e size v v' (n + m) (xs ++ news) → K (a.put o.dst v') w') : o.wp P a w K Q := by
  obtain ⟨v', w', hr, h2⟩ := run_app (P := P) w base t o.type e i z size bytes ht hi hz hsize hby hzs hsz v n xs hown ao m c news hsrc h63 hbytes hbase
  unfold Oper.wp execOp
  simp only [ho, resolve, invoke, builtin, Sem.run_bind, Sem.run_pure, Result.andThen_ok, List.map_toArray, List.map_cons, List.map_nil, hs, hx, hr]
  exact h v' w' h2

/-- For the walk. -/
theorem wpList_app {P : Program} {w : World} {ops : Array Oper} {rest : List Oper} {o : Oper} {a : Act} {Q : Exit → Act → World → Prop} (hgd : o.guard = none) (s x : Operand) (t : TypeId)
    (ho : o.op = .call { callee := .builtin .append, args := #[s, x], argTypes := #[t, t] })
    (base : Nat) (e : TypeId) (i : TypeInfo) (z : Value) (size bytes : Nat) (ht : P.underlying t = some (.slice e)) (hi : P.info? e = some i) (hz : i.zero = some z)
    (hsize : i.size = size) (hby : i.bytes = bytes) (hzs : z.cells.size = size) (hsz : 0 < size)
    (v : Value) (n : Nat) (xs : List Value) (hs : a.eval s = v) (hown : w.ownsRow base e size v n xs)
    (ao : Option Addr) (m c : Nat) (news : List Value) (hx : a.eval x = .slice ao m c) (hsrc : SrcAt w ao m size news)
    (h63 : n + m ≤ maxLen) (hbytes : (n + m) * bytes ≤ 140737488355328) (hbase : base ≤ w.heap.size)
    (h : ∀ v' w', Grew w w' base e size v v' (n + m) (xs ++ news) → wpList P ops Q rest (a.put o.dst v') w') : wpList P ops Q (o :: rest) a w :=
  wpList_plain hgd fun _ hK => wp_app s x t ho base e i z size bytes ht hi hz hsize hby hzs hsz v n xs hs hown ao m c news hx hsrc h63 hbytes hbase fun v' w' h2 => hK _ _ (h v' w' h2)

/-- For a region that draws its order. -/
theorem step_app {P : Program} {w : World} {ops : Array Oper} {o : Oper} {a : Act} {K : Act → World → Prop} {Q : Exit → Act → World → Prop} {E : Prop} (hgd : o.guard = none) (s x : Operand) (t : TypeId)
    (ho : o.op = .call { callee := .builtin .append, args := #[s, x], argTypes := #[t, t] })
    (base : Nat) (e : TypeId) (i : TypeInfo) (z : Value) (size bytes : Nat) (ht : P.underlying t = some (.slice e)) (hi : P.info? e = some i) (hz : i.zero = some z)
    (hsize : i.size = size) (hby : i.bytes = bytes) (hzs : z.cells.size = size) (hsz : 0 < size)
    (v : Value) (n : Nat) (xs : List Value) (hs : a.eval s = v) (hown : w.ownsRow base e size v n xs)
    (ao : Option Addr) (m c : Nat) (news : List Value) (hx : a.eval x = .slice ao m c) (hsrc : SrcAt w ao m size news)
    (h63 : n + m ≤ maxLen) (hbytes : (n + m) * bytes ≤ 140737488355328) (hbase : base ≤ w.heap.size)
    (h : ∀ v' w', Grew w w' base e size v v' (n + m) (xs ++ news) → K (a.put o.dst v') w') : if Region.wanted o (yielded ops a.tmps) = true then Oper.wp P o a w K Q else E := by
  have hw : Region.wanted o (yielded ops a.tmps) = true := by simp [Region.wanted, hgd]
  rw [if_pos hw]
  exact wp_app s x t ho base e i z size bytes ht hi hz hsize hby hzs hsz v n xs hs hown ao m c news hx hsrc h63 hbytes hbase h

theorem Grew.ext {W w w' : World} {B n k t : Nat} {v v' : Value} {xs : List Value} (h : Grew w w' B t k v v' n xs) (he : Ext W w) (hB : ∀ b, v.ownBlock = some b → W.heap.size ≤ b) : Ext W w' :=
  he.grown h.2.1 he.size hB

theorem add_plain (b o j : Nat) : (⟨b, o, none⟩ : Addr).add j = ⟨b, o + j, none⟩ := Addr.add_lit _ _ _

def intCells (l : List Int) : List Value := l.map (.int .i64)
theorem intCells_get (l : List Int) (i : Nat) (h : i < l.length) : (intCells l)[i]? = some (.int .i64 (gi l i)) := by simp [intCells, gi, h]
def endCells (l : List (Int × Int)) : List Value := (List.range (l.length * 2)).map (ecell l)
theorem endCells_get (l : List (Int × Int)) (i : Nat) (h : i < l.length * 2) : (endCells l)[i]? = some (ecell l i) := by simp [endCells, h]

theorem IntSl.src {w w' : World} {a : Option Addr} {n c : Nat} {l : List Int} (h : IntSl w (.slice a n c) l) (he : ∀ p v, w.cell? p = some v → w'.cell? p = some v) : n = l.length ∧ SrcAt w' a l.length 1 (intCells l) := by
  obtain ⟨a', b, o, c', h1, h2, h3, h4, h5⟩ := h
  obtain ⟨rfl, rfl, rfl⟩ : a = a' ∧ n = l.length ∧ c = c' := by simpa using h1
  refine ⟨rfl, by simp [intCells], fun e => ?_, fun ad e j u hu => ?_, fun u hu => ?_⟩
  · by_cases h0 : 0 < l.length
    · rw [h2 h0] at e; cases e
    · omega
  · have hj : j < l.length := by have := (List.getElem?_eq_some_iff.1 hu).1; simpa [intCells] using this
    rw [intCells_get l j hj] at hu
    obtain rfl := Option.some.inj hu
    rw [h2 (by omega)] at e
    obtain rfl := Option.some.inj e
    obtain ⟨x, hx, rfl, _⟩ := h5 j hj
    rw [add_plain]
    exact he _ _ hx
  · obtain ⟨y, _, rfl⟩ := List.mem_map.1 hu
    rfl

theorem EndSl.src {w w' : World} {a : Option Addr} {n c : Nat} {l : List (Int × Int)} (h : EndSl w (.slice a n c) l) (he : ∀ p v, w.cell? p = some v → w'.cell? p = some v) : n = l.length ∧ SrcAt w' a l.length 2 (endCells l) := by
  obtain ⟨a', b, o, c', h1, h2, h3, h4, h5⟩ := h
  obtain ⟨rfl, rfl, rfl⟩ : a = a' ∧ n = l.length ∧ c = c' := by simpa using h1
  refine ⟨rfl, by simp [endCells], fun e => ?_, fun ad e j u hu => ?_, fun u hu => ?_⟩
  · by_cases h0 : 0 < l.length
    · rw [h2 h0] at e; cases e
    · omega
  · have hj : j < l.length * 2 := by have := (List.getElem?_eq_some_iff.1 hu).1; simpa [endCells] using this
    rw [endCells_get l j hj] at hu
    obtain rfl := Option.some.inj hu
    rw [h2 (by omega)] at e
    obtain rfl := Option.some.inj e
    obtain ⟨q1, q2, _⟩ := h5 (j / 2) (by omega)
    rw [add_plain]
    simp only [ecell]
    split
    · rw [show o + j = o + j / 2 * 2 by omega]; exact he _ _ q1
    · rw [show o + j = o + j / 2 * 2 + 1 by omega]; exact he _ _ q2
  · obtain ⟨y, _, rfl⟩ := List.mem_map.1 hu
    simp only [ecell]
    split <;> rfl

end Go.Proofs.YtbddjejpacaglaaDoor

/- The contract of l1Own: a copy in memory of its own. -/
namespace Go.Proofs.YtbddjejpacaglaaDoor
open Go.RowKit

theorem own_of_cells {w : World} {B : Nat} {v : Value} {l : List Int} (h : w.ownsRow B 3 1 v l.length (intCells l)) (hr : ∀ i, i < l.length → inI64 (gi l i)) :
    ∃ bs, OwnI w v l bs ∧ bs.Nodup ∧ ∀ b ∈ bs, B ≤ b := own_of_row h (fun i hi => intCells_get l i hi) hr
theorem OwnSl.slice {w : World} {v : Value} {n k t : Nat} {f : Nat → Value} {bs : List Nat} (h : OwnSl w v n k t f bs) : ∃ a c, v = .slice a n c := by
  obtain ⟨c, h1, h2, h3⟩ := h
  rcases h3 with ⟨rfl, rfl, a, _, rfl⟩ | ⟨b, m, g, rfl, rfl, _⟩
  · exact ⟨a, c, rfl⟩
  · exact ⟨_, c, rfl⟩

set_option maxHeartbeats 800000 in
set_option maxRecDepth 100000 in
theorem l1Own_any {w : World} {v : Value} {l : List Int} (h : IntSl w v l) (hs : l.length ≤ 1048576) :
    Calls Tryd.prog 37 #[v] w fun e w' => ∃ a c bs, e = .returned (.slice a l.length c) ∧ Ext w w' ∧ OwnI w' (.slice a l.length c) l bs ∧ Fresh w bs := by
  have HI := Lib.hid h
  have HG := Lib.hid h.range
  obtain ⟨a, b, o, c, rfl, ha, hl, hm, hc⟩ := h
  unfold maxLen at hm
  obtain ⟨i0, hi, hz0, hz1, hz2⟩ := info_parts Tryd.info3
  have I0 := Lib.hid (And.intro hi (And.intro hz0 (And.intro hz1 hz2)))
  clear hi hz0 hz1 hz2 hc ha
  go_enter Tryd.func37, Tryd.ntmps37
  go_wp2_with (at_builtin; refine wpList_app rfl _ _ 31 rfl w.heap.size 3 i0 (.int .i64 0) 1 8 Tryd.underlying31 I0.out.1 I0.out.2.1 I0.out.2.2.1 I0.out.2.2.2 rfl (by decide) _ 0 [] rfl (World.ownsRow_lit w #[] 0 (Nat.le_refl _) (by decide) rfl) a l.length c (intCells l) rfl ((HI.out.src fun p v hp => ((Ext.rfl' w).alloc' _).cell' hp).2) ?c1 ?c2 ?c3 ?_)
  case c1 => unfold maxLen; omega
  case c2 => omega
  case c3 => simp
  intro v' w1 hg
  have hx : Ext w w1 := hg.ext ((Ext.rfl' w).alloc' _) (by intro b hb; simp [Value.ownBlock] at hb; omega)
  obtain ⟨bs, ho, hnd, hge⟩ := own_of_cells (l := l) (by simpa using hg.1) HG.out
  clear hg
  obtain ⟨a', c', rfl⟩ := ho.1.slice
  have H := Lib.hid (And.intro hx (And.intro ho (And.intro hnd hge)))
  clear hx ho hnd hge
  go_wp2
  go_ret
  exact ⟨a', c', bs, rfl, H.out.1, H.out.2.1, H.out.2.2.1, H.out.2.2.2⟩
end Go.Proofs.YtbddjejpacaglaaDoor

/- A list of rows that grows by append, each row in memory of its own; blocks of unlike types are apart. -/
namespace Go.Proofs.YtbddjejpacaglaaDoor
open Go.RowKit

/-- The blocks hold cells of type t. -/
def Typed (w : World) (t : Nat) (bs : List Nat) : Prop := ∀ b ∈ bs, ∃ cur, w.heap[b]? = some (.cells cur t (0, 0))

theorem Typed.apart {w : World} {t t' : Nat} {bs cs : List Nat} (h : Typed w t bs) (k : Typed w t' cs) (hne : t ≠ t') : ∀ b ∈ bs, b ∉ cs := by
  intro b hb hc
  obtain ⟨c1, e1⟩ := h b hb
  obtain ⟨c2, e2⟩ := k b hc
  rw [e1] at e2
  simp only [Option.some.injEq, Obj.cells.injEq] at e2
  exact hne e2.2.1
theorem Typed.one {w : World} {b t n : Nat} {f : Nat → Value} (h : w.rowIs b t n f) : Typed w t [b] := by
  intro x hx
  obtain rfl := List.mem_singleton.1 hx
  obtain ⟨cur, e, _⟩ := h
  exact ⟨cur, e⟩
theorem OwnSl.typed {w : World} {v : Value} {n k t : Nat} {f : Nat → Value} {bs : List Nat} (h : OwnSl w v n k t f bs) : Typed w t bs := by
  obtain ⟨c, h1, h2, h3⟩ := h
  rcases h3 with ⟨_, rfl, _⟩ | ⟨b', m, g, rfl, hv, hm, hr, hf⟩
  · intro b hb; simp at hb
  · exact Typed.one hr
theorem owns_typed {w : World} {B t k n : Nat} {v : Value} {xs : List Value} (h : w.ownsRow B t k v n xs) : ∀ b, v.ownBlock = some b → ∃ cur, w.heap[b]? = some (.cells cur t (0, 0)) := by
  intro b hb
  rcases h.2 with ⟨rfl, _⟩ | ⟨g, cap, cur, rfl, _, hg, _⟩
  · simp [Value.ownBlock] at hb
  · simp [Value.ownBlock] at hb
    subst hb
    exact ⟨cur, hg⟩
theorem type_ne {w : World} {b b' t t' : Nat} {c c' : Array Value} (h : w.heap[b]? = some (.cells c t (0, 0))) (h' : w.heap[b']? = some (.cells c' t' (0, 0))) (hne : t ≠ t') : b ≠ b' := by
  rintro rfl
  rw [h] at h'
  simp only [Option.some.injEq, Obj.cells.injEq] at h'
  exact hne h'.2.1

/-- What lies in blocks of another type stays where a row grows. -/
theorem kept_grown {w w' : World} {B t k n t' : Nat} {v : Value} {xs : List Value} {bs : List Nat} (ho : w.ownsRow B t k v n xs) (hg : w.grownBy w' v.ownBlock) (ht : Typed w t' bs) (hne : t' ≠ t) : ∀ b ∈ bs, w'.heap[b]? = w.heap[b]? := by
  intro b hb
  obtain ⟨cur, hc⟩ := ht b hb
  have hlt : b < w.heap.size := (Array.getElem?_eq_some_iff.1 hc).1
  refine hg.block b hlt fun e => ?_
  obtain ⟨cur', hc'⟩ := owns_typed ho b e.symm
  exact type_ne hc hc' hne rfl
/-- .. and where a cell of a block of another type is stored. -/
theorem kept_store {w : World} {p : Addr} {u : Value} {t t' : Nat} {c : Array Value} {bs : List Nat} (hp : w.heap[p.block]? = some (.cells c t (0, 0))) (ht : Typed w t' bs) (hne : t' ≠ t) : ∀ b ∈ bs, (w.setCell p u).heap[b]? = w.heap[b]? := by
  intro b hb
  obtain ⟨cur, hc⟩ := ht b hb
  exact Below.heap_setCell _ _ _ _ (type_ne hc hp hne)
theorem rowIs.blk {w : World} {b t n : Nat} {f : Nat → Value} (h : w.rowIs b t n f) : ∃ cur, w.heap[b]? = some (.cells cur t (0, 0)) := by
  obtain ⟨cur, e, _⟩ := h
  exact ⟨cur, e⟩

theorem map_range_succ (R : Nat → Value) (k : Nat) : (List.range k).map R ++ [R k] = (List.range (k + 1)).map R := by simp [List.range_succ]

end Go.Proofs.YtbddjejpacaglaaDoor
