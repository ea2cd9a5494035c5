/- Several texts in one: Kit, Sz, To, To2, Own, To3, Eq, Eq2, Eq3, In, Ids, Ids2. -/
import Derived.Test.YtbddjejpacaglaaDoorProg
import Derived.WalkKit
import Derived.Lib.Hide
import Derived.WalkSpells
import Derived.WalkLawsBesides
import Derived.Deep.OwnRows
import Derived.Deep.LoopGhost
import Derived.Deep.Light
import Derived.Deep.QuietTactic
import Derived.BigQuiet
import Derived.Handy
import Derived.Deep.RegionHeld3
/- What it means that a value reads in a world as a list of integers, of ends, of lists of ends, and as a network; and that such readings last when nothing that was there is changed. -/
namespace Go.Proofs.YtbddjejpacaglaaDoor
open Go.RowKit

/-- Nothing that was there has changed. -/
abbrev Ext (w w' : World) : Prop := w.Since w.heap.size w'

theorem Ext.rfl' (w : World) : Ext w w := World.Since.refl _ _
theorem since_mono {B B' : Nat} {w w' : World} (h : w.Since B w') (hB : B' ≤ B) : w.Since B' w' := ⟨h.os, h.tape, h.output, h.size, fun k hk => h.block k (by omega)⟩
theorem Ext.trans' {a b c : World} (h : Ext a b) (k : Ext b c) : Ext a c := h.trans (since_mono k h.size)
theorem Ext.alloc' {a b : World} (h : Ext a b) (o : Obj) : Ext a (b.alloc o) := h.alloc h.size o
theorem Ext.drew' {a b : World} (h : Ext a b) : Ext a b.drew := h.drew
theorem Ext.store {a b : World} (h : Ext a b) {p : Addr} (hp : a.heap.size ≤ p.block) (v : Value) : Ext a (b.setCell p v) := h.setCell hp v
theorem Ext.cell' {w w' : World} (h : Ext w w') {p : Addr} {v : Value} (hc : w.cell? p = some v) : w'.cell? p = some v := by
  rw [h.cell (World.block_lt_of_cell? _ _ hc)]; exact hc

theorem row_ext {w w' : World} {b t n : Nat} {f : Nat → Value} (h : w.rowIs b t n f) (he : Ext w w') : w'.rowIs b t n f := h.of_block (he.block b h.lt)
/-- What a store of two cells needs. -/
theorem row_two {w : World} {b t n i : Nat} {f : Nat → Value} (h : w.rowIs b t n f) (hi : i + 1 < n) :
    w.cell? ⟨b, i, none⟩ = some (f i) ∧ w.frozen? ⟨b, i, none⟩ = false ∧ (∀ v, (w.setCell ⟨b, i, none⟩ v).cell? ⟨b, i + 1, none⟩ = some (f (i + 1))) ∧ (∀ v, (w.setCell ⟨b, i, none⟩ v).frozen? ⟨b, i + 1, none⟩ = false) :=
  ⟨h.cell (by omega), h.frozen _, fun v => by have := (h.set i v).cell hi; simpa using this, fun v => (h.set i v).frozen _⟩

/-- The value is a slice of n elements of one cell each, and element i is x with R i x. -/
def SlOf (w : World) (v : Value) (n : Nat) (R : Nat → Value → Prop) : Prop :=
  ∃ (a : Option Addr) (b o c : Nat), v = .slice a n c ∧ (0 < n → a = some ⟨b, o, none⟩) ∧ n ≤ c ∧ c ≤ maxLen ∧
    ∀ i, i < n → ∃ x, w.cell? ⟨b, o + i, none⟩ = some x ∧ R i x

theorem SlOf.mono {w w' : World} {v : Value} {n : Nat} {R R' : Nat → Value → Prop} (h : SlOf w v n R) (he : Ext w w') (hR : ∀ i x, i < n → R i x → R' i x) : SlOf w' v n R' := by
  obtain ⟨a, b, o, c, h1, h2, h3, h4, h5⟩ := h
  exact ⟨a, b, o, c, h1, h2, h3, h4, fun i hi => let ⟨x, hx, hr⟩ := h5 i hi; ⟨x, he.cell' hx, hR i x hi hr⟩⟩

/-- Element i of a list of numbers, of ends (its node, its port), of lists. -/
def gi (l : List Int) (i : Nat) : Int := l.getD i 0
def gn (l : List (Int × Int)) (i : Nat) : Int := (l.getD i (0, 0)).1
def gp (l : List (Int × Int)) (i : Nat) : Int := (l.getD i (0, 0)).2
def gr {α : Type} (l : List (List α)) (i : Nat) : List α := l.getD i []

def inI64 (x : Int) : Prop := -9223372036854775808 ≤ x ∧ x ≤ 9223372036854775807

def IntSl (w : World) (v : Value) (l : List Int) : Prop := SlOf w v l.length fun i x => x = .int .i64 (gi l i) ∧ inI64 (gi l i)

theorem IntSl.ext {w w' : World} {v : Value} {l : List Int} (h : IntSl w v l) (he : Ext w w') : IntSl w' v l := SlOf.mono h he fun _ _ _ hr => hr

/-- A slice of ends: two cells each. -/
def EndSl (w : World) (v : Value) (l : List (Int × Int)) : Prop :=
  ∃ (a : Option Addr) (b o c : Nat), v = .slice a l.length c ∧ (0 < l.length → a = some ⟨b, o, none⟩) ∧ l.length ≤ c ∧ c ≤ maxLen ∧
    ∀ i, i < l.length → w.cell? ⟨b, o + i * 2, none⟩ = some (.int .i64 (gn l i)) ∧ w.cell? ⟨b, o + i * 2 + 1, none⟩ = some (.int .i64 (gp l i)) ∧
      inI64 (gn l i) ∧ inI64 (gp l i)

theorem EndSl.ext {w w' : World} {v : Value} {l : List (Int × Int)} (h : EndSl w v l) (he : Ext w w') : EndSl w' v l := by
  obtain ⟨a, b, o, c, h1, h2, h3, h4, h5⟩ := h
  exact ⟨a, b, o, c, h1, h2, h3, h4, fun i hi => let ⟨p, q, r⟩ := h5 i hi; ⟨he.cell' p, he.cell' q, r⟩⟩

def EndSS (w : World) (v : Value) (l : List (List (Int × Int))) : Prop := SlOf w v l.length fun i x => EndSl w x (gr l i)

theorem EndSS.ext {w w' : World} {v : Value} {l : List (List (Int × Int))} (h : EndSS w v l) (he : Ext w w') : EndSS w' v l := SlOf.mono h he fun _ _ _ hr => hr.ext he

def IntSS (w : World) (v : Value) (l : List (List Int)) : Prop := SlOf w v l.length fun i x => IntSl w x (gr l i)

theorem IntSS.ext {w w' : World} {v : Value} {l : List (List Int)} (h : IntSS w v l) (he : Ext w w') : IntSS w' v l := SlOf.mono h he fun _ _ _ hr => hr.ext he

/-- A network as plain data. -/
structure Net where
  ends : List (List (Int × Int))
  ids : List Int
  inputs : List Int
deriving DecidableEq

def NetAt (w : World) (v : Value) (N : Net) : Prop :=
  ∃ v0 v1 v2, v = .agg #[v0, v1, v2] ∧ EndSS w v0 N.ends ∧ IntSl w v1 N.ids ∧ IntSl w v2 N.inputs

theorem NetAt.ext {w w' : World} {v : Value} {N : Net} (h : NetAt w v N) (he : Ext w w') : NetAt w' v N := by
  obtain ⟨v0, v1, v2, h1, h2, h3, h4⟩ := h
  exact ⟨v0, v1, v2, h1, h2.ext he, h3.ext he, h4.ext he⟩

/-- How many values a network holds. -/
def Net.small (N : Net) : Prop := N.ends.length ≤ 1048576 ∧ (∀ i, (gr N.ends i).length ≤ 1048576) ∧ N.ids.length ≤ 1048576 ∧ N.inputs.length ≤ 1048576

end Go.Proofs.YtbddjejpacaglaaDoor

/- Contracts of the functions that count sizes: where the count is not negative, all lengths are bounded. -/
namespace Go.Proofs.YtbddjejpacaglaaDoor
open Go.RowKit
end Go.Proofs.YtbddjejpacaglaaDoor

/- Contracts of the functions that copy arguments: the copy reads as the original and lies in new blocks. -/
namespace Go.Proofs.YtbddjejpacaglaaDoor
open Go.RowKit

theorem Tryd.info3 : (Tryd.prog.info? 3).map (fun i => (i.zero, i.size, i.bytes)) = some (some (.int .i64 0), 1, 8) := by kernel_rfl
/-- k of the n numbers of l, the others are zero. -/
def copied (l : List Int) (k : Nat) (i : Nat) : Value := if i < k then .int .i64 (gi l i) else .int .i64 0

theorem copied_step {w : World} {b : Nat} {l : List Int} {k n : Nat} (h : w.rowIs b 3 n (copied l k)) : (w.setCell ⟨b, k, none⟩ (.int .i64 (gi l k))).rowIs b 3 n (copied l (k + 1)) :=
  (h.set k _).congr fun i _ => by
    simp only [copied]
    by_cases e : i = k
    · subst e; simp
    · rw [if_neg e]
      by_cases hlt : i < k
      · rw [if_pos hlt, if_pos (by omega)]
      · rw [if_neg hlt, if_neg (by omega)]

set_option maxHeartbeats 400000 in
set_option maxRecDepth 100000 in
theorem toIntS_any {w : World} {v : Value} {l : List Int} (h : IntSl w v l) (hs : l.length ≤ 1048576) :
    Calls Tryd.prog 17 #[v] w fun e w' => e = .returned (.slice (some ⟨w.heap.size, 0, none⟩) l.length l.length) ∧ Ext w w' ∧ w'.heap.size = w.heap.size + 1 ∧ w'.rowIs w.heap.size 3 l.length (copied l l.length) := by
  obtain ⟨a, b, o, c, rfl, ha, h3, h4, hc⟩ := h
  unfold maxLen at h4
  have Hc := Lib.hid hc
  have Ha := Lib.hid ha
  clear hc ha
  have hmk := run_make_row' (P := Tryd.prog) 31 3 (.int .i64 0) 8 Tryd.underlying31 Tryd.info3 rfl .i64 .i64 l.length (by omega) (by omega)
  go_enter Tryd.func17, Tryd.ntmps17
  go_wp2
  clear hmk
  go_loopg [4] l.length (fun g i wr => ∃ k : Nat, k ≤ l.length ∧ g = l.length - k ∧ i = .int .i64 k ∧ Hid (Ext w wr ∧ wr.heap.size = w.heap.size + 1 ∧ wr.rowIs w.heap.size 3 l.length (copied l k)))
  case atStart => exact ⟨0, Nat.zero_le _, rfl, rfl, (Ext.rfl' w).alloc' _, by simp, (World.rowIs_made w _ _ _).congr fun i _ => by simp [copied]⟩
  case round =>
    obtain ⟨k, hk, rfl, rfl, Hr⟩ := hrel
    by_cases hlt : k < l.length
    · obtain ⟨x, hc, rfl, _⟩ := Hc.out k hlt
      obtain rfl := Ha.out (by omega)
      obtain ⟨he, hsz, hrow⟩ := Hr.out
      have hc' := he.cell' hc
      have hst := hrow.cell hlt
      have hfr := hrow.frozen k
      have hnext := Lib.hid (copied_step hrow)
      clear hrow hc
      go_wp2
      go_roundg (l.length - (k + 1))
      case measure => omega
      case rel => exact ⟨k + 1, by omega, rfl, by go_num, he.store (Nat.le_refl _) _, by simp [hsz], hnext.out⟩
    · go_wp2
      go_ret
      obtain rfl : k = l.length := by omega
      obtain ⟨he, hsz, hrow⟩ := Hr.out
      exact ⟨rfl, he, hsz, hrow⟩
end Go.Proofs.YtbddjejpacaglaaDoor

/- Contracts of the functions that copy arguments: ends. -/
namespace Go.Proofs.YtbddjejpacaglaaDoor
open Go.RowKit
/-- Cell j of a row of ends, k of which are copied. -/
def ecell (l : List (Int × Int)) (j : Nat) : Value := .int .i64 (if j % 2 = 0 then gn l (j / 2) else gp l (j / 2))
def ecopied (l : List (Int × Int)) (k : Nat) (j : Nat) : Value := if j < k * 2 then ecell l j else .int .i64 0

end Go.Proofs.YtbddjejpacaglaaDoor

/- What it means that a value lies in memory of its own: blocks that are listed, each once. -/
namespace Go.Proofs.YtbddjejpacaglaaDoor
open Go.RowKit

/-- A slice of n elements of k cells of type t in at most one block, which is listed in bs. -/
def OwnSl (w : World) (v : Value) (n k t : Nat) (f : Nat → Value) (bs : List Nat) : Prop :=
  ∃ c, n ≤ c ∧ c ≤ maxLen ∧ ((n = 0 ∧ bs = [] ∧ ∃ a, (a = none ∧ c = 0) ∧ v = .slice a 0 c) ∨
    ∃ b m g, bs = [b] ∧ v = .slice (some ⟨b, 0, none⟩) n c ∧ (n * k ≤ m ∧ m = c * k) ∧ w.rowIs b t m g ∧ ∀ i, i < n * k → g i = f i)

theorem OwnSl.keep {w w' : World} {v : Value} {n k t : Nat} {f : Nat → Value} {bs : List Nat} (h : OwnSl w v n k t f bs) (he : ∀ b ∈ bs, w'.heap[b]? = w.heap[b]?) : OwnSl w' v n k t f bs := by
  obtain ⟨c, h1, h2, h3⟩ := h
  refine ⟨c, h1, h2, ?_⟩
  rcases h3 with h3 | ⟨b, m, g, rfl, hv, hm, hr, hf⟩
  · exact .inl h3
  · exact .inr ⟨b, m, g, rfl, hv, hm, hr.of_block (he b (by simp)), hf⟩

theorem OwnSl.lt {w : World} {v : Value} {n k t : Nat} {f : Nat → Value} {bs : List Nat} (h : OwnSl w v n k t f bs) : ∀ b ∈ bs, b < w.heap.size := by
  obtain ⟨c, h1, h2, h3⟩ := h
  intro b hb
  rcases h3 with ⟨_, rfl, _⟩ | ⟨b', m, g, rfl, hv, hm, hr, hf⟩
  · simp at hb
  · simp at hb; subst hb; exact hr.lt

theorem OwnSl.nodup {w : World} {v : Value} {n k t : Nat} {f : Nat → Value} {bs : List Nat} (h : OwnSl w v n k t f bs) : bs.Nodup := by
  obtain ⟨c, h1, h2, h3⟩ := h
  rcases h3 with ⟨_, rfl, _⟩ | ⟨b', m, g, rfl, hv, hm, hr, hf⟩ <;> simp

def OwnI (w : World) (v : Value) (l : List Int) (bs : List Nat) : Prop := OwnSl w v l.length 1 3 (fun i => .int .i64 (gi l i)) bs ∧ ∀ i, i < l.length → inI64 (gi l i)
theorem OwnI.keep {w w' : World} {v : Value} {l : List Int} {bs : List Nat} (h : OwnI w v l bs) (he : ∀ b ∈ bs, w'.heap[b]? = w.heap[b]?) : OwnI w' v l bs := ⟨h.1.keep he, h.2⟩
theorem OwnI.ext {w w' : World} {v : Value} {l : List Int} {bs : List Nat} (h : OwnI w v l bs) (he : Ext w w') : OwnI w' v l bs := h.keep fun b hb => he.block b (h.1.lt b hb)
theorem OwnI.read {w : World} {v : Value} {l : List Int} {bs : List Nat} (h : OwnI w v l bs) : IntSl w v l := by
  obtain ⟨⟨c, h1, h2, h3⟩, h4⟩ := h
  rcases h3 with ⟨hn, rfl, a, -, rfl⟩ | ⟨b, m, g, rfl, rfl, hm, hr, hf⟩
  · exact ⟨a, 0, 0, c, by rw [hn], fun h => absurd h (by omega), by omega, h2, fun i hi => absurd hi (by omega)⟩
  · refine ⟨_, b, 0, c, rfl, fun _ => rfl, h1, h2, fun i hi => ⟨_, ?_, rfl, h4 i hi⟩⟩
    rw [Nat.zero_add, hr.cell (by omega), hf i (by omega)]
/-- New blocks, each once. -/
def Fresh (w : World) (bs : List Nat) : Prop := bs.Nodup ∧ ∀ b ∈ bs, w.heap.size ≤ b
theorem Fresh.nil (w : World) : Fresh w [] := ⟨List.nodup_nil, by simp⟩
theorem Fresh.of {w w' : World} {bs : List Nat} (h : Fresh w' bs) (he : w.heap.size ≤ w'.heap.size) : Fresh w bs := ⟨h.1, fun b hb => Nat.le_trans he (h.2 b hb)⟩
theorem Fresh.append {w w1 : World} {bs cs : List Nat} (h : Fresh w bs) (hlt : ∀ b ∈ bs, b < w1.heap.size) (he : w.heap.size ≤ w1.heap.size) (k : Fresh w1 cs) : Fresh w (bs ++ cs) := by
  refine ⟨List.nodup_append.2 ⟨h.1, k.1, fun a ha b hb e => ?_⟩, fun b hb => ?_⟩
  · subst e; have := hlt a ha; have := k.2 a hb; omega
  · rcases List.mem_append.1 hb with hb | hb
    · exact h.2 b hb
    · have := k.2 b hb; omega
end Go.Proofs.YtbddjejpacaglaaDoor

/- Contracts of the functions that copy arguments, with the blocks of the copy. -/
namespace Go.Proofs.YtbddjejpacaglaaDoor
open Go.RowKit

theorem IntSl.range {w : World} {v : Value} {l : List Int} (h : IntSl w v l) : ∀ i, i < l.length → inI64 (gi l i) := by
  obtain ⟨a, b, o, c, h1, h2, h3, h4, h5⟩ := h
  exact fun i hi => let ⟨x, _, hr⟩ := h5 i hi; hr.2
theorem EndSl.range {w : World} {v : Value} {l : List (Int × Int)} (h : EndSl w v l) : ∀ i, i < l.length → inI64 (gn l i) ∧ inI64 (gp l i) := by
  obtain ⟨a, b, o, c, h1, h2, h3, h4, h5⟩ := h
  exact fun i hi => (h5 i hi).2.2

theorem own_made {w : World} {n k t b : Nat} {f g : Nat → Value} (h : w.rowIs b t (n * k) g) (hn : n ≤ maxLen) (hf : ∀ i, i < n * k → g i = f i) :
    OwnSl w (.slice (some ⟨b, 0, none⟩) n n) n k t f [b] :=
  ⟨n, Nat.le_refl _, hn, .inr ⟨b, n * k, g, rfl, rfl, ⟨Nat.le_refl _, rfl⟩, h, hf⟩⟩

theorem small_max {n : Nat} (h : n ≤ 1048576) : n ≤ maxLen := by unfold maxLen; omega

theorem toIntS_own {w : World} {v : Value} {l : List Int} (h : IntSl w v l) (hs : l.length ≤ 1048576) :
    Calls Tryd.prog 17 #[v] w fun e w' => ∃ a c bs, e = .returned (.slice a l.length c) ∧ Ext w w' ∧ OwnI w' (.slice a l.length c) l bs ∧ Fresh w bs := by
  refine (toIntS_any h hs).mono fun e w' ⟨he, hx, hsz, hr⟩ => ⟨_, _, [w.heap.size], he, hx, ⟨?_, h.range⟩, by simp [Fresh]⟩
  have := own_made (k := 1) (f := fun i => .int .i64 (gi l i)) (by simpa using hr) (small_max hs) (fun i hi => by simp [copied]; omega)
  exact this

/-- A block of three cells. -/
def tri (x0 x1 x2 : Value) : Nat → Value
  | 0 => x0
  | 1 => x1
  | _ => x2
theorem row3_made (w : World) (x0 x1 x2 : Value) (t : Nat) : (w.alloc (.cells #[x0, x1, x2] t)).rowIs w.heap.size t 3 (tri x0 x1 x2) :=
  World.rowIs_alloc w #[x0, x1, x2] t _ fun i hi => by
    have h : i < 3 := hi
    match i, h with
    | 0, _ => rfl
    | 1, _ => rfl
    | 2, _ => rfl
theorem row3_facts {w : World} {b t : Nat} {x0 x1 x2 : Value} (h : w.rowIs b t 3 (tri x0 x1 x2)) :
    w.cell? ⟨b, 0, none⟩ = some x0 ∧ w.cell? ⟨b, 1, none⟩ = some x1 ∧ w.cell? ⟨b, 2, none⟩ = some x2 ∧ w.frozen? ⟨b, 0, none⟩ = false ∧ w.frozen? ⟨b, 1, none⟩ = false ∧ w.frozen? ⟨b, 2, none⟩ = false :=
  ⟨h.cell (i := 0) (by omega), h.cell (i := 1) (by omega), h.cell (i := 2) (by omega), h.frozen _, h.frozen _, h.frozen _⟩
theorem row3_set0 {w : World} {b t : Nat} {x0 x1 x2 : Value} (h : w.rowIs b t 3 (tri x0 x1 x2)) (y : Value) : (w.setCell ⟨b, 0, none⟩ y).rowIs b t 3 (tri y x1 x2) :=
  (h.set 0 y).congr fun i hi => by match i, hi with | 0, _ => rfl | 1, _ => rfl | 2, _ => rfl
theorem row3_set1 {w : World} {b t : Nat} {x0 x1 x2 : Value} (h : w.rowIs b t 3 (tri x0 x1 x2)) (y : Value) : (w.setCell ⟨b, 1, none⟩ y).rowIs b t 3 (tri x0 y x2) :=
  (h.set 1 y).congr fun i hi => by match i, hi with | 0, _ => rfl | 1, _ => rfl | 2, _ => rfl
theorem row3_set2 {w : World} {b t : Nat} {x0 x1 x2 : Value} (h : w.rowIs b t 3 (tri x0 x1 x2)) (y : Value) : (w.setCell ⟨b, 2, none⟩ y).rowIs b t 3 (tri x0 x1 y) :=
  (h.set 2 y).congr fun i hi => by match i, hi with | 0, _ => rfl | 1, _ => rfl | 2, _ => rfl

end Go.Proofs.YtbddjejpacaglaaDoor

/- Contracts of the functions that compare: the answer is whether the two lists are equal. -/
namespace Go.Proofs.YtbddjejpacaglaaDoor
open Go.RowKit

theorem ints_eq {l1 l2 : List Int} (hn : l1.length = l2.length) (h : ∀ i, i < l1.length → gi l1 i = gi l2 i) : l1 = l2 :=
  List.ext_getElem hn fun i h1 h2 => by have := h i h1; simpa [gi, h1, h2] using this
theorem ends_eq {l1 l2 : List (Int × Int)} (hn : l1.length = l2.length) (h : ∀ i, i < l1.length → gn l1 i = gn l2 i ∧ gp l1 i = gp l2 i) : l1 = l2 :=
  List.ext_getElem hn fun i h1 h2 => by
    have := h i h1
    simp [gn, gp, h1, h2] at this
    exact Prod.ext this.1 this.2
theorem rows_eq {α : Type} {l1 l2 : List (List α)} (hn : l1.length = l2.length) (h : ∀ i, i < l1.length → gr l1 i = gr l2 i) : l1 = l2 :=
  List.ext_getElem hn fun i h1 h2 => by have := h i h1; simpa [gr, h1, h2] using this

theorem ret_bool {a b : Bool} (h : a = b) : Ending.returned (.bool a) = .returned (.bool b) := by rw [h]

set_option maxHeartbeats 400000 in
set_option maxRecDepth 100000 in
theorem eqIntS_any {w : World} {v1 v2 : Value} {l1 l2 : List Int} (h1 : IntSl w v1 l1) (h2 : IntSl w v2 l2) :
    Calls Tryd.prog 19 #[v1, v2] w fun e w' => e = .returned (.bool (decide (l1 = l2))) ∧ Ext w w' := by
  obtain ⟨a1, b1, o1, c1, rfl, ha1, hl1, hm1, hc1⟩ := h1
  obtain ⟨a2, b2, o2, c2, rfl, ha2, hl2, hm2, hc2⟩ := h2
  unfold maxLen at hm1 hm2
  have Hc1 := Lib.hid hc1
  have Ha1 := Lib.hid ha1
  have Hc2 := Lib.hid hc2
  have Ha2 := Lib.hid ha2
  clear hc1 ha1 hc2 ha2
  by_cases hn : l1.length = l2.length
  · have Hn := Lib.hid hn
    have hnb : ((l1.length : Int) != (l2.length : Int)) = false := by simp; omega
    clear hn
    go_enter Tryd.func19, Tryd.ntmps19
    go_wp2
    go_loopg [5] l1.length (fun g i wr => ∃ k : Nat, k ≤ l1.length ∧ g = l1.length - k ∧ i = .int .i64 k ∧ Hid (Ext w wr ∧ ∀ j, j < k → gi l1 j = gi l2 j))
    case atStart => exact ⟨0, Nat.zero_le _, rfl, rfl, Ext.rfl' w, fun j hj => absurd hj (by omega)⟩
    case round =>
      obtain ⟨k, hk, rfl, rfl, Hr⟩ := hrel
      by_cases hlt : k < l1.length
      · have hlt2 : k < l2.length := by have := Hn.out; omega
        obtain ⟨x1, hc1, rfl, _⟩ := Hc1.out k hlt
        obtain ⟨x2, hc2, rfl, _⟩ := Hc2.out k hlt2
        obtain rfl := Ha1.out (by omega)
        obtain rfl := Ha2.out (by omega)
        have q1 := Hr.out.1.cell' hc1
        have q2 := Hr.out.1.cell' hc2
        clear hc1 hc2
        by_cases he : gi l1 k = gi l2 k
        · have heb : (gi l1 k != gi l2 k) = false := by simp [he]
          have He := Lib.hid he
          clear he
          go_wp2
          go_region_held3 (fun w' => w'.cell? ⟨b1, o1 + k, none⟩ = some (.int .i64 (gi l1 k)) ∧ w'.cell? ⟨b2, o2 + k, none⟩ = some (.int .i64 (gi l2 k))) (go_keep) (fail)
          go_wp2
          go_roundg (l1.length - (k + 1))
          case measure => omega
          case rel =>
            refine ⟨k + 1, by omega, rfl, by go_num, Hr.out.1.drew', fun j hj => ?_⟩
            by_cases e : j = k
            · subst e; exact He.out
            · exact Hr.out.2 j (by omega)
        · have heb : (gi l1 k != gi l2 k) = true := by simp [he]
          go_wp2
          go_region_held3 (fun w' => w'.cell? ⟨b1, o1 + k, none⟩ = some (.int .i64 (gi l1 k)) ∧ w'.cell? ⟨b2, o2 + k, none⟩ = some (.int .i64 (gi l2 k))) (go_keep) (fail)
          go_wp2
          go_ret
          exact ⟨ret_bool (by rw [eq_comm, decide_eq_false_iff_not]; intro e; exact he (by rw [e])), Hr.out.1.drew'⟩
      · go_wp2
        go_ret
        obtain rfl : k = l1.length := by omega
        exact ⟨ret_bool (by rw [eq_comm, decide_eq_true_iff]; exact ints_eq Hn.out Hr.out.2), Hr.out.1⟩
  · have hnb : ((l1.length : Int) != (l2.length : Int)) = true := by simp; omega
    go_enter Tryd.func19, Tryd.ntmps19
    go_wp2
    go_ret
    exact ⟨ret_bool (by rw [eq_comm, decide_eq_false_iff_not]; intro e; exact hn (by rw [e])), Ext.rfl' w⟩

end Go.Proofs.YtbddjejpacaglaaDoor

/- Contracts of the functions that compare: ends, lists of ends, networks. -/
namespace Go.Proofs.YtbddjejpacaglaaDoor
open Go.RowKit
end Go.Proofs.YtbddjejpacaglaaDoor

/- The contract of the function that compares networks. -/
namespace Go.Proofs.YtbddjejpacaglaaDoor
open Go.RowKit

theorem net_eq_iff (N1 N2 : Net) : N1 = N2 ↔ N1.ends = N2.ends ∧ N1.ids = N2.ids ∧ N1.inputs = N2.inputs := by
  cases N1; cases N2; simp

end Go.Proofs.YtbddjejpacaglaaDoor

/- Contracts of the functions that look for a number in a list or hold all of its numbers against bounds. -/
namespace Go.Proofs.YtbddjejpacaglaaDoor
open Go.RowKit

/-- Whether p holds, as a Bool that no rewriting looks into. -/
noncomputable def dec (p : Prop) : Bool := @decide p (Classical.propDecidable p)
theorem dec_true {p : Prop} (h : p) : dec p = true := @decide_eq_true p (Classical.propDecidable p) h
theorem dec_false {p : Prop} (h : ¬p) : dec p = false := @decide_eq_false p (Classical.propDecidable p) h
theorem dec_iff {p : Prop} : dec p = true ↔ p := ⟨fun h => @of_decide_eq_true p (Classical.propDecidable p) h, dec_true⟩
theorem dec_not {p : Prop} : dec p = false ↔ ¬p := ⟨fun h => @of_decide_eq_false p (Classical.propDecidable p) h, dec_false⟩
theorem dec_congr {p q : Prop} (h : p ↔ q) : dec p = dec q := by rw [propext h]
theorem ret_t {p : Prop} (h : p) : Ending.returned (.bool true) = .returned (.bool (dec p)) := by rw [dec_true h]
theorem ret_f {p : Prop} (h : ¬p) : Ending.returned (.bool false) = .returned (.bool (dec p)) := by rw [dec_false h]

theorem gi_take {l : List Int} {k j : Nat} (h : j < k) : gi (l.take k) j = gi l j := by
  simp [gi, h]
theorem IntSl.take {w : World} {a : Option Addr} {n c k : Nat} {l : List Int} (h : IntSl w (.slice a n c) l) (hk : k ≤ l.length) : IntSl w (.slice a k c) (l.take k) := by
  obtain ⟨a', b, o, c', e, h2, h3, h4, h5⟩ := h
  cases e
  have hl : (l.take k).length = k := by simp; omega
  refine ⟨a, b, o, c, by rw [hl], fun h => h2 (by omega), by omega, h4, fun i hi => ?_⟩
  obtain ⟨x, hx, hr⟩ := h5 i (by omega)
  exact ⟨x, hx, by show _ ∧ _; rw [gi_take (by omega)]; exact hr⟩

def InB (n lo hi : Int) : Prop := lo ≤ n ∧ n ≤ hi
theorem l1In_any (n lo hi : Int) (w : World) : Calls Tryd.prog 27 #[.int .i64 n, .int .i64 lo, .int .i64 hi] w fun e w' => e = .returned (.bool (dec (InB n lo hi))) ∧ w = w' := by
  by_cases h1 : lo ≤ n
  · by_cases h2 : n ≤ hi
    · have e := Lib.hid (dec_true (p := InB n lo hi) ⟨h1, h2⟩)
      go_enter Tryd.func27, Tryd.ntmps27
      go_wp2
      go_ret
      exact ⟨ret_bool e.out.symm, rfl⟩
    · have e := Lib.hid (dec_false (p := InB n lo hi) (fun h => h2 h.2))
      go_enter Tryd.func27, Tryd.ntmps27
      go_wp2
      go_ret
      exact ⟨ret_bool e.out.symm, rfl⟩
  · have e := Lib.hid (dec_false (p := InB n lo hi) (fun h => h1 h.1))
    go_enter Tryd.func27, Tryd.ntmps27
    go_wp2
    go_ret
    exact ⟨ret_bool e.out.symm, rfl⟩

def Has (l : List Int) (x : Int) : Prop := ∃ j, j < l.length ∧ gi l j = x

set_option maxRecDepth 100000 in
theorem l1Has_any {w : World} {v : Value} {l : List Int} (x : Int) (h : IntSl w v l) : Calls Tryd.prog 46 #[v, .int .i64 x] w fun e w' => e = .returned (.bool (dec (Has l x))) ∧ w = w' := by
  obtain ⟨a, b, o, c, rfl, ha, hl, hm, hc⟩ := h
  unfold maxLen at hm
  have Hc := Lib.hid hc
  have Ha := Lib.hid ha
  clear hc ha
  go_enter Tryd.func46, Tryd.ntmps46
  go_wp2
  go_loop [9] (fun i => ∃ k : Nat, k ≤ l.length ∧ i = .int .i64 k ∧ Hid (∀ j, j < k → gi l j ≠ x)) (fun i => l.length - (intOf i).toNat)
  case atStart => exact ⟨0, Nat.zero_le _, rfl, fun j hj => absurd hj (by omega)⟩
  case round =>
    obtain ⟨k, hk, rfl, Hr⟩ := hrel
    by_cases hlt : k < l.length
    · obtain ⟨y, hc, rfl, _⟩ := Hc.out k hlt
      obtain rfl := Ha.out (by omega)
      by_cases he : gi l k = x
      · have heb : (gi l k == x) = true := by simp [he]
        have He := Lib.hid he
        clear he
        go_wp2
        go_ret
        exact ⟨ret_t ⟨k, hlt, He.out⟩, rfl⟩
      · have heb : (gi l k == x) = false := by simp [he]
        have He := Lib.hid he
        clear he
        go_wp2
        go_round
        case rel =>
          refine ⟨k + 1, by omega, by go_num, fun j hj => ?_⟩
          by_cases e : j = k
          · subst e; exact He.out
          · exact Hr.out j (by omega)
        case measure => simp [intOf]; omega
    · go_wp2
      go_ret
      obtain rfl : k = l.length := by omega
      exact ⟨ret_f (fun ⟨j, h1, h2⟩ => Hr.out j h1 h2), rfl⟩

def AllIn (l : List Int) (lo hi : Int) : Prop := ∀ j, j < l.length → lo ≤ gi l j ∧ gi l j ≤ hi

set_option maxRecDepth 100000 in
theorem l1All_any {w : World} {v : Value} {l : List Int} (lo hi : Int) (h : IntSl w v l) : Calls Tryd.prog 36 #[v, .int .i64 lo, .int .i64 hi] w fun e w' => e = .returned (.bool (dec (AllIn l lo hi))) ∧ w = w' := by
  obtain ⟨a, b, o, c, rfl, ha, hl, hm, hc⟩ := h
  unfold maxLen at hm
  have Hc := Lib.hid hc
  have Ha := Lib.hid ha
  clear hc ha
  go_enter Tryd.func36, Tryd.ntmps36
  go_wp2
  go_loop [11] (fun i => ∃ k : Nat, k ≤ l.length ∧ i = .int .i64 k ∧ Hid (∀ j, j < k → lo ≤ gi l j ∧ gi l j ≤ hi)) (fun i => l.length - (intOf i).toNat)
  case atStart => exact ⟨0, Nat.zero_le _, rfl, fun j hj => absurd hj (by omega)⟩
  case round =>
    obtain ⟨k, hk, rfl, Hr⟩ := hrel
    by_cases hlt : k < l.length
    · obtain ⟨y, hc, rfl, _⟩ := Hc.out k hlt
      obtain rfl := Ha.out (by omega)
      by_cases he : lo ≤ gi l k ∧ gi l k ≤ hi
      · have Heb := Lib.hid (dec_true (p := InB (gi l k) lo hi) he)
        have He := Lib.hid he
        clear he
        go_wp2_with (go_at_call 27; (with_reducible refine (l1In_any _ _ _ _).mono ?_); rintro e w' ⟨rfl, rfl⟩; rw [Heb.out])
        go_round
        case rel =>
          refine ⟨k + 1, by omega, by go_num, fun j hj => ?_⟩
          by_cases e : j = k
          · subst e; exact He.out
          · exact Hr.out j (by omega)
        case measure => simp [intOf]; omega
      · have Heb := Lib.hid (dec_false (p := InB (gi l k) lo hi) he)
        have He := Lib.hid he
        clear he
        go_wp2_with (go_at_call 27; (with_reducible refine (l1In_any _ _ _ _).mono ?_); rintro e w' ⟨rfl, rfl⟩; rw [Heb.out])
        go_ret
        exact ⟨ret_f (fun h => He.out (h k hlt)), rfl⟩
    · go_wp2
      go_ret
      obtain rfl : k = l.length := by omega
      exact ⟨ret_t Hr.out, rfl⟩
end Go.Proofs.YtbddjejpacaglaaDoor

/- Contracts of the functions that check identifiers and inputs. -/
namespace Go.Proofs.YtbddjejpacaglaaDoor
open Go.RowKit

def IdOK (l : List Int) (i : Nat) : Prop := InB (gi l i) 1 999999 ∧ ¬ Has (l.take i) (gi l i)
def IdsOK (l : List Int) (n : Int) : Prop := (l.length = 0 ∨ (l.length : Int) = n) ∧ ∀ i, i < l.length → IdOK l i

/-- The first place of x in l. -/
def FirstAt (l : List Int) (x : Int) (r : Int) : Prop := (r = -1 ∧ ¬ Has l x) ∨ ∃ k : Nat, r = k ∧ k < l.length ∧ gi l k = x ∧ ∀ j, j < k → gi l j ≠ x

set_option maxRecDepth 100000 in
theorem index_any {w : World} {v : Value} {l : List Int} (x : Int) (h : IntSl w v l) : Calls Tryd.prog 83 #[v, .int .i64 x] w fun e w' => ∃ r : Int, e = .returned (.int .i64 r) ∧ w = w' ∧ FirstAt l x r := by
  obtain ⟨a, b, o, c, rfl, ha, hl, hm, hc⟩ := h
  unfold maxLen at hm
  have Hc := Lib.hid hc
  have Ha := Lib.hid ha
  clear hc ha
  go_enter Tryd.func83, Tryd.ntmps83
  go_wp2
  go_loop [8] (fun i => ∃ k : Nat, k ≤ l.length ∧ i = .int .i64 k ∧ Hid (∀ j, j < k → gi l j ≠ x)) (fun i => l.length - (intOf i).toNat)
  case atStart => exact ⟨0, Nat.zero_le _, rfl, fun j hj => absurd hj (by omega)⟩
  case round =>
    obtain ⟨k, hk, rfl, Hr⟩ := hrel
    by_cases hlt : k < l.length
    · obtain ⟨y, hc, rfl, _⟩ := Hc.out k hlt
      obtain rfl := Ha.out (by omega)
      by_cases he : gi l k = x
      · have heb : (x == gi l k) = true := by simp [he]
        have He := Lib.hid he
        clear he
        go_wp2
        go_ret
        exact ⟨k, rfl, rfl, .inr ⟨k, rfl, hlt, He.out, Hr.out⟩⟩
      · have heb : (x == gi l k) = false := by simp; exact fun e => he e.symm
        have He := Lib.hid he
        clear he
        go_wp2
        go_round
        case rel =>
          refine ⟨k + 1, by omega, by go_num, fun j hj => ?_⟩
          by_cases e : j = k
          · subst e; exact He.out
          · exact Hr.out j (by omega)
        case measure => simp [intOf]; omega
    · go_wp2
      go_ret
      obtain rfl : k = l.length := by omega
      exact ⟨-1, rfl, rfl, .inl ⟨rfl, fun ⟨j, h1, h2⟩ => Hr.out j h1 h2⟩⟩

theorem contains_any {w : World} {v : Value} {l : List Int} (x : Int) (h : IntSl w v l) : Calls Tryd.prog 81 #[v, .int .i64 x] w fun e w' => e = .returned (.bool (dec (Has l x))) ∧ w = w' := by
  have HI := Lib.hid h
  obtain ⟨a, b, o, c, rfl, ha, hl, hm, hc⟩ := h
  unfold maxLen at hm
  clear hc ha
  go_enter Tryd.func81, Tryd.ntmps81
  go_wp2_with fail
  (with_reducible refine (index_any _ HI.out).mono ?_)
  rintro e w' ⟨r, rfl, rfl, hr⟩
  rcases hr with ⟨rfl, hn⟩ | ⟨k, rfl, hk, he, _⟩
  · have Hn := Lib.hid hn
    clear hn
    go_wp2
    go_ret
    exact ⟨ret_f Hn.out, rfl⟩
  · have He := Lib.hid he
    clear he
    go_wp2
    go_ret
    exact ⟨ret_t ⟨k, hk, He.out⟩, rfl⟩
end Go.Proofs.YtbddjejpacaglaaDoor

/- Contracts of the program's own functions that check identifiers and inputs. -/
namespace Go.Proofs.YtbddjejpacaglaaDoor
open Go.RowKit
def InputsOK (l : List Int) (n : Int) : Prop := (l.length : Int) = n ∧ AllIn l 0 9

set_option maxRecDepth 100000 in
theorem isBetweenK_any (n lo hi : Int) (w : World) : Calls Tryd.prog 32 #[.int .i64 n, .int .i64 lo, .int .i64 hi] w fun e w' => e = .returned (.bool (dec (InB n lo hi))) ∧ w = w' := by
  by_cases h1 : lo ≤ n
  · by_cases h2 : n ≤ hi
    · have H := Lib.hid (show InB n lo hi from ⟨h1, h2⟩)
      go_enter Tryd.func32, Tryd.ntmps32
      go_wp2
      go_ret
      exact ⟨ret_t H.out, rfl⟩
    · have H := Lib.hid (show ¬ InB n lo hi from fun h => h2 h.2)
      go_enter Tryd.func32, Tryd.ntmps32
      go_wp2
      go_ret
      exact ⟨ret_f H.out, rfl⟩
  · have H := Lib.hid (show ¬ InB n lo hi from fun h => h1 h.1)
    go_enter Tryd.func32, Tryd.ntmps32
    go_wp2
    go_ret
    exact ⟨ret_f H.out, rfl⟩

set_option maxHeartbeats 400000 in
set_option maxRecDepth 100000 in
theorem areBetween_any {w : World} {v : Value} {l : List Int} (lo hi : Int) (h : IntSl w v l) : Calls Tryd.prog 50 #[v, .int .i64 lo, .int .i64 hi] w fun e w' => e = .returned (.bool (dec (AllIn l lo hi))) ∧ w = w' := by
  obtain ⟨a, b, o, c, rfl, ha, hl, hm, hc⟩ := h
  unfold maxLen at hm
  have Hc := Lib.hid hc
  have Ha := Lib.hid ha
  clear hc ha
  go_enter Tryd.func50, Tryd.ntmps50
  go_wp2
  go_loop [11] (fun i => ∃ k : Nat, k ≤ l.length ∧ i = .int .i64 k ∧ Hid (∀ j, j < k → lo ≤ gi l j ∧ gi l j ≤ hi)) (fun i => l.length - (intOf i).toNat)
  case atStart => exact ⟨0, Nat.zero_le _, rfl, fun j hj => absurd hj (by omega)⟩
  case round =>
    obtain ⟨k, hk, rfl, Hr⟩ := hrel
    by_cases hlt : k < l.length
    · obtain ⟨y, hc, rfl, _⟩ := Hc.out k hlt
      obtain rfl := Ha.out (by omega)
      by_cases he : lo ≤ gi l k ∧ gi l k ≤ hi
      · have Heb := Lib.hid (dec_true (p := InB (gi l k) lo hi) he)
        have He := Lib.hid he
        clear he
        go_wp2_with (go_at_call 32; (with_reducible refine (isBetweenK_any _ _ _ _).mono ?_); rintro e w' ⟨rfl, rfl⟩; rw [Heb.out])
        go_round
        case rel =>
          refine ⟨k + 1, by omega, by go_num, fun j hj => ?_⟩
          by_cases e : j = k
          · subst e; exact He.out
          · exact Hr.out j (by omega)
        case measure => simp [intOf]; omega
      · have Heb := Lib.hid (dec_false (p := InB (gi l k) lo hi) he)
        have He := Lib.hid he
        clear he
        go_wp2_with (go_at_call 32; (with_reducible refine (isBetweenK_any _ _ _ _).mono ?_); rintro e w' ⟨rfl, rfl⟩; rw [Heb.out])
        go_ret
        exact ⟨ret_f (fun h => He.out (h k hlt)), rfl⟩
    · go_wp2
      go_ret
      obtain rfl : k = l.length := by omega
      exact ⟨ret_t Hr.out, rfl⟩

end Go.Proofs.YtbddjejpacaglaaDoor
