/- Several texts in one: Kit, Sz, To, To2, Own, To3, Eq, Eq2, Eq3, In, Ids, Ids2. -/
import Derived.Test.YtkpdbceglejbnaaProg
import Derived.WalkKit
import Derived.Lib.Hide
import Derived.WalkSpells
import Derived.WalkLawsBesides
import Derived.Deep.OwnRows
import Derived.Deep.LoopGhost
import Derived.Deep.Light
import Derived.Deep.QuietTactic
import Derived.BigQuiet
import Derived.Handy
import Derived.Deep.RegionHeld3
/- What it means that a value reads in a world as a list of integers, of ends, of lists of ends, and as a network; and that such readings last when nothing that was there is changed. -/
namespace Go.Proofs.Ytkpdbceglejbnaa
open Go.RowKit

/-- Nothing that was there has changed. -/
abbrev Ext (w w' : World) : Prop := w.Since w.heap.size w'

theorem Ext.rfl' (w : World) : Ext w w := World.Since.refl _ _
theorem since_mono {B B' : Nat} {w w' : World} (h : w.Since B w') (hB : B' ≤ B) : w.Since B' w' := ⟨h.os, h.tape, h.output, h.size, fun k hk => h.block k (by omega)⟩
theorem Ext.trans' {a b c : World} (h : Ext a b) (k : Ext b c) : Ext a c := h.trans (since_mono k h.size)
theorem Ext.alloc' {a b : World} (h : Ext a b) (o : Obj) : Ext a (b.alloc o) := h.alloc h.size o
theorem Ext.drew' {a b : World} (h : Ext a b) : Ext a b.drew := h.drew
theorem Ext.store {a b : World} (h : Ext a b) {p : Addr} (hp : a.heap.size ≤ p.block) (v : Value) : Ext a (b.setCell p v) := h.setCell hp v
theorem Ext.cell' {w w' : World} (h : Ext w w') {p : Addr} {v : Value} (hc : w.cell? p = some v) : w'.cell? p = some v := by
  rw [h.cell (World.block_lt_of_cell? _ _ hc)]; exact hc

theorem row_ext {w w' : World} {b t n : Nat} {f : Nat → Value} (h : w.rowIs b t n f) (he : Ext w w') : w'.rowIs b t n f := h.of_block (he.block b h.lt)
/-- What a store of two cells needs. -/
theorem row_two {w : World} {b t n i : Nat} {f : Nat → Value} (h : w.rowIs b t n f) (hi : i + 1 < n) :
    w.cell? ⟨b, i, none⟩ = some (f i) ∧ w.frozen? ⟨b, i, none⟩ = false ∧ (∀ v, (w.setCell ⟨b, i, none⟩ v).cell? ⟨b, i + 1, none⟩ = some (f (i + 1))) ∧ (∀ v, (w.setCell ⟨b, i, none⟩ v).frozen? ⟨b, i + 1, none⟩ = false) :=
  ⟨h.cell (by omega), h.frozen _, fun v => by have := (h.set i v).cell hi; simpa using this, fun v => (h.set i v).frozen _⟩

/-- The value is a slice of n elements of one cell each, and element i is x with R i x. -/
def SlOf (w : World) (v : Value) (n : Nat) (R : Nat → Value → Prop) : Prop :=
  ∃ (a : Option Addr) (b o c : Nat), v = .slice a n c ∧ (0 < n → a = some ⟨b, o, none⟩) ∧ n ≤ c ∧ c ≤ maxLen ∧
    ∀ i, i < n → ∃ x, w.cell? ⟨b, o + i, none⟩ = some x ∧ R i x

theorem SlOf.mono {w w' : World} {v : Value} {n : Nat} {R R' : Nat → Value → Prop} (h : SlOf w v n R) (he : Ext w w') (hR : ∀ i x, i < n → R i x → R' i x) : SlOf w' v n R' := by
  obtain ⟨a, b, o, c, h1, h2, h3, h4, h5⟩ := h
  exact ⟨a, b, o, c, h1, h2, h3, h4, fun i hi => let ⟨x, hx, hr⟩ := h5 i hi; ⟨x, he.cell' hx, hR i x hi hr⟩⟩

/-- Element i of a list of numbers, of ends (its node, its port), of lists. -/
def gi (l : List Int) (i : Nat) : Int := l.getD i 0
def gn (l : List (Int × Int)) (i : Nat) : Int := (l.getD i (0, 0)).1
def gp (l : List (Int × Int)) (i : Nat) : Int := (l.getD i (0, 0)).2
def gr {α : Type} (l : List (List α)) (i : Nat) : List α := l.getD i []

def inI64 (x : Int) : Prop := -9223372036854775808 ≤ x ∧ x ≤ 9223372036854775807

def IntSl (w : World) (v : Value) (l : List Int) : Prop := SlOf w v l.length fun i x => x = .int .i64 (gi l i) ∧ inI64 (gi l i)

theorem IntSl.ext {w w' : World} {v : Value} {l : List Int} (h : IntSl w v l) (he : Ext w w') : IntSl w' v l := SlOf.mono h he fun _ _ _ hr => hr

/-- A slice of ends: two cells each. -/
def EndSl (w : World) (v : Value) (l : List (Int × Int)) : Prop :=
  ∃ (a : Option Addr) (b o c : Nat), v = .slice a l.length c ∧ (0 < l.length → a = some ⟨b, o, none⟩) ∧ l.length ≤ c ∧ c ≤ maxLen ∧
    ∀ i, i < l.length → w.cell? ⟨b, o + i * 2, none⟩ = some (.int .i64 (gn l i)) ∧ w.cell? ⟨b, o + i * 2 + 1, none⟩ = some (.int .i64 (gp l i)) ∧
      inI64 (gn l i) ∧ inI64 (gp l i)

theorem EndSl.ext {w w' : World} {v : Value} {l : List (Int × Int)} (h : EndSl w v l) (he : Ext w w') : EndSl w' v l := by
  obtain ⟨a, b, o, c, h1, h2, h3, h4, h5⟩ := h
  exact ⟨a, b, o, c, h1, h2, h3, h4, fun i hi => let ⟨p, q, r⟩ := h5 i hi; ⟨he.cell' p, he.cell' q, r⟩⟩

def EndSS (w : World) (v : Value) (l : List (List (Int × Int))) : Prop := SlOf w v l.length fun i x => EndSl w x (gr l i)

theorem EndSS.ext {w w' : World} {v : Value} {l : List (List (Int × Int))} (h : EndSS w v l) (he : Ext w w') : EndSS w' v l := SlOf.mono h he fun _ _ _ hr => hr.ext he

def IntSS (w : World) (v : Value) (l : List (List Int)) : Prop := SlOf w v l.length fun i x => IntSl w x (gr l i)

theorem IntSS.ext {w w' : World} {v : Value} {l : List (List Int)} (h : IntSS w v l) (he : Ext w w') : IntSS w' v l := SlOf.mono h he fun _ _ _ hr => hr.ext he

/-- A network as plain data. -/
structure Net where
  ends : List (List (Int × Int))
  ids : List Int
  inputs : List Int
deriving DecidableEq

def NetAt (w : World) (v : Value) (N : Net) : Prop :=
  ∃ v0 v1 v2, v = .agg #[v0, v1, v2] ∧ EndSS w v0 N.ends ∧ IntSl w v1 N.ids ∧ IntSl w v2 N.inputs

theorem NetAt.ext {w w' : World} {v : Value} {N : Net} (h : NetAt w v N) (he : Ext w w') : NetAt w' v N := by
  obtain ⟨v0, v1, v2, h1, h2, h3, h4⟩ := h
  exact ⟨v0, v1, v2, h1, h2.ext he, h3.ext he, h4.ext he⟩

/-- How many values a network holds. -/
def Net.small (N : Net) : Prop := N.ends.length ≤ 1048576 ∧ (∀ i, (gr N.ends i).length ≤ 1048576) ∧ N.ids.length ≤ 1048576 ∧ N.inputs.length ≤ 1048576

end Go.Proofs.Ytkpdbceglejbnaa

/- Contracts of the functions that count sizes: where the count is not negative, all lengths are bounded. -/
namespace Go.Proofs.Ytkpdbceglejbnaa
open Go.RowKit

theorem szEndS_any {w : World} {v : Value} {l : List (Int × Int)} (left : Int) (h : EndSl w v l) (h0 : -1 ≤ left) (h1 : left ≤ 1048576) :
    Calls Try.prog 108 #[v, .int .i64 left] w fun e w' => ∃ r : Int, e = .returned (.int .i64 r) ∧ w = w' ∧ r ≤ left ∧ -1 ≤ r ∧ (0 ≤ r → (l.length : Int) + r ≤ left) := by
  obtain ⟨a, b, o, c, rfl, _, h3, h4, _⟩ := h
  unfold maxLen at h4
  go_enter Try.func108, Try.ntmps108
  go_wp2
  all_goals go_ret
  · exact ⟨-1, rfl, rfl, by omega, by omega, by omega⟩
  · exact ⟨_, rfl, rfl, by omega, by omega, by omega⟩

theorem szIntS_any {w : World} {v : Value} {l : List Int} (left : Int) (h : IntSl w v l) (h0 : -1 ≤ left) (h1 : left ≤ 1048576) :
    Calls Try.prog 56 #[v, .int .i64 left] w fun e w' => ∃ r : Int, e = .returned (.int .i64 r) ∧ w = w' ∧ r ≤ left ∧ -1 ≤ r ∧ (0 ≤ r → (l.length : Int) + r ≤ left) := by
  obtain ⟨a, b, o, c, rfl, _, h3, h4, _⟩ := h
  unfold maxLen at h4
  go_enter Try.func56, Try.ntmps56
  go_wp2
  all_goals go_ret
  · exact ⟨-1, rfl, rfl, by omega, by omega, by omega⟩
  · exact ⟨_, rfl, rfl, by omega, by omega, by omega⟩

set_option maxHeartbeats 400000 in
set_option maxRecDepth 100000 in
theorem szEndSS_any {w : World} {v : Value} {l : List (List (Int × Int))} (left : Int) (h : EndSS w v l) (h0 : -1 ≤ left) (h1 : left ≤ 1048576) :
    Calls Try.prog 55 #[v, .int .i64 left] w fun e w' => ∃ r : Int, e = .returned (.int .i64 r) ∧ w = w' ∧ r ≤ left ∧ -1 ≤ r ∧
      (0 ≤ r → (l.length : Int) + r ≤ left ∧ ∀ i, i < l.length → ((gr l i).length : Int) ≤ left) := by
  obtain ⟨a, b, o, c, rfl, ha, h3, h4, hc⟩ := h
  unfold maxLen at h4
  have Hc := Lib.hid hc
  have Ha := Lib.hid ha
  clear hc ha
  by_cases hneg : left - l.length < 0
  · go_enter Try.func55, Try.ntmps55
    go_wp2
    go_ret
    exact ⟨-1, rfl, rfl, by omega, by omega, by omega⟩
  · go_enter Try.func55, Try.ntmps55
    go_wp2
    go_loop [1, 5] (fun t i => ∃ (k : Nat) (r : Int), k ≤ l.length ∧ i = .int .i64 k ∧ t = .int .i64 r ∧ 0 ≤ r ∧ (l.length : Int) + r ≤ left ∧ Hid (∀ i, i < k → ((gr l i).length : Int) ≤ left)) (fun _ i => l.length - (intOf i).toNat)
    case atStart => exact ⟨0, left - l.length, by omega, rfl, rfl, by omega, by omega, fun i hi => absurd hi (by omega)⟩
    case round =>
      obtain ⟨k, r, hk, rfl, rfl, hr0, hr, Hr⟩ := hrel
      by_cases hlt : k < l.length
      · obtain ⟨x, hc, hx⟩ := Hc.out k hlt
        obtain rfl := Ha.out (by omega)
        have Hx := Lib.hid hx
        clear hx
        go_wp2_with (go_at_call 108; refine (szEndS_any _ Hx.out (by omega) (by omega)).mono ?_; rintro e w' ⟨r', rfl, rfl, hr1, hr2, hr3⟩)
        · go_ret
          exact ⟨-1, rfl, rfl, by omega, by omega, by omega⟩
        · go_round
          case rel =>
            refine ⟨k + 1, r', by omega, by go_num, rfl, by omega, by omega, fun i hi => ?_⟩
            by_cases e : i = k
            · subst e; omega
            · exact Hr.out i (by omega)
          case measure => simp [intOf]; omega
      · go_wp2
        go_ret
        obtain rfl : k = l.length := by omega
        exact ⟨r, rfl, rfl, by omega, by omega, fun _ => ⟨by omega, Hr.out⟩⟩

set_option maxHeartbeats 400000 in
set_option maxRecDepth 100000 in
theorem szNetwork_any {w : World} {v : Value} {N : Net} (left : Int) (h : NetAt w v N) (h0 : -1 ≤ left) (h1 : left ≤ 1048576) :
    Calls Try.prog 17 #[v, .int .i64 left] w fun e w' => ∃ r : Int, e = .returned (.int .i64 r) ∧ Ext w w' ∧ -1 ≤ r ∧ r ≤ left ∧ (0 ≤ r → N.small) := by
  obtain ⟨v0, v1, v2, rfl, hE, hI, hP⟩ := h
  go_enter Try.func17, Try.ntmps17
  have HE := Lib.hid (fun o => hE.ext ((Ext.rfl' w).alloc' o))
  have HI := Lib.hid (fun o => hI.ext ((Ext.rfl' w).alloc' o))
  have HP := Lib.hid (fun o => hP.ext ((Ext.rfl' w).alloc' o))
  clear hE hI hP
  go_wp2_with (first | (go_at_call 55; (with_reducible refine (szEndSS_any _ (HE.out _) (by omega) (by omega)).mono ?_); rintro e w' ⟨r1, rfl, rfl, h11, h12, h13⟩; have H13 := Lib.hid h13; clear h13) | (go_at_call 56; (with_reducible refine (szIntS_any _ (HI.out _) (by omega) (by omega)).mono ?_); rintro e w' ⟨r2, rfl, rfl, h21, h22, h23⟩; have H23 := Lib.hid h23; clear h23) | (go_at_call 56; (with_reducible refine (szIntS_any _ (HP.out _) (by omega) (by omega)).mono ?_); rintro e w' ⟨r3, rfl, rfl, h31, h32, h33⟩; have H33 := Lib.hid h33; clear h33))
  all_goals go_ret
  · exact ⟨-1, rfl, (Ext.rfl' w).alloc' _, by omega, by omega, by omega⟩
  · exact ⟨-1, rfl, (Ext.rfl' w).alloc' _, by omega, by omega, by omega⟩
  · exact ⟨-1, rfl, (Ext.rfl' w).alloc' _, by omega, by omega, by omega⟩
  · refine ⟨r3, rfl, (Ext.rfl' w).alloc' _, by omega, by omega, fun _ => ?_⟩
    obtain ⟨a1, a2⟩ := H13.out (by omega)
    have a3 := H23.out (by omega)
    have a4 := H33.out (by omega)
    refine ⟨by omega, fun i => ?_, by omega, by omega⟩
    by_cases hi : i < N.ends.length
    · have := a2 i hi; omega
    · simp [gr, List.getD, List.getElem?_eq_none (show N.ends.length ≤ i by omega)]
end Go.Proofs.Ytkpdbceglejbnaa

/- Contracts of the functions that copy arguments: the copy reads as the original and lies in new blocks. -/
namespace Go.Proofs.Ytkpdbceglejbnaa
open Go.RowKit

theorem Try.info3 : (Try.prog.info? 3).map (fun i => (i.zero, i.size, i.bytes)) = some (some (.int .i64 0), 1, 8) := by kernel_rfl
theorem Try.info70 : (Try.prog.info? 93).map (fun i => (i.zero, i.size, i.bytes)) = some (some (.slice none 0 0), 1, 24) := by kernel_rfl

/-- k of the n numbers of l, the others are zero. -/
def copied (l : List Int) (k : Nat) (i : Nat) : Value := if i < k then .int .i64 (gi l i) else .int .i64 0

theorem copied_step {w : World} {b : Nat} {l : List Int} {k n : Nat} (h : w.rowIs b 3 n (copied l k)) : (w.setCell ⟨b, k, none⟩ (.int .i64 (gi l k))).rowIs b 3 n (copied l (k + 1)) :=
  (h.set k _).congr fun i _ => by
    simp only [copied]
    by_cases e : i = k
    · subst e; simp
    · rw [if_neg e]
      by_cases hlt : i < k
      · rw [if_pos hlt, if_pos (by omega)]
      · rw [if_neg hlt, if_neg (by omega)]

set_option maxHeartbeats 400000 in
set_option maxRecDepth 100000 in
theorem toIntS_any {w : World} {v : Value} {l : List Int} (h : IntSl w v l) (hs : l.length ≤ 1048576) :
    Calls Try.prog 20 #[v] w fun e w' => e = .returned (.slice (some ⟨w.heap.size, 0, none⟩) l.length l.length) ∧ Ext w w' ∧ w'.heap.size = w.heap.size + 1 ∧ w'.rowIs w.heap.size 3 l.length (copied l l.length) := by
  obtain ⟨a, b, o, c, rfl, ha, h3, h4, hc⟩ := h
  unfold maxLen at h4
  have Hc := Lib.hid hc
  have Ha := Lib.hid ha
  clear hc ha
  have hmk := run_make_row' (P := Try.prog) 26 3 (.int .i64 0) 8 Try.underlying26 Try.info3 rfl .i64 .i64 l.length (by omega) (by omega)
  go_enter Try.func20, Try.ntmps20
  go_wp2
  clear hmk
  go_loopg [4] l.length (fun g i wr => ∃ k : Nat, k ≤ l.length ∧ g = l.length - k ∧ i = .int .i64 k ∧ Hid (Ext w wr ∧ wr.heap.size = w.heap.size + 1 ∧ wr.rowIs w.heap.size 3 l.length (copied l k)))
  case atStart => exact ⟨0, Nat.zero_le _, rfl, rfl, (Ext.rfl' w).alloc' _, by simp, (World.rowIs_made w _ _ _).congr fun i _ => by simp [copied]⟩
  case round =>
    obtain ⟨k, hk, rfl, rfl, Hr⟩ := hrel
    by_cases hlt : k < l.length
    · obtain ⟨x, hc, rfl, _⟩ := Hc.out k hlt
      obtain rfl := Ha.out (by omega)
      obtain ⟨he, hsz, hrow⟩ := Hr.out
      have hc' := he.cell' hc
      have hst := hrow.cell hlt
      have hfr := hrow.frozen k
      have hnext := Lib.hid (copied_step hrow)
      clear hrow hc
      go_wp2
      go_roundg (l.length - (k + 1))
      case measure => omega
      case rel => exact ⟨k + 1, by omega, rfl, by go_num, he.store (Nat.le_refl _) _, by simp [hsz], hnext.out⟩
    · go_wp2
      go_ret
      obtain rfl : k = l.length := by omega
      obtain ⟨he, hsz, hrow⟩ := Hr.out
      exact ⟨rfl, he, hsz, hrow⟩
end Go.Proofs.Ytkpdbceglejbnaa

/- Contracts of the functions that copy arguments: ends. -/
namespace Go.Proofs.Ytkpdbceglejbnaa
open Go.RowKit

theorem toEnd_any (x y : Int) (w : World) :
    Calls Try.prog 159 #[.agg #[.int .i64 x, .int .i64 y]] w fun e w' => e = .returned (.agg #[.int .i64 x, .int .i64 y]) ∧ Ext w w' ∧ w'.heap.size = w.heap.size + 3 := by
  go_enter Try.func159, Try.ntmps159
  go_wp2
  refine bodyPost_ret (v := .agg #[.int .i64 x, .int .i64 y]) (by simp [results, Try.results159, go_sem]) rfl ⟨rfl, ?_, by simp⟩
  exact (((Ext.rfl' w).alloc' _).alloc' _).alloc' _

theorem Try.info44 : (Try.prog.info? 95).map (fun i => (i.zero, i.size, i.bytes)) = some (some (.agg #[.int .i64 0, .int .i64 0]), 2, 16) := by kernel_rfl

/-- Cell j of a row of ends, k of which are copied. -/
def ecell (l : List (Int × Int)) (j : Nat) : Value := .int .i64 (if j % 2 = 0 then gn l (j / 2) else gp l (j / 2))
def ecopied (l : List (Int × Int)) (k : Nat) (j : Nat) : Value := if j < k * 2 then ecell l j else .int .i64 0

theorem ecopied_step {w : World} {b : Nat} {l : List (Int × Int)} {k n : Nat} (h : w.rowIs b 95 n (ecopied l k)) :
    ((w.setCell ⟨b, k * 2, none⟩ (.int .i64 (gn l k))).setCell ⟨b, k * 2 + 1, none⟩ (.int .i64 (gp l k))).rowIs b 95 n (ecopied l (k + 1)) :=
  ((h.set _ _).set _ _).congr fun i _ => by
    simp only [ecopied]
    by_cases e : i = k * 2 + 1
    · subst e
      rw [if_pos rfl, if_pos (by omega)]
      simp only [ecell]
      rw [if_neg (by omega)]
      congr 2; omega
    · rw [if_neg e]
      by_cases e2 : i = k * 2
      · subst e2
        rw [if_pos rfl, if_pos (by omega)]
        simp only [ecell]
        rw [if_pos (by omega)]
        congr 2; omega
      · rw [if_neg e2]
        by_cases hlt : i < k * 2
        · rw [if_pos hlt, if_pos (by omega)]
        · rw [if_neg hlt, if_neg (by omega)]

theorem emade (w : World) (n : Nat) : (w.alloc (.cells (madeCells #[.int .i64 0, .int .i64 0] (n * 2)) 95)).rowIs w.heap.size 95 (n * 2) (fun _ => .int .i64 0) :=
  ⟨_, Go.Deep.blk_alloc_new _ _, size_madeCells _ _, fun i hi => by
    simp only [madeCells]
    have h2 : i % 2 = 0 ∨ i % 2 = 1 := by omega
    rcases h2 with h2 | h2 <;> simp [hi, h2]⟩

set_option maxHeartbeats 400000 in
set_option maxRecDepth 100000 in
theorem toEndS_any {w : World} {v : Value} {l : List (Int × Int)} (h : EndSl w v l) (hs : l.length ≤ 1048576) :
    Calls Try.prog 110 #[v] w fun e w' => e = .returned (.slice (some ⟨w.heap.size, 0, none⟩) l.length l.length) ∧ Ext w w' ∧ w.heap.size + 1 ≤ w'.heap.size ∧ w'.rowIs w.heap.size 95 (l.length * 2) (ecopied l l.length) := by
  obtain ⟨a, b, o, c, rfl, ha, h3, h4, hc⟩ := h
  unfold maxLen at h4
  have Hc := Lib.hid hc
  have Ha := Lib.hid ha
  clear hc ha
  obtain ⟨i0, hi, hz0, hz1, hz2⟩ := info_parts Try.info44
  have hmk : ∀ u : World, (Instr.makeSlice 93 (.int .i64 (l.length : Int)) (.int .i64 (l.length : Int))).run Try.prog u =
      .ok (.slice (some ⟨u.heap.size, 0, none⟩) l.length l.length) (u.alloc (.cells (madeCells #[.int .i64 0, .int .i64 0] (l.length * 2)) 95)) := fun u => by
    have h := run_make (P := Try.prog) u 93 95 i0 _ Try.underlying93 hi hz0 .i64 .i64 l.length l.length (by omega) (Int.le_refl _) (by rw [hz2]; omega) (by omega)
    simpa [hz1, Value.cells] using h
  go_enter Try.func110, Try.ntmps110
  go_wp2
  clear hmk hi hz0 hz1 hz2
  go_loopg [4] l.length (fun g i wr => ∃ k : Nat, k ≤ l.length ∧ g = l.length - k ∧ i = .int .i64 k ∧ Hid (Ext w wr ∧ w.heap.size + 1 ≤ wr.heap.size ∧ wr.rowIs w.heap.size 95 (l.length * 2) (ecopied l k)))
  case atStart => exact ⟨0, Nat.zero_le _, rfl, rfl, (Ext.rfl' w).alloc' _, by simp, (emade w _).congr fun i _ => by simp [ecopied]⟩
  case round =>
    obtain ⟨k, hk, rfl, rfl, Hr⟩ := hrel
    by_cases hlt : k < l.length
    · obtain ⟨hc1, hc2, _, _⟩ := Hc.out k hlt
      obtain rfl := Ha.out (by omega)
      obtain ⟨he, hsz, hrow⟩ := Hr.out
      have hc1' := he.cell' hc1
      have hc2' := he.cell' hc2
      have Hrow := Lib.hid hrow
      clear hrow hc1 hc2
      go_wp2_with (go_at_call 159; (with_reducible refine (toEnd_any _ _ _).mono ?_); rintro e w1 ⟨rfl, he1, hsz1⟩; obtain ⟨f1, f2, f3, f4⟩ := row_two (row_ext Hrow.out he1) (show k * 2 + 1 < l.length * 2 by omega); have He1 := Lib.hid he1; clear he1)
      go_roundg (l.length - (k + 1))
      case measure => omega
      case rel => exact ⟨k + 1, by omega, rfl, by go_num, (((he.trans' He1.out).store (Nat.le_refl _) _).store (Nat.le_refl _) _), by simp; omega, ecopied_step (row_ext Hrow.out He1.out)⟩
    · go_wp2
      go_ret
      obtain rfl : k = l.length := by omega
      obtain ⟨he, hsz, hrow⟩ := Hr.out
      exact ⟨rfl, he, hsz, hrow⟩
end Go.Proofs.Ytkpdbceglejbnaa

/- What it means that a value lies in memory of its own: blocks that are listed, each once. -/
namespace Go.Proofs.Ytkpdbceglejbnaa
open Go.RowKit

/-- A slice of n elements of k cells of type t in at most one block, which is listed in bs. -/
def OwnSl (w : World) (v : Value) (n k t : Nat) (f : Nat → Value) (bs : List Nat) : Prop :=
  ∃ c, n ≤ c ∧ c ≤ maxLen ∧ ((n = 0 ∧ bs = [] ∧ ∃ a, (a = none ∧ c = 0) ∧ v = .slice a 0 c) ∨
    ∃ b m g, bs = [b] ∧ v = .slice (some ⟨b, 0, none⟩) n c ∧ (n * k ≤ m ∧ m = c * k) ∧ w.rowIs b t m g ∧ ∀ i, i < n * k → g i = f i)

theorem OwnSl.keep {w w' : World} {v : Value} {n k t : Nat} {f : Nat → Value} {bs : List Nat} (h : OwnSl w v n k t f bs) (he : ∀ b ∈ bs, w'.heap[b]? = w.heap[b]?) : OwnSl w' v n k t f bs := by
  obtain ⟨c, h1, h2, h3⟩ := h
  refine ⟨c, h1, h2, ?_⟩
  rcases h3 with h3 | ⟨b, m, g, rfl, hv, hm, hr, hf⟩
  · exact .inl h3
  · exact .inr ⟨b, m, g, rfl, hv, hm, hr.of_block (he b (by simp)), hf⟩

theorem OwnSl.lt {w : World} {v : Value} {n k t : Nat} {f : Nat → Value} {bs : List Nat} (h : OwnSl w v n k t f bs) : ∀ b ∈ bs, b < w.heap.size := by
  obtain ⟨c, h1, h2, h3⟩ := h
  intro b hb
  rcases h3 with ⟨_, rfl, _⟩ | ⟨b', m, g, rfl, hv, hm, hr, hf⟩
  · simp at hb
  · simp at hb; subst hb; exact hr.lt

theorem OwnSl.nodup {w : World} {v : Value} {n k t : Nat} {f : Nat → Value} {bs : List Nat} (h : OwnSl w v n k t f bs) : bs.Nodup := by
  obtain ⟨c, h1, h2, h3⟩ := h
  rcases h3 with ⟨_, rfl, _⟩ | ⟨b', m, g, rfl, hv, hm, hr, hf⟩ <;> simp

def OwnI (w : World) (v : Value) (l : List Int) (bs : List Nat) : Prop := OwnSl w v l.length 1 3 (fun i => .int .i64 (gi l i)) bs ∧ ∀ i, i < l.length → inI64 (gi l i)
def OwnE (w : World) (v : Value) (l : List (Int × Int)) (bs : List Nat) : Prop := OwnSl w v l.length 2 95 (ecell l) bs ∧ ∀ i, i < l.length → inI64 (gn l i) ∧ inI64 (gp l i)
def OwnSS (w : World) (v : Value) (l : List (List (Int × Int))) (bs : List Nat) : Prop :=
  ∃ (R : Nat → Value) (b0 : List Nat) (T : Nat → List Nat), OwnSl w v l.length 1 93 R b0 ∧ (∀ i, i < l.length → OwnE w (R i) (gr l i) (T i)) ∧ bs = b0 ++ (List.range l.length).flatMap T
def OwnNet (w : World) (v : Value) (N : Net) (bs : List Nat) : Prop :=
  ∃ v0 v1 v2 b0 b1 b2, v = .agg #[v0, v1, v2] ∧ OwnSS w v0 N.ends b0 ∧ OwnI w v1 N.ids b1 ∧ OwnI w v2 N.inputs b2 ∧ bs = b0 ++ (b1 ++ b2)

theorem OwnI.keep {w w' : World} {v : Value} {l : List Int} {bs : List Nat} (h : OwnI w v l bs) (he : ∀ b ∈ bs, w'.heap[b]? = w.heap[b]?) : OwnI w' v l bs := ⟨h.1.keep he, h.2⟩
theorem OwnE.keep {w w' : World} {v : Value} {l : List (Int × Int)} {bs : List Nat} (h : OwnE w v l bs) (he : ∀ b ∈ bs, w'.heap[b]? = w.heap[b]?) : OwnE w' v l bs := ⟨h.1.keep he, h.2⟩
theorem OwnSS.keep {w w' : World} {v : Value} {l : List (List (Int × Int))} {bs : List Nat} (h : OwnSS w v l bs) (he : ∀ b ∈ bs, w'.heap[b]? = w.heap[b]?) : OwnSS w' v l bs := by
  obtain ⟨R, b0, T, h1, h2, rfl⟩ := h
  refine ⟨R, b0, T, h1.keep fun b hb => he b (by simp [hb]), fun i hi => (h2 i hi).keep fun b hb => he b ?_, rfl⟩
  exact List.mem_append.2 (.inr (List.mem_flatMap.2 ⟨i, List.mem_range.2 hi, hb⟩))
theorem OwnNet.keep {w w' : World} {v : Value} {N : Net} {bs : List Nat} (h : OwnNet w v N bs) (he : ∀ b ∈ bs, w'.heap[b]? = w.heap[b]?) : OwnNet w' v N bs := by
  obtain ⟨v0, v1, v2, b0, b1, b2, rfl, h0, h1, h2, rfl⟩ := h
  exact ⟨v0, v1, v2, b0, b1, b2, rfl, h0.keep fun b hb => he b (by simp [hb]), h1.keep fun b hb => he b (by simp [hb]), h2.keep fun b hb => he b (by simp [hb]), rfl⟩

theorem OwnSS.lt {w : World} {v : Value} {l : List (List (Int × Int))} {bs : List Nat} (h : OwnSS w v l bs) : ∀ b ∈ bs, b < w.heap.size := by
  obtain ⟨R, b0, T, h1, h2, rfl⟩ := h
  intro b hb
  rcases List.mem_append.1 hb with hb | hb
  · exact h1.lt b hb
  · obtain ⟨i, hi, hb⟩ := List.mem_flatMap.1 hb
    exact (h2 i (List.mem_range.1 hi)).1.lt b hb
theorem OwnNet.lt {w : World} {v : Value} {N : Net} {bs : List Nat} (h : OwnNet w v N bs) : ∀ b ∈ bs, b < w.heap.size := by
  obtain ⟨v0, v1, v2, b0, b1, b2, rfl, h0, h1, h2, rfl⟩ := h
  intro b hb
  rcases List.mem_append.1 hb with hb | hb
  · exact h0.lt b hb
  · rcases List.mem_append.1 hb with hb | hb
    · exact h1.1.lt b hb
    · exact h2.1.lt b hb

theorem OwnI.ext {w w' : World} {v : Value} {l : List Int} {bs : List Nat} (h : OwnI w v l bs) (he : Ext w w') : OwnI w' v l bs := h.keep fun b hb => he.block b (h.1.lt b hb)
theorem OwnE.ext {w w' : World} {v : Value} {l : List (Int × Int)} {bs : List Nat} (h : OwnE w v l bs) (he : Ext w w') : OwnE w' v l bs := h.keep fun b hb => he.block b (h.1.lt b hb)
theorem OwnSS.ext {w w' : World} {v : Value} {l : List (List (Int × Int))} {bs : List Nat} (h : OwnSS w v l bs) (he : Ext w w') : OwnSS w' v l bs := h.keep fun b hb => he.block b (h.lt b hb)
theorem OwnNet.ext {w w' : World} {v : Value} {N : Net} {bs : List Nat} (h : OwnNet w v N bs) (he : Ext w w') : OwnNet w' v N bs := h.keep fun b hb => he.block b (h.lt b hb)

theorem OwnI.read {w : World} {v : Value} {l : List Int} {bs : List Nat} (h : OwnI w v l bs) : IntSl w v l := by
  obtain ⟨⟨c, h1, h2, h3⟩, h4⟩ := h
  rcases h3 with ⟨hn, rfl, a, -, rfl⟩ | ⟨b, m, g, rfl, rfl, hm, hr, hf⟩
  · exact ⟨a, 0, 0, c, by rw [hn], fun h => absurd h (by omega), by omega, h2, fun i hi => absurd hi (by omega)⟩
  · refine ⟨_, b, 0, c, rfl, fun _ => rfl, h1, h2, fun i hi => ⟨_, ?_, rfl, h4 i hi⟩⟩
    rw [Nat.zero_add, hr.cell (by omega), hf i (by omega)]
theorem OwnE.read {w : World} {v : Value} {l : List (Int × Int)} {bs : List Nat} (h : OwnE w v l bs) : EndSl w v l := by
  obtain ⟨⟨c, h1, h2, h3⟩, h4⟩ := h
  rcases h3 with ⟨hn, rfl, a, -, rfl⟩ | ⟨b, m, g, rfl, rfl, hm, hr, hf⟩
  · exact ⟨a, 0, 0, c, by rw [hn], fun h => absurd h (by omega), by omega, h2, fun i hi => absurd hi (by omega)⟩
  · refine ⟨_, b, 0, c, rfl, fun _ => rfl, h1, h2, fun i hi => ⟨?_, ?_, h4 i hi⟩⟩
    · rw [Nat.zero_add, hr.cell (by omega), hf _ (by omega)]
      simp only [ecell]
      rw [if_pos (by omega)]
      congr 3; omega
    · rw [Nat.zero_add, hr.cell (by omega), hf _ (by omega)]
      simp only [ecell]
      rw [if_neg (by omega)]
      congr 3; omega
theorem OwnSS.read {w : World} {v : Value} {l : List (List (Int × Int))} {bs : List Nat} (h : OwnSS w v l bs) : EndSS w v l := by
  obtain ⟨R, b0, T, ⟨c, h1, h2, h3⟩, h4, rfl⟩ := h
  rcases h3 with ⟨hn, rfl, a, -, rfl⟩ | ⟨b, m, g, rfl, rfl, hm, hr, hf⟩
  · exact ⟨a, 0, 0, c, by rw [hn], fun h => absurd h (by omega), by omega, h2, fun i hi => absurd hi (by omega)⟩
  · refine ⟨_, b, 0, c, rfl, fun _ => rfl, h1, h2, fun i hi => ⟨R i, ?_, (h4 i hi).read⟩⟩
    rw [Nat.zero_add, hr.cell (by omega), hf i (by omega)]
theorem OwnNet.read {w : World} {v : Value} {N : Net} {bs : List Nat} (h : OwnNet w v N bs) : NetAt w v N := by
  obtain ⟨v0, v1, v2, b0, b1, b2, rfl, h0, h1, h2, rfl⟩ := h
  exact ⟨v0, v1, v2, rfl, h0.read, h1.read, h2.read⟩

/-- New blocks, each once. -/
def Fresh (w : World) (bs : List Nat) : Prop := bs.Nodup ∧ ∀ b ∈ bs, w.heap.size ≤ b
theorem Fresh.nil (w : World) : Fresh w [] := ⟨List.nodup_nil, by simp⟩
theorem Fresh.of {w w' : World} {bs : List Nat} (h : Fresh w' bs) (he : w.heap.size ≤ w'.heap.size) : Fresh w bs := ⟨h.1, fun b hb => Nat.le_trans he (h.2 b hb)⟩
theorem Fresh.append {w w1 : World} {bs cs : List Nat} (h : Fresh w bs) (hlt : ∀ b ∈ bs, b < w1.heap.size) (he : w.heap.size ≤ w1.heap.size) (k : Fresh w1 cs) : Fresh w (bs ++ cs) := by
  refine ⟨List.nodup_append.2 ⟨h.1, k.1, fun a ha b hb e => ?_⟩, fun b hb => ?_⟩
  · subst e; have := hlt a ha; have := k.2 a hb; omega
  · rcases List.mem_append.1 hb with hb | hb
    · exact h.2 b hb
    · have := k.2 b hb; omega
end Go.Proofs.Ytkpdbceglejbnaa

/- Contracts of the functions that copy arguments, with the blocks of the copy. -/
namespace Go.Proofs.Ytkpdbceglejbnaa
open Go.RowKit

theorem IntSl.range {w : World} {v : Value} {l : List Int} (h : IntSl w v l) : ∀ i, i < l.length → inI64 (gi l i) := by
  obtain ⟨a, b, o, c, h1, h2, h3, h4, h5⟩ := h
  exact fun i hi => let ⟨x, _, hr⟩ := h5 i hi; hr.2
theorem EndSl.range {w : World} {v : Value} {l : List (Int × Int)} (h : EndSl w v l) : ∀ i, i < l.length → inI64 (gn l i) ∧ inI64 (gp l i) := by
  obtain ⟨a, b, o, c, h1, h2, h3, h4, h5⟩ := h
  exact fun i hi => (h5 i hi).2.2

theorem own_made {w : World} {n k t b : Nat} {f g : Nat → Value} (h : w.rowIs b t (n * k) g) (hn : n ≤ maxLen) (hf : ∀ i, i < n * k → g i = f i) :
    OwnSl w (.slice (some ⟨b, 0, none⟩) n n) n k t f [b] :=
  ⟨n, Nat.le_refl _, hn, .inr ⟨b, n * k, g, rfl, rfl, ⟨Nat.le_refl _, rfl⟩, h, hf⟩⟩

theorem small_max {n : Nat} (h : n ≤ 1048576) : n ≤ maxLen := by unfold maxLen; omega

theorem toIntS_own {w : World} {v : Value} {l : List Int} (h : IntSl w v l) (hs : l.length ≤ 1048576) :
    Calls Try.prog 20 #[v] w fun e w' => ∃ a c bs, e = .returned (.slice a l.length c) ∧ Ext w w' ∧ OwnI w' (.slice a l.length c) l bs ∧ Fresh w bs := by
  refine (toIntS_any h hs).mono fun e w' ⟨he, hx, hsz, hr⟩ => ⟨_, _, [w.heap.size], he, hx, ⟨?_, h.range⟩, by simp [Fresh]⟩
  have := own_made (k := 1) (f := fun i => .int .i64 (gi l i)) (by simpa using hr) (small_max hs) (fun i hi => by simp [copied]; omega)
  exact this

theorem toEndS_own {w : World} {v : Value} {l : List (Int × Int)} (h : EndSl w v l) (hs : l.length ≤ 1048576) :
    Calls Try.prog 110 #[v] w fun e w' => ∃ a c bs, e = .returned (.slice a l.length c) ∧ Ext w w' ∧ OwnE w' (.slice a l.length c) l bs ∧ Fresh w bs := by
  refine (toEndS_any h hs).mono fun e w' ⟨he, hx, hsz, hr⟩ => ⟨_, _, [w.heap.size], he, hx, ⟨?_, h.range⟩, by simp [Fresh]⟩
  exact own_made hr (small_max hs) (fun i hi => by simp [ecopied]; omega)

/-- The outer row when k of its rows are copied. -/
def outerAt (w wr : World) (l : List (List (Int × Int))) (k : Nat) : Prop :=
  Ext w wr ∧ w.heap.size + 1 ≤ wr.heap.size ∧ ∃ (R : Nat → Value) (T : Nat → List Nat), wr.rowIs w.heap.size 93 l.length (fun i => if i < k then R i else .slice none 0 0) ∧
    (∀ i, i < k → OwnE wr (R i) (gr l i) (T i)) ∧ Fresh w (w.heap.size :: (List.range k).flatMap T)

theorem outer_step {w wr w1 : World} {l : List (List (Int × Int))} {k : Nat} {v : Value} {bs : List Nat} (h : outerAt w wr l k) (hx : Ext wr w1) (ho : OwnE w1 v (gr l k) bs) (hf : Fresh wr bs) :
    outerAt w (w1.setCell ⟨w.heap.size, k, none⟩ v) l (k + 1) := by
  obtain ⟨he, hsz, R, T, hrow, hown, hfr⟩ := h
  have hb : ∀ i, i < k → ∀ b ∈ T i, b < wr.heap.size ∧ w.heap.size < b := fun i hi b hb => by
    refine ⟨(hown i hi).1.lt b hb, ?_⟩
    have hm : b ∈ (List.range k).flatMap T := List.mem_flatMap.2 ⟨i, List.mem_range.2 hi, hb⟩
    have h1 := hfr.2 b (List.mem_cons_of_mem _ hm)
    have h2 := (List.nodup_cons.1 hfr.1).1
    by_cases e : b = w.heap.size
    · subst e; exact absurd hm h2
    · omega
  have hne : ∀ b, w.heap.size < b → (w1.setCell ⟨w.heap.size, k, none⟩ v).heap[b]? = w1.heap[b]? := fun b hb => Below.heap_setCell _ _ _ _ (by show b ≠ w.heap.size; omega)
  refine ⟨(he.trans' hx).store (Nat.le_refl _) _, by have := hx.size; simp; omega, fun i => if i = k then v else R i, fun i => if i = k then bs else T i, ?_, fun i hi => ?_, ?_⟩
  · refine ((row_ext hrow hx).set k v).congr fun i hi => ?_
    by_cases e : i = k
    · subst e; simp
    · rw [if_neg e]
      simp only [if_neg e]
      by_cases hlt : i < k
      · rw [if_pos hlt, if_pos (by omega)]
      · rw [if_neg hlt, if_neg (by omega)]
  · by_cases e : i = k
    · subst e
      simp only [if_true]
      exact ho.keep fun b hb => hne b (by have := hf.2 b hb; omega)
    · simp only [if_neg e]
      exact ((hown i (by omega)).ext hx).keep fun b hb' => hne b (hb i (by omega) b hb').2
  · have hcong : (List.range k).flatMap (fun i => if i = k then bs else T i) = (List.range k).flatMap T := by
      rw [List.flatMap_def, List.flatMap_def]
      congr 1
      exact List.map_congr_left fun i hi => if_neg (by have := List.mem_range.1 hi; omega)
    rw [List.range_succ, List.flatMap_append, hcong]
    simp only [List.flatMap_cons, List.flatMap_nil, if_true, List.append_nil]
    rw [← List.cons_append]
    refine Fresh.append hfr (fun b hb' => ?_) he.size hf
    rcases List.mem_cons.1 hb' with rfl | hb'
    · omega
    · obtain ⟨i, hi, hbi⟩ := List.mem_flatMap.1 hb'
      exact (hb i (List.mem_range.1 hi) b hbi).1

set_option maxHeartbeats 400000 in
set_option maxRecDepth 100000 in
theorem toEndSS_own {w : World} {v : Value} {l : List (List (Int × Int))} (h : EndSS w v l) (hs : l.length ≤ 1048576) (hs2 : ∀ i, (gr l i).length ≤ 1048576) :
    Calls Try.prog 59 #[v] w fun e w' => ∃ a c bs, e = .returned (.slice a l.length c) ∧ Ext w w' ∧ OwnSS w' (.slice a l.length c) l bs ∧ Fresh w bs := by
  obtain ⟨a, b, o, c, rfl, ha, h3, h4, hc⟩ := h
  unfold maxLen at h4
  have Hc := Lib.hid hc
  have Ha := Lib.hid ha
  have Hs := Lib.hid hs2
  clear hc ha hs2
  have hmk := run_make_row' (P := Try.prog) 32 93 (.slice none 0 0) 24 Try.underlying32 Try.info70 rfl .i64 .i64 l.length (by omega) (by omega)
  go_enter Try.func59, Try.ntmps59
  go_wp2
  clear hmk
  go_loopg [4] l.length (fun g i wr => ∃ k : Nat, k ≤ l.length ∧ g = l.length - k ∧ i = .int .i64 k ∧ Hid (outerAt w wr l k))
  case atStart => exact ⟨0, Nat.zero_le _, rfl, rfl, (Ext.rfl' w).alloc' _, by simp, fun _ => .slice none 0 0, fun _ => [], (World.rowIs_made w _ _ _).congr fun i _ => by simp, fun i hi => absurd hi (by omega), by simp [Fresh]⟩
  case round =>
    obtain ⟨k, hk, rfl, rfl, Hr⟩ := hrel
    by_cases hlt : k < l.length
    · obtain ⟨x, hc, hx⟩ := Hc.out k hlt
      obtain rfl := Ha.out (by omega)
      have hx' := Lib.hid (hx.ext Hr.out.1)
      have hc' := Hr.out.1.cell' hc
      clear hx hc
      go_wp2_with (go_at_call 110; (with_reducible refine (toEndS_own hx'.out (Hs.out _)).mono ?_); rintro e w1 ⟨a', c', bs, rfl, he1, ho1, hf1⟩; obtain ⟨R, T, hrow, _⟩ := Hr.out.2.2; have f1 := (row_ext hrow he1).cell hlt; have f2 := (row_ext hrow he1).frozen k; have Hn := Lib.hid (outer_step Hr.out he1 ho1 hf1); clear he1 ho1 hf1 hrow)
      go_roundg (l.length - (k + 1))
      case measure => omega
      case rel => exact ⟨k + 1, by omega, rfl, by go_num, Hn.out⟩
    · go_wp2
      go_ret
      obtain rfl : k = l.length := by omega
      obtain ⟨he, hsz, R, T, hrow, hown, hfr⟩ := Hr.out
      refine ⟨_, _, _, rfl, he, ⟨R, [w.heap.size], T, ?_, hown, rfl⟩, hfr⟩
      exact own_made (k := 1) (by simpa using hrow) (small_max hs) (fun i hi => by simp; omega)

/-- A block of three cells. -/
def tri (x0 x1 x2 : Value) : Nat → Value
  | 0 => x0
  | 1 => x1
  | _ => x2
theorem row3_made (w : World) (x0 x1 x2 : Value) (t : Nat) : (w.alloc (.cells #[x0, x1, x2] t)).rowIs w.heap.size t 3 (tri x0 x1 x2) :=
  World.rowIs_alloc w #[x0, x1, x2] t _ fun i hi => by
    have h : i < 3 := hi
    match i, h with
    | 0, _ => rfl
    | 1, _ => rfl
    | 2, _ => rfl
theorem row3_facts {w : World} {b t : Nat} {x0 x1 x2 : Value} (h : w.rowIs b t 3 (tri x0 x1 x2)) :
    w.cell? ⟨b, 0, none⟩ = some x0 ∧ w.cell? ⟨b, 1, none⟩ = some x1 ∧ w.cell? ⟨b, 2, none⟩ = some x2 ∧ w.frozen? ⟨b, 0, none⟩ = false ∧ w.frozen? ⟨b, 1, none⟩ = false ∧ w.frozen? ⟨b, 2, none⟩ = false :=
  ⟨h.cell (i := 0) (by omega), h.cell (i := 1) (by omega), h.cell (i := 2) (by omega), h.frozen _, h.frozen _, h.frozen _⟩
theorem row3_set0 {w : World} {b t : Nat} {x0 x1 x2 : Value} (h : w.rowIs b t 3 (tri x0 x1 x2)) (y : Value) : (w.setCell ⟨b, 0, none⟩ y).rowIs b t 3 (tri y x1 x2) :=
  (h.set 0 y).congr fun i hi => by match i, hi with | 0, _ => rfl | 1, _ => rfl | 2, _ => rfl
theorem row3_set1 {w : World} {b t : Nat} {x0 x1 x2 : Value} (h : w.rowIs b t 3 (tri x0 x1 x2)) (y : Value) : (w.setCell ⟨b, 1, none⟩ y).rowIs b t 3 (tri x0 y x2) :=
  (h.set 1 y).congr fun i hi => by match i, hi with | 0, _ => rfl | 1, _ => rfl | 2, _ => rfl
theorem row3_set2 {w : World} {b t : Nat} {x0 x1 x2 : Value} (h : w.rowIs b t 3 (tri x0 x1 x2)) (y : Value) : (w.setCell ⟨b, 2, none⟩ y).rowIs b t 3 (tri x0 x1 y) :=
  (h.set 2 y).congr fun i hi => by match i, hi with | 0, _ => rfl | 1, _ => rfl | 2, _ => rfl

set_option maxHeartbeats 400000 in
set_option maxRecDepth 100000 in
theorem toNetwork_own {w : World} {v : Value} {N : Net} (h : NetAt w v N) (hs : N.small) :
    Calls Try.prog 19 #[v] w fun e w' => ∃ v' bs, e = .returned v' ∧ Ext w w' ∧ OwnNet w' v' N bs ∧ Fresh w bs := by
  obtain ⟨v0, v1, v2, rfl, hE, hI, hP⟩ := h
  obtain ⟨s1, s2, s3, s4⟩ := hs
  have S2 := Lib.hid s2
  clear s2
  go_enter Try.func19, Try.ntmps19
  have HE := Lib.hid hE
  have HI := Lib.hid hI
  have HP := Lib.hid hP
  clear hE hI hP
  go_wp2_with fail
  have hA := ((row3_made w v0 v1 v2 28).alloc (.cells #[.slice none 0 0, .slice none 0 0, .slice none 0 0] 34)).alloc (.cells #[.slice none 0 0, .slice none 0 0, .slice none 0 0] 34)
  have hB := (row3_made (w.alloc (.cells #[v0, v1, v2] 28)) (.slice none 0 0) (.slice none 0 0) (.slice none 0 0) 34).alloc (.cells #[.slice none 0 0, .slice none 0 0, .slice none 0 0] 34)
  have hC := row3_made ((w.alloc (.cells #[v0, v1, v2] 28)).alloc (.cells #[.slice none 0 0, .slice none 0 0, .slice none 0 0] 34)) (.slice none 0 0) (.slice none 0 0) (.slice none 0 0) 34
  simp only [World.size_alloc] at hB hC
  have hX := (((Ext.rfl' w).alloc' (.cells #[v0, v1, v2] 28)).alloc' (.cells #[.slice none 0 0, .slice none 0 0, .slice none 0 0] 34)).alloc' (.cells #[.slice none 0 0, .slice none 0 0, .slice none 0 0] 34)
  refine (toEndSS_own (HE.out.ext hX) s1 S2.out).mono ?_
  rintro e w1 ⟨a1, c1, b1, rfl, he1, ho1, hf1⟩
  have hA1 := row_ext hA he1
  have hB1 := row_ext hB he1
  have hC1 := row_ext hC he1
  have hX1 := hX.trans' he1
  have hF1 := hf1.of hX.size
  have hz1 : w.heap.size + 3 ≤ w1.heap.size := by have := he1.size; simp at this; omega
  have hL1 := ho1.lt
  have hb1 : ∀ b ∈ b1, w.heap.size + 3 ≤ b := fun b hb => by have := hf1.2 b hb; simp at this; omega
  have K1 := Lib.hid (And.intro hA1 (And.intro hB1 (And.intro hC1 (And.intro hX1 (And.intro ho1 (And.intro hF1 hb1))))))
  clear hA hB hC hX hA1 hB1 hC1 hX1 hF1 he1 ho1 hf1 hL1 hb1
  obtain ⟨p0, p1, p2, _, _, _⟩ := row3_facts K1.out.1
  obtain ⟨q0, q1, q2, r0, r1, r2⟩ := row3_facts K1.out.2.2.1
  go_wp2_with fail
  have K1' := K1
  refine (toIntS_own (HI.out.ext (K1.out.2.2.2.1.store (by show w.heap.size ≤ w.heap.size + 1 + 1; omega) _)) s3).mono ?_
  rintro e w2 ⟨a2, c2, b2, rfl, he2, ho2, hf2⟩
  have K2 : Hid (w2.rowIs w.heap.size 28 3 (tri v0 v1 v2) ∧ w2.rowIs (w.heap.size + 1) 34 3 (tri (.slice none 0 0) (.slice none 0 0) (.slice none 0 0)) ∧
      w2.rowIs (w.heap.size + 1 + 1) 34 3 (tri (.slice a1 N.ends.length c1) (.slice none 0 0) (.slice none 0 0)) ∧ Ext w w2 ∧
      OwnSS w2 (.slice a1 N.ends.length c1) N.ends b1 ∧ OwnI w2 (.slice a2 N.ids.length c2) N.ids b2 ∧ Fresh w (b1 ++ b2) ∧ ∀ b ∈ b1 ++ b2, w.heap.size + 3 ≤ b) := by
    obtain ⟨hA, hB, hC, hX, ho1, hF, hb⟩ := K1.out
    have hst : ∀ b, w.heap.size + 3 ≤ b → (w1.setCell ⟨w.heap.size + 1 + 1, 0, none⟩ (.slice a1 N.ends.length c1)).heap[b]? = w1.heap[b]? := fun b hb => Below.heap_setCell _ _ _ _ (by show b ≠ w.heap.size + 1 + 1; omega)
    refine ⟨row_ext (hA.setOther (by show w.heap.size ≠ w.heap.size + 1 + 1; omega) _) he2, row_ext (hB.setOther (by show w.heap.size + 1 ≠ w.heap.size + 1 + 1; omega) _) he2, row_ext (row3_set0 hC _) he2,
      (hX.store (by show w.heap.size ≤ w.heap.size + 1 + 1; omega) _).trans' he2, (ho1.keep fun b hb' => hst b (hb b hb')).ext he2, ho2, hF.append (w1 := w1) (fun b hb' => ho1.lt b hb') hX.size ?_, ?_⟩
    · exact ⟨hf2.1, fun b hb' => by have := hf2.2 b hb'; simpa using this⟩
    · intro b hb'
      rcases List.mem_append.1 hb' with hb' | hb'
      · exact hb b hb'
      · have := hf2.2 b hb'; simp at this; omega
  have hz2 : w.heap.size + 3 ≤ w2.heap.size := by have := he2.size; simp at this; omega
  clear K1 K1' he2 ho2 hf2 p0 p1 p2 q0 q1 q2 r0 r1 r2
  obtain ⟨p0, p1, p2, _, _, _⟩ := row3_facts K2.out.1
  obtain ⟨q0, q1, q2, r0, r1, r2⟩ := row3_facts K2.out.2.2.1
  go_wp2_with fail
  refine (toIntS_own (HP.out.ext (K2.out.2.2.2.1.store (by show w.heap.size ≤ w.heap.size + 1 + 1; omega) _)) s4).mono ?_
  rintro e w3 ⟨a3, c3, b3, rfl, he3, ho3, hf3⟩
  have K3 : Hid (w3.rowIs (w.heap.size + 1) 34 3 (tri (.slice none 0 0) (.slice none 0 0) (.slice none 0 0)) ∧
      w3.rowIs (w.heap.size + 1 + 1) 34 3 (tri (.slice a1 N.ends.length c1) (.slice a2 N.ids.length c2) (.slice none 0 0)) ∧ Ext w w3 ∧
      OwnSS w3 (.slice a1 N.ends.length c1) N.ends b1 ∧ OwnI w3 (.slice a2 N.ids.length c2) N.ids b2 ∧ OwnI w3 (.slice a3 N.inputs.length c3) N.inputs b3 ∧ Fresh w (b1 ++ (b2 ++ b3)) ∧ ∀ b ∈ b1 ++ (b2 ++ b3), w.heap.size + 3 ≤ b) := by
    obtain ⟨hA, hB, hC, hX, ho1, ho2, hF, hb⟩ := K2.out
    have hst : ∀ b, w.heap.size + 3 ≤ b → (w2.setCell ⟨w.heap.size + 1 + 1, 1, none⟩ (.slice a2 N.ids.length c2)).heap[b]? = w2.heap[b]? := fun b hb => Below.heap_setCell _ _ _ _ (by show b ≠ w.heap.size + 1 + 1; omega)
    refine ⟨row_ext (hB.setOther (by show w.heap.size + 1 ≠ w.heap.size + 1 + 1; omega) _) he3, row_ext (row3_set1 hC _) he3,
      (hX.store (by show w.heap.size ≤ w.heap.size + 1 + 1; omega) _).trans' he3, (ho1.keep fun b hb' => hst b (hb b (by simp [hb']))).ext he3, (ho2.keep fun b hb' => hst b (hb b (by simp [hb']))).ext he3, ho3, ?_, ?_⟩
    · rw [← List.append_assoc]
      refine hF.append (w1 := w2) (fun b hb' => ?_) hX.size ⟨hf3.1, fun b hb' => by have := hf3.2 b hb'; simpa using this⟩
      rcases List.mem_append.1 hb' with hb' | hb'
      · exact ho1.lt b hb'
      · exact ho2.1.lt b hb'
    · intro b hb'
      rw [← List.append_assoc] at hb'
      rcases List.mem_append.1 hb' with hb' | hb'
      · exact hb b hb'
      · have := hf3.2 b hb'; simp at this; omega
  have hz3 : w.heap.size + 3 ≤ w3.heap.size := by have := he3.size; simp at this; omega
  clear K2 he3 ho3 hf3 p0 p1 p2 q0 q1 q2 r0 r1 r2
  obtain ⟨p0, p1, p2, t0, t1, t2⟩ := row3_facts K3.out.1
  obtain ⟨q0, q1, q2, r0, r1, r2⟩ := row3_facts K3.out.2.1
  go_wp2
  refine bodyPost_ret (v := .agg #[.slice a1 N.ends.length c1, .slice a2 N.ids.length c2, .slice a3 N.inputs.length c3]) (by simp [results, Try.results19, go_sem, p0, p1, p2]) rfl ?_
  obtain ⟨hB, hC, hX, ho1, ho2, ho3, hF, hb⟩ := K3.out
  have hN : OwnNet w3 (.agg #[.slice a1 N.ends.length c1, .slice a2 N.ids.length c2, .slice a3 N.inputs.length c3]) N (b1 ++ (b2 ++ b3)) := ⟨_, _, _, b1, b2, b3, rfl, ho1, ho2, ho3, rfl⟩
  have hst : ∀ (wx : World) (p : Addr) (u : Value), p.block ≤ w.heap.size + 1 + 1 → ∀ b ∈ b1 ++ (b2 ++ b3), (wx.setCell p u).heap[b]? = wx.heap[b]? := fun wx p u hp b hb' => Below.heap_setCell _ _ _ _ (by have := hb b hb'; omega)
  refine ⟨_, b1 ++ (b2 ++ b3), rfl, ?_, ?_, hF⟩
  · exact (((hX.store (by show w.heap.size ≤ w.heap.size + 1 + 1; omega) _).store (by show w.heap.size ≤ w.heap.size + 1; omega) _).store (by show w.heap.size ≤ w.heap.size + 1; omega) _).store (by show w.heap.size ≤ w.heap.size + 1; omega) _
  · exact (((hN.keep (hst _ _ _ (by show w.heap.size + 1 + 1 ≤ _; omega))).keep (hst _ _ _ (by show w.heap.size + 1 ≤ _; omega))).keep (hst _ _ _ (by show w.heap.size + 1 ≤ _; omega))).keep (hst _ _ _ (by show w.heap.size + 1 ≤ _; omega))
end Go.Proofs.Ytkpdbceglejbnaa

/- Contracts of the functions that compare: the answer is whether the two lists are equal. -/
namespace Go.Proofs.Ytkpdbceglejbnaa
open Go.RowKit

theorem ints_eq {l1 l2 : List Int} (hn : l1.length = l2.length) (h : ∀ i, i < l1.length → gi l1 i = gi l2 i) : l1 = l2 :=
  List.ext_getElem hn fun i h1 h2 => by have := h i h1; simpa [gi, h1, h2] using this
theorem ends_eq {l1 l2 : List (Int × Int)} (hn : l1.length = l2.length) (h : ∀ i, i < l1.length → gn l1 i = gn l2 i ∧ gp l1 i = gp l2 i) : l1 = l2 :=
  List.ext_getElem hn fun i h1 h2 => by
    have := h i h1
    simp [gn, gp, h1, h2] at this
    exact Prod.ext this.1 this.2
theorem rows_eq {α : Type} {l1 l2 : List (List α)} (hn : l1.length = l2.length) (h : ∀ i, i < l1.length → gr l1 i = gr l2 i) : l1 = l2 :=
  List.ext_getElem hn fun i h1 h2 => by have := h i h1; simpa [gr, h1, h2] using this

theorem ret_bool {a b : Bool} (h : a = b) : Ending.returned (.bool a) = .returned (.bool b) := by rw [h]

set_option maxHeartbeats 400000 in
set_option maxRecDepth 100000 in
theorem eqIntS_any {w : World} {v1 v2 : Value} {l1 l2 : List Int} (h1 : IntSl w v1 l1) (h2 : IntSl w v2 l2) :
    Calls Try.prog 23 #[v1, v2] w fun e w' => e = .returned (.bool (decide (l1 = l2))) ∧ Ext w w' := by
  obtain ⟨a1, b1, o1, c1, rfl, ha1, hl1, hm1, hc1⟩ := h1
  obtain ⟨a2, b2, o2, c2, rfl, ha2, hl2, hm2, hc2⟩ := h2
  unfold maxLen at hm1 hm2
  have Hc1 := Lib.hid hc1
  have Ha1 := Lib.hid ha1
  have Hc2 := Lib.hid hc2
  have Ha2 := Lib.hid ha2
  clear hc1 ha1 hc2 ha2
  by_cases hn : l1.length = l2.length
  · have Hn := Lib.hid hn
    have hnb : ((l1.length : Int) != (l2.length : Int)) = false := by simp; omega
    clear hn
    go_enter Try.func23, Try.ntmps23
    go_wp2
    go_loopg [5] l1.length (fun g i wr => ∃ k : Nat, k ≤ l1.length ∧ g = l1.length - k ∧ i = .int .i64 k ∧ Hid (Ext w wr ∧ ∀ j, j < k → gi l1 j = gi l2 j))
    case atStart => exact ⟨0, Nat.zero_le _, rfl, rfl, Ext.rfl' w, fun j hj => absurd hj (by omega)⟩
    case round =>
      obtain ⟨k, hk, rfl, rfl, Hr⟩ := hrel
      by_cases hlt : k < l1.length
      · have hlt2 : k < l2.length := by have := Hn.out; omega
        obtain ⟨x1, hc1, rfl, _⟩ := Hc1.out k hlt
        obtain ⟨x2, hc2, rfl, _⟩ := Hc2.out k hlt2
        obtain rfl := Ha1.out (by omega)
        obtain rfl := Ha2.out (by omega)
        have q1 := Hr.out.1.cell' hc1
        have q2 := Hr.out.1.cell' hc2
        clear hc1 hc2
        by_cases he : gi l1 k = gi l2 k
        · have heb : (gi l1 k != gi l2 k) = false := by simp [he]
          have He := Lib.hid he
          clear he
          go_wp2
          go_region_held3 (fun w' => w'.cell? ⟨b1, o1 + k, none⟩ = some (.int .i64 (gi l1 k)) ∧ w'.cell? ⟨b2, o2 + k, none⟩ = some (.int .i64 (gi l2 k))) (go_keep) (fail)
          go_wp2
          go_roundg (l1.length - (k + 1))
          case measure => omega
          case rel =>
            refine ⟨k + 1, by omega, rfl, by go_num, Hr.out.1.drew', fun j hj => ?_⟩
            by_cases e : j = k
            · subst e; exact He.out
            · exact Hr.out.2 j (by omega)
        · have heb : (gi l1 k != gi l2 k) = true := by simp [he]
          go_wp2
          go_region_held3 (fun w' => w'.cell? ⟨b1, o1 + k, none⟩ = some (.int .i64 (gi l1 k)) ∧ w'.cell? ⟨b2, o2 + k, none⟩ = some (.int .i64 (gi l2 k))) (go_keep) (fail)
          go_wp2
          go_ret
          exact ⟨ret_bool (by rw [eq_comm, decide_eq_false_iff_not]; intro e; exact he (by rw [e])), Hr.out.1.drew'⟩
      · go_wp2
        go_ret
        obtain rfl : k = l1.length := by omega
        exact ⟨ret_bool (by rw [eq_comm, decide_eq_true_iff]; exact ints_eq Hn.out Hr.out.2), Hr.out.1⟩
  · have hnb : ((l1.length : Int) != (l2.length : Int)) = true := by simp; omega
    go_enter Try.func23, Try.ntmps23
    go_wp2
    go_ret
    exact ⟨ret_bool (by rw [eq_comm, decide_eq_false_iff_not]; intro e; exact hn (by rw [e])), Ext.rfl' w⟩

theorem eqEnd_any (x1 y1 x2 y2 : Int) (w : World) :
    Calls Try.prog 160 #[.agg #[.int .i64 x1, .int .i64 y1], .agg #[.int .i64 x2, .int .i64 y2]] w fun e w' => e = .returned (.bool (decide (x1 = x2 ∧ y1 = y2))) ∧ Ext w w' := by
  by_cases hx : x1 = x2
  · have hb : (x1 != x2) = false := by simp [hx]
    have Hx := Lib.hid hx
    clear hx
    by_cases hy : y1 = y2
    · have hb2 : (y1 != y2) = false := by simp [hy]
      have Hy := Lib.hid hy
      clear hy
      go_enter Try.func160, Try.ntmps160
      go_wp2
      go_ret
      exact ⟨ret_bool (by simp [Hx.out, Hy.out]), ((Ext.rfl' w).alloc' _).alloc' _⟩
    · have hb2 : (y1 != y2) = true := by simp [hy]
      go_enter Try.func160, Try.ntmps160
      go_wp2
      go_ret
      exact ⟨ret_bool (by simp [hy]), ((Ext.rfl' w).alloc' _).alloc' _⟩
  · have hb : (x1 != x2) = true := by simp [hx]
    go_enter Try.func160, Try.ntmps160
    go_wp2
    go_ret
    exact ⟨ret_bool (by simp [hx]), ((Ext.rfl' w).alloc' _).alloc' _⟩
end Go.Proofs.Ytkpdbceglejbnaa

/- Contracts of the functions that compare: ends, lists of ends, networks. -/
namespace Go.Proofs.Ytkpdbceglejbnaa
open Go.RowKit

set_option maxHeartbeats 800000 in
set_option maxRecDepth 100000 in
theorem eqEndS_any {w : World} {v1 v2 : Value} {l1 l2 : List (Int × Int)} (h1 : EndSl w v1 l1) (h2 : EndSl w v2 l2) :
    Calls Try.prog 112 #[v1, v2] w fun e w' => e = .returned (.bool (decide (l1 = l2))) ∧ Ext w w' := by
  obtain ⟨a1, b1, o1, c1, rfl, ha1, hl1, hm1, hc1⟩ := h1
  obtain ⟨a2, b2, o2, c2, rfl, ha2, hl2, hm2, hc2⟩ := h2
  unfold maxLen at hm1 hm2
  have Hc1 := Lib.hid hc1
  have Ha1 := Lib.hid ha1
  have Hc2 := Lib.hid hc2
  have Ha2 := Lib.hid ha2
  clear hc1 ha1 hc2 ha2
  by_cases hn : l1.length = l2.length
  · have Hn := Lib.hid hn
    have hnb : ((l1.length : Int) != (l2.length : Int)) = false := by simp; omega
    clear hn
    go_enter Try.func112, Try.ntmps112
    go_wp2
    go_loopg [5] l1.length (fun g i wr => ∃ k : Nat, k ≤ l1.length ∧ g = l1.length - k ∧ i = .int .i64 k ∧ Hid (Ext w wr ∧ ∀ j, j < k → gn l1 j = gn l2 j ∧ gp l1 j = gp l2 j))
    case atStart => exact ⟨0, Nat.zero_le _, rfl, rfl, Ext.rfl' w, fun j hj => absurd hj (by omega)⟩
    case round =>
      obtain ⟨k, hk, rfl, rfl, Hr⟩ := hrel
      by_cases hlt : k < l1.length
      · have hlt2 : k < l2.length := by have := Hn.out; omega
        obtain ⟨hc1, hd1, _⟩ := Hc1.out k hlt
        obtain ⟨hc2, hd2, _⟩ := Hc2.out k hlt2
        obtain rfl := Ha1.out (by omega)
        obtain rfl := Ha2.out (by omega)
        have q1 := Hr.out.1.cell' hc1
        have q2 := Hr.out.1.cell' hc2
        have q3 := Hr.out.1.cell' hd1
        have q4 := Hr.out.1.cell' hd2
        clear hc1 hc2 hd1 hd2
        have Hx := Lib.hid Hr.out.1.drew'
        by_cases he : gn l1 k = gn l2 k ∧ gp l1 k = gp l2 k
        · have heb : decide (gn l1 k = gn l2 k ∧ gp l1 k = gp l2 k) = true := by simp [he]
          have He := Lib.hid he
          have Heb := Lib.hid heb
          clear he heb
          go_wp2
          go_region_held3 (fun w' => w'.cell? ⟨b1, o1 + k * 2, none⟩ = some (.int .i64 (gn l1 k)) ∧ w'.cell? ⟨b2, o2 + k * 2, none⟩ = some (.int .i64 (gn l2 k)) ∧ w'.cell? ⟨b1, o1 + k * 2 + 1, none⟩ = some (.int .i64 (gp l1 k)) ∧ w'.cell? ⟨b2, o2 + k * 2 + 1, none⟩ = some (.int .i64 (gp l2 k)) ∧ Hid (Ext w w')) (first | exact ⟨q1, q2, q3, q4, Hx⟩ | exact ⟨hx.cell' ‹_›, hx.cell' ‹_›, hx.cell' ‹_›, hx.cell' ‹_›, Ext.trans' (Hid.out ‹_›) hx⟩) (first | (go_at_call 160; (with_reducible refine (eqEnd_any _ _ _ _ _).mono ?_); rintro e w' ⟨rfl, hx⟩; rw [Heb.out]))
          rename_i hh
          have HX := hh.2.2.2.2
          clear hh hx Hx
          go_wp2
          go_roundg (l1.length - (k + 1))
          case measure => omega
          case rel =>
            refine ⟨k + 1, by omega, rfl, by go_num, HX.out, fun j hj => ?_⟩
            by_cases e : j = k
            · subst e; exact He.out
            · exact Hr.out.2 j (by omega)
        · have Heb := Lib.hid (show decide (gn l1 k = gn l2 k ∧ gp l1 k = gp l2 k) = false by simpa using he)
          have He := Lib.hid he
          clear he
          go_wp2
          go_region_held3 (fun w' => w'.cell? ⟨b1, o1 + k * 2, none⟩ = some (.int .i64 (gn l1 k)) ∧ w'.cell? ⟨b2, o2 + k * 2, none⟩ = some (.int .i64 (gn l2 k)) ∧ w'.cell? ⟨b1, o1 + k * 2 + 1, none⟩ = some (.int .i64 (gp l1 k)) ∧ w'.cell? ⟨b2, o2 + k * 2 + 1, none⟩ = some (.int .i64 (gp l2 k)) ∧ Hid (Ext w w')) (first | exact ⟨q1, q2, q3, q4, Hx⟩ | exact ⟨hx.cell' ‹_›, hx.cell' ‹_›, hx.cell' ‹_›, hx.cell' ‹_›, Ext.trans' (Hid.out ‹_›) hx⟩) (first | (go_at_call 160; (with_reducible refine (eqEnd_any _ _ _ _ _).mono ?_); rintro e w' ⟨rfl, hx⟩; rw [Heb.out]))
          rename_i hh
          have HX := hh.2.2.2.2
          clear hh hx Hx
          go_wp2
          go_ret
          exact ⟨ret_bool (by rw [eq_comm, decide_eq_false_iff_not]; intro e; exact He.out (by rw [e]; exact ⟨rfl, rfl⟩)), HX.out⟩
      · go_wp2
        go_ret
        obtain rfl : k = l1.length := by omega
        exact ⟨ret_bool (by rw [eq_comm, decide_eq_true_iff]; exact ends_eq Hn.out Hr.out.2), Hr.out.1⟩
  · have hnb : ((l1.length : Int) != (l2.length : Int)) = true := by simp; omega
    go_enter Try.func112, Try.ntmps112
    go_wp2
    go_ret
    exact ⟨ret_bool (by rw [eq_comm, decide_eq_false_iff_not]; intro e; exact hn (by rw [e])), Ext.rfl' w⟩

set_option maxHeartbeats 800000 in
set_option maxRecDepth 100000 in
theorem eqEndSS_any {w : World} {v1 v2 : Value} {l1 l2 : List (List (Int × Int))} (h1 : EndSS w v1 l1) (h2 : EndSS w v2 l2) :
    Calls Try.prog 61 #[v1, v2] w fun e w' => e = .returned (.bool (decide (l1 = l2))) ∧ Ext w w' := by
  obtain ⟨a1, b1, o1, c1, rfl, ha1, hl1, hm1, hc1⟩ := h1
  obtain ⟨a2, b2, o2, c2, rfl, ha2, hl2, hm2, hc2⟩ := h2
  unfold maxLen at hm1 hm2
  have Hc1 := Lib.hid hc1
  have Ha1 := Lib.hid ha1
  have Hc2 := Lib.hid hc2
  have Ha2 := Lib.hid ha2
  clear hc1 ha1 hc2 ha2
  by_cases hn : l1.length = l2.length
  · have Hn := Lib.hid hn
    have hnb : ((l1.length : Int) != (l2.length : Int)) = false := by simp; omega
    clear hn
    go_enter Try.func61, Try.ntmps61
    go_wp2
    go_loopg [5] l1.length (fun g i wr => ∃ k : Nat, k ≤ l1.length ∧ g = l1.length - k ∧ i = .int .i64 k ∧ Hid (Ext w wr ∧ ∀ j, j < k → gr l1 j = gr l2 j))
    case atStart => exact ⟨0, Nat.zero_le _, rfl, rfl, Ext.rfl' w, fun j hj => absurd hj (by omega)⟩
    case round =>
      obtain ⟨k, hk, rfl, rfl, Hr⟩ := hrel
      by_cases hlt : k < l1.length
      · have hlt2 : k < l2.length := by have := Hn.out; omega
        obtain ⟨x1, hc1, hx1⟩ := Hc1.out k hlt
        obtain ⟨x2, hc2, hx2⟩ := Hc2.out k hlt2
        obtain rfl := Ha1.out (by omega)
        obtain rfl := Ha2.out (by omega)
        have q1 := Hr.out.1.cell' hc1
        have q2 := Hr.out.1.cell' hc2
        have HX1 := Lib.hid hx1
        have HX2 := Lib.hid hx2
        clear hc1 hc2 hx1 hx2
        have Hx := Lib.hid Hr.out.1.drew'
        by_cases he : gr l1 k = gr l2 k
        · have Heb := Lib.hid (show decide (gr l1 k = gr l2 k) = true by simpa using he)
          have He := Lib.hid he
          clear he
          go_wp2
          go_region_held3 (fun w' => w'.cell? ⟨b1, o1 + k, none⟩ = some x1 ∧ w'.cell? ⟨b2, o2 + k, none⟩ = some x2 ∧ Hid (Ext w w')) (first | exact ⟨q1, q2, Hx⟩ | exact ⟨hx.cell' ‹_›, hx.cell' ‹_›, Ext.trans' (Hid.out ‹_›) hx⟩) (first | (go_at_call 112; (with_reducible refine (eqEndS_any (HX1.out.ext (Hid.out ‹Hid (Ext w _)›)) (HX2.out.ext (Hid.out ‹Hid (Ext w _)›))).mono ?_); rintro e w' ⟨rfl, hx⟩; rw [Heb.out]))
          rename_i hh
          have HX := hh.2.2
          clear hh hx Hx
          go_wp2
          go_roundg (l1.length - (k + 1))
          case measure => omega
          case rel =>
            refine ⟨k + 1, by omega, rfl, by go_num, HX.out, fun j hj => ?_⟩
            by_cases e : j = k
            · subst e; exact He.out
            · exact Hr.out.2 j (by omega)
        · have Heb := Lib.hid (show decide (gr l1 k = gr l2 k) = false by simpa using he)
          have He := Lib.hid he
          clear he
          go_wp2
          go_region_held3 (fun w' => w'.cell? ⟨b1, o1 + k, none⟩ = some x1 ∧ w'.cell? ⟨b2, o2 + k, none⟩ = some x2 ∧ Hid (Ext w w')) (first | exact ⟨q1, q2, Hx⟩ | exact ⟨hx.cell' ‹_›, hx.cell' ‹_›, Ext.trans' (Hid.out ‹_›) hx⟩) (first | (go_at_call 112; (with_reducible refine (eqEndS_any (HX1.out.ext (Hid.out ‹Hid (Ext w _)›)) (HX2.out.ext (Hid.out ‹Hid (Ext w _)›))).mono ?_); rintro e w' ⟨rfl, hx⟩; rw [Heb.out]))
          rename_i hh
          have HX := hh.2.2
          clear hh hx Hx
          go_wp2
          go_ret
          exact ⟨ret_bool (by rw [eq_comm, decide_eq_false_iff_not]; intro e; exact He.out (by rw [e])), HX.out⟩
      · go_wp2
        go_ret
        obtain rfl : k = l1.length := by omega
        exact ⟨ret_bool (by rw [eq_comm, decide_eq_true_iff]; exact rows_eq Hn.out Hr.out.2), Hr.out.1⟩
  · have hnb : ((l1.length : Int) != (l2.length : Int)) = true := by simp; omega
    go_enter Try.func61, Try.ntmps61
    go_wp2
    go_ret
    exact ⟨ret_bool (by rw [eq_comm, decide_eq_false_iff_not]; intro e; exact hn (by rw [e])), Ext.rfl' w⟩
end Go.Proofs.Ytkpdbceglejbnaa

/- The contract of the function that compares networks. -/
namespace Go.Proofs.Ytkpdbceglejbnaa
open Go.RowKit

theorem net_eq_iff (N1 N2 : Net) : N1 = N2 ↔ N1.ends = N2.ends ∧ N1.ids = N2.ids ∧ N1.inputs = N2.inputs := by
  cases N1; cases N2; simp

set_option maxHeartbeats 1600000 in
set_option maxRecDepth 100000 in
theorem eqNetwork_any {w : World} {v1 v2 : Value} {N1 N2 : Net} (h1 : NetAt w v1 N1) (h2 : NetAt w v2 N2) :
    Calls Try.prog 22 #[v1, v2] w fun e w' => e = .returned (.bool (decide (N1 = N2))) ∧ Ext w w' := by
  obtain ⟨x0, x1, x2, rfl, hx0, hx1, hx2⟩ := h1
  obtain ⟨y0, y1, y2, rfl, hy0, hy1, hy2⟩ := h2
  have HX0 := Lib.hid hx0
  have HX1 := Lib.hid hx1
  have HX2 := Lib.hid hx2
  have HY0 := Lib.hid hy0
  have HY1 := Lib.hid hy1
  have HY2 := Lib.hid hy2
  clear hx0 hx1 hx2 hy0 hy1 hy2
  have hA := (row3_made w x0 x1 x2 34).alloc (.cells #[y0, y1, y2] 34)
  have hB := row3_made (w.alloc (.cells #[x0, x1, x2] 34)) y0 y1 y2 34
  have hX := ((Ext.rfl' w).alloc' (.cells #[x0, x1, x2] 34)).alloc' (.cells #[y0, y1, y2] 34)
  simp only [World.size_alloc] at hB
  have K := Lib.hid (And.intro hA (And.intro hB hX))
  clear hA hB hX
  by_cases e0 : N1.ends = N2.ends
  · have E0 := Lib.hid (show decide (N1.ends = N2.ends) = true by simpa using e0)
    have He0 := Lib.hid e0
    clear e0
    go_enter Try.func22, Try.ntmps22
    go_wp2_with fail
    (with_reducible refine (eqEndSS_any (HX0.out.ext K.out.2.2) (HY0.out.ext K.out.2.2)).mono ?_)
    rintro e w1 ⟨rfl, hw1⟩
    rw [E0.out]
    have K1 := Lib.hid (And.intro (row_ext K.out.1 hw1) (And.intro (row_ext K.out.2.1 hw1) (K.out.2.2.trans' hw1)))
    clear hw1
    obtain ⟨p0, p1, p2, _, _, _⟩ := row3_facts K1.out.1
    obtain ⟨q0, q1, q2, _, _, _⟩ := row3_facts K1.out.2.1
    by_cases e1 : N1.ids = N2.ids
    · have E1 := Lib.hid (show decide (N1.ids = N2.ids) = true by simpa using e1)
      have He1 := Lib.hid e1
      clear e1
      go_wp2_with fail
      (with_reducible refine (eqIntS_any (HX1.out.ext K1.out.2.2) (HY1.out.ext K1.out.2.2)).mono ?_)
      rintro e w2 ⟨rfl, hw2⟩
      rw [E1.out]
      have K2 := Lib.hid (And.intro (row_ext K1.out.1 hw2) (And.intro (row_ext K1.out.2.1 hw2) (K1.out.2.2.trans' hw2)))
      clear hw2 p0 p1 p2 q0 q1 q2
      obtain ⟨p0, p1, p2, _, _, _⟩ := row3_facts K2.out.1
      obtain ⟨q0, q1, q2, _, _, _⟩ := row3_facts K2.out.2.1
      by_cases e2 : N1.inputs = N2.inputs
      · have E2 := Lib.hid (show decide (N1.inputs = N2.inputs) = true by simpa using e2)
        have He2 := Lib.hid e2
        clear e2
        go_wp2_with fail
        (with_reducible refine (eqIntS_any (HX2.out.ext K2.out.2.2) (HY2.out.ext K2.out.2.2)).mono ?_)
        rintro e w3 ⟨rfl, hw3⟩
        rw [E2.out]
        have Hw3 := Lib.hid hw3
        clear hw3
        go_wp2
        go_ret
        exact ⟨ret_bool (by rw [eq_comm, decide_eq_true_iff, net_eq_iff]; exact ⟨He0.out, He1.out, He2.out⟩), K2.out.2.2.trans' Hw3.out⟩
      · have E2 := Lib.hid (show decide (N1.inputs = N2.inputs) = false by simpa using e2)
        have He2 := Lib.hid e2
        clear e2
        go_wp2_with fail
        (with_reducible refine (eqIntS_any (HX2.out.ext K2.out.2.2) (HY2.out.ext K2.out.2.2)).mono ?_)
        rintro e w3 ⟨rfl, hw3⟩
        rw [E2.out]
        have Hw3 := Lib.hid hw3
        clear hw3
        go_wp2
        go_ret
        exact ⟨ret_bool (by rw [eq_comm, decide_eq_false_iff_not, net_eq_iff]; intro h; exact He2.out h.2.2), K2.out.2.2.trans' Hw3.out⟩
    · have E1 := Lib.hid (show decide (N1.ids = N2.ids) = false by simpa using e1)
      have He1 := Lib.hid e1
      clear e1
      go_wp2_with fail
      (with_reducible refine (eqIntS_any (HX1.out.ext K1.out.2.2) (HY1.out.ext K1.out.2.2)).mono ?_)
      rintro e w2 ⟨rfl, hw2⟩
      rw [E1.out]
      have Hw2 := Lib.hid hw2
      clear hw2
      go_wp2
      go_ret
      exact ⟨ret_bool (by rw [eq_comm, decide_eq_false_iff_not, net_eq_iff]; intro h; exact He1.out h.2.1), K1.out.2.2.trans' Hw2.out⟩
  · have E0 := Lib.hid (show decide (N1.ends = N2.ends) = false by simpa using e0)
    have He0 := Lib.hid e0
    clear e0
    go_enter Try.func22, Try.ntmps22
    go_wp2_with fail
    (with_reducible refine (eqEndSS_any (HX0.out.ext K.out.2.2) (HY0.out.ext K.out.2.2)).mono ?_)
    rintro e w1 ⟨rfl, hw1⟩
    rw [E0.out]
    have Hw1 := Lib.hid hw1
    clear hw1
    go_wp2
    go_ret
    exact ⟨ret_bool (by rw [eq_comm, decide_eq_false_iff_not, net_eq_iff]; intro h; exact He0.out h.1), K.out.2.2.trans' Hw1.out⟩
end Go.Proofs.Ytkpdbceglejbnaa

/- Contracts of the functions that look for a number in a list or hold all of its numbers against bounds. -/
namespace Go.Proofs.Ytkpdbceglejbnaa
open Go.RowKit

/-- Whether p holds, as a Bool that no rewriting looks into. -/
noncomputable def dec (p : Prop) : Bool := @decide p (Classical.propDecidable p)
theorem dec_true {p : Prop} (h : p) : dec p = true := @decide_eq_true p (Classical.propDecidable p) h
theorem dec_false {p : Prop} (h : ¬p) : dec p = false := @decide_eq_false p (Classical.propDecidable p) h
theorem dec_iff {p : Prop} : dec p = true ↔ p := ⟨fun h => @of_decide_eq_true p (Classical.propDecidable p) h, dec_true⟩
theorem dec_not {p : Prop} : dec p = false ↔ ¬p := ⟨fun h => @of_decide_eq_false p (Classical.propDecidable p) h, dec_false⟩
theorem dec_congr {p q : Prop} (h : p ↔ q) : dec p = dec q := by rw [propext h]
theorem ret_t {p : Prop} (h : p) : Ending.returned (.bool true) = .returned (.bool (dec p)) := by rw [dec_true h]
theorem ret_f {p : Prop} (h : ¬p) : Ending.returned (.bool false) = .returned (.bool (dec p)) := by rw [dec_false h]

theorem gi_take {l : List Int} {k j : Nat} (h : j < k) : gi (l.take k) j = gi l j := by
  simp [gi, h]
theorem IntSl.take {w : World} {a : Option Addr} {n c k : Nat} {l : List Int} (h : IntSl w (.slice a n c) l) (hk : k ≤ l.length) : IntSl w (.slice a k c) (l.take k) := by
  obtain ⟨a', b, o, c', e, h2, h3, h4, h5⟩ := h
  cases e
  have hl : (l.take k).length = k := by simp; omega
  refine ⟨a, b, o, c, by rw [hl], fun h => h2 (by omega), by omega, h4, fun i hi => ?_⟩
  obtain ⟨x, hx, hr⟩ := h5 i (by omega)
  exact ⟨x, hx, by show _ ∧ _; rw [gi_take (by omega)]; exact hr⟩

def InB (n lo hi : Int) : Prop := lo ≤ n ∧ n ≤ hi
theorem l1In_any (n lo hi : Int) (w : World) : Calls Try.prog 103 #[.int .i64 n, .int .i64 lo, .int .i64 hi] w fun e w' => e = .returned (.bool (dec (InB n lo hi))) ∧ w = w' := by
  by_cases h1 : lo ≤ n
  · by_cases h2 : n ≤ hi
    · have e := Lib.hid (dec_true (p := InB n lo hi) ⟨h1, h2⟩)
      go_enter Try.func103, Try.ntmps103
      go_wp2
      go_ret
      exact ⟨ret_bool e.out.symm, rfl⟩
    · have e := Lib.hid (dec_false (p := InB n lo hi) (fun h => h2 h.2))
      go_enter Try.func103, Try.ntmps103
      go_wp2
      go_ret
      exact ⟨ret_bool e.out.symm, rfl⟩
  · have e := Lib.hid (dec_false (p := InB n lo hi) (fun h => h1 h.1))
    go_enter Try.func103, Try.ntmps103
    go_wp2
    go_ret
    exact ⟨ret_bool e.out.symm, rfl⟩

def Has (l : List Int) (x : Int) : Prop := ∃ j, j < l.length ∧ gi l j = x

set_option maxRecDepth 100000 in
theorem l1Has_any {w : World} {v : Value} {l : List Int} (x : Int) (h : IntSl w v l) : Calls Try.prog 130 #[v, .int .i64 x] w fun e w' => e = .returned (.bool (dec (Has l x))) ∧ w = w' := by
  obtain ⟨a, b, o, c, rfl, ha, hl, hm, hc⟩ := h
  unfold maxLen at hm
  have Hc := Lib.hid hc
  have Ha := Lib.hid ha
  clear hc ha
  go_enter Try.func130, Try.ntmps130
  go_wp2
  go_loop [9] (fun i => ∃ k : Nat, k ≤ l.length ∧ i = .int .i64 k ∧ Hid (∀ j, j < k → gi l j ≠ x)) (fun i => l.length - (intOf i).toNat)
  case atStart => exact ⟨0, Nat.zero_le _, rfl, fun j hj => absurd hj (by omega)⟩
  case round =>
    obtain ⟨k, hk, rfl, Hr⟩ := hrel
    by_cases hlt : k < l.length
    · obtain ⟨y, hc, rfl, _⟩ := Hc.out k hlt
      obtain rfl := Ha.out (by omega)
      by_cases he : gi l k = x
      · have heb : (gi l k == x) = true := by simp [he]
        have He := Lib.hid he
        clear he
        go_wp2
        go_ret
        exact ⟨ret_t ⟨k, hlt, He.out⟩, rfl⟩
      · have heb : (gi l k == x) = false := by simp [he]
        have He := Lib.hid he
        clear he
        go_wp2
        go_round
        case rel =>
          refine ⟨k + 1, by omega, by go_num, fun j hj => ?_⟩
          by_cases e : j = k
          · subst e; exact He.out
          · exact Hr.out j (by omega)
        case measure => simp [intOf]; omega
    · go_wp2
      go_ret
      obtain rfl : k = l.length := by omega
      exact ⟨ret_f (fun ⟨j, h1, h2⟩ => Hr.out j h1 h2), rfl⟩

def AllIn (l : List Int) (lo hi : Int) : Prop := ∀ j, j < l.length → lo ≤ gi l j ∧ gi l j ≤ hi

set_option maxRecDepth 100000 in
theorem l1All_any {w : World} {v : Value} {l : List Int} (lo hi : Int) (h : IntSl w v l) : Calls Try.prog 109 #[v, .int .i64 lo, .int .i64 hi] w fun e w' => e = .returned (.bool (dec (AllIn l lo hi))) ∧ w = w' := by
  obtain ⟨a, b, o, c, rfl, ha, hl, hm, hc⟩ := h
  unfold maxLen at hm
  have Hc := Lib.hid hc
  have Ha := Lib.hid ha
  clear hc ha
  go_enter Try.func109, Try.ntmps109
  go_wp2
  go_loop [11] (fun i => ∃ k : Nat, k ≤ l.length ∧ i = .int .i64 k ∧ Hid (∀ j, j < k → lo ≤ gi l j ∧ gi l j ≤ hi)) (fun i => l.length - (intOf i).toNat)
  case atStart => exact ⟨0, Nat.zero_le _, rfl, fun j hj => absurd hj (by omega)⟩
  case round =>
    obtain ⟨k, hk, rfl, Hr⟩ := hrel
    by_cases hlt : k < l.length
    · obtain ⟨y, hc, rfl, _⟩ := Hc.out k hlt
      obtain rfl := Ha.out (by omega)
      by_cases he : lo ≤ gi l k ∧ gi l k ≤ hi
      · have Heb := Lib.hid (dec_true (p := InB (gi l k) lo hi) he)
        have He := Lib.hid he
        clear he
        go_wp2_with (go_at_call 103; (with_reducible refine (l1In_any _ _ _ _).mono ?_); rintro e w' ⟨rfl, rfl⟩; rw [Heb.out])
        go_round
        case rel =>
          refine ⟨k + 1, by omega, by go_num, fun j hj => ?_⟩
          by_cases e : j = k
          · subst e; exact He.out
          · exact Hr.out j (by omega)
        case measure => simp [intOf]; omega
      · have Heb := Lib.hid (dec_false (p := InB (gi l k) lo hi) he)
        have He := Lib.hid he
        clear he
        go_wp2_with (go_at_call 103; (with_reducible refine (l1In_any _ _ _ _).mono ?_); rintro e w' ⟨rfl, rfl⟩; rw [Heb.out])
        go_ret
        exact ⟨ret_f (fun h => He.out (h k hlt)), rfl⟩
    · go_wp2
      go_ret
      obtain rfl : k = l.length := by omega
      exact ⟨ret_t Hr.out, rfl⟩
end Go.Proofs.Ytkpdbceglejbnaa

/- Contracts of the functions that check identifiers and inputs. -/
namespace Go.Proofs.Ytkpdbceglejbnaa
open Go.RowKit

def IdOK (l : List Int) (i : Nat) : Prop := InB (gi l i) 1 999999 ∧ ¬ Has (l.take i) (gi l i)
def IdsOK (l : List Int) (n : Int) : Prop := (l.length = 0 ∨ (l.length : Int) = n) ∧ ∀ i, i < l.length → IdOK l i

set_option maxHeartbeats 400000 in
set_option maxRecDepth 100000 in
theorem neIds_any {w : World} {v : Value} {l : List Int} (n : Int) (h : IntSl w v l) : Calls Try.prog 113 #[v, .int .i64 n] w fun e w' => e = .returned (.bool (dec (IdsOK l n))) ∧ w = w' := by
  have HI := Lib.hid h
  obtain ⟨a, b, o, c, rfl, ha, hl, hm, hc⟩ := h
  unfold maxLen at hm
  have Hc := Lib.hid hc
  have Ha := Lib.hid ha
  clear hc ha
  go_enter Try.func113, Try.ntmps113
  go_wp2
  go_loop [9] (fun i => ∃ k : Nat, k ≤ l.length ∧ i = .int .i64 k ∧ Hid (∀ j, j < k → IdOK l j)) (fun i => l.length - (intOf i).toNat)
  case atStart => exact ⟨0, Nat.zero_le _, rfl, fun j hj => absurd hj (by omega)⟩
  case round =>
    obtain ⟨k, hk, rfl, Hr⟩ := hrel
    by_cases hlt : k < l.length
    · obtain ⟨y, hc, rfl, _⟩ := Hc.out k hlt
      obtain rfl := Ha.out (by omega)
      by_cases he : InB (gi l k) 1 999999
      · have Heb := Lib.hid (dec_true he)
        have He := Lib.hid he
        clear he
        by_cases hh : Has (l.take k) (gi l k)
        · have Hhb := Lib.hid (dec_true hh)
          have Hh := Lib.hid hh
          clear hh
          go_wp2_with (first | (go_at_call 103; (with_reducible refine (l1In_any _ _ _ _).mono ?_); rintro e w' ⟨rfl, rfl⟩; rw [Heb.out]) | (go_at_call 130; (with_reducible refine (l1Has_any _ (HI.out.take hk)).mono ?_); rintro e w' ⟨rfl, rfl⟩; rw [Hhb.out]))
          go_ret
          exact ⟨ret_f (fun h => (h.2 k hlt).2 Hh.out), rfl⟩
        · have Hhb := Lib.hid (dec_false hh)
          have Hh := Lib.hid hh
          clear hh
          go_wp2_with (first | (go_at_call 103; (with_reducible refine (l1In_any _ _ _ _).mono ?_); rintro e w' ⟨rfl, rfl⟩; rw [Heb.out]) | (go_at_call 130; (with_reducible refine (l1Has_any _ (HI.out.take hk)).mono ?_); rintro e w' ⟨rfl, rfl⟩; rw [Hhb.out]))
          go_round
          case rel =>
            refine ⟨k + 1, by omega, by go_num, fun j hj => ?_⟩
            by_cases e : j = k
            · subst e; exact ⟨He.out, Hh.out⟩
            · exact Hr.out j (by omega)
          case measure => simp [intOf]; omega
      · have Heb := Lib.hid (dec_false he)
        have He := Lib.hid he
        clear he
        go_wp2_with (first | (go_at_call 103; (with_reducible refine (l1In_any _ _ _ _).mono ?_); rintro e w' ⟨rfl, rfl⟩; rw [Heb.out]))
        go_ret
        exact ⟨ret_f (fun h => He.out (h.2 k hlt).1), rfl⟩
    · obtain rfl : k = l.length := by omega
      by_cases h0 : l.length = 0
      · have h0b : ((l.length : Int) == 0) = true := beq_iff_eq.2 (by omega)
        have H0 := Lib.hid h0
        clear h0
        go_wp2
        go_ret
        exact ⟨ret_t ⟨.inl H0.out, Hr.out⟩, rfl⟩
      · have h0b : ((l.length : Int) == 0) = false := beq_eq_false_iff_ne.2 (by omega)
        by_cases hn : (l.length : Int) = n
        · have hnb : ((l.length : Int) == n) = true := beq_iff_eq.2 (by omega)
          have Hn := Lib.hid hn
          clear hn
          go_wp2
          go_ret
          exact ⟨ret_t ⟨.inr Hn.out, Hr.out⟩, rfl⟩
        · have hnb : ((l.length : Int) == n) = false := beq_eq_false_iff_ne.2 (by omega)
          have Hn := Lib.hid hn
          clear hn
          go_wp2
          go_ret
          exact ⟨ret_f (fun h => h.1.elim h0 Hn.out), rfl⟩

/-- The first place of x in l. -/
def FirstAt (l : List Int) (x : Int) (r : Int) : Prop := (r = -1 ∧ ¬ Has l x) ∨ ∃ k : Nat, r = k ∧ k < l.length ∧ gi l k = x ∧ ∀ j, j < k → gi l j ≠ x

set_option maxRecDepth 100000 in
theorem index_any {w : World} {v : Value} {l : List Int} (x : Int) (h : IntSl w v l) : Calls Try.prog 77 #[v, .int .i64 x] w fun e w' => ∃ r : Int, e = .returned (.int .i64 r) ∧ w = w' ∧ FirstAt l x r := by
  obtain ⟨a, b, o, c, rfl, ha, hl, hm, hc⟩ := h
  unfold maxLen at hm
  have Hc := Lib.hid hc
  have Ha := Lib.hid ha
  clear hc ha
  go_enter Try.func77, Try.ntmps77
  go_wp2
  go_loop [8] (fun i => ∃ k : Nat, k ≤ l.length ∧ i = .int .i64 k ∧ Hid (∀ j, j < k → gi l j ≠ x)) (fun i => l.length - (intOf i).toNat)
  case atStart => exact ⟨0, Nat.zero_le _, rfl, fun j hj => absurd hj (by omega)⟩
  case round =>
    obtain ⟨k, hk, rfl, Hr⟩ := hrel
    by_cases hlt : k < l.length
    · obtain ⟨y, hc, rfl, _⟩ := Hc.out k hlt
      obtain rfl := Ha.out (by omega)
      by_cases he : gi l k = x
      · have heb : (x == gi l k) = true := by simp [he]
        have He := Lib.hid he
        clear he
        go_wp2
        go_ret
        exact ⟨k, rfl, rfl, .inr ⟨k, rfl, hlt, He.out, Hr.out⟩⟩
      · have heb : (x == gi l k) = false := by simp; exact fun e => he e.symm
        have He := Lib.hid he
        clear he
        go_wp2
        go_round
        case rel =>
          refine ⟨k + 1, by omega, by go_num, fun j hj => ?_⟩
          by_cases e : j = k
          · subst e; exact He.out
          · exact Hr.out j (by omega)
        case measure => simp [intOf]; omega
    · go_wp2
      go_ret
      obtain rfl : k = l.length := by omega
      exact ⟨-1, rfl, rfl, .inl ⟨rfl, fun ⟨j, h1, h2⟩ => Hr.out j h1 h2⟩⟩

theorem contains_any {w : World} {v : Value} {l : List Int} (x : Int) (h : IntSl w v l) : Calls Try.prog 167 #[v, .int .i64 x] w fun e w' => e = .returned (.bool (dec (Has l x))) ∧ w = w' := by
  have HI := Lib.hid h
  obtain ⟨a, b, o, c, rfl, ha, hl, hm, hc⟩ := h
  unfold maxLen at hm
  clear hc ha
  go_enter Try.func167, Try.ntmps167
  go_wp2_with fail
  (with_reducible refine (index_any _ HI.out).mono ?_)
  rintro e w' ⟨r, rfl, rfl, hr⟩
  rcases hr with ⟨rfl, hn⟩ | ⟨k, rfl, hk, he, _⟩
  · have Hn := Lib.hid hn
    clear hn
    go_wp2
    go_ret
    exact ⟨ret_f Hn.out, rfl⟩
  · have He := Lib.hid he
    clear he
    go_wp2
    go_ret
    exact ⟨ret_t ⟨k, hk, He.out⟩, rfl⟩
end Go.Proofs.Ytkpdbceglejbnaa

/- Contracts of the program's own functions that check identifiers and inputs. -/
namespace Go.Proofs.Ytkpdbceglejbnaa
open Go.RowKit

set_option maxHeartbeats 400000 in
set_option maxRecDepth 100000 in
theorem areIds_any {w : World} {v : Value} {l : List Int} (n : Int) (h : IntSl w v l) : Calls Try.prog 122 #[v, .int .i64 n] w fun e w' => e = .returned (.bool (dec (IdsOK l n))) ∧ w = w' := by
  have HI := Lib.hid h
  obtain ⟨a, b, o, c, rfl, ha, hl, hm, hc⟩ := h
  unfold maxLen at hm
  have Hc := Lib.hid hc
  have Ha := Lib.hid ha
  clear hc ha
  by_cases h0 : l.length = 0
  · have h0b : ((l.length : Int) == 0) = true := beq_iff_eq.2 (by omega)
    have H0 := Lib.hid h0
    clear h0
    go_enter Try.func122, Try.ntmps122
    go_wp2
    go_ret
    exact ⟨ret_t ⟨.inl H0.out, fun i hi => absurd hi (by have := H0.out; omega)⟩, rfl⟩
  · have h0b : ((l.length : Int) == 0) = false := beq_eq_false_iff_ne.2 (by omega)
    have H0 := Lib.hid h0
    clear h0
    by_cases hn : (l.length : Int) = n
    · have hnb : ((l.length : Int) != n) = false := by rw [bne_eq_false_iff_eq]; exact hn
      have Hn := Lib.hid hn
      clear hn
      go_enter Try.func122, Try.ntmps122
      go_wp2
      go_loop [16] (fun i => ∃ k : Nat, k ≤ l.length ∧ i = .int .i64 k ∧ Hid (∀ j, j < k → IdOK l j)) (fun i => l.length - (intOf i).toNat)
      case atStart => exact ⟨0, Nat.zero_le _, rfl, fun j hj => absurd hj (by omega)⟩
      case round =>
        obtain ⟨k, hk, rfl, Hr⟩ := hrel
        by_cases hlt : k < l.length
        · obtain ⟨y, hc, rfl, _⟩ := Hc.out k hlt
          obtain rfl := Ha.out (by omega)
          by_cases g1 : gi l k < 1
          · have G1 := Lib.hid g1
            go_wp2
            go_ret
            exact ⟨ret_f (fun h => absurd (h.2 k hlt).1.1 (by have := G1.out; omega)), rfl⟩
          · by_cases g2 : 999999 < gi l k
            · have G2 := Lib.hid g2
              go_wp2
              go_ret
              exact ⟨ret_f (fun h => absurd (h.2 k hlt).1.2 (by have := G2.out; omega)), rfl⟩
            · have He := Lib.hid (show InB (gi l k) 1 999999 from ⟨by omega, by omega⟩)
              by_cases hh : Has (l.take k) (gi l k)
              · have Hhb := Lib.hid (dec_true hh)
                have Hh := Lib.hid hh
                clear hh
                go_wp2_with (go_at_call 167; (with_reducible refine (contains_any _ (HI.out.take hk)).mono ?_); rintro e w' ⟨rfl, rfl⟩; rw [Hhb.out])
                go_ret
                exact ⟨ret_f (fun h => (h.2 k hlt).2 Hh.out), rfl⟩
              · have Hhb := Lib.hid (dec_false hh)
                have Hh := Lib.hid hh
                clear hh
                go_wp2_with (go_at_call 167; (with_reducible refine (contains_any _ (HI.out.take hk)).mono ?_); rintro e w' ⟨rfl, rfl⟩; rw [Hhb.out])
                go_round
                case rel =>
                  refine ⟨k + 1, by omega, by go_num, fun j hj => ?_⟩
                  by_cases e : j = k
                  · subst e; exact ⟨He.out, Hh.out⟩
                  · exact Hr.out j (by omega)
                case measure => simp [intOf]; omega
        · obtain rfl : k = l.length := by omega
          go_wp2
          go_ret
          exact ⟨ret_t ⟨.inr Hn.out, Hr.out⟩, rfl⟩
    · have hnb : ((l.length : Int) != n) = true := by rw [bne_iff_ne]; exact hn
      have Hn := Lib.hid hn
      clear hn
      go_enter Try.func122, Try.ntmps122
      go_wp2
      go_ret
      exact ⟨ret_f (fun h => h.1.elim H0.out Hn.out), rfl⟩

def InputsOK (l : List Int) (n : Int) : Prop := (l.length : Int) = n ∧ AllIn l 0 9

set_option maxRecDepth 100000 in
theorem isBetweenK_any (n lo hi : Int) (w : World) : Calls Try.prog 140 #[.int .i64 n, .int .i64 lo, .int .i64 hi] w fun e w' => e = .returned (.bool (dec (InB n lo hi))) ∧ w = w' := by
  by_cases h1 : lo ≤ n
  · by_cases h2 : n ≤ hi
    · have H := Lib.hid (show InB n lo hi from ⟨h1, h2⟩)
      go_enter Try.func140, Try.ntmps140
      go_wp2
      go_ret
      exact ⟨ret_t H.out, rfl⟩
    · have H := Lib.hid (show ¬ InB n lo hi from fun h => h2 h.2)
      go_enter Try.func140, Try.ntmps140
      go_wp2
      go_ret
      exact ⟨ret_f H.out, rfl⟩
  · have H := Lib.hid (show ¬ InB n lo hi from fun h => h1 h.1)
    go_enter Try.func140, Try.ntmps140
    go_wp2
    go_ret
    exact ⟨ret_f H.out, rfl⟩

set_option maxHeartbeats 400000 in
set_option maxRecDepth 100000 in
theorem areBetween_any {w : World} {v : Value} {l : List Int} (lo hi : Int) (h : IntSl w v l) : Calls Try.prog 111 #[v, .int .i64 lo, .int .i64 hi] w fun e w' => e = .returned (.bool (dec (AllIn l lo hi))) ∧ w = w' := by
  obtain ⟨a, b, o, c, rfl, ha, hl, hm, hc⟩ := h
  unfold maxLen at hm
  have Hc := Lib.hid hc
  have Ha := Lib.hid ha
  clear hc ha
  go_enter Try.func111, Try.ntmps111
  go_wp2
  go_loop [11] (fun i => ∃ k : Nat, k ≤ l.length ∧ i = .int .i64 k ∧ Hid (∀ j, j < k → lo ≤ gi l j ∧ gi l j ≤ hi)) (fun i => l.length - (intOf i).toNat)
  case atStart => exact ⟨0, Nat.zero_le _, rfl, fun j hj => absurd hj (by omega)⟩
  case round =>
    obtain ⟨k, hk, rfl, Hr⟩ := hrel
    by_cases hlt : k < l.length
    · obtain ⟨y, hc, rfl, _⟩ := Hc.out k hlt
      obtain rfl := Ha.out (by omega)
      by_cases he : lo ≤ gi l k ∧ gi l k ≤ hi
      · have Heb := Lib.hid (dec_true (p := InB (gi l k) lo hi) he)
        have He := Lib.hid he
        clear he
        go_wp2_with (go_at_call 140; (with_reducible refine (isBetweenK_any _ _ _ _).mono ?_); rintro e w' ⟨rfl, rfl⟩; rw [Heb.out])
        go_round
        case rel =>
          refine ⟨k + 1, by omega, by go_num, fun j hj => ?_⟩
          by_cases e : j = k
          · subst e; exact He.out
          · exact Hr.out j (by omega)
        case measure => simp [intOf]; omega
      · have Heb := Lib.hid (dec_false (p := InB (gi l k) lo hi) he)
        have He := Lib.hid he
        clear he
        go_wp2_with (go_at_call 140; (with_reducible refine (isBetweenK_any _ _ _ _).mono ?_); rintro e w' ⟨rfl, rfl⟩; rw [Heb.out])
        go_ret
        exact ⟨ret_f (fun h => He.out (h k hlt)), rfl⟩
    · go_wp2
      go_ret
      obtain rfl : k = l.length := by omega
      exact ⟨ret_t Hr.out, rfl⟩

set_option maxHeartbeats 400000 in
set_option maxRecDepth 100000 in
theorem areInputs_any {w : World} {v : Value} {l : List Int} (n : Int) (h : IntSl w v l) : Calls Try.prog 123 #[v, .int .i64 n] w fun e w' => e = .returned (.bool (dec (InputsOK l n))) ∧ w = w' := by
  have HV := Lib.hid h
  obtain ⟨a, b, o, c, rfl, ha, hl, hm, hc⟩ := h
  unfold maxLen at hm
  clear ha hc
  by_cases hn : (l.length : Int) = n
  · have hnb : ((l.length : Int) == n) = true := beq_iff_eq.2 hn
    have HD := Lib.hid (dec_congr (p := AllIn l 0 9) (q := InputsOK l n) ⟨fun k => ⟨hn, k⟩, fun k => k.2⟩)
    clear hn
    go_enter Try.func123, Try.ntmps123
    go_wp2_with (go_at_call 111; (with_reducible refine (areBetween_any _ _ HV.out).mono ?_); rintro e w' ⟨rfl, rfl⟩)
    go_ret
    exact ⟨by rw [HD.out]; rfl, rfl⟩
  · have hnb : ((l.length : Int) == n) = false := beq_eq_false_iff_ne.2 hn
    have HD := Lib.hid (show ¬ InputsOK l n from fun k => hn k.1)
    clear hn
    go_enter Try.func123, Try.ntmps123
    go_wp2
    go_ret
    exact ⟨ret_f HD.out, rfl⟩

end Go.Proofs.Ytkpdbceglejbnaa
