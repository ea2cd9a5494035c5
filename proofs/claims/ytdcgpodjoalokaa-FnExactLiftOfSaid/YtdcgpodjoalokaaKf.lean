/- Several texts in one: Join, Ae, Ae2. -/
import Derived.Test.YtdcgpodjoalokaaKe
/- The contract of neJoin: a copy of the network with one edge more. -/
namespace Go.Proofs.Ytdcgpodjoalokaa
open Go.RowKit

/-- The place of the second end. -/
def joinAt (N : Net) (k l : Nat) : Int := if k = l then (gr N.ends l).length + 1 else (gr N.ends l).length
def joinNet (N : Net) (k l : Nat) : Net := addEnd (addEnd N k (l, joinAt N k l)) l (k, (gr N.ends k).length)
theorem addEnd_len (N : Net) (k : Nat) (p : Int × Int) : (addEnd N k p).ends.length = N.ends.length := by simp [addEnd]
theorem addEnd_row (N : Net) (k l : Nat) (p : Int × Int) (hk : k < N.ends.length) : (gr (addEnd N k p).ends l).length ≤ (gr N.ends l).length + 1 := by
  unfold addEnd
  rw [gr_set _ _ _ _ hk]
  by_cases e : l = k
  · subst e; simp
  · simp [e]

end Go.Proofs.Ytdcgpodjoalokaa

/- The contracts of both AddEdge. -/
namespace Go.Proofs.Ytdcgpodjoalokaa
open Go.RowKit

theorem EndSS.row {w : World} {v : Value} {l : List (List (Int × Int))} (h : EndSS w v l) {k : Nat} (hk : k < l.length) : ∃ b o c ax cx, v = .slice (some ⟨b, o, none⟩) l.length c ∧ w.cell? ⟨b, o + k, none⟩ = some (.slice ax (gr l k).length cx) := by
  obtain ⟨a, b, o, c, rfl, ha, hl, hm, hc⟩ := h
  obtain ⟨x, hx, hr⟩ := hc k hk
  obtain ⟨ax, _, _, cx, rfl, _⟩ := hr
  obtain rfl := ha (by omega)
  exact ⟨b, o, c, ax, cx, rfl, hx⟩

def duo (x y : Value) : Nat → Value
  | 0 => x
  | _ => y
theorem duo_made (w : World) (x y : Value) (t : Nat) : (w.alloc (.cells #[x, y] t)).rowIs w.heap.size t 2 (duo x y) :=
  ⟨#[x, y], heap_alloc_new w _, rfl, fun i hi => by match i with | 0 => rfl | 1 => rfl⟩
theorem duo_facts {w : World} {b t : Nat} {x y : Value} (h : w.rowIs b t 2 (duo x y)) : w.cell? ⟨b, 0, none⟩ = some x ∧ w.cell? ⟨b, 1, none⟩ = some y ∧ w.frozen? ⟨b, 0, none⟩ = false ∧ w.frozen? ⟨b, 1, none⟩ = false :=
  ⟨h.cell (i := 0) (by omega), h.cell (i := 1) (by omega), h.frozen _, h.frozen _⟩
theorem duo_set1 {w : World} {b t : Nat} {x y : Value} (h : w.rowIs b t 2 (duo x y)) (z : Value) : (w.setCell ⟨b, 1, none⟩ z).rowIs b t 2 (duo x z) :=
  (h.set 1 z).congr fun i hi => by match i with | 0 => rfl | 1 => rfl
/-- The two new ends lie in blocks of their own. -/
structure PQ (w3 wx : World) (N : Net) (k l pb qb : Nat) (jv : Int) : Prop where
  ext : Ext w3 wx
  size : w3.heap.size + 2 ≤ wx.heap.size
  pge : w3.heap.size ≤ pb
  qge : w3.heap.size ≤ qb
  p : wx.rowIs pb 123 2 (duo (.int .i64 k) (.int .i64 ((gr N.ends k).length : Int)))
  q : wx.rowIs qb 123 2 (duo (.int .i64 l) (.int .i64 jv))
theorem pq_one (w3 : World) (N : Net) (k l : Nat) (jv : Int) :
    PQ w3 ((w3.alloc (.cells #[.int .i64 k, .int .i64 ((gr N.ends k).length : Int)] 123)).alloc (.cells #[.int .i64 l, .int .i64 jv] 123)) N k l w3.heap.size (w3.heap.size + 1) jv :=
  ⟨((Ext.rfl' w3).alloc' _).alloc' _, by simp, Nat.le_refl _, by omega, (duo_made w3 _ _ 123).alloc _, by simpa using duo_made (w3.alloc (.cells #[.int .i64 k, .int .i64 ((gr N.ends k).length : Int)] 123)) (.int .i64 l) (.int .i64 jv) 123⟩
theorem pq_two (w3 : World) (N : Net) (k l : Nat) (jv : Int) :
    PQ w3 ((w3.alloc (.cells #[.int .i64 l, .int .i64 jv] 123)).alloc (.cells #[.int .i64 k, .int .i64 ((gr N.ends k).length : Int)] 123)) N k l (w3.heap.size + 1) w3.heap.size jv :=
  ⟨((Ext.rfl' w3).alloc' _).alloc' _, by simp, by omega, Nat.le_refl _, by simpa using duo_made (w3.alloc (.cells #[.int .i64 l, .int .i64 jv] 123)) (.int .i64 k) (.int .i64 ((gr N.ends k).length : Int)) 123, (duo_made w3 _ _ 123).alloc _⟩
theorem PQ.drew {w3 wx : World} {N : Net} {k l pb qb : Nat} {jv : Int} (h : PQ w3 wx N k l pb qb jv) : PQ w3 wx.drew N k l pb qb jv := ⟨h.ext.drew', by simpa using h.size, h.pge, h.qge, row_ext h.p (Ext.rfl' _).drew', row_ext h.q (Ext.rfl' _).drew'⟩
theorem PQ.set {w3 wx : World} {N : Net} {k l pb qb : Nat} {jv : Int} (h : PQ w3 wx N k l pb qb jv) (hne : pb ≠ qb) (z : Int) : PQ w3 (wx.setCell ⟨qb, 1, none⟩ (.int .i64 z)) N k l pb qb z :=
  ⟨h.ext.store h.qge _, by have := h.size; simp [World.setCell]; omega, h.pge, h.qge, h.p.setOther hne _, duo_set1 h.q _⟩

def JoinB (N : Net) (x y : Int) : Prop := NodeAns N x ∧ NodeOK N y ∧ Good (joinNet N x.toNat y.toNat)
noncomputable def joinAns (N : Net) (x y : Int) : Net := if dec (JoinB N x y) = true then joinNet N x.toNat y.toNat else zeroNet
theorem joinAns_t {N : Net} {x y : Int} (h : JoinB N x y) : joinAns N x y = joinNet N x.toNat y.toNat := by simp [joinAns, dec_true h]
theorem joinAns_f {N : Net} {x y : Int} (h : ¬ JoinB N x y) : joinAns N x y = zeroNet := by simp [joinAns, dec_false h]
theorem joinAns_small (N : Net) (x y : Int) : (joinAns N x y).small := by
  by_cases h : JoinB N x y
  · rw [joinAns_t h]; exact good_small h.2.2
  · rw [joinAns_f h]; exact zero_small

end Go.Proofs.Ytdcgpodjoalokaa

/- The contracts of both AddEdge, whatever the arguments. -/
namespace Go.Proofs.Ytdcgpodjoalokaa
open Go.RowKit
end Go.Proofs.Ytdcgpodjoalokaa
