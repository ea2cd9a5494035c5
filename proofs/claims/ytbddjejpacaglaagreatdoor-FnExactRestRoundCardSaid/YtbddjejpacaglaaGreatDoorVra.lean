/- The neighbours of a node and their values, in the model; a list of numbers that grows. -/
import Derived.Test.YtbddjejpacaglaaGreatDoorVqd
import Derived.Test.YtbddjejpacaglaaGreatDoorKb
namespace Go.Proofs.YtbddjejpacaglaaGreatDoor
open Go.RowKit

def GN (B : Nat) (w : World) (v : Value) (l : List Int) : Prop := w.ownsRow B 3 1 v l.length (intCells l)
theorem GN.nil (B : Nat) (w : World) : GN B w (.slice none 0 0) [] := World.ownsRow_nil _ _ _ _
theorem GN.ext {B : Nat} {w w' : World} {v : Value} {l : List Int} (h : GN B w v l) (he : Ext w w') : GN B w' v l := owns_ext h he
theorem GN.slice {B : Nat} {w : World} {v : Value} {l : List Int} (h : GN B w v l) : ∃ a c, v = .slice a l.length c := owns_slice h
theorem GN.app {B n : Nat} {w w' : World} {v v' : Value} {l : List Int} {x : Int} (hn : l.length = n) (hg : Grew2 w w' B 3 1 v v' (n + 1) (intCells l ++ [.int .i64 x])) : GN B w' v' (l ++ [x]) := by
  subst hn
  have := hg.1.1
  simpa [GN, intCells] using this
theorem GN.since {W w w' : World} {v v' : Value} {l : List Int} {x : Int} {n : Nat} (h : w.ownsRow W.heap.size 3 1 v n (intCells l)) (he : Ext W w) (hg : Grew2 w w' W.heap.size 3 1 v v' (n + 1) (intCells l ++ [.int .i64 x])) : Ext W w' :=
  hg.1.ext he fun b hb => (World.ownsRow.lt h b hb).1
def nears (l : List (Int × Int)) : List Int := l.map (·.1)
theorem gi_nears (l : List (Int × Int)) (i : Nat) (h : i < l.length) : gi (nears l) i = gn l i := by simp [gi, nears, gn, h]
theorem length_nears (l : List (Int × Int)) : (nears l).length = l.length := by simp [nears]
def nearCells (l : List (Int × Int)) (k : Nat) : List Value := (List.range k).map fun j => .int .i64 (gn l j)
theorem nearCells_succ (l : List (Int × Int)) (k : Nat) : nearCells l k ++ [.int .i64 (gn l k)] = nearCells l (k + 1) := by simp [nearCells, List.range_succ]
theorem nearCells_get (l : List (Int × Int)) (i : Nat) (h : i < l.length) : (nearCells l l.length)[i]? = some (.int .i64 (gi (nears l) i)) := by
  rw [gi_nears l i h]
  simp [nearCells, h]

set_option maxHeartbeats 1600000 in
set_option maxRecDepth 100000 in
theorem neNear_any {w : World} {v : Value} {N : Net} (x : Nat) (hx : x < N.ends.length) (h : NetAt w v N) (hs : (gr N.ends x).length ≤ 1048576) :
    Calls Tryz.prog 57 #[v, .int .i64 x] w fun e w' => ∃ v' bs, e = .returned v' ∧ Ext w w' ∧ OwnI w' v' (nears (gr N.ends x)) bs ∧ Fresh w bs := by
  obtain ⟨v0, v1, v2, rfl, hE, hI, hP⟩ := h
  clear hI hP
  obtain ⟨a, b, o, c, rfl, ha, hl, hm, hc⟩ := hE
  unfold maxLen at hm
  obtain ⟨z, hz, hz2⟩ := hc x hx
  obtain ⟨a', b', o', c', rfl, ha', hl', hm', hc'⟩ := hz2
  unfold maxLen at hm'
  obtain rfl := ha (by omega)
  have HX := Lib.hid (boxed_ext w (.slice (some ⟨b, o, none⟩) N.ends.length c) v1 v2 35)
  have hz1 := HX.out.cell' hz
  have Hc := Lib.hid hc'
  have Ha := Lib.hid ha'
  clear hc ha hc' ha' hz
  obtain ⟨i0, hi, hz0, hz1', hz2⟩ := info_parts Tryz.info3
  have I0 := Lib.hid (And.intro hi (And.intro hz0 (And.intro hz1' hz2)))
  clear hi hz0 hz1' hz2
  go_enter Tryz.func57, Tryz.ntmps57
  go_wp2
  clear hz1
  go_loopg [5, 14] (gr N.ends x).length (fun g s i wr => ∃ k : Nat, k ≤ (gr N.ends x).length ∧ g = (gr N.ends x).length - k ∧ i = .int .i64 k ∧ Hid (Ext (boxed w (.slice (some ⟨b, o, none⟩) N.ends.length c) v1 v2 35) wr ∧ wr.ownsRow (w.heap.size + 1) 3 1 s k (nearCells (gr N.ends x) k)))
  case atStart => exact ⟨0, Nat.zero_le _, rfl, rfl, Ext.rfl' _, World.ownsRow_nil _ _ _ _⟩
  case round =>
    obtain ⟨k, hk, rfl, rfl, Hr⟩ := hrel
    by_cases hlt : k < (gr N.ends x).length
    · obtain ⟨hc1, hc2, _⟩ := Hc.out k hlt
      obtain rfl := Ha.out (by omega)
      have q1 := Hr.out.1.cell' (HX.out.cell' hc1)
      have q2 := Hr.out.1.cell' (HX.out.cell' hc2)
      have hB : w.heap.size + 1 ≤ wr.heap.size := by have := Hr.out.1.size; simpa using this
      clear hc1 hc2
      go_wp2_with (at_builtin; refine wpList_append_own _ rfl _ _ 24 rfl (w.heap.size + 1) 3 i0 (.int .i64 0) 1 8 Tryz.underlying24 I0.out.1 I0.out.2.1 I0.out.2.2.1 I0.out.2.2.2 rfl (by decide) _ _ _ rfl ((Hr.out.2.alloc _).alloc _) ⟨wr.heap.size + 1, 0, none⟩ 1 1 [.int .i64 (gn (gr N.ends x) k)] rfl rfl ?c1 ?c2 ?c3 ?c4 ?c5 ?_)
      case c2 => simp [Value.oneCell']
      case c3 => unfold maxLen; omega
      case c4 => omega
      case c5 => first | omega | (simp; omega)
      intro v' w1 hown' hgrow _
      have Hn : Hid (Ext (boxed w (.slice (some ⟨b, o, none⟩) N.ends.length c) v1 v2 35) w1 ∧ w1.ownsRow (w.heap.size + 1) 3 1 v' (k + 1) (nearCells (gr N.ends x) (k + 1))) := by
        refine ⟨grown_ext ((Hr.out.1.alloc' _).alloc' _) (by simp) ((Hr.out.2.alloc _).alloc _) hgrow, ?_⟩
        rw [← nearCells_succ]
        exact hown'
      clear hown' hgrow
      go_wp2
      go_roundg ((gr N.ends x).length - (k + 1))
      case measure => omega
      case rel => exact ⟨k + 1, by omega, rfl, by go_num, Hn⟩
    · obtain rfl : k = (gr N.ends x).length := by omega
      go_wp2
      go_ret
      have hdl := length_nears (gr N.ends x)
      obtain ⟨bs, ho, hnd, hge⟩ := own_of_row (l := nears (gr N.ends x)) (by rw [hdl]; exact Hr.out.2) (fun i hi => nearCells_get _ i (by omega))
        (fun i hi => by rw [gi_nears _ i (by omega)]; exact (Hc.out i (by omega)).2.2.1)
      exact ⟨_, bs, rfl, HX.out.trans' Hr.out.1, ho, hnd, fun b hb => by have := hge b hb; omega⟩

def ImIn (m : List Int) (c : Nat) : Prop := ∀ v, v < m.length → 0 ≤ gi m v ∧ gi m v < (c : Int)
/-- The elements of l at the first k places of a list. -/
def thrTo (l p : List Int) (k : Nat) : List Int := (List.range k).map fun i => gi l (gi p i).toNat
def thr (l p : List Int) : List Int := thrTo l p p.length
theorem length_thrTo (l p : List Int) (k : Nat) : (thrTo l p k).length = k := by simp [thrTo]
theorem length_thr (l p : List Int) : (thr l p).length = p.length := length_thrTo _ _ _
theorem gi_thrTo (l p : List Int) (k i : Nat) (h : i < k) : gi (thrTo l p k) i = gi l (gi p i).toNat := by simp [gi, thrTo, h]
theorem gi_thr (l p : List Int) (i : Nat) (h : i < p.length) : gi (thr l p) i = gi l (gi p i).toNat := gi_thrTo _ _ _ _ h
theorem thrTo_succ (l p : List Int) (k : Nat) : thrTo l p (k + 1) = thrTo l p k ++ [gi l (gi p k).toNat] := by simp [thrTo, List.range_succ]
theorem thr_in {w : World} {v : Value} {l p : List Int} (h : IntSl w v l) (hp : ImIn p l.length) : ∀ i, i < (thr l p).length → inI64 (gi (thr l p) i) := fun i hi => by
  rw [length_thr] at hi
  rw [gi_thr _ _ _ hi]
  have := hp i hi
  exact h.range _ (by omega)
set_option maxHeartbeats 3200000 in
set_option maxRecDepth 100000 in
theorem coThrough_any {w : World} {vl va : Value} {l p : List Int} (hl : IntSl w vl l) (ha : IntSl w va p) (hin : ImIn p l.length) (hp20 : p.length ≤ 1048576) :
    Calls Tryz.prog 56 #[vl, va] w fun e w' => ∃ v' bs, e = .returned v' ∧ Ext w w' ∧ OwnI w' v' (thr l p) bs ∧ Fresh w bs := by
  have HP20 := Lib.hid hp20
  have HIN := Lib.hid hin
  have HRA := Lib.hid (thr_in hl hin)
  clear hin hp20
  obtain ⟨la, lb, lo, lc, rfl, hla, hll, hlm, hlc⟩ := hl
  obtain ⟨ga, gb, go, gc, rfl, hga, hgl, hgm, hgc⟩ := ha
  unfold maxLen at hlm hgm
  have HLA := Lib.hid hla
  have HLC := Lib.hid hlc
  have HGA := Lib.hid hga
  have HGC := Lib.hid hgc
  clear hla hlc hga hgc
  obtain ⟨i0, hi, hz0, hz1, hz2⟩ := info_parts Tryz.info3
  have I0 := Lib.hid (show Tryz.prog.info? 3 = some i0 ∧ i0.zero = some (.int .i64 0) ∧ i0.size = 1 ∧ i0.bytes = 8 from ⟨hi, hz0, hz1, hz2⟩)
  clear hi hz0 hz1 hz2
  go_enter Tryz.func56, Tryz.ntmps56
  go_wp2
  go_loopg [5, 10] p.length (fun g s i wr => ∃ k : Nat, k ≤ p.length ∧ g = p.length - k ∧ i = .int .i64 k ∧ Hid (Ext w wr ∧ GN w.heap.size wr s (thrTo l p k)))
  case atStart => exact ⟨0, Nat.zero_le _, rfl, rfl, Ext.rfl' _, GN.nil _ _⟩
  case round =>
    obtain ⟨k, hk, rfl, rfl, Hr⟩ := hrel
    by_cases hlt : k < p.length
    · obtain ⟨_, hgy, rfl, -⟩ := HGC.out k hlt
      obtain ⟨hz0, hz1⟩ := HIN.out k hlt
      obtain ⟨z, hz⟩ := Int.eq_ofNat_of_zero_le hz0
      have hzl : z < l.length := by omega
      rw [hz] at hgy
      have HZ := Lib.hid (show thrTo l p (k + 1) = thrTo l p k ++ [gi l z] by rw [thrTo_succ, hz, Int.toNat_natCast])
      clear hz hz0 hz1
      obtain rfl := HGA.out (by omega)
      obtain rfl := HLA.out (by omega)
      obtain ⟨_, hly, rfl, -⟩ := HLC.out z hzl
      obtain ⟨x, hx⟩ : ∃ x, gi l z = x := ⟨_, rfl⟩
      rw [hx] at hly HZ
      clear hx
      have c1 := Hr.out.1.cell' hgy
      have c2 := Hr.out.1.cell' hly
      have hp20 := HP20.out
      have hlen := length_thrTo l p k
      have HLEN := Lib.hid hlen
      have SZ := Lib.hid Hr.out.1.size
      clear hgy hly hlen
      go_wp2_with (at_builtin; refine wpList_app2 rfl _ _ 24 rfl w.heap.size 3 i0 (.int .i64 0) 1 8 Tryz.underlying24 I0.out.1 I0.out.2.1 I0.out.2.2.1 I0.out.2.2.2 rfl (by decide) _ (thrTo l p k).length (intCells (thrTo l p k)) rfl (Hr.out.2.ext ((Ext.rfl' _).alloc' _)) (some ⟨wr.heap.size, 0, none⟩) 1 1 [.int .i64 x] rfl (src_one wr _ _ rfl) (by have := HLEN.out; unfold maxLen; omega) (by have := HLEN.out; omega) (by have := SZ.out; simp; omega) ?_; intro v' w3 hg)
      have FI := Lib.hid (show Ext w w3 ∧ GN w.heap.size w3 v' (thrTo l p k ++ [x]) from ⟨GN.since (Hr.out.2.ext ((Ext.rfl' _).alloc' _)) (Hr.out.1.alloc' (.cells #[.int .i64 x] 3)) hg, GN.app rfl hg⟩)
      clear hg
      go_wp2
      go_roundg (p.length - (k + 1))
      case measure => omega
      case rel => exact ⟨k + 1, by omega, rfl, by go_num, FI.out.1, by rw [HZ.out]; exact FI.out.2⟩
    · obtain rfl : k = p.length := by omega
      go_wp2
      go_ret
      obtain ⟨bs, ho, hnd, hge⟩ := own_of_cells (l := thr l p) Hr.out.2 HRA.out
      exact ⟨_, bs, rfl, Hr.out.1, ho, hnd, hge⟩

end Go.Proofs.YtbddjejpacaglaaGreatDoor
