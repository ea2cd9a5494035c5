/- Halting: the plain mathematics, outputs, the model's search. -/
import Derived.Test.YtdcgpodjoalokaaMz
namespace Go.Proofs.Ytdcgpodjoalokaa
open Go.RowKit

def ImIn (m : List Int) (c : Nat) : Prop := ∀ v, v < m.length → 0 ≤ gi m v ∧ gi m v < (c : Int)
/-- The elements of l at the first k places of a list. -/
def thrTo (l p : List Int) (k : Nat) : List Int := (List.range k).map fun i => gi l (gi p i).toNat
def thr (l p : List Int) : List Int := thrTo l p p.length
theorem length_thrTo (l p : List Int) (k : Nat) : (thrTo l p k).length = k := by simp [thrTo]
theorem length_thr (l p : List Int) : (thr l p).length = p.length := length_thrTo _ _ _
theorem gi_thrTo (l p : List Int) (k i : Nat) (h : i < k) : gi (thrTo l p k) i = gi l (gi p i).toNat := by simp [gi, thrTo, h]
theorem gi_thr (l p : List Int) (i : Nat) (h : i < p.length) : gi (thr l p) i = gi l (gi p i).toNat := gi_thrTo _ _ _ _ h
theorem thrTo_succ (l p : List Int) (k : Nat) : thrTo l p (k + 1) = thrTo l p k ++ [gi l (gi p k).toNat] := by simp [thrTo, List.range_succ]
theorem thr_in {w : World} {v : Value} {l p : List Int} (h : IntSl w v l) (hp : ImIn p l.length) : ∀ i, i < (thr l p).length → inI64 (gi (thr l p) i) := fun i hi => by
  rw [length_thr] at hi
  rw [gi_thr _ _ _ hi]
  have := hp i hi
  exact h.range _ (by omega)
theorem sts_im {M : Mach} {N : Net} {s : List Int} (h : Sts M N s) : ImIn s M.out.length := fun v hv => by
  have h1 := h.2.2 v hv
  have h2 := h.1.1.2.2.2.2.1
  omega
theorem out_in {M : Mach} {N : Net} {s : List Int} (h : Sts M N s) {v : Nat} (hv : v < s.length) : -1 ≤ gi (thr M.out s) v ∧ gi (thr M.out s) v ≤ 9 := by
  rw [gi_thr _ _ _ hv]
  have := sts_im h v hv
  exact h.1.1.2.2.2.2.2 _ (by omega)
/-- All states of a list have outputs. -/
def Halt (M : Mach) (l : List Int) : Prop := ∀ v, v < l.length → 0 ≤ gi (thr M.out l) v
theorem halt_has {M : Mach} {N : Net} {s : List Int} (h : Sts M N s) : Has (thr M.out s) (-1) ↔ ¬ Halt M s := by
  constructor
  · rintro ⟨j, h1, h2⟩ k
    rw [length_thr] at h1
    have := k j h1
    omega
  · intro k
    apply Classical.byContradiction
    intro hn
    refine k fun v hv => ?_
    have h1 := (out_in h hv).1
    apply Classical.byContradiction
    intro hlt
    exact hn ⟨v, by rw [length_thr]; exact hv, by omega⟩
/-- The first round, at most r, after which all states have outputs; -1 if there is none. -/
noncomputable def haltI (M : Mach) (N : Net) (r : Int) : Int := fstP (fun k => dec (Halt M (runL M N k))) (r.toNat + 1)
def HaltB (M : Mach) (N : Net) (r : Int) : Prop := LongOK M N r ∧ haltI M N r ≠ -1
noncomputable def hrAns (M : Mach) (N : Net) (r : Int) : Int := if dec (HaltB M N r) = true then haltI M N r else 0
noncomputable def ooAns (M : Mach) (N : Net) (r : Int) : List Int := if dec (HaltB M N r) = true then thr M.out (runL M N (haltI M N r).toNat) else []
theorem hrAns_t {M : Mach} {N : Net} {r : Int} (h : HaltB M N r) : hrAns M N r = haltI M N r := by unfold hrAns; rw [if_pos (dec_true h)]
theorem hrAns_f {M : Mach} {N : Net} {r : Int} (h : ¬ HaltB M N r) : hrAns M N r = 0 := by unfold hrAns; rw [dec_false h]; rfl
theorem ooAns_t {M : Mach} {N : Net} {r : Int} (h : HaltB M N r) : ooAns M N r = thr M.out (runL M N (haltI M N r).toNat) := by unfold ooAns; rw [if_pos (dec_true h)]
theorem ooAns_f {M : Mach} {N : Net} {r : Int} (h : ¬ HaltB M N r) : ooAns M N r = [] := by unfold ooAns; rw [dec_false h]; rfl
theorem ooAns_small (M : Mach) (N : Net) (r : Int) : (ooAns M N r).length ≤ 1048576 := by
  by_cases h : HaltB M N r
  · rw [ooAns_t h, length_thr, length_runL]; have := h.1.1.2.1.1.2; omega
  · rw [ooAns_f h]; simp
theorem haltI_none {M : Mach} {N : Net} {r : Int} (h : ∀ j, j ≤ r.toNat → ¬ Halt M (runL M N j)) : haltI M N r = -1 := fstP_none _ fun j hj => dec_false (h j (by omega))
theorem haltI_hit {M : Mach} {N : Net} {r : Int} {k : Nat} (h : ∀ j, j < k → ¬ Halt M (runL M N j)) (hk : Halt M (runL M N k)) (hr : k ≤ r.toNat) : haltI M N r = (k : Int) :=
  fstP_hit (p := fun k => dec (Halt M (runL M N k))) (fun j hj => dec_false (h j hj)) (dec_true hk) _ (by omega)

set_option maxHeartbeats 3200000 in
set_option maxRecDepth 100000 in
theorem coThrough_any {w : World} {vl va : Value} {l p : List Int} (hl : IntSl w vl l) (ha : IntSl w va p) (hin : ImIn p l.length) (hp20 : p.length ≤ 1048576) :
    Calls Try.prog 105 #[vl, va] w fun e w' => ∃ v' bs, e = .returned v' ∧ Ext w w' ∧ OwnI w' v' (thr l p) bs ∧ Fresh w bs := by
  have HP20 := Lib.hid hp20
  have HIN := Lib.hid hin
  have HRA := Lib.hid (thr_in hl hin)
  clear hin hp20
  obtain ⟨la, lb, lo, lc, rfl, hla, hll, hlm, hlc⟩ := hl
  obtain ⟨ga, gb, go, gc, rfl, hga, hgl, hgm, hgc⟩ := ha
  unfold maxLen at hlm hgm
  have HLA := Lib.hid hla
  have HLC := Lib.hid hlc
  have HGA := Lib.hid hga
  have HGC := Lib.hid hgc
  clear hla hlc hga hgc
  obtain ⟨i0, hi, hz0, hz1, hz2⟩ := info_parts Try.info3
  have I0 := Lib.hid (show Try.prog.info? 3 = some i0 ∧ i0.zero = some (.int .i64 0) ∧ i0.size = 1 ∧ i0.bytes = 8 from ⟨hi, hz0, hz1, hz2⟩)
  clear hi hz0 hz1 hz2
  go_enter Try.func105, Try.ntmps105
  go_wp2
  go_loopg [5, 10] p.length (fun g s i wr => ∃ k : Nat, k ≤ p.length ∧ g = p.length - k ∧ i = .int .i64 k ∧ Hid (Ext w wr ∧ GN w.heap.size wr s (thrTo l p k)))
  case atStart => exact ⟨0, Nat.zero_le _, rfl, rfl, Ext.rfl' _, GN.nil _ _⟩
  case round =>
    obtain ⟨k, hk, rfl, rfl, Hr⟩ := hrel
    by_cases hlt : k < p.length
    · obtain ⟨_, hgy, rfl, -⟩ := HGC.out k hlt
      obtain ⟨hz0, hz1⟩ := HIN.out k hlt
      obtain ⟨z, hz⟩ := Int.eq_ofNat_of_zero_le hz0
      have hzl : z < l.length := by omega
      rw [hz] at hgy
      have HZ := Lib.hid (show thrTo l p (k + 1) = thrTo l p k ++ [gi l z] by rw [thrTo_succ, hz, Int.toNat_natCast])
      clear hz hz0 hz1
      obtain rfl := HGA.out (by omega)
      obtain rfl := HLA.out (by omega)
      obtain ⟨_, hly, rfl, -⟩ := HLC.out z hzl
      obtain ⟨x, hx⟩ : ∃ x, gi l z = x := ⟨_, rfl⟩
      rw [hx] at hly HZ
      clear hx
      have c1 := Hr.out.1.cell' hgy
      have c2 := Hr.out.1.cell' hly
      have hp20 := HP20.out
      have hlen := length_thrTo l p k
      have HLEN := Lib.hid hlen
      have SZ := Lib.hid Hr.out.1.size
      clear hgy hly hlen
      go_wp2_with (at_builtin; refine wpList_app2 rfl _ _ 24 rfl w.heap.size 3 i0 (.int .i64 0) 1 8 Try.underlying24 I0.out.1 I0.out.2.1 I0.out.2.2.1 I0.out.2.2.2 rfl (by decide) _ (thrTo l p k).length (intCells (thrTo l p k)) rfl (Hr.out.2.ext ((Ext.rfl' _).alloc' _)) (some ⟨wr.heap.size, 0, none⟩) 1 1 [.int .i64 x] rfl (src_one wr _ _ rfl) (by have := HLEN.out; unfold maxLen; omega) (by have := HLEN.out; omega) (by have := SZ.out; simp; omega) ?_; intro v' w3 hg)
      have FI := Lib.hid (show Ext w w3 ∧ GN w.heap.size w3 v' (thrTo l p k ++ [x]) from ⟨GN.since (Hr.out.2.ext ((Ext.rfl' _).alloc' _)) (Hr.out.1.alloc' (.cells #[.int .i64 x] 3)) hg, GN.app rfl hg⟩)
      clear hg
      go_wp2
      go_roundg (p.length - (k + 1))
      case measure => omega
      case rel => exact ⟨k + 1, by omega, rfl, by go_num, FI.out.1, by rw [HZ.out]; exact FI.out.2⟩
    · obtain rfl : k = p.length := by omega
      go_wp2
      go_ret
      obtain ⟨bs, ho, hnd, hge⟩ := own_of_cells (l := thr l p) Hr.out.2 HRA.out
      exact ⟨_, bs, rfl, Hr.out.1, ho, hnd, hge⟩

set_option maxHeartbeats 3200000 in
set_option maxRecDepth 100000 in
theorem outputsOf_any {w : World} {vm vs : Value} {M : Mach} {N : Net} {s : List Int} (h : MachAt w vm M) (hs : IntSl w vs s) (ha : Sts M N s) :
    Calls Try.prog 150 #[vm, vs] w fun e w' => ∃ v' bs, e = .returned v' ∧ Ext w w' ∧ OwnI w' v' (thr M.out s) bs ∧ Fresh w bs := by
  have HIN := Lib.hid (sts_im ha)
  obtain ⟨a3, c3, a4, c4, a5, c5, a6, c6, rfl, -, -, -, h6, -⟩ := h
  have HRA := Lib.hid (thr_in h6 (sts_im ha))
  have hn40 : s.length ≤ 40 := by rw [ha.2.1]; exact ha.1.2.1.1.2
  obtain ⟨W1, hW1⟩ : ∃ W1, W1 = w.alloc (.cells #[.int .i64 M.deg, .int .i64 M.sts, .int .i64 M.msgs, .slice a3 M.start.length c3, .slice a4 M.send.length c4, .slice a5 M.cls.length c5, .slice a6 M.out.length c6] 31) := ⟨_, rfl⟩
  have EW := Lib.hid (show Ext w W1 by rw [hW1]; exact (Ext.rfl' w).alloc' _)
  have HSZ := Lib.hid (show W1.heap.size = w.heap.size + 1 by rw [hW1]; simp)
  have RW := Lib.hid (show W1.rowIs w.heap.size 31 7 (sept (.int .i64 M.deg) (.int .i64 M.sts) (.int .i64 M.msgs) (.slice a3 M.start.length c3) (.slice a4 M.send.length c4) (.slice a5 M.cls.length c5) (.slice a6 M.out.length c6)) by rw [hW1]; exact row7_made _ _ _ _ _ _ _ _ _)
  obtain ⟨-, -, -, -, -, -, p6⟩ := row7_facts RW.out
  obtain ⟨la, lb, lo, lc, e, hla, hll, hlm, hlc⟩ := h6.ext EW.out
  simp only [Value.slice.injEq] at e
  obtain ⟨rfl, -, rfl⟩ := e
  obtain ⟨ga, gb, go, gc, rfl, hga, hgl, hgm, hgc⟩ := hs.ext EW.out
  unfold maxLen at hlm hgm
  have HLA := Lib.hid hla
  have HLC := Lib.hid hlc
  have HGA := Lib.hid hga
  have HGC := Lib.hid hgc
  have hmk := run_make_row' (P := Try.prog) 24 3 (.int .i64 0) 8 Try.underlying24 Try.info3 rfl .i64 .i64 s.length (by omega) (by omega)
  clear hla hlc hga hgc h6 hs ha
  go_enter Try.func150, Try.ntmps150
  go_upto_region 1 with fail
  rw [← hW1]
  clear hW1
  go_wp2
  clear hmk
  go_loopg [13] s.length (fun g i wr => ∃ k : Nat, k ≤ s.length ∧ g = s.length - k ∧ i = .int .i64 k ∧ Hid (Ext W1 wr ∧ W1.heap.size < wr.heap.size ∧ wr.rowIs W1.heap.size 3 s.length (copied (thr M.out s) k)))
  case atStart => exact ⟨0, Nat.zero_le _, rfl, rfl, (Ext.rfl' W1).alloc' _, by simp, (World.rowIs_made W1 _ _ _).congr fun i _ => by simp [copied]⟩
  case round =>
    obtain ⟨k, hk, rfl, rfl, Hr⟩ := hrel
    by_cases hlt : k < s.length
    · obtain ⟨_, hgy, rfl, -⟩ := HGC.out k hlt
      obtain ⟨hz0, hz1⟩ := HIN.out k hlt
      obtain ⟨z, hz⟩ := Int.eq_ofNat_of_zero_le hz0
      have hzl : z < M.out.length := by omega
      rw [hz] at hgy
      have HZ := Lib.hid (show gi (thr M.out s) k = gi M.out z by rw [gi_thr _ _ _ hlt, hz, Int.toNat_natCast])
      clear hz hz0 hz1
      obtain rfl := HGA.out (by omega)
      obtain rfl := HLA.out (by omega)
      obtain ⟨_, hly, rfl, -⟩ := HLC.out z hzl
      obtain ⟨x, hx⟩ : ∃ x, gi M.out z = x := ⟨_, rfl⟩
      rw [hx] at hly HZ
      clear hx
      have c1 := Hr.out.1.cell' hgy
      have c2 := Hr.out.1.cell' hly
      have c3' := Hr.out.1.cell' p6
      have y5 := Hr.out.2.2.cell hlt
      have y6 := Hr.out.2.2.frozen k
      clear hgy hly p6
      go_wp2
      go_roundg (s.length - (k + 1))
      case measure => omega
      case rel =>
        refine ⟨k + 1, by omega, rfl, by go_num, Hr.out.1.store (Nat.le_refl _) _, by simpa using Hr.out.2.1, ?_⟩
        have := copied_step (l := thr M.out s) (k := k) Hr.out.2.2
        rw [HZ.out] at this
        exact this
    · obtain rfl : k = s.length := by omega
      have HO := Lib.hid (show OwnI wr (.slice (some ⟨W1.heap.size, 0, none⟩) s.length s.length) (thr M.out s) [W1.heap.size] from own_rowM (length_thr _ _) (fun i hi => HRA.out i (by rw [length_thr]; exact hi)) (by omega) Hr.out.2.2)
      go_wp2
      go_ret
      exact ⟨_, _, rfl, EW.out.trans' Hr.out.1, HO.out, by simp, fun b hb => by obtain rfl := List.mem_singleton.1 hb; have := HSZ.out; omega⟩

end Go.Proofs.Ytdcgpodjoalokaa
