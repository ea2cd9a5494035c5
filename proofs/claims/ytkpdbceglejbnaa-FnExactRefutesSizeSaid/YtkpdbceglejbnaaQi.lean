/- The contracts of FibresOf and coFibres. -/
import Derived.Test.YtkpdbceglejbnaaQh
namespace Go.Proofs.Ytkpdbceglejbnaa
open Go.RowKit Go.Maps

theorem made_nils (w : World) (n : Nat) : (w.alloc (.cells (madeCells #[.slice none 0 0] n) 26)).rowIs w.heap.size 26 n (fun _ => .slice none 0 0) :=
  ⟨_, Go.Deep.blk_alloc_new _ _, size_madeCells _ _, fun i hi => by
    simp only [madeCells]
    simp [hi, Nat.mod_one]⟩
theorem infoQ : (Try.prog.info? 26).map (fun i => (i.zero, i.size, i.bytes)) = some (some (.slice none 0 0), 1, 24) := by kernel_rfl
theorem make_rows (n : Nat) (hn : n ≤ 1048576) (u : World) : (Instr.makeSlice 89 (.int .i64 (n : Int)) (.int .i64 (n : Int))).run Try.prog u = .ok (.slice (some ⟨u.heap.size, 0, none⟩) n n) (u.alloc (.cells (madeCells #[.slice none 0 0] n) 26)) := by
  obtain ⟨i0, hi, hz0, hz1, hz2⟩ := info_parts infoQ
  have h := run_make (P := Try.prog) u 89 26 i0 _ Try.underlying89 hi hz0 .i64 .i64 n n (by omega) (Int.le_refl _) (by rw [hz2]; omega) (by omega)
  simpa [hz1, Value.cells] using h
/-- What the map of fibres tells at each number: nothing where there is no node. -/
def blankR (m : List Int) (R : Nat → Value) : Nat → Value := fun i => if (fib m (i : Int)).length = 0 then .slice none 0 0 else R i
theorem Fam.blank {B c : Nat} {w : World} {m : List Int} {R : Nat → Value} (h : Fam B w c R (fun i => fib m (i : Int))) : Fam B w c (blankR m R) (gr (fibs m c)) := by
  refine ⟨fun i hi => ?_, fun i j hi hj hij b => ?_⟩
  · rw [gr_fibs _ _ _ hi]
    unfold blankR
    split
    · rename_i h0
      rw [List.length_eq_zero_iff.1 h0]
      exact GrowN.nil B w
    · exact h.own i hi
  · unfold blankR
    split
    · intro h1; simp [Value.ownBlock] at h1
    · split
      · intro _ h1; simp [Value.ownBlock] at h1
      · exact h.ap i j hi hj hij b
theorem FMap.at {B b c : Nat} {w : World} {m : List Int} {R : Nat → Value} (_ : FMap B w b m c R) {z : Nat} (hz : z < c) : (fm c (fun z => 0 < (fib m (z : Int)).length) R (lk (z : Int))).getD (.slice none 0 0) = blankR m R z := by
  unfold blankR
  split
  · rename_i h0
    rw [fm_no fun h' => by have := h'.2.2; simp at this; omega]; rfl
  · rw [fm_yes (p := fun z => 0 < (fib m (z : Int)).length) hz (by omega)]; rfl
theorem Fam.base {B B' c : Nat} {w : World} {R : Nat → Value} {L : Nat → List Int} (h : Fam B w c R L) (hB : B' ≤ B) : Fam B' w c R L :=
  ⟨fun i hi => ⟨(h.own i hi).1, by
      rcases (h.own i hi).2 with h | ⟨g, cap, cur, h1, h2, h3⟩
      · exact .inl h
      · exact .inr ⟨g, cap, cur, h1, by omega, h3⟩⟩, h.ap⟩
def fillRow (R : Nat → Value) (k : Nat) : Nat → Value := fun i => if i < k then R i else .slice none 0 0
theorem fill_step {w : World} {b n k : Nat} {R : Nat → Value} {v : Value} (h : w.rowIs b 26 n (fillRow R k)) (hv : v = R k) : (w.setCell ⟨b, k, none⟩ v).rowIs b 26 n (fillRow R (k + 1)) :=
  (h.set k v).congr fun i _ => by
    subst hv
    unfold fillRow
    by_cases e : i = k
    · subst e; simp
    · by_cases e2 : i < k
      · simp [e, e2, show i < k + 1 by omega]
      · simp [e, e2, show ¬ i < k + 1 by omega]

set_option maxHeartbeats 3200000 in
set_option maxRecDepth 100000 in
theorem coFibres_any {w : World} {vb vm : Value} {B : Net} {m : List Int} (h : NetAt w vb B) (hf : IntSl w vm m) (hin : ImIn m B.ends.length) (hm20 : m.length ≤ 1048576) (hb20 : B.ends.length ≤ 1048576) :
    Calls Try.prog 181 #[vb, vm] w fun e w' => ∃ a c bs, e = .returned (.slice a B.ends.length c) ∧ Ext w w' ∧ OwnII w' (.slice a B.ends.length c) (fibs m B.ends.length) bs ∧ Fresh w bs := by
  have HM20 := Lib.hid hm20
  have HIN := Lib.hid hin
  clear hin hm20
  obtain ⟨u0, u1, u2, rfl, hEb, -, -⟩ := h
  obtain ⟨fa, fb, fo, fc, rfl, -, hfl, hfm, -⟩ := hEb
  obtain ⟨la, lb, lo, lc, rfl, hla, hll, hlm, hlc⟩ := hf
  unfold maxLen at hfm hlm
  have HLA := Lib.hid hla
  have HLC := Lib.hid hlc
  clear hla hlc
  obtain ⟨i0, hi, hz0, hz1, hz2⟩ := info_parts Try.info3
  have I0 := Lib.hid (show Try.prog.info? 3 = some i0 ∧ i0.zero = some (.int .i64 0) ∧ i0.size = 1 ∧ i0.bytes = 8 from ⟨hi, hz0, hz1, hz2⟩)
  clear hi hz0 hz1 hz2
  obtain ⟨n, hn⟩ : ∃ n, n = B.ends.length := ⟨_, rfl⟩
  rw [← hn] at hb20 hfl HIN ⊢
  clear hn
  have hmk := make_rows n hb20
  go_enter Try.func181, Try.ntmps181
  go_wp2_with fail
  clear hmk
  go_loopg [14] m.length (fun g i wr => ∃ v : Nat, v ≤ m.length ∧ g = m.length - v ∧ i = .int .i64 v ∧ Hid (Ext w wr ∧ ∃ R, wr.rowIs (w.heap.size + 1) 26 n R ∧ Fam (w.heap.size + 1) wr n R (fun (i : Nat) => fibTo m (i : Int) v)))
  case atStart => exact ⟨0, Nat.zero_le _, rfl, rfl, ((Ext.rfl' w).alloc' _).alloc' _, nils, (by simpa using made_nils (w.alloc (.cells #[.slice fa n fc, u1, u2] 34)) n : World.rowIs _ (w.heap.size + 1) 26 n (fun _ => .slice none 0 0)), Fam.nil _ _ _⟩
  case round =>
    obtain ⟨v, hv, rfl, rfl, Hr⟩ := hrel
    by_cases hlt : v < m.length
    · obtain ⟨_, hmy, rfl, hmr⟩ := HLC.out v hlt
      obtain ⟨hz0, hz1⟩ := HIN.out v hlt
      obtain ⟨z, hz⟩ := Int.eq_ofNat_of_zero_le hz0
      have hzn : z < n := by omega
      rw [hz] at hmy
      have HZ := Lib.hid hz
      clear hz hz0 hz1 hmr
      obtain rfl := HLA.out (by omega)
      obtain ⟨hE, R, hR, hF⟩ := Hr.out
      have SE := Lib.hid hE
      have SR := Lib.hid hR
      have SF := Lib.hid hF
      clear hE hR hF
      have c1 := SE.out.cell' hmy
      have hfl := fibTo_len m (z : Int) v
      have hm20 := HM20.out
      obtain ⟨ra, rc, hRz⟩ := (SF.out.own z hzn).slice
      have f1 := SR.out.cell hzn
      rw [hRz] at f1
      have HRZ := Lib.hid hRz
      clear hmy hRz
      have f2 := ((Ext.rfl' wr).alloc' (.cells #[.int .i64 (v : Int)] 3)).cell' f1
      go_wp2_with (at_builtin; refine wpList_app2 rfl _ _ 26 rfl (w.heap.size + 1) 3 i0 (.int .i64 0) 1 8 Try.underlying26 I0.out.1 I0.out.2.1 I0.out.2.2.1 I0.out.2.2.2 rfl (by decide) (.slice ra (fibTo m (z : Int) v).length rc) (fibTo m (z : Int) v).length (intCells (fibTo m (z : Int) v)) rfl (by rw [← HRZ.out]; exact (SF.out.own z hzn).ext ((Ext.rfl' _).alloc' _)) (some ⟨wr.heap.size, 0, none⟩) 1 1 [.int .i64 (v : Int)] rfl (src_one wr _ _ rfl) (by unfold maxLen; omega) (by omega) (by have := SR.out.lt; simp; omega) ?_; intro v' w2 hg2; have HG2 := Lib.hid (show Grew2 (wr.alloc (.cells #[.int .i64 (v : Int)] 3)) w2 (w.heap.size + 1) 3 1 (R z) v' ((fibTo m (z : Int) v).length + 1) (intCells (fibTo m (z : Int) v) ++ [.int .i64 (v : Int)]) by rw [HRZ.out]; exact hg2); have SR2 := Lib.hid (row_grown (SR.out.alloc (.cells #[.int .i64 (v : Int)] 3)) ((SF.out.own z hzn).ext ((Ext.rfl' _).alloc' _)) HG2.out.1.2.1 (by decide)); have g1 := SR2.out.cell hzn; have g2 := SR2.out.frozen z; clear hg2; obtain ⟨va, vc, rfl⟩ := owns_slice HG2.out.1.1)
      have hF2 := (SF.out.step ((Ext.rfl' _).alloc' _) hzn HG2.out)
      rw [app1_fib HZ.out] at hF2
      have hE2 : Ext w w2 := ext_row (SE.out.alloc' (.cells #[.int .i64 (v : Int)] 3)) HG2.out.1.2.1 fun b hb => by have := ((SF.out.own z hzn).lt b hb).1; omega
      go_roundg (m.length - (v + 1))
      case measure => omega
      case rel =>
        refine ⟨v + 1, by omega, rfl, by go_num, hE2.store (by simp) _, put1 R z _, (SR2.out.set z _).congr fun i _ => by simp [put1], hF2.keep fun x _ _ ht => ?_⟩
        refine Below.heap_setCell _ _ _ _ fun e => ?_
        obtain ⟨cur, ht⟩ := ht
        obtain ⟨cur', hb⟩ := rowIs.blk SR2.out
        subst e
        rw [ht] at hb
        cases hb
    · obtain rfl : v = m.length := by omega
      go_wp2
      go_ret
      obtain ⟨hE, R, hR, hF⟩ := Hr.out
      obtain ⟨bs, ho, hnd, hge⟩ := Fam.done (l := fibs m n) (hF.congr (fun i _ => rfl) fun i hi => gr_fibs _ _ _ hi) (length_fibs _ _) (by unfold maxLen; omega) (fun i hi j hj => by rw [gr_fibs _ _ _ hi] at hj ⊢; exact fib_in HM20.out _ _ (Nat.le_refl _) j hj) hR (Nat.le_refl _)
      exact ⟨_, _, bs, rfl, hE, ho, hnd, fun x hx => by have := hge x hx; omega⟩
end Go.Proofs.Ytkpdbceglejbnaa
