/- The contracts of PushNodes. -/
import Derived.Test.YtgacbfblpkikkaaQk
import Derived.Test.YtgacbfblpkikkaaQo
namespace Go.Proofs.Ytgacbfblpkikkaa
open Go.RowKit Go.Maps

/-- The first node of a fibre. -/
def fst (m : List Int) (z : Int) : Nat := (gi (fib m z) 0).toNat
/-- Values do not differ within a fibre. -/
def Same (m l : List Int) : Prop := ∀ v, v < m.length → gi l v = gi l (fst m (gi m v))
def PushB (A B : Net) (m l : List Int) : Prop := CovAns A B m ∧ l.length = A.ends.length ∧ Same m l
/-- The values of the first k fibres. -/
def fstTo (m l : List Int) (k : Nat) : List Int := (List.range k).map fun (z : Nat) => gi l (fst m (z : Int))
theorem length_fstTo (m l : List Int) (k : Nat) : (fstTo m l k).length = k := by simp [fstTo]
theorem gi_fstTo (m l : List Int) (k z : Nat) (h : z < k) : gi (fstTo m l k) z = gi l (fst m (z : Int)) := by simp [gi, fstTo, h]
theorem fstTo_succ (m l : List Int) (k : Nat) : fstTo m l (k + 1) = fstTo m l k ++ [gi l (fst m (k : Int))] := by simp [fstTo, List.range_succ]
noncomputable def pushAns (A B : Net) (m l : List Int) : List Int := if dec (PushB A B m l) = true then fstTo m l B.ends.length else []
theorem pushAns_t {A B : Net} {m l : List Int} (h : PushB A B m l) : pushAns A B m l = fstTo m l B.ends.length := by unfold pushAns; rw [if_pos (dec_true h)]
theorem pushAns_f {A B : Net} {m l : List Int} (h : ¬ PushB A B m l) : pushAns A B m l = [] := by unfold pushAns; rw [if_neg (by rw [dec_false h]; simp)]
theorem pushAns_len (A B : Net) (m l : List Int) : (pushAns A B m l).length ≤ 1048576 := by
  by_cases h : PushB A B m l
  · rw [pushAns_t h, length_fstTo]; have := (fib_small h.1.1).2.1; omega
  · rw [pushAns_f h]; simp
theorem fst_of {m : List Int} {z : Int} (h : 0 < (fib m z).length) : fst m z < m.length ∧ gi m (fst m z) = z ∧ gi (fib m z) 0 = (fst m z : Int) := by
  obtain ⟨v, h1, h2, h3⟩ := fibTo_at h
  have e : fst m z = v := by unfold fst fib; rw [h2, Int.toNat_natCast]
  rw [e]
  exact ⟨h1, h3, by unfold fib; exact h2⟩
theorem fst_in {m : List Int} {v : Nat} (hv : v < m.length) : fst m (gi m v) < m.length ∧ gi m (fst m (gi m v)) = gi m v := by
  obtain ⟨a, b, -⟩ := fst_of (fib_nonempty.2 ⟨v, hv, rfl⟩)
  exact ⟨a, b⟩
/-- What the program writes: the last value of each fibre. -/
def pshTo (m l : List Int) (n : Nat) : Nat → List Int
  | 0 => List.replicate n 0
  | v + 1 => (pshTo m l n v).set (gi m v).toNat (gi l v)
theorem length_pshTo (m l : List Int) (n : Nat) : ∀ v, (pshTo m l n v).length = n
  | 0 => by simp [pshTo]
  | v + 1 => by simp [pshTo, length_pshTo m l n v]
theorem giset {l : List Int} {k i : Nat} {x : Int} (hk : k < l.length) : gi (l.set k x) i = if i = k then x else gi l i := by
  simp only [gi, List.getD]
  by_cases e : i = k
  · subst e; simp [hk]
  · rw [if_neg e, List.getElem?_set_ne (by omega)]
theorem psh_at {m l : List Int} {n : Nat} (hin : ImIn m n) : ∀ v, v ≤ m.length → ∀ u, u < v → ∃ u', u' < v ∧ gi m u' = gi m u ∧ gi (pshTo m l n v) (gi m u).toNat = gi l u'
  | 0, _, u, hu => absurd hu (by omega)
  | v + 1, hv, u, hu => by
    have hb := hin v (by omega)
    have hu2 := hin u (by omega)
    simp only [pshTo]
    rw [giset (by rw [length_pshTo]; omega)]
    by_cases e : gi m u = gi m v
    · exact ⟨v, by omega, e.symm, by rw [if_pos (by rw [e])]⟩
    · rw [if_neg (by omega)]
      obtain ⟨u', a, b, c⟩ := psh_at hin v (by omega) u (by
        by_cases e2 : u = v
        · subst e2; exact absurd rfl e
        · omega)
      exact ⟨u', by omega, b, c⟩
theorem psh_in {m l : List Int} {n : Nat} (hl : ∀ i, i < l.length → inI64 (gi l i)) (hin : ImIn m n) (hml : l.length = m.length) : ∀ v, v ≤ m.length → ∀ i, i < (pshTo m l n v).length → inI64 (gi (pshTo m l n v) i)
  | 0, _, i, _ => by
    rw [show gi (pshTo m l n 0) i = 0 by
      simp only [pshTo, gi, List.getD, List.getElem?_replicate]
      split <;> simp]
    unfold inI64; omega
  | v + 1, hv, i, hi => by
    have hb := hin v (by omega)
    simp only [pshTo] at hi ⊢
    rw [List.length_set] at hi
    rw [giset (by rw [length_pshTo]; omega)]
    split
    · exact hl v (by omega)
    · exact psh_in hl hin hml v (by omega) i hi
/-- Pulled back, the written values are the given ones exactly if these do not differ within fibres. -/
theorem psh_same {m l : List Int} {n : Nat} (hin : ImIn m n) (hml : l.length = m.length) : thr (pshTo m l n m.length) m = l ↔ Same m l := by
  have hP : ∀ u, u < m.length → gi (thr (pshTo m l n m.length) m) u = gi (pshTo m l n m.length) (gi m u).toNat := fun u hu => gi_thr _ _ _ hu
  constructor
  · intro h v hv
    obtain ⟨f1, f2⟩ := fst_in hv
    have e1 := hP v hv
    have e2 := hP _ f1
    rw [h] at e1 e2
    rw [e1, e2, f2]
  · intro h
    refine ints_eq (by rw [length_thr]; exact hml.symm) fun i hi => ?_
    rw [length_thr] at hi
    rw [hP i hi]
    obtain ⟨u', a, b, c⟩ := psh_at (l := l) hin m.length (Nat.le_refl _) i hi
    rw [c, h u' a, h i hi, b]
theorem psh_fst {B : Net} {m l : List Int} (hin : ImIn m B.ends.length) (hs : Same m l) (ho : Onto B m) : pshTo m l B.ends.length m.length = fstTo m l B.ends.length := by
  refine ints_eq (by rw [length_pshTo, length_fstTo]) fun z hz => ?_
  rw [length_pshTo] at hz
  rw [gi_fstTo _ _ _ _ hz]
  obtain ⟨f1, f2, -⟩ := fst_of (ho z hz)
  obtain ⟨u', a, b, c⟩ := psh_at (l := l) hin m.length (Nat.le_refl _) _ f1
  rw [f2, Int.toNat_natCast] at c
  rw [c, hs u' a, b, f2]
theorem fst_range {w : World} {v : Value} {m l : List Int} {n : Nat} (h : IntSl w v l) (hml : l.length = m.length) (ho : ∀ z, z < n → 0 < (fib m (z : Int)).length) : ∀ i, i < (fstTo m l n).length → inI64 (gi (fstTo m l n) i) := fun i hi => by
  rw [length_fstTo] at hi
  rw [gi_fstTo _ _ _ _ hi]
  exact h.range _ (by rw [hml]; exact (fst_of (ho i hi)).1)
def numRow (L : List Int) : Nat → Value := fun i => .int .i64 (gi L i)
theorem numRow_set {w : World} {b n x : Nat} {F : List Int} {y : Int} (h : w.rowIs b 3 n (numRow F)) (hF : F.length = n) (hx : x < n) : (w.setCell ⟨b, x, none⟩ (.int .i64 y)).rowIs b 3 n (numRow (F.set x y)) :=
  (h.set x _).congr fun i _ => by
    unfold numRow
    rw [giset (by omega)]
    by_cases e : i = x
    · subst e; simp
    · simp [e]
theorem num_own {w : World} {b : Nat} {F : List Int} {n : Nat} (h : w.rowIs b 3 n (numRow F)) (hF : F.length = n) (hn : n ≤ 1048576) (hr : ∀ i, i < F.length → inI64 (gi F i)) : OwnI w (.slice (some ⟨b, 0, none⟩) n n) F [b] := by
  subst hF
  exact ⟨own_made (g := numRow F) (by rw [Nat.mul_one]; exact h) (by unfold maxLen; omega) fun i _ => rfl, hr⟩

set_option maxHeartbeats 3200000 in
set_option maxRecDepth 100000 in
theorem pushNodes_any {w : World} {va vb vm vl : Value} {A B : Net} {m l : List Int} (h : NetAt w va A) (k : NetAt w vb B) (hf : IntSl w vm m) (hg : IntSl w vl l) :
    Calls Try.prog 61 #[va, vb, vm, vl] w fun e w' => ∃ v' bs, e = .returned (.tuple #[v', .bool (dec (PushB A B m l))]) ∧ Ext w w' ∧ OwnI w' v' (pushAns A B m l) bs ∧ Fresh w bs := by
  have HG := Lib.hid hg
  have HA := Lib.hid h
  have HB := Lib.hid k
  have HF := Lib.hid hf
  obtain ⟨v0, v1, v2, rfl, hEa, -, -⟩ := h
  obtain ⟨u0, u1, u2, rfl, hEb, -, -⟩ := k
  obtain ⟨ea, eb, eo, ec, rfl, -, hel, hem, -⟩ := hEa
  unfold maxLen at hem
  obtain ⟨fa, fb, fo, fc, rfl, -, hfl, hfm, -⟩ := hEb
  unfold maxLen at hfm
  obtain ⟨la, lb, lo, lc, rfl, hla, hll, hlm, hlc⟩ := hf
  unfold maxLen at hlm
  have HLA := Lib.hid hla
  have HLC := Lib.hid hlc
  clear hla hlc
  obtain ⟨W1, hW1⟩ : ∃ W1, W1 = (w.alloc (.cells #[.slice ea A.ends.length ec, v1, v2] 29)).alloc (.cells #[.slice fa B.ends.length fc, u1, u2] 29) := ⟨_, rfl⟩
  have EW := Lib.hid (show Ext w W1 by rw [hW1]; exact (boxed_ext _ _ _ _ _).trans' (boxed_ext _ _ _ _ _))
  have RA := Lib.hid (show W1.rowIs w.heap.size 29 3 (tri (.slice ea A.ends.length ec) v1 v2) by rw [hW1]; exact (boxed_row _ _ _ _ _).alloc _)
  have RB := Lib.hid (show W1.rowIs (w.heap.size + 1) 29 3 (tri (.slice fa B.ends.length fc) u1 u2) by rw [hW1]; simpa using boxed_row (boxed w (.slice ea A.ends.length ec) v1 v2 29) (.slice fa B.ends.length fc) u1 u2 29)
  obtain ⟨p0, p1, p2, -, -, -⟩ := row3_facts RA.out
  obtain ⟨q0, q1, q2, -, -, -⟩ := row3_facts RB.out
  rw [hW1] at p0 p1 p2 q0 q1 q2
  obtain ⟨ga, gb, go, gc, rfl, hga, hgl, hgm, hgc⟩ := hg
  unfold maxLen at hgm
  have HGA := Lib.hid hga
  have HGC := Lib.hid hgc
  clear hga hgc
  by_cases hp : CovAns A B m
  case neg =>
    have D := Lib.hid (dec_false hp)
    have E := Lib.hid (show ¬ PushB A B m l from fun h => hp h.1)
    clear hp
    go_enter Try.func61, Try.ntmps61
    go_wp2_with fail
    rw [← hW1]
    clear hW1 p0 p1 p2 q0 q1 q2
    (with_reducible refine (isCovering_any (HA.out.ext EW.out) (HB.out.ext EW.out) (HF.out.ext EW.out)).mono ?_)
    rintro e w1 ⟨rfl, hx1⟩
    have K1 := Lib.hid (EW.out.trans' hx1)
    rw [D.out]
    clear hx1
    go_wp2
    go_ret2
    exact ⟨_, [], ret_mb (dec_false E.out).symm, K1.out, by rw [pushAns_f E.out]; exact own_nilI _, Fresh.nil _⟩
  have D := Lib.hid (dec_true hp)
  have HP := Lib.hid hp
  obtain ⟨h1, h2, h3⟩ := fib_small hp.1
  have hma := hp.1.ok.1
  have HMA := Lib.hid hma
  clear hp hma
  by_cases hl : l.length = A.ends.length
  case neg =>
    have hlb : ((l.length : Int) != (A.ends.length : Int)) = true := by simp; omega
    have E := Lib.hid (show ¬ PushB A B m l from fun h => hl h.2.1)
    clear hl
    go_enter Try.func61, Try.ntmps61
    go_wp2_with fail
    rw [← hW1]
    clear hW1 p0 p1 p2 q0 q1 q2
    (with_reducible refine (isCovering_any (HA.out.ext EW.out) (HB.out.ext EW.out) (HF.out.ext EW.out)).mono ?_)
    rintro e w1 ⟨rfl, hx1⟩
    have K1 := Lib.hid (EW.out.trans' hx1)
    rw [D.out]
    obtain ⟨p0, p1, p2, -, -, -⟩ := row3_facts (row_ext RA.out hx1)
    clear hx1
    go_wp2
    go_ret2
    exact ⟨_, [], ret_mb (dec_false E.out).symm, K1.out, by rw [pushAns_f E.out]; exact own_nilI _, Fresh.nil _⟩
  have hlb : ((l.length : Int) != (A.ends.length : Int)) = false := by simp; omega
  have HLA2 := Lib.hid hl
  have HML := Lib.hid (show l.length = m.length by rw [HMA.out]; exact hl)
  have HIN := Lib.hid (pm_in HP.out.1.ok)
  clear hl
  obtain ⟨n, hn⟩ : ∃ n, n = B.ends.length := ⟨_, rfl⟩
  have HN := Lib.hid hn
  have hmk := run_make_row' (P := Try.prog) 23 3 (.int .i64 0) 8 Try.underlying23 Try.info3 rfl .i64 .i64 B.ends.length (by omega) (by omega)
  clear hn
  go_enter Try.func61, Try.ntmps61
  go_wp2_with fail
  rw [← hW1]
  clear hW1 p0 p1 p2 q0 q1 q2
  (with_reducible refine (isCovering_any (HA.out.ext EW.out) (HB.out.ext EW.out) (HF.out.ext EW.out)).mono ?_)
  rintro e w1 ⟨rfl, hx1⟩
  have K1 := Lib.hid (EW.out.trans' hx1)
  have X1 := Lib.hid hx1
  rw [D.out]
  obtain ⟨p0, p1, p2, -, -, -⟩ := row3_facts (row_ext RA.out hx1)
  obtain ⟨q0, q1, q2, -, -, -⟩ := row3_facts (row_ext RB.out hx1)
  clear hx1
  go_wp2_with fail
  clear hmk p0 p1 p2 q0 q1 q2
  go_loopg [40] m.length (fun g i wr => ∃ v : Nat, v ≤ m.length ∧ g = m.length - v ∧ i = .int .i64 v ∧ Hid (Ext w1 wr ∧ wr.rowIs w1.heap.size 3 B.ends.length (numRow (pshTo m l B.ends.length v))))
  case atStart => exact ⟨0, Nat.zero_le _, rfl, rfl, (Ext.rfl' _).alloc' _, (World.rowIs_made _ _ _ _).congr fun i hi => by simp [numRow, pshTo, gi, List.getD, hi]⟩
  case round =>
    obtain ⟨v, hv, rfl, rfl, Hr⟩ := hrel
    by_cases hlt : v < m.length
    · obtain ⟨_, hmy, rfl, hmr⟩ := HLC.out v hlt
      obtain ⟨hz0, hz1⟩ := HIN.out v hlt
      obtain ⟨z, hz⟩ := Int.eq_ofNat_of_zero_le hz0
      have hzl : z < B.ends.length := by omega
      have hvl : v < l.length := by have := HML.out; omega
      rw [hz] at hmy
      have HZ := Lib.hid (show (gi m v).toNat = z by rw [hz, Int.toNat_natCast])
      clear hz hz0 hz1 hmr
      obtain rfl := HLA.out (by omega)
      obtain rfl := HGA.out (by omega)
      obtain ⟨_, hgy, rfl, -⟩ := HGC.out v hvl
      have c1 := Hr.out.1.cell' (K1.out.cell' hmy)
      have c2 := Hr.out.1.cell' (K1.out.cell' hgy)
      have f1 := Hr.out.2.cell hzl
      have f2 := Hr.out.2.frozen z
      clear hmy hgy
      go_wp2
      go_roundg (m.length - (v + 1))
      case measure => omega
      case rel => exact ⟨v + 1, by omega, rfl, by go_num, Hr.out.1.store (Nat.le_refl _) _, by simp only [pshTo]; rw [HZ.out]; exact numRow_set Hr.out.2 (length_pshTo _ _ _ _) hzl⟩
    · obtain rfl : v = m.length := by omega
      obtain ⟨L, hL⟩ : ∃ L, L = pshTo m l B.ends.length m.length := ⟨_, rfl⟩
      have HLL := Lib.hid hL
      have HLN := Lib.hid (show L.length = B.ends.length by rw [hL, length_pshTo])
      have OL := Lib.hid (show OwnI wr (.slice (some ⟨w1.heap.size, 0, none⟩) B.ends.length B.ends.length) L [w1.heap.size] by
        rw [hL]
        exact num_own Hr.out.2 (length_pshTo _ _ _ _) (by omega) (psh_in HG.out.range HIN.out HML.out m.length (Nat.le_refl _)))
      have PB := Lib.hid (show PullB A B m L from ⟨HP.out.1, HLN.out⟩)
      have DP := Lib.hid (dec_true PB.out)
      have KR := Lib.hid (K1.out.trans' Hr.out.1)
      clear hL
      obtain ⟨p0, p1, p2, -, -, -⟩ := row3_facts (row_ext RA.out (X1.out.trans' Hr.out.1))
      obtain ⟨q0, q1, q2, -, -, -⟩ := row3_facts (row_ext RB.out (X1.out.trans' Hr.out.1))
      go_wp2_with fail
      clear p0 p1 p2 q0 q1 q2
      (with_reducible refine (pullNodes_any (HA.out.ext KR.out) (HB.out.ext KR.out) (HF.out.ext KR.out) OL.out.read).mono ?_)
      rintro e w2 ⟨v', bs, rfl, hx2, ho, -⟩
      have XR := Lib.hid hx2
      have K2 := Lib.hid (KR.out.trans' hx2)
      have HO := Lib.hid (show OwnI w2 v' (thr L m) bs by rw [← pullAns_t PB.out]; exact ho)
      rw [DP.out]
      clear hx2 ho
      go_wp2_with fail
      (with_reducible refine (sEqual_any HO.out.read (HG.out.ext K2.out)).mono ?_)
      rintro e w3 ⟨rfl, hx3⟩
      have XR3 := Lib.hid (XR.out.trans' hx3)
      have K3 := Lib.hid (K2.out.trans' hx3)
      clear hx3
      by_cases hs : Same m l
      · have S := Lib.hid (show decide (thr L m = l) = true from decide_eq_true (by rw [HLL.out]; exact (psh_same HIN.out HML.out).2 hs))
        have E := Lib.hid (show PushB A B m l from ⟨HP.out, HLA2.out, hs⟩)
        have HLF := Lib.hid (show L = fstTo m l B.ends.length by rw [HLL.out]; exact psh_fst HIN.out hs HP.out.2)
        clear hs
        rw [S.out]
        go_wp2
        go_ret2
        exact ⟨_, [w1.heap.size], ret_mb (dec_true E.out).symm, K3.out, by rw [pushAns_t E.out, ← HLF.out]; exact OL.out.ext XR3.out, by simp, fun x hx => by
          simp only [List.mem_singleton] at hx
          subst hx
          exact K1.out.size⟩
      · have S := Lib.hid (show decide (thr L m = l) = false from decide_eq_false fun e => hs ((psh_same HIN.out HML.out).1 (by rw [← HLL.out]; exact e)))
        have E := Lib.hid (show ¬ PushB A B m l from fun h => hs h.2.2)
        clear hs
        rw [S.out]
        go_wp2
        go_ret2
        exact ⟨_, [], ret_mb (dec_false E.out).symm, K3.out, by rw [pushAns_f E.out]; exact own_nilI _, Fresh.nil _⟩

set_option maxHeartbeats 3200000 in
set_option maxRecDepth 100000 in
theorem specPushNodes_any {w : World} {va vb vm vl : Value} {A B : Net} {m l : List Int} (h : NetAt w va A) (k : NetAt w vb B) (hf : IntSl w vm m) (hg : IntSl w vl l) :
    Calls Try.prog 60 #[va, vb, vm, vl] w fun e w' => ∃ v' bs, e = .returned (.tuple #[v', .bool (dec (PushB A B m l))]) ∧ Ext w w' ∧ OwnI w' v' (pushAns A B m l) bs ∧ Fresh w bs := by
  have HG := Lib.hid hg
  have HA := Lib.hid h
  have HB := Lib.hid k
  have HF := Lib.hid hf
  obtain ⟨v0, v1, v2, rfl, hEa, -, -⟩ := h
  obtain ⟨u0, u1, u2, rfl, hEb, -, -⟩ := k
  obtain ⟨ea, eb, eo, ec, rfl, -, hel, hem, -⟩ := hEa
  unfold maxLen at hem
  obtain ⟨fa, fb, fo, fc, rfl, -, hfl, hfm, -⟩ := hEb
  unfold maxLen at hfm
  obtain ⟨la, lb, lo, lc, rfl, hla, hll, hlm, hlc⟩ := hf
  unfold maxLen at hlm
  have HLA := Lib.hid hla
  have HLC := Lib.hid hlc
  clear hla hlc
  obtain ⟨W1, hW1⟩ : ∃ W1, W1 = (w.alloc (.cells #[.slice ea A.ends.length ec, v1, v2] 29)).alloc (.cells #[.slice fa B.ends.length fc, u1, u2] 29) := ⟨_, rfl⟩
  have EW := Lib.hid (show Ext w W1 by rw [hW1]; exact (boxed_ext _ _ _ _ _).trans' (boxed_ext _ _ _ _ _))
  have RA := Lib.hid (show W1.rowIs w.heap.size 29 3 (tri (.slice ea A.ends.length ec) v1 v2) by rw [hW1]; exact (boxed_row _ _ _ _ _).alloc _)
  have RB := Lib.hid (show W1.rowIs (w.heap.size + 1) 29 3 (tri (.slice fa B.ends.length fc) u1 u2) by rw [hW1]; simpa using boxed_row (boxed w (.slice ea A.ends.length ec) v1 v2 29) (.slice fa B.ends.length fc) u1 u2 29)
  obtain ⟨p0, p1, p2, -, -, -⟩ := row3_facts RA.out
  obtain ⟨q0, q1, q2, -, -, -⟩ := row3_facts RB.out
  rw [hW1] at p0 p1 p2 q0 q1 q2
  obtain ⟨ga, gb, go, gc, rfl, hga, hgl, hgm, hgc⟩ := hg
  unfold maxLen at hgm
  have HGA := Lib.hid hga
  have HGC := Lib.hid hgc
  clear hga hgc
  by_cases hp : PmAns A B m
  case neg =>
    have D := Lib.hid (dec_false hp)
    have E := Lib.hid (show ¬ PushB A B m l from fun h => hp h.1.1)
    clear hp
    go_enter Try.func60, Try.ntmps60
    go_wp2_with fail
    rw [← hW1]
    clear hW1 p0 p1 p2 q0 q1 q2
    (with_reducible refine (coAsked_any (HA.out.ext EW.out) (HB.out.ext EW.out) (HF.out.ext EW.out)).mono ?_)
    rintro e w1 ⟨rfl, hx1⟩
    have K1 := Lib.hid (EW.out.trans' hx1)
    rw [D.out]
    clear hx1
    go_wp2
    go_ret2
    exact ⟨_, [], ret_mb (dec_false E.out).symm, K1.out, by rw [pushAns_f E.out]; exact own_nilI _, Fresh.nil _⟩
  have D := Lib.hid (dec_true hp)
  have HP := Lib.hid hp
  obtain ⟨h1, h2, h3⟩ := fib_small hp
  have hma := hp.ok.1
  have HMA := Lib.hid hma
  have HIN := Lib.hid (pm_in hp.ok)
  clear hp hma
  by_cases ho : Onto B m
  case neg =>
    have DO := Lib.hid (dec_false ho)
    have E := Lib.hid (show ¬ PushB A B m l from fun h => ho h.1.2)
    clear ho
    go_enter Try.func60, Try.ntmps60
    go_wp2_with fail
    rw [← hW1]
    clear hW1 p0 p1 p2 q0 q1 q2
    (with_reducible refine (coAsked_any (HA.out.ext EW.out) (HB.out.ext EW.out) (HF.out.ext EW.out)).mono ?_)
    rintro e w0 ⟨rfl, hx1⟩
    have K0 := Lib.hid (EW.out.trans' hx1)
    rw [D.out]
    obtain ⟨q0, q1, q2, -, -, -⟩ := row3_facts (row_ext RB.out hx1)
    clear hx1
    go_wp2_with fail
    clear q0 q1 q2
    (with_reducible refine (coOnto_any (HB.out.ext K0.out) (HF.out.ext K0.out) HIN.out (by omega) (by omega)).mono ?_)
    rintro e w1 ⟨rfl, hx1⟩
    have K1 := Lib.hid (K0.out.trans' hx1)
    rw [DO.out]
    clear hx1
    go_wp2
    go_ret2
    exact ⟨_, [], ret_mb (dec_false E.out).symm, K1.out, by rw [pushAns_f E.out]; exact own_nilI _, Fresh.nil _⟩
  have DO := Lib.hid (dec_true ho)
  have HO := Lib.hid ho
  clear ho
  by_cases hl : l.length = A.ends.length
  case neg =>
    have hlb : ((l.length : Int) != (A.ends.length : Int)) = true := by simp; omega
    have E := Lib.hid (show ¬ PushB A B m l from fun h => hl h.2.1)
    clear hl
    go_enter Try.func60, Try.ntmps60
    go_wp2_with fail
    rw [← hW1]
    clear hW1 p0 p1 p2 q0 q1 q2
    (with_reducible refine (coAsked_any (HA.out.ext EW.out) (HB.out.ext EW.out) (HF.out.ext EW.out)).mono ?_)
    rintro e w0 ⟨rfl, hx1⟩
    have K0 := Lib.hid (EW.out.trans' hx1)
    have X0 := Lib.hid hx1
    rw [D.out]
    obtain ⟨q0, q1, q2, -, -, -⟩ := row3_facts (row_ext RB.out hx1)
    clear hx1
    go_wp2_with fail
    clear q0 q1 q2
    (with_reducible refine (coOnto_any (HB.out.ext K0.out) (HF.out.ext K0.out) HIN.out (by omega) (by omega)).mono ?_)
    rintro e w1 ⟨rfl, hx1⟩
    have K1 := Lib.hid (K0.out.trans' hx1)
    rw [DO.out]
    obtain ⟨p0, p1, p2, -, -, -⟩ := row3_facts (row_ext RA.out (X0.out.trans' hx1))
    clear hx1
    go_wp2
    go_ret2
    exact ⟨_, [], ret_mb (dec_false E.out).symm, K1.out, by rw [pushAns_f E.out]; exact own_nilI _, Fresh.nil _⟩
  have hlb : ((l.length : Int) != (A.ends.length : Int)) = false := by simp; omega
  have HLA2 := Lib.hid hl
  have HML := Lib.hid (show l.length = m.length by rw [HMA.out]; exact hl)
  clear hl
  obtain ⟨i0, hi, hz0, hz1, hz2⟩ := info_parts Try.info3
  have I0 := Lib.hid (show Try.prog.info? 3 = some i0 ∧ i0.zero = some (.int .i64 0) ∧ i0.size = 1 ∧ i0.bytes = 8 from ⟨hi, hz0, hz1, hz2⟩)
  clear hi hz0 hz1 hz2
  go_enter Try.func60, Try.ntmps60
  go_wp2_with fail
  rw [← hW1]
  clear hW1 p0 p1 p2 q0 q1 q2
  (with_reducible refine (coAsked_any (HA.out.ext EW.out) (HB.out.ext EW.out) (HF.out.ext EW.out)).mono ?_)
  rintro e w0 ⟨rfl, hx1⟩
  have K0 := Lib.hid (EW.out.trans' hx1)
  have X0 := Lib.hid hx1
  rw [D.out]
  obtain ⟨q0, q1, q2, -, -, -⟩ := row3_facts (row_ext RB.out hx1)
  clear hx1
  go_wp2_with fail
  clear q0 q1 q2
  (with_reducible refine (coOnto_any (HB.out.ext K0.out) (HF.out.ext K0.out) HIN.out (by omega) (by omega)).mono ?_)
  rintro e w1 ⟨rfl, hx1⟩
  have K1 := Lib.hid (K0.out.trans' hx1)
  have X1 := Lib.hid (X0.out.trans' hx1)
  rw [DO.out]
  obtain ⟨p0, p1, p2, -, -, -⟩ := row3_facts (row_ext RA.out X1.out)
  obtain ⟨q0, q1, q2, -, -, -⟩ := row3_facts (row_ext RB.out X1.out)
  clear hx1
  go_wp2_with fail
  clear p0 p1 p2 q0 q1 q2
  (with_reducible refine (coFibres_any (HB.out.ext K1.out) (HF.out.ext K1.out) HIN.out (by omega) (by omega)).mono ?_)
  rintro e w2 ⟨ra, rc, bs, rfl, hx2, hof, -⟩
  have K2 := Lib.hid (K1.out.trans' hx2)
  have HFB := Lib.hid hof.read
  clear hx2 hof
  obtain ⟨-, hrc, hrn⟩ := ii_len HFB.out
  unfold maxLen at hrc
  go_wp2_with fail
  go_loopg [10, 38] B.ends.length (fun g s i wr => ∃ k : Nat, k ≤ B.ends.length ∧ g = B.ends.length - k ∧ i = .int .i64 k ∧ Hid (Ext w2 wr ∧ GrowN w2.heap.size wr s (fstTo m l k) ∧ ∀ z, z < k → ∀ v, v < m.length → gi m v = (z : Int) → gi l v = gi l (fst m (z : Int))))
  case atStart => exact ⟨0, Nat.zero_le _, rfl, rfl, Ext.rfl' _, GrowN.nil _ _, fun z hz => absurd hz (by omega)⟩
  case round =>
    obtain ⟨k, hk, rfl, rfl, Hr⟩ := hrel
    by_cases hlt : k < B.ends.length
    · obtain ⟨fb, fo, qa, qc, rfl, hq, hqi⟩ := ii_row HFB.out (k := k) (by rw [length_fibs]; exact hlt)
      rw [gr_fibs _ _ _ hlt] at hq hqi
      have c1 := Hr.out.1.cell' hq
      clear hq
      have h0 := HO.out k hlt
      obtain ⟨f1, f2, f3⟩ := fst_of h0
      have hfl : (fib m (k : Int)).length ≤ 40 := by have := fibTo_len m (k : Int) m.length; unfold fib; omega
      obtain ⟨qa', qb, qo, qc', e1, hqa, hq1, hq2, hqc⟩ := hqi
      simp only [Value.slice.injEq] at e1
      obtain ⟨rfl, -, rfl⟩ := e1
      obtain rfl := hqa h0
      unfold maxLen at hq2
      have HQC := Lib.hid hqc
      obtain ⟨_, hq0, rfl, -⟩ := HQC.out 0 h0
      rw [f3, Nat.add_zero] at hq0
      obtain ⟨fs, hfs⟩ : ∃ fs, fs = fst m (k : Int) := ⟨_, rfl⟩
      rw [← hfs] at hq0 f1
      have HFS := Lib.hid hfs
      have hfl2 : fs < l.length := by have := HML.out; omega
      obtain rfl := HGA.out (by omega)
      obtain ⟨_, hg0, rfl, -⟩ := HGC.out fs hfl2
      obtain ⟨xf, hxf⟩ : ∃ xf, xf = gi l fs := ⟨_, rfl⟩
      rw [← hxf] at hg0
      have HXF := Lib.hid (show xf = gi l (fst m (k : Int)) by rw [hxf, hfs])
      have Q0 := Lib.hid hq0
      have G0 := Lib.hid (K2.out.cell' hg0)
      clear hqc hqa hfs hxf f2 f3 hq0 hg0
      go_wp2_with fail
      clear c1
      go_loopg [44] (fib m (k : Int)).length (fun g i wx => ∃ j : Nat, j ≤ (fib m (k : Int)).length ∧ g = (fib m (k : Int)).length - j ∧ i = .int .i64 j ∧ Hid (Ext wr wx ∧ ∀ t, t < j → gi l (gi (fib m (k : Int)) t).toNat = xf))
      case atStart => exact ⟨0, Nat.zero_le _, rfl, rfl, Ext.rfl' _, fun t ht => absurd ht (by omega)⟩
      case round =>
        obtain ⟨j, hj, rfl, rfl, Hs⟩ := hrel
        by_cases hjt : j < (fib m (k : Int)).length
        · obtain ⟨_, hqj, rfl, -⟩ := HQC.out j hjt
          obtain ⟨u, hu1, hu2, hu3⟩ := fibTo_at (m := m) (w := (k : Int)) (k := m.length) hjt
          have hu2' : gi (fib m (k : Int)) j = (u : Int) := hu2
          rw [hu2'] at hqj
          have hul : u < l.length := by have := HML.out; omega
          obtain ⟨_, hgu, rfl, -⟩ := HGC.out u hul
          obtain ⟨xu, hxu⟩ : ∃ xu, xu = gi l u := ⟨_, rfl⟩
          rw [← hxu] at hgu
          have HXU := Lib.hid (show gi l (gi (fib m (k : Int)) j).toNat = xu by rw [hu2', Int.toNat_natCast, hxu])
          have HU := Lib.hid (show u < m.length ∧ gi m u = (k : Int) ∧ gi l u = xu from ⟨hu1, hu3, hxu.symm⟩)
          have EX := Lib.hid (Hr.out.1.trans' Hs.out.1)
          have d1 := EX.out.cell' hqj
          have T1 : ∀ x' : Wx wr, x'.w.cell? ⟨qb, qo, none⟩ = some (.int .i64 fs) := fun x' => x'.ok.cell' (EX.out.cell' Q0.out)
          have T2 : ∀ x' : Wx wr, x'.w.cell? ⟨gb, go + fs, none⟩ = some (.int .i64 xf) := fun x' => x'.ok.cell' (EX.out.cell' G0.out)
          have T3 : ∀ x' : Wx wr, x'.w.cell? ⟨gb, go + u, none⟩ = some (.int .i64 xu) := fun x' => x'.ok.cell' (EX.out.cell' (K2.out.cell' hgu))
          clear hqj hgu hu1 hu2 hu2' hu3 hxu
          by_cases hxx : xu = xf
          · have hxb : (xu != xf) = false := by simp [hxx]
            have HXX := Lib.hid hxx
            clear hxx
            go_wp2_with fail
            refine wp_region_ext (by kernel_rfl) (by kernel_rfl) ?_
            repeat (go_big_quiet_step (fail))
            refine wpQuiet_nil ?_
            rintro wz ⟨⟨_, hz2⟩, rfl⟩
            have HZ2 := Lib.hid hz2
            clear hz2
            go_wp2
            go_roundg ((fib m (k : Int)).length - (j + 1))
            case measure => omega
            case rel =>
              refine ⟨j + 1, by omega, rfl, by go_num, Hs.out.1.trans' HZ2.out, fun t ht => ?_⟩
              by_cases e : t = j
              · subst e; rw [HXU.out, HXX.out]
              · exact Hs.out.2 t (by omega)
          · have hxb : (xu != xf) = true := by simp [hxx]
            have E := Lib.hid (show ¬ PushB A B m l from fun h => hxx (by have := h.2.2 u HU.out.1; rw [HU.out.2.1, HU.out.2.2, ← HXF.out] at this; exact this))
            clear hxx
            go_wp2_with fail
            refine wp_region_ext (by kernel_rfl) (by kernel_rfl) ?_
            repeat (go_big_quiet_step (fail))
            refine wpQuiet_nil ?_
            rintro wz ⟨⟨_, hz2⟩, rfl⟩
            have HZ2 := Lib.hid (K2.out.trans' (EX.out.trans' hz2))
            clear hz2
            go_wp2
            go_ret2
            exact ⟨_, [], ret_mb (dec_false E.out).symm, HZ2.out, by rw [pushAns_f E.out]; exact own_nilI _, Fresh.nil _⟩
        · obtain rfl : j = (fib m (k : Int)).length := by omega
          have EX := Lib.hid (Hr.out.1.trans' Hs.out.1)
          have GN := Lib.hid (Hr.out.2.1.ext Hs.out.1)
          have c1 := EX.out.cell' Q0.out
          have c2 := EX.out.cell' G0.out
          have hlen := length_fstTo m l k
          have HLEN := Lib.hid hlen
          have SZ := Lib.hid EX.out.size
          have HSS := Lib.hid (show ∀ v, v < m.length → gi m v = (k : Int) → gi l v = gi l (fst m (k : Int)) from fun v hv hvk => by
            obtain ⟨t, ht, he⟩ := in_gi ((fibTo_mem m (k : Int) m.length (v : Int)).2 ⟨v, hv, rfl, hvk⟩)
            have := Hs.out.2 t ht
            unfold fib at this
            rw [he, Int.toNat_natCast] at this
            rw [this, HXF.out])
          clear hlen
          go_wp2_with (at_builtin; refine wpList_app2 rfl _ _ 23 rfl w2.heap.size 3 i0 (.int .i64 0) 1 8 Try.underlying23 I0.out.1 I0.out.2.1 I0.out.2.2.1 I0.out.2.2.2 rfl (by decide) _ (fstTo m l k).length (intCells (fstTo m l k)) rfl (GN.out.ext ((Ext.rfl' _).alloc' _)) (some ⟨wr.heap.size, 0, none⟩) 1 1 [.int .i64 xf] rfl (src_one wr _ _ rfl) (by have := HLEN.out; unfold maxLen; omega) (by have := HLEN.out; omega) (by have := SZ.out; simp; omega) ?_; intro v' w3 hg)
          have FI := Lib.hid (show Ext w2 w3 ∧ GrowN w2.heap.size w3 v' (fstTo m l k ++ [xf]) from ⟨grown_ext (EX.out.alloc' (.cells #[.int .i64 xf] 3)) (Nat.le_refl _) (GN.out.ext ((Ext.rfl' _).alloc' _)) hg.1.2.1, GrowN.step hg.1 rfl⟩)
          clear hg
          go_wp2
          go_roundg (B.ends.length - (k + 1))
          case measure => omega
          case rel =>
            refine ⟨k + 1, by omega, rfl, by go_num, FI.out.1, by rw [fstTo_succ, ← HXF.out]; exact FI.out.2, fun z hz => ?_⟩
            by_cases e : z = k
            · subst e; exact HSS.out
            · exact Hr.out.2.2 z (by omega)
    · obtain rfl : k = B.ends.length := by omega
      have E := Lib.hid (show PushB A B m l from ⟨⟨HP.out, HO.out⟩, HLA2.out, fun v hv => by
        obtain ⟨z, hz⟩ := Int.eq_ofNat_of_zero_le (HIN.out v hv).1
        have h1 := (HIN.out v hv).2
        rw [hz]
        exact Hr.out.2.2 z (by omega) v hv hz⟩)
      go_wp2
      go_ret2
      obtain ⟨bs', ho', hnd, hge⟩ := Hr.out.2.1.own (fst_range HG.out HML.out HO.out)
      exact ⟨_, bs', ret_mb (dec_true E.out).symm, K2.out.trans' Hr.out.1, by rw [pushAns_t E.out]; exact ho', hnd, fun x hx => by have := hge x hx; have := K2.out.size; omega⟩

theorem pushNodesL_any {w : World} {va vb vm vl : Value} {A B : Net} {m l : List Int} (h : NetAt w va A) (k : NetAt w vb B) (hf : IntSl w vm m) (_ : m.length ≤ 1048576) (hg : IntSl w vl l) (_ : l.length ≤ 1048576) :
    Calls Try.prog 61 #[va, vb, vm, vl] w fun e w' => ∃ v' bs, e = .returned (.tuple #[v', .bool (dec (PushB A B m l))]) ∧ Ext w w' ∧ OwnI w' v' (pushAns A B m l) bs ∧ Fresh w bs := pushNodes_any h k hf hg
theorem specPushNodesL_any {w : World} {va vb vm vl : Value} {A B : Net} {m l : List Int} (h : NetAt w va A) (k : NetAt w vb B) (hf : IntSl w vm m) (_ : m.length ≤ 1048576) (hg : IntSl w vl l) (_ : l.length ≤ 1048576) :
    Calls Try.prog 60 #[va, vb, vm, vl] w fun e w' => ∃ v' bs, e = .returned (.tuple #[v', .bool (dec (PushB A B m l))]) ∧ Ext w w' ∧ OwnI w' v' (pushAns A B m l) bs ∧ Fresh w bs := specPushNodes_any h k hf hg
end Go.Proofs.Ytgacbfblpkikkaa
