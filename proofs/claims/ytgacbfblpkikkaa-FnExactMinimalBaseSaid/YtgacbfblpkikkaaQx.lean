/- The contract of the program's QuotientOf. -/
import Derived.Test.YtgacbfblpkikkaaQp
import Derived.Test.YtgacbfblpkikkaaVl
namespace Go.Proofs.Ytgacbfblpkikkaa
open Go.RowKit Go.Maps

/-- The first k classes as a network. -/
def quotNet (N : Net) (cl : List Int) (k : Nat) : Net := ⟨(List.range k).map fun (c : Nat) => under cl (gr N.ends (fst cl (c : Int))), [], (List.range k).map fun (c : Nat) => gi N.inputs (fst cl (c : Int))⟩
theorem quot_len (N : Net) (cl : List Int) (k : Nat) : (quotNet N cl k).ends.length = k ∧ (quotNet N cl k).inputs.length = k := by simp [quotNet]
theorem quot_row (N : Net) (cl : List Int) (k c : Nat) (h : c < k) : gr (quotNet N cl k).ends c = under cl (gr N.ends (fst cl (c : Int))) ∧ gi (quotNet N cl k).inputs c = gi N.inputs (fst cl (c : Int)) := by simp [quotNet, gr, gi, h]
theorem quot_succ (N : Net) (cl : List Int) (k : Nat) : (quotNet N cl (k + 1)).ends = (quotNet N cl k).ends ++ [under cl (gr N.ends (fst cl (k : Int)))] ∧ (quotNet N cl (k + 1)).inputs = (quotNet N cl k).inputs ++ [gi N.inputs (fst cl (k : Int))] := by simp [quotNet, List.range_succ]
/-- How many numbers there are up to the greatest one. -/
def mny (cl : List Int) : Nat := (maxI cl + 1).toNat
theorem maxI_pos (l : List Int) : 0 ≤ maxI l := (foldl_max l 0).1
theorem maxI_ge {l : List Int} {v : Nat} (h : v < l.length) : gi l v ≤ maxI l := (foldl_max l 0).2.1 _ (gi_mem h)
theorem mny_eq (l : List Int) : (mny l : Int) = maxI l + 1 := by have := maxI_pos l; unfold mny; omega
theorem mny_le {cl : List Int} {n : Nat} (h : ImIn cl n) (h1 : 1 ≤ n) : mny cl ≤ n ∧ 1 ≤ mny cl := by
  have h0 := maxI_pos cl
  have e := mny_eq cl
  rcases (foldl_max cl 0).2.2 with h2 | h2
  · have : maxI cl = 0 := h2
    omega
  · obtain ⟨i, hi, he⟩ := mem_gi h2
    have := h i hi
    have : maxI cl = gi cl i := he.symm
    omega
theorem fib_late {cl : List Int} {k : Nat} (h : mny cl ≤ k) : (fib cl (k : Int)).length = 0 := by
  have e := mny_eq cl
  by_cases h0 : (fib cl (k : Int)).length = 0
  · exact h0
  · obtain ⟨v, hv, hk⟩ := fib_nonempty.1 (show 0 < (fib cl (k : Int)).length by omega)
    have := maxI_ge hv
    omega
theorem cntF_late {cl : List Int} : ∀ j, cntF cl (mny cl + j) = cntF cl (mny cl)
  | 0 => rfl
  | j + 1 => by
    show cntF cl (mny cl + j + 1) = _
    simp only [cntF]
    rw [if_pos (fib_late (by omega)), cntF_late j]
/-- All numbers up to the greatest one are in use. -/
def Used (cl : List Int) : Prop := ∀ k : Nat, k < mny cl → 0 < (fib cl (k : Int)).length
theorem used_iff {cl : List Int} {n : Nat} (h : mny cl ≤ n) : Used cl ↔ cntF cl n = mny cl := by
  obtain ⟨j, rfl⟩ : ∃ j, n = mny cl + j := ⟨n - mny cl, by omega⟩
  rw [cntF_late]
  exact (cntF_all _).symm
def QuoC (N : Net) (cl : List Int) : Prop := Good N ∧ cl.length = N.ends.length ∧ ImIn cl N.ends.length
def QuoB (N : Net) (cl : List Int) : Prop := QuoC N cl ∧ Used cl ∧ PmAns N (quotNet N cl (mny cl)) cl
noncomputable def quoAns (N : Net) (cl : List Int) : Net := if dec (QuoB N cl) = true then quotNet N cl (mny cl) else zeroNet
theorem quoAns_t {N : Net} {cl : List Int} (h : QuoB N cl) : quoAns N cl = quotNet N cl (mny cl) := by unfold quoAns; rw [if_pos (dec_true h)]
theorem quoAns_f {N : Net} {cl : List Int} (h : ¬ QuoB N cl) : quoAns N cl = zeroNet := by unfold quoAns; rw [if_neg (by rw [dec_false h]; simp)]
theorem quoAns_small (N : Net) (cl : List Int) : (quoAns N cl).small := by
  by_cases h : QuoB N cl
  · rw [quoAns_t h]; exact good_small h.2.2.two.2
  · rw [quoAns_f h]; exact zero_small

/-- A network that grows node by node in a box. -/
structure QS (W wr : World) (p : Nat) (E : List (List (Int × Int))) (I : List Int) (vE vI : Value) : Prop where
  ext : Ext W wr
  lo : W.heap.size ≤ p
  box : wr.rowIs p 29 3 (tri vE (.slice none 0 0) vI)
  ends : GrowL W.heap.size wr vE E E.length
  inp : GrowN W.heap.size wr vI I
theorem gr_snocE (l : List (List (Int × Int))) (r : List (Int × Int)) (i : Nat) : gr (l ++ [r]) i = if i = l.length then r else gr l i := by
  simp only [gr, List.getD]
  by_cases e : i = l.length
  · subst e; simp
  · by_cases h : i < l.length
    · rw [if_neg e, List.getElem?_append_left h]
    · rw [if_neg e, List.getElem?_eq_none (by simp; omega), List.getElem?_eq_none (by omega)]
theorem QS.lift {W wr w' : World} {p : Nat} {E : List (List (Int × Int))} {I : List Int} {vE vI : Value} (h : QS W wr p E I vE vI) (hx : Ext wr w') : QS W w' p E I vE vI :=
  ⟨h.ext.trans' hx, h.lo, row_ext h.box hx, h.ends.ext hx, h.inp.ext hx⟩
/-- A row is appended. -/
theorem QS.row {W wr wc w3 : World} {p : Nat} {E : List (List (Int × Int))} {I : List Int} {vE vI x v' : Value} {r : List (Int × Int)} {bs : List Nat} {R : Nat → Value} {T : Nat → List Nat} (h : QS W wr p E I vE vI)
    (h1 : wr.ownsRow W.heap.size 74 1 vE E.length ((List.range E.length).map R)) (h2 : ∀ i, i < E.length → OwnE wr (R i) (gr E i) (T i)) (h3 : ((List.range E.length).flatMap T).Nodup) (h4 : ∀ b ∈ (List.range E.length).flatMap T, W.heap.size ≤ b)
    (hx : Ext wr wc) (ho : OwnE wc x r bs) (hf : ∀ b ∈ bs, wr.heap.size ≤ b) (hg : Grew (wc.alloc (.cells #[x] 74)) w3 W.heap.size 74 1 vE v' (E.length + 1) ((List.range E.length).map R ++ [x])) :
    QS W (w3.setCell ⟨p, 0, none⟩ v') p (E ++ [r]) I v' vI ∧ w3.rowIs p 29 3 (tri vE (.slice none 0 0) vI) ∧ (∀ q t u f, t ≠ 74 → (wc.alloc (.cells #[x] 74)).rowIs q t u f → w3.rowIs q t u f) := by
  have hX : Ext wr (wc.alloc (.cells #[x] 74)) := hx.alloc' _
  have o1 := owns_ext h1 hX
  have hE3 : Ext W w3 := grown_ext (h.ext.trans' hX) (Nat.le_refl _) o1 hg.2.1
  have b3 : w3.rowIs p 29 3 (tri vE (.slice none 0 0) vI) := row_grown (row_ext h.box hX) o1 hg.2.1 (by decide)
  have hp : ∃ c, w3.heap[p]? = some (.cells c 29 (0, 0)) := rowIs.blk b3
  obtain ⟨c, hc⟩ := hp
  have keep : ∀ t bs, t ≠ 29 → Typed w3 t bs → ∀ b ∈ bs, (w3.setCell ⟨p, 0, none⟩ v').heap[b]? = w3.heap[b]? := fun t bs ht hb => kept_store hc hb ht
  refine ⟨⟨hE3.store h.lo _, h.lo, row3_set0 b3 _, ?_, ?_⟩, b3, fun q t u f ht hq => row_grown hq o1 hg.2.1 ht⟩
  · have gl : GrowL W.heap.size w3 v' (E ++ [r]) (E.length + 1) := by
      refine GrowL.step (R := R) (T := T) (bs := bs) o1 (fun i hi => ?_) h3 h4 ?_ (fun b hb => ⟨by have := hf b hb; have := h.ext.size; omega, fun hb2 => ?_⟩) hg
      · rw [gr_snocE, if_neg (by omega)]
        exact (h2 i hi).ext hX
      · rw [gr_snocE, if_pos rfl]
        exact ho.ext ((Ext.rfl' _).alloc' _)
      · obtain ⟨i, hi, hb2⟩ := List.mem_flatMap.1 hb2
        have := (h2 i (List.mem_range.1 hi)).1.lt b hb2
        have := hf b hb
        omega
    rw [List.length_append, List.length_singleton]
    exact gl.keepT hc
  · have i3 : GrowN W.heap.size w3 vI I := (h.inp.ext hX).keep fun b hb => by
      obtain ⟨cur, ht⟩ := owns_typed (h.inp.ext hX) b hb
      exact hg.2.1.block b (by have := ((h.inp.ext hX).lt b hb).2; omega) fun e => by
        obtain ⟨cur', ht'⟩ := owns_typed o1 b e.symm
        rw [ht] at ht'
        cases ht'
    exact i3.keep fun b hb => by
      obtain ⟨cur, ht⟩ := owns_typed i3 b hb
      exact keep 3 [b] (by decide) (fun y hy => by simp only [List.mem_singleton] at hy; subst hy; exact ⟨cur, ht⟩) b (by simp)
/-- A number is appended. -/
theorem QS.num {W wr wc w3 : World} {p : Nat} {E : List (List (Int × Int))} {I : List Int} {vE vI v' : Value} {x : Int} (h : QS W wr p E I vE vI) (hx : Ext wr wc) (hg : Grew wc w3 W.heap.size 3 1 vI v' (I.length + 1) (intCells I ++ [.int .i64 x])) :
    QS W (w3.setCell ⟨p, 2, none⟩ v') p E (I ++ [x]) vE v' ∧ w3.rowIs p 29 3 (tri vE (.slice none 0 0) vI) := by
  have H := h.lift hx
  have hE3 : Ext W w3 := grown_ext H.ext (Nat.le_refl _) H.inp hg.2.1
  have b3 : w3.rowIs p 29 3 (tri vE (.slice none 0 0) vI) := row_grown H.box H.inp hg.2.1 (by decide)
  obtain ⟨c, hc⟩ := rowIs.blk b3
  refine ⟨⟨hE3.store h.lo _, h.lo, row3_set2 b3 _, ?_, ?_⟩, b3⟩
  · have g3 : GrowL W.heap.size w3 vE E E.length := by
      obtain ⟨R, T, h1, h2, h3, h4⟩ := H.ends
      have kp : ∀ t bs, t ≠ 3 → Typed wc t bs → ∀ b ∈ bs, w3.heap[b]? = wc.heap[b]? := fun t bs ht hb => kept_grown H.inp hg.2.1 hb ht
      refine ⟨R, T, ?_, fun i hi => (h2 i hi).keep fun b hb => kp 76 _ (by decide) (h2 i hi).1.typed b hb, h3, h4⟩
      refine World.ownsRow.kept h1 hg.2.1 ?_
      cases e : vE.ownBlock with
      | none => exact .inl rfl
      | some b =>
          refine .inr fun e2 => ?_
          obtain ⟨cur, ht⟩ := owns_typed h1 b e
          obtain ⟨cur', ht'⟩ := owns_typed H.inp b e2.symm
          rw [ht] at ht'
          cases ht'
    exact g3.keepT hc
  · have i3 : GrowN W.heap.size w3 v' (I ++ [x]) := GrowN.step (news := [x]) hg rfl
    exact i3.keep fun b hb => by
      obtain ⟨cur, ht⟩ := owns_typed i3 b hb
      exact kept_store hc (t' := 3) (bs := [b]) (fun y hy => by simp only [List.mem_singleton] at hy; subst hy; exact ⟨cur, ht⟩) (by decide) b (by simp)
/-- The network at the end. -/
theorem QS.done {W wr : World} {p : Nat} {E : List (List (Int × Int))} {I : List Int} {vE vI : Value} (h : QS W wr p E I vE vI) (hr : ∀ i, i < I.length → inI64 (gi I i)) :
    ∃ bs, OwnNet wr (.agg #[vE, .slice none 0 0, vI]) ⟨E, [], I⟩ bs ∧ Fresh W bs := by
  obtain ⟨b0, o0, n0, g0⟩ := h.ends.done
  obtain ⟨b2, o2, n2, g2⟩ := h.inp.own hr
  obtain ⟨a, b⟩ := net_of_parts (W := W) (N := ⟨E, [], I⟩) o0 (own_nilI wr) o2 n0 (by simpa using n2) g0 (by simpa using g2)
  exact ⟨_, a, b⟩
theorem srcDrew {w : World} {ao : Option Addr} {m k : Nat} {news : List Value} (h : SrcAt w ao m k news) : SrcAt w.drew ao m k news := ⟨h.1, h.2.1, fun ad e j u hu => h.2.2.1 ad e j u hu, h.2.2.2⟩
theorem info27 : (Try.prog.info? 74).map (fun i => (i.zero, i.size, i.bytes)) = some (some (.slice none 0 0), 1, 24) := by kernel_rfl

set_option maxHeartbeats 6400000 in
set_option maxRecDepth 100000 in
theorem quotientOf_any {w : World} {v vl : Value} {N : Net} {cl : List Int} (h : NetAt w v N) (hf : IntSl w vl cl) :
    Calls Try.prog 47 #[v, vl] w fun e w' => ∃ v' bs, e = .returned (.tuple #[v', .bool (dec (QuoB N cl))]) ∧ Ext w w' ∧ OwnNet w' v' (quoAns N cl) bs ∧ Fresh w bs := by
  have HN := Lib.hid h
  have HF := Lib.hid hf
  obtain ⟨w0, v1, w2, rfl, hE, -, hP⟩ := h
  obtain ⟨ea, eb, eo, ec, rfl, hea, hel, hem, hec⟩ := hE
  obtain ⟨pa, pb, po, pc, rfl, hpa, hpl, hpm, hpc⟩ := hP
  obtain ⟨la, lb, lo, lc, rfl, hla, hll, hlm, hlc⟩ := hf
  unfold maxLen at hem hpm hlm
  have HEA := Lib.hid hea
  have HEC := Lib.hid hec
  have HPA := Lib.hid hpa
  have HPC := Lib.hid hpc
  clear hea hec hpa hpc hla hlc
  have HX := Lib.hid (boxed2_ext w (.slice ea N.ends.length ec) v1 (.slice pa N.inputs.length pc))
  have HR := Lib.hid (boxed2_row w (.slice ea N.ends.length ec) v1 (.slice pa N.inputs.length pc))
  have HQ := Lib.hid (boxed2_res w (.slice ea N.ends.length ec) v1 (.slice pa N.inputs.length pc))
  by_cases hg : Good N
  case neg =>
    have G := Lib.hid (dec_false hg)
    have E := Lib.hid (show ¬ QuoB N cl from fun k => hg k.1.1)
    clear hg
    go_enter Try.func47, Try.ntmps47
    go_wp2_with fail
    (with_reducible refine (isNetwork_any (HN.out.ext HX.out)).mono ?_)
    rintro e w1 ⟨rfl, hx1⟩
    rw [G.out]
    have K1 := Lib.hid (HX.out.trans' hx1)
    have R1 := Lib.hid (row_ext HR.out hx1)
    have Q1 := Lib.hid (row_ext HQ.out hx1)
    clear hx1
    obtain ⟨q0, q1, q2, t0, t1, t2⟩ := row3_facts (Q1.out)
    go_wp2
    refine bodyPost_ret (v := .tuple #[znet, .bool false]) (by simp [results, Try.results47, go_sem, q0, q1, q2, znet]) rfl ⟨_, [], ret_net (dec_false E.out).symm, store3_ext K1.out (by omega) _ _ _, by rw [quoAns_f E.out]; exact own_zero _, Fresh.nil _⟩
  have G := Lib.hid (dec_true hg)
  have HG := Lib.hid hg
  have GW := Lib.hid (good_w hg)
  have h40 := hg.1.2
  have h01 := hg.1.1
  have HIL := Lib.hid (good_w hg).ilen
  clear hg
  by_cases hl : cl.length = N.ends.length
  case neg =>
    have hlb : ((cl.length : Int) != (N.ends.length : Int)) = true := by simp; omega
    have E := Lib.hid (show ¬ QuoB N cl from fun k => hl k.1.2.1)
    clear hl
    go_enter Try.func47, Try.ntmps47
    go_wp2_with fail
    (with_reducible refine (isNetwork_any (HN.out.ext HX.out)).mono ?_)
    rintro e w1 ⟨rfl, hx1⟩
    rw [G.out]
    have K1 := Lib.hid (HX.out.trans' hx1)
    have R1 := Lib.hid (row_ext HR.out hx1)
    have Q1 := Lib.hid (row_ext HQ.out hx1)
    clear hx1
    obtain ⟨p0, p1, p2, -, -, -⟩ := row3_facts R1.out
    obtain ⟨q0, q1, q2, t0, t1, t2⟩ := row3_facts (Q1.out)
    go_wp2
    refine bodyPost_ret (v := .tuple #[znet, .bool false]) (by simp [results, Try.results47, go_sem, q0, q1, q2, znet]) rfl ⟨_, [], ret_net (dec_false E.out).symm, store3_ext K1.out (by omega) _ _ _, by rw [quoAns_f E.out]; exact own_zero _, Fresh.nil _⟩
  have hlb : ((cl.length : Int) != (N.ends.length : Int)) = false := by simp; omega
  have HL := Lib.hid hl
  have hl40 : cl.length ≤ 40 ∧ 1 ≤ cl.length := by omega
  have hpp : 0 < N.inputs.length := by have := HIL.out; omega
  clear hl
  obtain rfl := HEA.out (by omega)
  obtain rfl := HPA.out hpp
  clear hpp
  go_enter Try.func47, Try.ntmps47
  go_wp2_with fail
  (with_reducible refine (isNetwork_any (HN.out.ext HX.out)).mono ?_)
  rintro e w1 ⟨rfl, hx1⟩
  rw [G.out]
  have K1 := Lib.hid (HX.out.trans' hx1)
  have R1 := Lib.hid (row_ext HR.out hx1)
  have Q1 := Lib.hid (row_ext HQ.out hx1)
  clear hx1
  obtain ⟨p0, p1, p2, -, -, -⟩ := row3_facts R1.out
  go_wp2_with fail
  clear p0 p1 p2
  (with_reducible refine (fibresByImage_any cl.length (by omega) (HF.out.ext K1.out) (by omega)).mono ?_)
  rintro e w2 (⟨hin, b, R, rfl, hx2, hM⟩ | ⟨hin, rfl, hx2⟩)
  case inr =>
    have K2 := Lib.hid (K1.out.trans' hx2)
    have Q2 := Lib.hid (row_ext Q1.out hx2)
    have E := Lib.hid (show ¬ QuoB N cl from fun k => hin (by rw [HL.out]; exact k.1.2.2))
    clear hx2 hin
    obtain ⟨q0, q1, q2, t0, t1, t2⟩ := row3_facts (Q2.out)
    go_wp2
    refine bodyPost_ret (v := .tuple #[znet, .bool false]) (by simp [results, Try.results47, go_sem, q0, q1, q2, znet]) rfl ⟨_, [], ret_net (dec_false E.out).symm, store3_ext K2.out (by omega) _ _ _, by rw [quoAns_f E.out]; exact own_zero _, Fresh.nil _⟩
  have K2 := Lib.hid (K1.out.trans' hx2)
  have Q2 := Lib.hid (row_ext Q1.out hx2)
  have R2 := Lib.hid (row_ext R1.out hx2)
  have M2 := Lib.hid hM
  have HIN := Lib.hid hin
  obtain ⟨hm1, hm2⟩ := mny_le hin hl40.2
  have HMX := Lib.hid (mny_eq cl)
  have HRG := Lib.hid (show ∀ i, i < cl.length → 0 ≤ gi cl i from fun i hi => (hin i hi).1)
  obtain ⟨c, hc⟩ : ∃ c, c = cntF cl cl.length := ⟨_, rfl⟩
  have HC := Lib.hid hc
  have hcle : c ≤ cl.length := by rw [hc]; exact cntF_le _ _
  have HU := Lib.hid (show Used cl ↔ c = mny cl by rw [hc]; exact used_iff hm1)
  obtain ⟨n1, hn1⟩ : ∃ n, MapI w2 b n c (fm cl.length (fun z => 0 < (fib cl (z : Int)).length) R) := by rw [hc]; exact hM.map
  have HMP := Lib.hid hn1
  clear hc hx2 hin hM hn1
  obtain ⟨i0, hi, hz0, hz1, hz2⟩ := info_parts Try.info3
  have I0 := Lib.hid (show Try.prog.info? 3 = some i0 ∧ i0.zero = some (.int .i64 0) ∧ i0.size = 1 ∧ i0.bytes = 8 from ⟨hi, hz0, hz1, hz2⟩)
  clear hi hz0 hz1 hz2
  obtain ⟨i1, hi, hz0, hz1, hz2⟩ := info_parts info27
  have I1 := Lib.hid (show Try.prog.info? 74 = some i1 ∧ i1.zero = some (.slice none 0 0) ∧ i1.size = 1 ∧ i1.bytes = 24 from ⟨hi, hz0, hz1, hz2⟩)
  clear hi hz0 hz1 hz2
  go_wp2_with fail
  (with_reducible refine (maxInts_any (n := cl.length - 1) (HF.out.ext K2.out) HRG.out (by omega) (by omega)).mono ?_)
  rintro e w3 ⟨rfl, rfl⟩
  have hlenm := MapV.len HMP.out Try.underlying91
  by_cases hu : c = mny cl
  case neg =>
    have hub : (maxI cl != (c : Int) - 1) = true := by have := HMX.out; simp; omega
    have E := Lib.hid (show ¬ QuoB N cl from fun k => hu (HU.out.1 k.2.1))
    clear hu
    obtain ⟨q0, q1, q2, t0, t1, t2⟩ := row3_facts (Q2.out)
    go_wp2
    refine bodyPost_ret (v := .tuple #[znet, .bool false]) (by simp [results, Try.results47, go_sem, q0, q1, q2, znet]) rfl ⟨_, [], ret_net (dec_false E.out).symm, store3_ext K2.out (by omega) _ _ _, by rw [quoAns_f E.out]; exact own_zero _, Fresh.nil _⟩
  have hub : (maxI cl != (c : Int) - 1) = false := by have := HMX.out; simp; omega
  have HUS := Lib.hid (HU.out.2 hu)
  have HCM := Lib.hid hu
  clear hu HU
  have hzz : (w2.alloc (.cells #[.slice none 0 0, .slice none 0 0, .slice none 0 0] 29)).rowIs w2.heap.size 29 3 (tri (.slice none 0 0) (.slice none 0 0) (.slice none 0 0)) := row3_made _ _ _ _ _
  have QS0 := Lib.hid (show QS w2 (w2.alloc (.cells #[.slice none 0 0, .slice none 0 0, .slice none 0 0] 29)) w2.heap.size (quotNet N cl 0).ends (quotNet N cl 0).inputs (.slice none 0 0) (.slice none 0 0) from
    ⟨(Ext.rfl' _).alloc' _, Nat.le_refl _, hzz, by simpa [quotNet] using GrowL.nil w2.heap.size _ [], by simpa [quotNet] using GrowN.nil w2.heap.size _⟩)
  clear hzz
  have hlenm2 := MapV.len (HMP.out.ext ((Ext.rfl' w2).alloc' (.cells #[.slice none 0 0, .slice none 0 0, .slice none 0 0] 29))) Try.underlying91
  go_wp2_with fail
  clear hlenm hlenm2
  go_loopg [44] c (fun g i wr => ∃ k : Nat, k ≤ c ∧ g = c - k ∧ i = .int .i64 k ∧ Hid (∃ vE vI, QS w2 wr w2.heap.size (quotNet N cl k).ends (quotNet N cl k).inputs vE vI))
  case atStart => exact ⟨0, Nat.zero_le _, rfl, rfl, _, _, QS0.out⟩
  case round =>
    obtain ⟨k, hk, rfl, rfl, Hr⟩ := hrel
    obtain ⟨vE, vI, hqs⟩ := Hr.out
    have S := Lib.hid hqs
    have KR := Lib.hid (K2.out.trans' hqs.ext)
    clear hqs Hr
    by_cases hlt : k < c
    · have hkey := int_key (x := (k : Int)) (by unfold inI64; omega)
      have hkm : k < mny cl := by have := HCM.out; omega
      have hkl : k < cl.length := by omega
      have h0 := HUS.out k hkm
      obtain ⟨f1, f2, f3⟩ := fst_of h0
      have hu1 := M2.out.at hkl
      have hbl : blankR cl R k = R k := by unfold blankR; rw [if_neg (by omega)]
      rw [hbl] at hu1
      obtain ⟨fg, fcap, hR, hc1, hc2, hc3, hc4, hc5⟩ := (M2.out.fam.own k hkl).form h0
      unfold maxLen at hc2
      rw [hR] at hu1
      have hc6 := hc5 0 h0
      rw [f3] at hc6
      have hfl : (fib cl (k : Int)).length ≤ 40 := by have := fibTo_len cl (k : Int) cl.length; unfold fib; omega
      obtain ⟨fs, hfs⟩ : ∃ fs, fs = fst cl (k : Int) := ⟨_, rfl⟩
      rw [← hfs] at hc6 f1
      have HFS := Lib.hid hfs
      have d1 := S.out.ext.cell' hc6
      have HMR := Lib.hid (HMP.out.ext S.out.ext)
      have hfn : fs < N.ends.length := by have := HL.out; omega
      have hfi : fs < N.inputs.length := by have := HIL.out; omega
      clear hfs hc5 hc6 hbl f2 f3 hR hc1 hc3 hc4
      obtain ⟨_, hra, hrow⟩ := HEC.out fs hfn
      have HRW := Lib.hid hrow
      obtain ⟨aa, ab, ao, ac, rfl, -, hal, ham, -⟩ := hrow
      obtain ⟨_, hpi, rfl, hpr⟩ := HPC.out fs hfi
      unfold maxLen at ham
      have h6 := GW.out.deg fs hfn
      have HRA := Lib.hid hra
      obtain ⟨xi, hxi⟩ : ∃ x, gi N.inputs fs = x := ⟨_, rfl⟩
      rw [hxi] at hpi
      have HPI := Lib.hid hpi
      obtain ⟨qs1, qs2⟩ := quot_succ N cl k
      rw [← HFS.out] at qs1 qs2
      rw [hxi] at qs2
      have HS1 := Lib.hid qs1
      have HS2 := Lib.hid qs2
      obtain ⟨ql1, ql2⟩ := quot_len N cl k
      have HQ1 := Lib.hid ql1
      have HQ2 := Lib.hid ql2
      have hin : Hid (∀ i, i < (gr N.ends fs).length → 0 ≤ gn (gr N.ends fs) i ∧ gn (gr N.ends fs) i < (cl.length : Int)) := fun i hi => by have := GW.out.leads.node fs hfn i hi; have := HL.out; omega
      obtain ⟨ye, ce, rfl⟩ : ∃ a c, vE = .slice a (quotNet N cl k).ends.length c := owns_slice S.out.ends.choose_spec.choose_spec.1
      obtain ⟨yi, ci, rfl⟩ := S.out.inp.slice
      obtain ⟨R', T', g1, g2, g3, g4⟩ := S.out.ends
      have G1 := Lib.hid g1
      have SZ := Lib.hid S.out.ext.size
      have hkc : k ≤ 40 := by omega
      clear hra hpi hxi qs1 qs2 ql1 ql2 g1
      have mkS : ∀ w' : World, Ext wr w' → w'.cell? ⟨w2.heap.size, 0, none⟩ = some (.slice ye (quotNet N cl k).ends.length ce) ∧ w'.cell? ⟨w.heap.size, 0, none⟩ = some (.slice (some ⟨eb, eo, none⟩) N.ends.length ec) ∧ w'.cell? ⟨eb, eo + fs, none⟩ = some (.slice aa (gr N.ends fs).length ac) :=
        fun w' hw => ⟨hw.cell' (row3_facts S.out.box).1, hw.cell' (row3_facts (row_ext R2.out S.out.ext)).1, hw.cell' (KR.out.cell' HRA.out)⟩
      go_wp2_with (first
        | (at_lookup; refine wpList_lookV rfl _ _ rfl HMR.out intK Try.underlying91 (zeroSI _) rfl rfl hkey _ hu1 ?_))
      clear d1 hu1
      refine wp_region_gate (n := 12) (S := fun w' => w'.cell? ⟨w2.heap.size, 0, none⟩ = some (.slice ye (quotNet N cl k).ends.length ce) ∧ w'.cell? ⟨w.heap.size, 0, none⟩ = some (.slice (some ⟨eb, eo, none⟩) N.ends.length ec) ∧ w'.cell? ⟨eb, eo + fs, none⟩ = some (.slice aa (gr N.ends fs).length ac)) (by kernel_rfl) (mkS _ (Ext.rfl' wr).drew') (fun hHeld => ?_)
      refine wpAnyG_take (i := 0) (v := ?_) rfl (by decide +kernel) (by kernel_rfl) (by decide) (by kernel_rfl) (by kernel_rfl) (fun _ _ _ h => h) (Or.inl ⟨by rfl, ?_⟩) hHeld ?_
      rotate_left 1
      · (intro w' hSw; (try dsimp only at hSw); go_simp) <;> with_reducible rfl
      simp only [Act.put]
      refine wpAnyG_take (i := 1) (v := ?_) rfl (by decide +kernel) (by kernel_rfl) (by decide) (by kernel_rfl) (by kernel_rfl) (fun _ _ _ h => h) (Or.inl ⟨by rfl, ?_⟩) hHeld ?_
      rotate_left 1
      · (intro w' hSw; (try dsimp only at hSw); go_simp) <;> with_reducible rfl
      simp only [Act.put]
      refine wpAnyG_take (i := 2) (v := ?_) rfl (by decide +kernel) (by kernel_rfl) (by decide) (by kernel_rfl) (by kernel_rfl) (fun _ _ _ h => h) (Or.inl ⟨by rfl, ?_⟩) hHeld ?_
      rotate_left 1
      · (intro w' hSw; (try dsimp only at hSw); go_simp) <;> with_reducible rfl
      simp only [Act.put]
      refine wpAnyG_take (i := 3) (v := ?_) rfl (by decide +kernel) (by kernel_rfl) (by decide) (by kernel_rfl) (by kernel_rfl) (fun _ _ _ h => h) (Or.inl ⟨by rfl, ?_⟩) hHeld ?_
      rotate_left 1
      · (intro w' hSw; (try dsimp only at hSw); go_simp) <;> with_reducible rfl
      simp only [Act.put]
      refine wpAnyG_take (i := 4) (v := ?_) rfl (by decide +kernel) (by kernel_rfl) (by decide) (by kernel_rfl) (by kernel_rfl) (fun _ _ _ h => h) (Or.inl ⟨by rfl, ?_⟩) hHeld ?_
      rotate_left 1
      · (intro w' hSw; (try dsimp only at hSw); go_simp) <;> with_reducible rfl
      simp only [Act.put]
      refine wpAnyG_take (i := 5) (v := ?_) rfl (by decide +kernel) (by kernel_rfl) (by decide) (by kernel_rfl) (by kernel_rfl) (fun _ _ _ h => h) (Or.inl ⟨by rfl, ?_⟩) hHeld ?_
      rotate_left 1
      · (intro w' hSw; (try dsimp only at hSw); go_simp) <;> with_reducible rfl
      simp only [Act.put]
      refine wpAnyG_take (i := 6) (v := ?_) rfl (by decide +kernel) (by kernel_rfl) (by decide) (by kernel_rfl) (by kernel_rfl) (fun _ _ _ h => h) (Or.inl ⟨by rfl, ?_⟩) hHeld ?_
      rotate_left 1
      · (intro w' hSw; (try dsimp only at hSw); go_simp) <;> with_reducible rfl
      simp only [Act.put]
      refine wpAnyG_take (i := 7) (v := ?_) rfl (by decide +kernel) (by kernel_rfl) (by decide) (by kernel_rfl) (by kernel_rfl) (fun _ _ _ h => h) (Or.inl ⟨by rfl, ?_⟩) hHeld ?_
      rotate_left 1
      · (intro w' hSw; (try dsimp only at hSw); go_simp) <;> with_reducible rfl
      simp only [Act.put]
      refine wpAnyG_one (i := 8) rfl (by kernel_rfl) rfl (fun K hK => ?_)
      go_simp
      (with_reducible refine (endsUnder_any (HF.out.ext (KR.out.trans' (Ext.rfl' wr).drew')) (HRW.out.ext (KR.out.trans' (Ext.rfl' wr).drew')) (by omega) hin.out).mono ?_)
      rintro e w4 ⟨nb, rfl, hx4, ho, hnb⟩
      have X4 := Lib.hid ((Ext.rfl' wr).drew'.trans' hx4)
      have OU := Lib.hid ho
      have HNB := Lib.hid (show wr.heap.size ≤ nb from hnb)
      clear hHeld hx4 ho hnb
      refine hK.out _ _ (fun _ => mkS _ X4.out) (fun _ => ?_)
      clear hK K
      refine wpAnyG_one (i := 9) rfl (by kernel_rfl) rfl (fun K hK => ?_)
      go_simp
      refine hK.out _ _ (fun _ => mkS _ (X4.out.alloc' _)) (fun _ => ?_)
      clear hK K
      refine wpAnyG_one (i := 10) rfl (by kernel_rfl) rfl (fun K hK => ?_)
      refine wp_app2 (.tmp 53) (.tmp 61) 27 rfl w2.heap.size 74 i1 (.slice none 0 0) 1 24 Try.underlying27 I1.out.1 I1.out.2.1 I1.out.2.2.1 I1.out.2.2.2 rfl (by decide) (.slice ye (quotNet N cl k).ends.length ce) (quotNet N cl k).ends.length ((List.range (quotNet N cl k).ends.length).map R') rfl (owns_ext G1.out (X4.out.alloc' _)) (some ⟨w4.heap.size, 0, none⟩) 1 1 [.slice (some ⟨nb, 0, none⟩) (gr N.ends fs).length (gr N.ends fs).length] rfl (src_one w4 _ _ rfl) (by have := HQ1.out; unfold maxLen; omega) (by have := HQ1.out; omega) (by have := SZ.out; have := X4.out.size; simp; omega) ?_
      intro v' w5 hg
      obtain ⟨hq5, hb5, hk5⟩ := S.out.row G1.out g2 g3 g4 X4.out OU.out (fun b hb => by simp only [List.mem_singleton] at hb; subst hb; exact HNB.out) hg.1
      have S5 := Lib.hid hq5
      have z5 := (row3_facts hb5).1
      have z6 := (row3_facts hb5).2.2.2.1
      have Z7 := Lib.hid (show Ext w2 w5 from grown_ext (S.out.ext.trans' (X4.out.alloc' (.cells #[.slice (some ⟨nb, 0, none⟩) (gr N.ends fs).length (gr N.ends fs).length] 74))) (Nat.le_refl _) (owns_ext G1.out (X4.out.alloc' _)) hg.1.2.1)
      obtain ⟨ya, yc, rfl⟩ := owns_slice hg.1.1
      clear hg hq5 hb5 hk5 g2 g3 g4
      refine hK.out _ _ (fun _ => ⟨z5, (row3_facts (row_ext R2.out Z7.out)).1, (K2.out.trans' Z7.out).cell' HRA.out⟩) (fun hHeld' => ?_)
      have hHeld := hHeld' (by decide)
      clear hK K
      refine wpAnyG_take (i := 11) (v := ?_) rfl (by decide +kernel) (by kernel_rfl) (by decide) (by kernel_rfl) (by kernel_rfl) (fun _ _ _ h => h) (Or.inl ⟨by rfl, ?_⟩) hHeld ?_
      rotate_left 1
      · (intro w' hSw; (try dsimp only at hSw); go_simp) <;> with_reducible rfl
      simp only [Act.put]
      clear hHeld hHeld'
      refine wpAnyG_one (i := 12) rfl (by kernel_rfl) rfl (fun K hK => ?_)
      go_simp
      refine hK.out _ _ (fun h => absurd rfl h) (fun _ => ?_)
      clear hK K
      refine wpAnyG_done (by kernel_rfl) ?_ _
      clear mkS z5 z6
      obtain ⟨W6, hW6⟩ : ∃ W6, W6 = w5.setCell ⟨w2.heap.size, 0, none⟩ (.slice ya ((quotNet N cl k).ends.length + 1) yc) := ⟨_, rfl⟩
      have S6 := Lib.hid (show QS w2 W6 w2.heap.size ((quotNet N cl k).ends ++ [under cl (gr N.ends fs)]) (quotNet N cl k).inputs (.slice ya ((quotNet N cl k).ends.length + 1) yc) (.slice yi (quotNet N cl k).inputs.length ci) by rw [hW6]; exact S5.out)
      rw [← hW6]
      clear hW6
      have K6 := Lib.hid (K2.out.trans' S6.out.ext)
      have SZ6 := Lib.hid S6.out.ext.size
      have mkS : ∀ w' : World, Ext W6 w' → w'.cell? ⟨w2.heap.size, 2, none⟩ = some (.slice yi (quotNet N cl k).inputs.length ci) ∧ w'.cell? ⟨w.heap.size, 2, none⟩ = some (.slice (some ⟨pb, po, none⟩) N.inputs.length pc) ∧ w'.cell? ⟨pb, po + fs, none⟩ = some (.int .i64 xi) :=
        fun w' hw => ⟨hw.cell' (row3_facts S6.out.box).2.2.1, hw.cell' (row3_facts (row_ext R2.out S6.out.ext)).2.2.1, hw.cell' (K6.out.cell' HPI.out)⟩
      go_wp2_with fail
      refine wp_region_gate (n := 10) (S := fun w' => w'.cell? ⟨w2.heap.size, 2, none⟩ = some (.slice yi (quotNet N cl k).inputs.length ci) ∧ w'.cell? ⟨w.heap.size, 2, none⟩ = some (.slice (some ⟨pb, po, none⟩) N.inputs.length pc) ∧ w'.cell? ⟨pb, po + fs, none⟩ = some (.int .i64 xi)) (by kernel_rfl) (mkS _ (Ext.rfl' W6).drew') (fun hHeld => ?_)
      refine wpAnyG_take (i := 0) (v := ?_) rfl (by decide +kernel) (by kernel_rfl) (by decide) (by kernel_rfl) (by kernel_rfl) (fun _ _ _ h => h) (Or.inl ⟨by rfl, ?_⟩) hHeld ?_
      rotate_left 1
      · (intro w' hSw; (try dsimp only at hSw); go_simp) <;> with_reducible rfl
      simp only [Act.put]
      refine wpAnyG_take (i := 1) (v := ?_) rfl (by decide +kernel) (by kernel_rfl) (by decide) (by kernel_rfl) (by kernel_rfl) (fun _ _ _ h => h) (Or.inl ⟨by rfl, ?_⟩) hHeld ?_
      rotate_left 1
      · (intro w' hSw; (try dsimp only at hSw); go_simp) <;> with_reducible rfl
      simp only [Act.put]
      refine wpAnyG_take (i := 2) (v := ?_) rfl (by decide +kernel) (by kernel_rfl) (by decide) (by kernel_rfl) (by kernel_rfl) (fun _ _ _ h => h) (Or.inl ⟨by rfl, ?_⟩) hHeld ?_
      rotate_left 1
      · (intro w' hSw; (try dsimp only at hSw); go_simp) <;> with_reducible rfl
      simp only [Act.put]
      refine wpAnyG_take (i := 3) (v := ?_) rfl (by decide +kernel) (by kernel_rfl) (by decide) (by kernel_rfl) (by kernel_rfl) (fun _ _ _ h => h) (Or.inl ⟨by rfl, ?_⟩) hHeld ?_
      rotate_left 1
      · (intro w' hSw; (try dsimp only at hSw); go_simp) <;> with_reducible rfl
      simp only [Act.put]
      refine wpAnyG_take (i := 4) (v := ?_) rfl (by decide +kernel) (by kernel_rfl) (by decide) (by kernel_rfl) (by kernel_rfl) (fun _ _ _ h => h) (Or.inl ⟨by rfl, ?_⟩) hHeld ?_
      rotate_left 1
      · (intro w' hSw; (try dsimp only at hSw); go_simp) <;> with_reducible rfl
      simp only [Act.put]
      refine wpAnyG_take (i := 5) (v := ?_) rfl (by decide +kernel) (by kernel_rfl) (by decide) (by kernel_rfl) (by kernel_rfl) (fun _ _ _ h => h) (Or.inl ⟨by rfl, ?_⟩) hHeld ?_
      rotate_left 1
      · (intro w' hSw; (try dsimp only at hSw); go_simp) <;> with_reducible rfl
      simp only [Act.put]
      refine wpAnyG_take (i := 6) (v := ?_) rfl (by decide +kernel) (by kernel_rfl) (by decide) (by kernel_rfl) (by kernel_rfl) (fun _ _ _ h => h) (Or.inl ⟨by rfl, ?_⟩) hHeld ?_
      rotate_left 1
      · (intro w' hSw; (try dsimp only at hSw); go_simp) <;> with_reducible rfl
      simp only [Act.put]
      refine wpAnyG_one (i := 7) rfl (by kernel_rfl) rfl (fun K hK => ?_)
      go_simp
      clear hHeld
      refine hK.out _ _ (fun _ => mkS _ (by first | exact (Ext.rfl' W6).drew'.alloc' _ | exact ((Ext.rfl' W6).alloc' _).drew')) (fun _ => ?_)
      clear hK K
      refine wpAnyG_one (i := 8) rfl (by kernel_rfl) rfl (fun K hK => ?_)
      have XA := Lib.hid (show Ext W6 (W6.alloc (.cells #[.int .i64 xi] 3)).drew from ((Ext.rfl' W6).alloc' _).drew')
      refine wp_app2 (.tmp 65) (.tmp 71) 23 rfl w2.heap.size 3 i0 (.int .i64 0) 1 8 Try.underlying23 I0.out.1 I0.out.2.1 I0.out.2.2.1 I0.out.2.2.2 rfl (by decide) (.slice yi (quotNet N cl k).inputs.length ci) (quotNet N cl k).inputs.length (intCells (quotNet N cl k).inputs) rfl (S6.out.inp.ext XA.out) (some ⟨W6.heap.size, 0, none⟩) 1 1 [.int .i64 xi] rfl (by first | exact src_one W6.drew _ _ rfl | exact src_one W6 _ _ rfl | exact srcDrew (src_one W6 _ _ rfl)) (by have := HQ2.out; unfold maxLen; omega) (by have := HQ2.out; omega) (by have := SZ6.out; have := XA.out.size; simp at this ⊢; omega) ?_
      intro v' w7 hg
      obtain ⟨hq7, hb7⟩ := S6.out.num XA.out hg.1
      have S7 := Lib.hid hq7
      have z5 := (row3_facts hb7).2.2.1
      have z6 := (row3_facts hb7).2.2.2.2.2
      have Z7 := Lib.hid (show Ext w2 w7 from grown_ext (S6.out.ext.trans' XA.out) (Nat.le_refl _) (S6.out.inp.ext XA.out) hg.1.2.1)
      obtain ⟨za, zc, rfl⟩ := owns_slice hg.1.1
      clear hg hq7 hb7
      refine hK.out _ _ (fun _ => ⟨z5, (row3_facts (row_ext R2.out Z7.out)).2.2.1, (K2.out.trans' Z7.out).cell' HPI.out⟩) (fun hHeld' => ?_)
      have hHeld := hHeld' (by decide)
      clear hK K
      refine wpAnyG_take (i := 9) (v := ?_) rfl (by decide +kernel) (by kernel_rfl) (by decide) (by kernel_rfl) (by kernel_rfl) (fun _ _ _ h => h) (Or.inl ⟨by rfl, ?_⟩) hHeld ?_
      rotate_left 1
      · (intro w' hSw; (try dsimp only at hSw); go_simp) <;> with_reducible rfl
      simp only [Act.put]
      clear hHeld hHeld'
      refine wpAnyG_one (i := 10) rfl (by kernel_rfl) rfl (fun K hK => ?_)
      go_simp
      refine hK.out _ _ (fun h => absurd rfl h) (fun _ => ?_)
      clear hK K
      refine wpAnyG_done (by kernel_rfl) ?_ _
      clear mkS z5 z6
      go_wp2
      go_roundg (c - (k + 1))
      case measure => omega
      case rel => exact ⟨k + 1, by omega, rfl, by go_num, _, _, by rw [HS1.out, HS2.out]; exact S7.out⟩
    · obtain rfl : k = c := by omega
      have HQN := Lib.hid (show (⟨(quotNet N cl k).ends, [], (quotNet N cl k).inputs⟩ : Net) = quotNet N cl (mny cl) by rw [HCM.out]; rfl)
      obtain ⟨bs, ho, hfr⟩ := S.out.done (fun i hi => by
        rw [(quot_len N cl k).2] at hi
        rw [(quot_row N cl k i hi).2]
        have := GW.out.irange (fst cl (i : Int)) (by have := (fst_of (HUS.out i (by have := HCM.out; omega))).1; have := HL.out; omega)
        unfold inI64; omega)
      rw [HQN.out] at ho
      have HO := Lib.hid ho
      have HFR := Lib.hid (hfr.of K2.out.size)
      have HFR2 := Lib.hid (show ∀ x ∈ bs, w.heap.size + 2 ≤ x from fun x hx => by have := hfr.2 x hx; have := Q2.out.lt; omega)
      clear ho hfr
      obtain ⟨p0, p1, p2, -, -, -⟩ := row3_facts (row_ext R2.out S.out.ext)
      obtain ⟨s0, s1, s2, -, -, -⟩ := row3_facts S.out.box
      go_wp2_with fail
      clear p0 p1 p2 s0 s1 s2
      (with_reducible refine (keepsPorts_any (HN.out.ext KR.out) HO.out.read (HF.out.ext KR.out)).mono ?_)
      rintro e w8 ⟨rfl, hx8⟩
      have X8 := Lib.hid hx8
      have K8 := Lib.hid (KR.out.trans' hx8)
      have Q8 := Lib.hid (row_ext Q2.out (S.out.ext.trans' hx8))
      have S8 := Lib.hid (S.out.lift hx8)
      clear hx8
      by_cases hp : PmAns N (quotNet N cl (mny cl)) cl
      · obtain ⟨ye, ce, rfl⟩ : ∃ a c, vE = .slice a (quotNet N cl k).ends.length c := owns_slice S.out.ends.choose_spec.choose_spec.1
        obtain ⟨yi, ci, rfl⟩ := S.out.inp.slice
        have D := Lib.hid (dec_true hp)
        have E := Lib.hid (show QuoB N cl from ⟨⟨HG.out, HL.out, by rw [← HL.out]; exact HIN.out⟩, HUS.out, hp⟩)
        clear hp
        rw [D.out]
        obtain ⟨s0, s1, s2, -, -, -⟩ := row3_facts S8.out.box
        obtain ⟨q0, q1, q2, t0, t1, t2⟩ := row3_facts Q8.out
        go_wp2
        obtain ⟨c0, c1, c2⟩ := close_net K8.out (HO.out.ext X8.out) HFR.out.1 (fun x hx => by have h1 := HFR.out.2 x hx; have h2 := HFR2.out x hx; exact h2)
        refine bodyPost_ret (v := .tuple #[.agg #[.slice ye (quotNet N cl k).ends.length ce, .slice none 0 0, .slice yi (quotNet N cl k).inputs.length ci], .bool true]) (by simp [results, Try.results47, go_sem, q0, q1, q2]) rfl ⟨_, bs, ret_net (dec_true E.out).symm, c0, by rw [quoAns_t E.out]; exact c1, c2⟩
      · have D := Lib.hid (dec_false hp)
        have E := Lib.hid (show ¬ QuoB N cl from fun k => hp k.2.2)
        clear hp
        rw [D.out]
        obtain ⟨q0, q1, q2, t0, t1, t2⟩ := row3_facts (Q8.out)
        go_wp2
        refine bodyPost_ret (v := .tuple #[znet, .bool false]) (by simp [results, Try.results47, go_sem, q0, q1, q2, znet]) rfl ⟨_, [], ret_net (dec_false E.out).symm, store3_ext K8.out (by omega) _ _ _, by rw [quoAns_f E.out]; exact own_zero _, Fresh.nil _⟩
end Go.Proofs.Ytgacbfblpkikkaa
