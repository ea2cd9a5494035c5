/- The contract of the program's IsIsomorphism. -/
import Derived.Test.YtcdfjckdkicggaaJa
namespace Go.Proofs.Ytcdfjckdkicggaa
open Go.RowKit

theorem ret_bb {x y b c : Bool} (h0 : x = y) (h : b = c) : Ending.returned (.tuple #[.bool x, .bool b]) = .returned (.tuple #[.bool y, .bool c]) := by rw [h0, h]
theorem iso_f {A B : Net} {f : List Int} (h : ¬ IsoB A B) : dec (IsoAns A B f) = false := dec_false fun k => h k.1
theorem marksOf_is {w : World} {v : Value} {N : Net} (y : Nat) (hy : y < N.ends.length) (h : NetAt w v N) (hG : GoodW N) {d i k : Int} (hd : ((gr N.ends y).length : Int) = d) (hi : gi N.inputs y = i) (hk : idOf N y = k) :
    Calls Try.prog 52 #[v, .int .i64 y] w fun e w' => e = .returned (.agg #[.int .i64 d, .int .i64 i, .int .i64 k]) ∧ Ext w w' :=
  (marksOf_any y hy h hG).mono fun e w' ⟨he, hx⟩ => ⟨by rw [he]; unfold marksV rw'; rw [Int.toNat_natCast, hd, hi, hk], hx⟩

theorem eq_int (k : Nat) (w : World) (x y : Int) : (Op.equalIn (k + 1) 3 (.int .i64 x) (.int .i64 y)).run Try.prog w = .ok (x == y) w := run_equalIn_int w k 3 .i64 .i64 x y (by kernel_rfl)
set_option maxRecDepth 4000 in
theorem eq_arr3 (k : Nat) (w : World) (a b c d e f : Int) : (Op.equalIn (k + 2) 65 (.agg #[.int .i64 a, .int .i64 b, .int .i64 c]) (.agg #[.int .i64 d, .int .i64 e, .int .i64 f])).run Try.prog w = .ok (a == d && (b == e && c == f)) w := by
  have hI := eq_int k w
  obtain ⟨m, hm⟩ : ∃ m, m = k + 1 := ⟨_, rfl⟩
  rw [show k + 2 = m + 1 by omega]
  rw [← hm] at hI
  clear hm
  simp only [Op.equalIn, Sem.run_bind, run_underlying Try.underlying65, Result.andThen_ok]
  simp [Std.Legacy.Range.forIn_eq_forIn_range', List.range', go_sem, hI]
  cases h1 : a == d <;> cases h2 : b == e <;> cases h3 : c == f <;> simp_all
set_option maxRecDepth 4000 in
theorem eq_arr2 (k : Nat) (w : World) (a b d e : Int) : (Op.equalIn (k + 2) 71 (.agg #[.int .i64 a, .int .i64 b]) (.agg #[.int .i64 d, .int .i64 e])).run Try.prog w = .ok (a == d && b == e) w := by
  have hI := eq_int k w
  obtain ⟨m, hm⟩ : ∃ m, m = k + 1 := ⟨_, rfl⟩
  rw [show k + 2 = m + 1 by omega]
  rw [← hm] at hI
  clear hm
  simp only [Op.equalIn, Sem.run_bind, run_underlying Try.underlying71, Result.andThen_ok]
  simp [Std.Legacy.Range.forIn_eq_forIn_range', List.range', go_sem, hI]
  cases h1 : a == d <;> cases h2 : b == e <;> simp_all
theorem neq_arr3 (w : World) (a b c d e f : Int) : (binOp .neq 65 (.agg #[.int .i64 a, .int .i64 b, .int .i64 c]) (.agg #[.int .i64 d, .int .i64 e, .int .i64 f])).run Try.prog w = .ok (.bool (!(a == d && (b == e && c == f)))) w := by
  rw [run_neq_struct, eq_arr3 9998]; rfl
theorem neq_arr2 (w : World) (a b d e : Int) : (binOp .neq 71 (.agg #[.int .i64 a, .int .i64 b]) (.agg #[.int .i64 d, .int .i64 e])).run Try.prog w = .ok (.bool (!(a == d && b == e))) w := by
  rw [run_neq_struct, eq_arr2 9998]; rfl
theorem guard3 : Try.prog.eqGuardType Try.prog.depth 65 = false := by kernel_rfl
theorem guard2 : Try.prog.eqGuardType Try.prog.depth 71 = false := by kernel_rfl

set_option maxHeartbeats 6400000 in
set_option maxRecDepth 100000 in
theorem isIso_any {w : World} {va vb vf : Value} {A B : Net} {f : List Int} (h : NetAt w va A) (k : NetAt w vb B) (hf : IntSl w vf f) :
    Calls Try.prog 24 #[va, vb, vf] w fun e w' => e = .returned (.tuple #[.bool (dec (IsoAns A B f)), .bool (dec (IsoB A B))]) ∧ Ext w w' := by
  have HA := Lib.hid h
  have HB := Lib.hid k
  have HF := Lib.hid hf
  obtain ⟨v0, v1, v2, rfl, hEa, -, -⟩ := h
  obtain ⟨u0, u1, u2, rfl, hEb, -, -⟩ := k
  obtain ⟨ea, eb, eo, ec, rfl, hea, hel, hem, hec⟩ := hEa
  obtain ⟨fa, fb, fo, fc, rfl, hfa, hfl, hfm, hfc⟩ := hEb
  obtain ⟨la, lb, lo, lc, rfl, hla, hll, hlm, hlc⟩ := hf
  unfold maxLen at hem hfm hlm
  have HEA := Lib.hid hea
  have HEC := Lib.hid hec
  have HFA := Lib.hid hfa
  have HFC := Lib.hid hfc
  have HLA := Lib.hid hla
  have HLC := Lib.hid hlc
  clear hea hec hfa hfc hla hlc
  obtain ⟨W1, hW1⟩ : ∃ W1, W1 = (w.alloc (.cells #[.slice ea A.ends.length ec, v1, v2] 31)).alloc (.cells #[.slice fa B.ends.length fc, u1, u2] 31) := ⟨_, rfl⟩
  have EW := Lib.hid (show Ext w W1 by rw [hW1]; exact (boxed_ext _ _ _ _ _).trans' (boxed_ext _ _ _ _ _))
  have RA := Lib.hid (show W1.rowIs w.heap.size 31 3 (tri (.slice ea A.ends.length ec) v1 v2) by rw [hW1]; exact (boxed_row _ _ _ _ _).alloc _)
  have RB := Lib.hid (show W1.rowIs (w.heap.size + 1) 31 3 (tri (.slice fa B.ends.length fc) u1 u2) by rw [hW1]; simpa using boxed_row (boxed w (.slice ea A.ends.length ec) v1 v2 31) (.slice fa B.ends.length fc) u1 u2 31)
  obtain ⟨p0, p1, p2, -, -, -⟩ := row3_facts RA.out
  rw [hW1] at p0 p1 p2
  by_cases ha : Good A
  case neg =>
    have DA := Lib.hid (dec_false ha)
    have D := Lib.hid (dec_false (p := IsoB A B) fun h => ha h.1)
    have E := Lib.hid (iso_f (A := A) (B := B) (f := f) fun h => ha h.1)
    clear ha
    go_enter Try.func24, Try.ntmps24
    go_wp2_with fail
    rw [← hW1]
    clear hW1 p0 p1 p2
    (with_reducible refine (isNetwork_any (HA.out.ext EW.out)).mono ?_)
    rintro e w1 ⟨rfl, hx1⟩
    rw [DA.out]
    have K1 := Lib.hid hx1
    obtain ⟨q0, q1, q2, -, -, -⟩ := row3_facts (row_ext RB.out hx1)
    obtain ⟨p0, p1, p2, -, -, -⟩ := row3_facts (row_ext RA.out hx1)
    clear hx1
    go_wp2
    go_ret2
    exact ⟨ret_bb E.out.symm D.out.symm, EW.out.trans' K1.out⟩
  by_cases hb : Good B
  case neg =>
    have DA := Lib.hid (dec_true ha)
    have DB := Lib.hid (dec_false hb)
    have D := Lib.hid (dec_false (p := IsoB A B) fun h => hb h.2)
    have E := Lib.hid (iso_f (A := A) (B := B) (f := f) fun h => hb h.2)
    clear ha hb
    go_enter Try.func24, Try.ntmps24
    go_wp2_with fail
    rw [← hW1]
    clear hW1 p0 p1 p2
    (with_reducible refine (isNetwork_any (HA.out.ext EW.out)).mono ?_)
    rintro e w1 ⟨rfl, hx1⟩
    rw [DA.out]
    have K1 := Lib.hid hx1
    obtain ⟨q0, q1, q2, -, -, -⟩ := row3_facts (row_ext RB.out hx1)
    obtain ⟨p0, p1, p2, -, -, -⟩ := row3_facts (row_ext RA.out hx1)
    clear hx1
    go_wp2_with fail
    (with_reducible refine (isNetwork_any (HB.out.ext (EW.out.trans' K1.out))).mono ?_)
    rintro e w2 ⟨rfl, hx2⟩
    rw [DB.out]
    have K2 := Lib.hid (K1.out.trans' hx2)
    clear p0 p1 p2 q0 q1 q2
    obtain ⟨q0, q1, q2, -, -, -⟩ := row3_facts (row_ext RB.out K2.out)
    obtain ⟨p0, p1, p2, -, -, -⟩ := row3_facts (row_ext RA.out K2.out)
    clear hx2
    go_wp2
    go_ret2
    exact ⟨ret_bb E.out.symm D.out.symm, EW.out.trans' K2.out⟩
  have DA := Lib.hid (dec_true ha)
  have DB := Lib.hid (dec_true hb)
  have HGG := Lib.hid (show IsoB A B from ⟨ha, hb⟩)
  have D := Lib.hid (dec_true HGG.out)
  have GA := Lib.hid (good_w ha)
  have GB := Lib.hid (good_w hb)
  have h40 := GA.out.most
  clear ha hb
  by_cases hl : A.ends.length = B.ends.length
  case neg =>
    have E := Lib.hid (dec_false (p := IsoAns A B f) fun h => hl h.2.1.1)
    have hlb : ((A.ends.length : Int) != (B.ends.length : Int)) = true := by simp; omega
    clear hl
    go_enter Try.func24, Try.ntmps24
    go_wp2_with fail
    rw [← hW1]
    clear hW1 p0 p1 p2
    (with_reducible refine (isNetwork_any (HA.out.ext EW.out)).mono ?_)
    rintro e w1 ⟨rfl, hx1⟩
    rw [DA.out]
    have K1 := Lib.hid hx1
    obtain ⟨q0, q1, q2, -, -, -⟩ := row3_facts (row_ext RB.out hx1)
    obtain ⟨p0, p1, p2, -, -, -⟩ := row3_facts (row_ext RA.out hx1)
    clear hx1
    go_wp2_with fail
    (with_reducible refine (isNetwork_any (HB.out.ext (EW.out.trans' K1.out))).mono ?_)
    rintro e w2 ⟨rfl, hx2⟩
    rw [DB.out]
    have K2 := Lib.hid (K1.out.trans' hx2)
    clear p0 p1 p2 q0 q1 q2
    obtain ⟨q0, q1, q2, -, -, -⟩ := row3_facts (row_ext RB.out K2.out)
    obtain ⟨p0, p1, p2, -, -, -⟩ := row3_facts (row_ext RA.out K2.out)
    clear hx2
    go_wp2
    go_ret2
    exact ⟨ret_bb E.out.symm D.out.symm, EW.out.trans' K2.out⟩
  have hlb : ((A.ends.length : Int) != (B.ends.length : Int)) = false := by simp; omega
  have HLE := Lib.hid hl
  clear hl
  by_cases hp : PermOK f A.ends.length
  case neg =>
    have DP := Lib.hid (dec_false hp)
    have E := Lib.hid (dec_false (p := IsoAns A B f) fun h => hp h.2.1.2)
    clear hp
    go_enter Try.func24, Try.ntmps24
    go_wp2_with fail
    rw [← hW1]
    clear hW1 p0 p1 p2
    (with_reducible refine (isNetwork_any (HA.out.ext EW.out)).mono ?_)
    rintro e w1 ⟨rfl, hx1⟩
    rw [DA.out]
    have K1 := Lib.hid hx1
    obtain ⟨q0, q1, q2, -, -, -⟩ := row3_facts (row_ext RB.out hx1)
    obtain ⟨p0, p1, p2, -, -, -⟩ := row3_facts (row_ext RA.out hx1)
    clear hx1
    go_wp2_with fail
    (with_reducible refine (isNetwork_any (HB.out.ext (EW.out.trans' K1.out))).mono ?_)
    rintro e w2 ⟨rfl, hx2⟩
    rw [DB.out]
    have K2 := Lib.hid (K1.out.trans' hx2)
    clear p0 p1 p2 q0 q1 q2
    obtain ⟨q0, q1, q2, -, -, -⟩ := row3_facts (row_ext RB.out K2.out)
    obtain ⟨p0, p1, p2, -, -, -⟩ := row3_facts (row_ext RA.out K2.out)
    clear hx2
    go_wp2_with fail
    (with_reducible refine (isPermutation_any A.ends.length (by omega) (HF.out.ext (EW.out.trans' K2.out))).mono ?_)
    rintro e w3 ⟨rfl, hx3⟩
    rw [DP.out]
    have K3 := Lib.hid (K2.out.trans' hx3)
    clear p0 p1 p2 q0 q1 q2
    obtain ⟨q0, q1, q2, -, -, -⟩ := row3_facts (row_ext RB.out K3.out)
    obtain ⟨p0, p1, p2, -, -, -⟩ := row3_facts (row_ext RA.out K3.out)
    clear hx3
    go_wp2
    go_ret2
    exact ⟨ret_bb E.out.symm D.out.symm, EW.out.trans' K3.out⟩
  have DP := Lib.hid (dec_true hp)
  have HP := Lib.hid hp
  have HFL := Lib.hid hp.1
  clear hp
  go_enter Try.func24, Try.ntmps24
  go_wp2_with fail
  rw [← hW1]
  clear hW1 p0 p1 p2
  (with_reducible refine (isNetwork_any (HA.out.ext EW.out)).mono ?_)
  rintro e w1 ⟨rfl, hx1⟩
  rw [DA.out]
  have K1 := Lib.hid hx1
  obtain ⟨q0, q1, q2, -, -, -⟩ := row3_facts (row_ext RB.out hx1)
  obtain ⟨p0, p1, p2, -, -, -⟩ := row3_facts (row_ext RA.out hx1)
  clear hx1
  go_wp2_with fail
  (with_reducible refine (isNetwork_any (HB.out.ext (EW.out.trans' K1.out))).mono ?_)
  rintro e w2 ⟨rfl, hx2⟩
  rw [DB.out]
  have K2 := Lib.hid (K1.out.trans' hx2)
  clear p0 p1 p2 q0 q1 q2
  obtain ⟨q0, q1, q2, -, -, -⟩ := row3_facts (row_ext RB.out K2.out)
  obtain ⟨p0, p1, p2, -, -, -⟩ := row3_facts (row_ext RA.out K2.out)
  clear hx2
  go_wp2_with fail
  (with_reducible refine (isPermutation_any A.ends.length (by omega) (HF.out.ext (EW.out.trans' K2.out))).mono ?_)
  rintro e w3 ⟨rfl, hx3⟩
  rw [DP.out]
  have K3 := Lib.hid (K2.out.trans' hx3)
  clear p0 p1 p2 q0 q1 q2
  obtain ⟨q0, q1, q2, -, -, -⟩ := row3_facts (row_ext RB.out K3.out)
  obtain ⟨p0, p1, p2, -, -, -⟩ := row3_facts (row_ext RA.out K3.out)
  clear hx3
  go_wp2_with fail
  go_loopg [37] A.ends.length (fun g i wr => ∃ k : Nat, k ≤ A.ends.length ∧ g = A.ends.length - k ∧ i = .int .i64 k ∧ Hid (Ext w3 wr ∧ ∀ j, j < k → IsoAt A B f j))
  case atStart => exact ⟨0, Nat.zero_le _, rfl, rfl, Ext.rfl' _, fun j hj => absurd hj (by omega)⟩
  case round =>
    obtain ⟨y, hk, rfl, rfl, Hr⟩ := hrel
    by_cases hlt : y < A.ends.length
    · obtain ⟨z, hz, hzn⟩ := perm_range HP.out hlt
      have hyf : y < f.length := by have := HFL.out; omega
      obtain ⟨_, hfy, rfl, _⟩ := HLC.out y (by have := HFL.out; omega)
      rw [hz] at hfy
      have HZ := Lib.hid hz
      have hzB : z < B.ends.length := by have := HLE.out; omega
      have HZI := Lib.hid (show (gi f y).toNat = z by rw [hz]; simp)
      clear hz
      obtain rfl := HLA.out (by have := HFL.out; omega)
      obtain rfl := HEA.out (by omega)
      obtain rfl := HFA.out (by omega)
      have EWR := Lib.hid ((EW.out.trans' K3.out).trans' Hr.out.1)
      have c1 := EWR.out.cell' hfy
      obtain ⟨_, hra, hrowa⟩ := HEC.out y hlt
      obtain ⟨aa, ab, ao, ac, rfl, haa, hal, ham, hac⟩ := hrowa
      obtain ⟨_, hrb, hrowb⟩ := HFC.out z hzB
      obtain ⟨ba, bb, bo, bc, rfl, hba, hbl, hbm, hbc⟩ := hrowb
      unfold maxLen at ham hbm
      have HAA := Lib.hid haa
      have HAC := Lib.hid hac
      have HBA := Lib.hid hba
      have HBC := Lib.hid hbc
      have HRA0 := Lib.hid hra
      have HRB0 := Lib.hid hrb
      have HRA := Lib.hid (EWR.out.cell' hra)
      have HRB := Lib.hid (EWR.out.cell' hrb)
      obtain ⟨p0, p1, p2, -, -, -⟩ := row3_facts (row_ext RA.out (K3.out.trans' Hr.out.1))
      obtain ⟨q0, q1, q2, -, -, -⟩ := row3_facts (row_ext RB.out (K3.out.trans' Hr.out.1))
      have P0 : ∀ x' : Wx wr, x'.w.cell? ⟨w.heap.size, 0, none⟩ = some (.slice (some ⟨eb, eo, none⟩) A.ends.length ec) := fun x' => x'.ok.cell' p0
      have P1 : ∀ x' : Wx wr, x'.w.cell? ⟨w.heap.size, 1, none⟩ = some v1 := fun x' => x'.ok.cell' p1
      have P2 : ∀ x' : Wx wr, x'.w.cell? ⟨w.heap.size, 2, none⟩ = some v2 := fun x' => x'.ok.cell' p2
      have Q0 : ∀ x' : Wx wr, x'.w.cell? ⟨w.heap.size + 1, 0, none⟩ = some (.slice (some ⟨fb, fo, none⟩) B.ends.length fc) := fun x' => x'.ok.cell' q0
      have Q1 : ∀ x' : Wx wr, x'.w.cell? ⟨w.heap.size + 1, 1, none⟩ = some u1 := fun x' => x'.ok.cell' q1
      have Q2 : ∀ x' : Wx wr, x'.w.cell? ⟨w.heap.size + 1, 2, none⟩ = some u2 := fun x' => x'.ok.cell' q2
      clear haa hac hba hbc hfy hra hrb p0 p1 p2 q0 q1 q2
      obtain ⟨da, hda⟩ : ∃ d : Int, ((gr A.ends y).length : Int) = d := ⟨_, rfl⟩
      obtain ⟨ia, hia⟩ : ∃ d : Int, gi A.inputs y = d := ⟨_, rfl⟩
      obtain ⟨ka, hka⟩ : ∃ d : Int, idOf A y = d := ⟨_, rfl⟩
      obtain ⟨db, hdb⟩ : ∃ d : Int, ((gr B.ends z).length : Int) = d := ⟨_, rfl⟩
      obtain ⟨ib, hib⟩ : ∃ d : Int, gi B.inputs z = d := ⟨_, rfl⟩
      obtain ⟨kb, hkb⟩ : ∃ d : Int, idOf B z = d := ⟨_, rfl⟩
      have MA := Lib.hid (fun (x' : Wx wr) => marksOf_is y hlt (HA.out.ext (EWR.out.trans' x'.ok)) GA.out hda hia hka)
      have MB := Lib.hid (fun (x' : Wx wr) => marksOf_is z hzB (HB.out.ext (EWR.out.trans' x'.ok)) GB.out hdb hib hkb)
      have HMK := Lib.hid (show IsoMk A B y (gi f y) ↔ da = db ∧ ia = ib ∧ ka = kb by
        unfold IsoMk rw'
        rw [HZ.out, Int.toNat_natCast, hia, hib, hka, hkb]
        constructor
        · rintro ⟨a, b, c⟩; exact ⟨by omega, b, c⟩
        · rintro ⟨a, b, c⟩; exact ⟨by omega, b, c⟩)
      have HDA := Lib.hid hda
      have HDB := Lib.hid hdb
      clear hda hia hka hdb hib hkb
      by_cases hm : da = db ∧ ia = ib ∧ ka = kb
      · obtain ⟨rfl, rfl, rfl⟩ := hm
        have MM := Lib.hid (HMK.out.2 ⟨rfl, rfl, rfl⟩)
        have hq3 : ∀ W : World, (binOp .neq 65 (.agg #[.int .i64 da, .int .i64 ia, .int .i64 ka]) (.agg #[.int .i64 da, .int .i64 ia, .int .i64 ka])).run Try.prog W = .ok (.bool false) W := fun W => by rw [neq_arr3]; simp
        have hg3 := guard3
        go_wp2_with fail
        refine wp_region_ext (by kernel_rfl) (by kernel_rfl) ?_
        repeat (go_big_quiet_step (first | (go_at_call_of 52 (Value.agg #[.slice (some ⟨eb, eo, none⟩) A.ends.length ec, v1, v2]); exact in_ext (MA.out _)) | (go_at_call_of 52 (Value.agg #[.slice (some ⟨fb, fo, none⟩) B.ends.length fc, u1, u2]); exact in_ext (MB.out _))))
        refine wpQuiet_nil ?_
        rintro wq ⟨⟨_, hq⟩, rfl⟩
        have HY := Lib.hid hq
        have EWQ := Lib.hid (EWR.out.trans' hq)
        clear hq
        clear hq3 hg3
        have q0 : wq.cell? ⟨w.heap.size + 1, 0, none⟩ = some (.slice (some ⟨fb, fo, none⟩) B.ends.length fc) := Q0 ⟨wq, HY.out⟩
        have q1 := HY.out.cell' HRB.out
        have hLL : (gr A.ends y).length = (gr B.ends z).length := by have := HDA.out; have := HDB.out; omega
        go_wp2
        clear q0 q1
        go_loopg [55] (gr B.ends z).length (fun g i wx => ∃ j : Nat, j ≤ (gr B.ends z).length ∧ g = (gr B.ends z).length - j ∧ i = .int .i64 j ∧ Hid (Ext wq wx ∧ ∀ t, t < j → IsoEnd A B f y (gi f y) t))
        case atStart => exact ⟨0, Nat.zero_le _, rfl, rfl, Ext.rfl' _, fun t ht => absurd ht (by omega)⟩
        case round =>
          obtain ⟨j, hj, rfl, rfl, Hs⟩ := hrel
          by_cases hjt : j < (gr B.ends z).length
          · obtain rfl := HBA.out (by omega)
            obtain rfl := HAA.out (by omega)
            have EX := Lib.hid (EWQ.out.trans' Hs.out.1)
            obtain ⟨e1, e2, -⟩ := HBC.out j hjt
            obtain ⟨f1, f2, -⟩ := HAC.out j (by omega)
            have hl0 := GA.out.leads.node y hlt j (by omega)
            obtain ⟨zz, hzz⟩ := Int.eq_ofNat_of_zero_le hl0.1
            have hzzn : zz < A.ends.length := by omega
            obtain ⟨_, g1, rfl, _⟩ := HLC.out zz (by have := HFL.out; omega)
            rw [hzz] at f1
            have HZZ := Lib.hid hzz
            clear hzz hl0
            have s1 := EX.out.cell' e1
            have s2 := EX.out.cell' e2
            have s0 := EX.out.cell' (show w.cell? ⟨fb, fo + z, none⟩ = _ from HRB0.out)
            have FX := Lib.hid (HY.out.trans' Hs.out.1)
            have s3 := (Q0 ⟨wr, FX.out⟩ : wr.cell? ⟨w.heap.size + 1, 0, none⟩ = _)
            obtain ⟨W2, hW2⟩ : ∃ W2, W2 = wr.alloc (.cells #[.int .i64 (gn (gr B.ends z) j), .int .i64 (gp (gr B.ends z) j)] 69) := ⟨_, rfl⟩
            have E2 := Lib.hid (show Ext wr W2 by rw [hW2]; exact (Ext.rfl' _).alloc' _)
            have R2 := Lib.hid (show W2.rowIs wr.heap.size 69 2 (duo (.int .i64 (gn (gr B.ends z) j)) (.int .i64 (gp (gr B.ends z) j))) by rw [hW2]; exact duo_made _ _ _ _)
            obtain ⟨r0, r1, -, -⟩ := duo_facts R2.out
            have EX2 := Lib.hid (EX.out.trans' E2.out)
            have T0 : ∀ x' : Wx W2, x'.w.cell? ⟨w.heap.size, 0, none⟩ = some (.slice (some ⟨eb, eo, none⟩) A.ends.length ec) := fun x' => P0 ⟨x'.w, FX.out.trans' (E2.out.trans' x'.ok)⟩
            have T1 : ∀ x' : Wx W2, x'.w.cell? ⟨eb, eo + y, none⟩ = some (.slice (some ⟨ab, ao, none⟩) (gr A.ends y).length ac) := fun x' => x'.ok.cell' (EX2.out.cell' HRA0.out)
            have T2 : ∀ x' : Wx W2, x'.w.cell? ⟨ab, ao + j * 2, none⟩ = some (.int .i64 zz) := fun x' => x'.ok.cell' (EX2.out.cell' f1)
            have T3 : ∀ x' : Wx W2, x'.w.cell? ⟨ab, ao + j * 2 + 1, none⟩ = some (.int .i64 (gp (gr A.ends y) j)) := fun x' => x'.ok.cell' (EX2.out.cell' f2)
            have T4 : ∀ x' : Wx W2, x'.w.cell? ⟨wr.heap.size, 0, none⟩ = some (.int .i64 (gn (gr B.ends z) j)) := fun x' => x'.ok.cell' r0
            have T5 : ∀ x' : Wx W2, x'.w.cell? ⟨wr.heap.size, 1, none⟩ = some (.int .i64 (gp (gr B.ends z) j)) := fun x' => x'.ok.cell' r1
            have NE := Lib.hid (fun (x' : Wx W2) => numberedEnd_any (n := f.length) (c := lc) (p := gp (gr A.ends y) j) (x'.ok.cell' (EX2.out.cell' g1)) (by have := HFL.out; omega))
            have HIE := Lib.hid (show IsoEnd A B f y (gi f y) j ↔ gi f zz = gn (gr B.ends z) j ∧ gp (gr A.ends y) j = gp (gr B.ends z) j by
              unfold IsoEnd rw'; rw [HZI.out, HZZ.out, Int.toNat_natCast])
            clear e1 e2 f1 f2 g1 r0 r1
            by_cases hE : gi f zz = gn (gr B.ends z) j ∧ gp (gr A.ends y) j = gp (gr B.ends z) j
            · have hq2 : ∀ W : World, (binOp .neq 71 (.agg #[.int .i64 (gi f zz), .int .i64 (gp (gr A.ends y) j)]) (.agg #[.int .i64 (gn (gr B.ends z) j), .int .i64 (gp (gr B.ends z) j)])).run Try.prog W = .ok (.bool false) W := fun W => by rw [neq_arr2, hE.1, hE.2]; simp
              have hg2 := guard2
              have HI := Lib.hid (HIE.out.2 hE)
              clear hE
              go_wp2_with fail
              rw [← hW2]
              clear hW2 s0 s1 s2 s3
              refine wp_region_ext (by kernel_rfl) (by kernel_rfl) ?_
              repeat (go_big_quiet_step ((go_at_call 53; exact in_ext (NE.out _))))
              refine wpQuiet_nil ?_
              rintro wz ⟨⟨_, hz2⟩, rfl⟩
              have HZ2 := Lib.hid hz2
              clear hz2
              go_wp2
              go_roundg ((gr B.ends z).length - (j + 1))
              case measure => omega
              case rel =>
                refine ⟨j + 1, by omega, rfl, by go_num, (Hs.out.1.trans' E2.out).trans' HZ2.out, fun t ht => ?_⟩
                by_cases e : t = j
                · subst e; exact HI.out
                · exact Hs.out.2 t (by omega)
            · have hq2 : ∀ W : World, (binOp .neq 71 (.agg #[.int .i64 (gi f zz), .int .i64 (gp (gr A.ends y) j)]) (.agg #[.int .i64 (gn (gr B.ends z) j), .int .i64 (gp (gr B.ends z) j)])).run Try.prog W = .ok (.bool true) W := fun W => by
                rw [neq_arr2]
                have : (gi f zz == gn (gr B.ends z) j && gp (gr A.ends y) j == gp (gr B.ends z) j) = false := by
                  rw [Bool.eq_false_iff]; intro e; rw [Bool.and_eq_true, beq_iff_eq, beq_iff_eq] at e; exact hE e
                rw [this]; rfl
              have hg2 := guard2
              have E := Lib.hid (dec_false (p := IsoAns A B f) fun h => hE (HIE.out.1 ((h.2.2 y hlt).2 j (by omega))))
              clear hE
              go_wp2_with fail
              rw [← hW2]
              clear hW2 s0 s1 s2 s3
              refine wp_region_ext (by kernel_rfl) (by kernel_rfl) ?_
              repeat (go_big_quiet_step ((go_at_call 53; exact in_ext (NE.out _))))
              refine wpQuiet_nil ?_
              rintro wz ⟨⟨_, hz2⟩, rfl⟩
              have HZ2 := Lib.hid hz2
              clear hz2
              go_wp2
              go_ret2
              exact ⟨ret_bb E.out.symm D.out.symm, (EX2.out.trans' HZ2.out)⟩
          · obtain rfl : j = (gr B.ends z).length := by omega
            go_wp2
            go_roundg (A.ends.length - (y + 1))
            case measure => omega
            case rel =>
              refine ⟨y + 1, by omega, rfl, by go_num, Hr.out.1.trans' (HY.out.trans' Hs.out.1), fun t ht => ?_⟩
              by_cases e : t = y
              · subst e; exact ⟨MM.out, fun i hi => Hs.out.2 i (by omega)⟩
              · exact Hr.out.2 t (by omega)
      · have hq3 : ∀ W : World, (binOp .neq 65 (.agg #[.int .i64 da, .int .i64 ia, .int .i64 ka]) (.agg #[.int .i64 db, .int .i64 ib, .int .i64 kb])).run Try.prog W = .ok (.bool true) W := fun W => by
          rw [neq_arr3]
          have : (da == db && (ia == ib && ka == kb)) = false := by
            rw [Bool.eq_false_iff]; intro e; rw [Bool.and_eq_true, Bool.and_eq_true, beq_iff_eq, beq_iff_eq, beq_iff_eq] at e; exact hm e
          rw [this]; rfl
        have hg3 := guard3
        have E := Lib.hid (dec_false (p := IsoAns A B f) fun h => hm (HMK.out.1 (h.2.2 y hlt).1))
        clear hm
        go_wp2_with fail
        refine wp_region_ext (by kernel_rfl) (by kernel_rfl) ?_
        repeat (go_big_quiet_step (first | (go_at_call_of 52 (Value.agg #[.slice (some ⟨eb, eo, none⟩) A.ends.length ec, v1, v2]); exact in_ext (MA.out _)) | (go_at_call_of 52 (Value.agg #[.slice (some ⟨fb, fo, none⟩) B.ends.length fc, u1, u2]); exact in_ext (MB.out _))))
        refine wpQuiet_nil ?_
        rintro wq ⟨⟨_, hq⟩, rfl⟩
        have HY := Lib.hid hq
        have EWQ := Lib.hid (EWR.out.trans' hq)
        clear hq
        go_wp2
        go_ret2
        exact ⟨ret_bb E.out.symm D.out.symm, EWQ.out⟩
    · obtain rfl : y = A.ends.length := by omega
      have hyf : ¬ A.ends.length < f.length := by have := HFL.out; omega
      have E := Lib.hid (dec_true (p := IsoAns A B f) ⟨HGG.out, ⟨HLE.out, HP.out⟩, Hr.out.2⟩)
      go_wp2
      go_ret2
      exact ⟨ret_bb E.out.symm D.out.symm, (EW.out.trans' K3.out).trans' Hr.out.1⟩
end Go.Proofs.Ytcdfjckdkicggaa
