/- ReachableStates: the program's contract. -/
import Derived.Test.YtdcgpodjoalokaaMee
import Derived.Test.YtdcgpodjoalokaaMef
import Derived.Test.YtdcgpodjoalokaaMeh
import Derived.Test.YtdcgpodjoalokaaMh
namespace Go.Proofs.Ytdcgpodjoalokaa
open Go.RowKit

theorem len_roundTo (M : Mach) (l : List Int) : ∀ k, (roundTo M l k).length ≤ l.length + k
  | 0 => by simp [roundTo]
  | k + 1 => by
    have := len_roundTo M l k
    simp only [roundTo]
    unfold addC
    split
    · simp; omega
    · omega
theorem len_roundsL (M : Mach) (l : List Int) (h : M.cls.length ≤ 60) : ∀ p, (roundsL M l p).length ≤ l.length + p * 60
  | 0 => by simp [roundsL]
  | p + 1 => by
    have h1 := len_roundsL M l h p
    have h2 := len_roundTo M (roundsL M l p) M.cls.length
    show (roundTo M (roundsL M l p) M.cls.length).length ≤ _
    omega
theorem rng_in {M : Mach} (hm : MachOK M) (p k : Nat) (hk : k ≤ M.cls.length) : ∀ x ∈ roundTo M (roundsL M (startAll M) p) k, 0 ≤ x ∧ x < M.sts := fun x hx => by
  have hS : ClosedL M ((List.range M.sts.toNat).map Int.ofNat) := fun k hk _ _ => by
    have := cl_in hm hk
    exact List.mem_map.2 ⟨(gc M.cls k).nx.toNat, List.mem_range.2 (by omega), by simp; omega⟩
  have h1 := roundsL_in hS (fun y hy => by
    obtain ⟨i, hi, j, hj, rfl⟩ := of_mem_flat hy
    have := start_in1 hm hi hj
    exact List.mem_map.2 ⟨(gi (gr M.start i) j).toNat, List.mem_range.2 (by omega), by simp; omega⟩) p
  obtain ⟨n, hn, rfl⟩ := List.mem_map.1 (roundTo_in hS h1 k hk x hx)
  have := List.mem_range.1 hn
  have := sts_in hm
  simp
  omega
theorem gi_mem {l : List Int} {i : Nat} (h : i < l.length) : gi l i ∈ l := by
  have : gi l i = l[i] := by simp [gi, List.getD, h]
  rw [this]; exact List.getElem_mem h
theorem rng_i64 {M : Mach} (hm : MachOK M) (p k : Nat) (hk : k ≤ M.cls.length) : ∀ i, i < (roundTo M (roundsL M (startAll M) p) k).length → inI64 (gi (roundTo M (roundsL M (startAll M) p) k) i) := fun i hi => by
  have := rng_in hm p k hk _ (gi_mem hi)
  have := sts_in hm
  exact inI64_small (by omega) (by omega)
theorem start_len {M : Mach} (hm : MachOK M) : M.start.length ≤ 7 ∧ (∀ i, i < M.start.length → (gr M.start i).length ≤ 10) ∧ (startAll M).length ≤ 70 ∧ 0 < (startAll M).length := by
  obtain ⟨h1, h2, h3⟩ := hm.2.1
  have hd := hm.1.1
  unfold InB at hd h2
  have hl : ∀ i, i < M.start.length → (gr M.start i).length ≤ 10 := fun i hi => by rw [(h3 i hi).1]; omega
  have hs := sumTo_le hl M.start.length (Nat.le_refl _)
  have he : (startAll M).length = sumTo M.start M.start.length := by unfold startAll; rw [← catTo_all, catTo_len]
  refine ⟨by omega, hl, by rw [he]; omega, ?_⟩
  have := mem_gr (l := M.start) (i := 0) (j := 0) (by omega) (by omega)
  exact List.length_pos_of_mem this

set_option maxHeartbeats 6400000 in
set_option maxRecDepth 100000 in
theorem implReachableStates_any {w : World} {vm : Value} {M : Mach} (h : MachAt w vm M) :
    Calls Try.prog 61 #[vm] w fun e w' => ∃ v' bs, e = .returned (.tuple #[v', .bool (dec (MachOK M))]) ∧ Ext w w' ∧ OwnI w' v' (reAns M) bs ∧ Fresh w bs := by
  have HM := Lib.hid h
  obtain ⟨a3, c3, a4, c4, a5, c5, a6, c6, rfl, h3, -, h5, h6, -⟩ := h
  obtain ⟨W1, hW1⟩ : ∃ W1, W1 = w.alloc (.cells #[.int .i64 M.deg, .int .i64 M.sts, .int .i64 M.msgs, .slice a3 M.start.length c3, .slice a4 M.send.length c4, .slice a5 M.cls.length c5, .slice a6 M.out.length c6] 31) := ⟨_, rfl⟩
  have EW := Lib.hid (show Ext w W1 by rw [hW1]; exact (Ext.rfl' w).alloc' _)
  have RW := Lib.hid (show W1.rowIs w.heap.size 31 7 (sept (.int .i64 M.deg) (.int .i64 M.sts) (.int .i64 M.msgs) (.slice a3 M.start.length c3) (.slice a4 M.send.length c4) (.slice a5 M.cls.length c5) (.slice a6 M.out.length c6)) by rw [hW1]; exact row7_made _ _ _ _ _ _ _ _ _)
  have H3 := Lib.hid h3
  have H5 := Lib.hid h5
  have H6 := Lib.hid h6
  obtain ⟨-, m3, n3⟩ := ssLen h3
  obtain ⟨-, m5, n5⟩ := clLen h5
  obtain ⟨-, m6, n6⟩ := isLen h6
  unfold maxLen at m3 m5 m6
  obtain ⟨p0, p1, p2, p3, p4, p5, p6⟩ := row7_facts RW.out
  clear h3 h5 h6
  obtain ⟨i0, hi, hz0, hz1, hz2⟩ := info_parts Try.info3
  have I0 := Lib.hid (show Try.prog.info? 3 = some i0 ∧ i0.zero = some (.int .i64 0) ∧ i0.size = 1 ∧ i0.bytes = 8 from ⟨hi, hz0, hz1, hz2⟩)
  clear hi hz0 hz1 hz2
  go_enter Try.func61, Try.ntmps61
  go_upto_region 1 with fail
  rw [← hW1]
  clear hW1
  go_wp2_with fail
  (with_reducible refine (isMachine_any (HM.out.ext EW.out)).mono ?_)
  rintro e w2 ⟨rfl, hx⟩
  have X2 := Lib.hid hx
  have K2 := Lib.hid (EW.out.trans' hx)
  have R2 := Lib.hid (row_ext RW.out hx)
  clear hx p0 p1 p2 p3 p4 p5 p6
  obtain ⟨p0, p1, p2, p3, p4, p5, p6⟩ := row7_facts R2.out
  by_cases hm : MachOK M
  case neg =>
    rw [dec_false hm]
    have D := Lib.hid (dec_false hm)
    have A := Lib.hid (reAns_f hm)
    clear hm
    go_wp2
    go_ret2
    exact ⟨_, [], ret_vb D.out.symm, K2.out, by rw [A.out]; exact own_nilI _, Fresh.nil _⟩
  rw [dec_true hm]
  have HG := Lib.hid hm
  have HSL := Lib.hid (start_len hm)
  have hsts := sts_in hm
  have hc60 : M.cls.length ≤ 60 := hm.2.2.2.1.1
  obtain ⟨n, hn⟩ := Int.eq_ofNat_of_zero_le (show 0 ≤ M.sts by omega)
  have HNN := Lib.hid hn
  have hn12 : n ≤ 12 := by omega
  rw [hn] at p1
  clear hm
  go_wp2_with fail
  (with_reducible refine (concat_any (H3.out.ext K2.out) HSL.out.1 HSL.out.2.1).mono ?_)
  rintro e w3 ⟨v3, rfl, hx, ho⟩
  have X3 := Lib.hid hx
  have O3 := Lib.hid (show GN w2.heap.size w3 v3 (roundsL M (startAll M) 0) from ho)
  have P5 := Lib.hid p5
  have P6 := Lib.hid p6
  have p1 := hx.cell' p1
  clear hx ho p0 p2 p3 p4 p5 p6
  go_wp2
  go_loopg [4, 15] n (fun g t i wr => ∃ p : Nat, p ≤ n ∧ g = n - p ∧ i = .int .i64 p ∧ Hid (Ext w2 wr ∧ GN w2.heap.size wr t (roundsL M (startAll M) p)))
  case atStart => exact ⟨0, Nat.zero_le _, rfl, rfl, X3.out, O3.out⟩
  case round =>
    obtain ⟨p, hp, rfl, rfl, Hr⟩ := hrel
    by_cases hlt : p < n
    · have q5 := Hr.out.1.cell' P5.out
      have HLP := Lib.hid (show (roundsL M (startAll M) p).length ≤ 790 by have := len_roundsL M (startAll M) hc60 p; have := HSL.out.2.2.1; omega)
      obtain ⟨WR, hWR⟩ : ∃ W : World, W = wr := ⟨_, rfl⟩
      subst hWR
      go_wp2
      go_loopg [4, 20] M.cls.length (fun g t i wx => ∃ k : Nat, k ≤ M.cls.length ∧ g = M.cls.length - k ∧ i = .int .i64 k ∧ Hid (Ext w2 wx ∧ GN w2.heap.size wx t (roundTo M (roundsL M (startAll M) p) k)))
      case atStart => exact ⟨0, Nat.zero_le _, rfl, rfl, Hr.out.1, Hr.out.2⟩
      case round =>
        obtain ⟨k, hk, rfl, rfl, Hs⟩ := hrel
        by_cases hlk : k < M.cls.length
        · obtain ⟨b, o, rfl, q1, ⟨xa, xn, xq, q2, rfl, q3⟩, q4, -, -⟩ := clRow (H5.out.ext K2.out) hlk
          have q1 := Hs.out.1.cell' q1
          have q2 := Hs.out.1.cell' q2
          have q4 := Hs.out.1.cell' q4
          have HCI := Lib.hid (cl_in HG.out hlk)
          obtain ⟨c, hc⟩ : ∃ c, c = gc M.cls k := ⟨_, rfl⟩
          have HC := Lib.hid hc
          rw [← hc] at q1 q2 HCI q4
          clear hc q3
          obtain ⟨cst, cinb, cnx⟩ := c
          simp only at q1 q2 q4 HCI
          obtain ⟨z, hz⟩ := Int.eq_ofNat_of_zero_le HCI.out.2.2.1
          subst hz
          have hzl : z < M.out.length := by have := HCI.out; have := HG.out.2.2.2.2.1; omega
          obtain ⟨oa, ob, oo, oc, e, hoa, -, om, hoc⟩ := H6.out.ext (K2.out.trans' Hs.out.1)
          simp only [Value.slice.injEq] at e
          obtain ⟨rfl, -, rfl⟩ := e
          obtain rfl := hoa (by omega)
          obtain ⟨_, g1, rfl, -⟩ := hoc z hzl
          obtain ⟨y, hy⟩ : ∃ y, y = gi M.out z := ⟨_, rfl⟩
          have HY := Lib.hid hy
          rw [← hy] at g1
          clear hoa hoc hy
          have q6 := Hs.out.1.cell' P6.out
          obtain ⟨l, hl⟩ : ∃ l, l = roundTo M (roundsL M (startAll M) p) k := ⟨_, rfl⟩
          have HL := Lib.hid hl
          have HLL := Lib.hid (show l.length ≤ 860 by rw [hl]; have := len_roundTo M (roundsL M (startAll M) p) k; have := HLP.out; omega)
          have GO := Lib.hid (show GN w2.heap.size wr _ l by rw [hl]; exact Hs.out.2)
          obtain ⟨ta, tq, rfl⟩ := GO.out.slice
          obtain ⟨bs0, ho0, -, -⟩ := own_of_cells (l := l) GO.out (by rw [hl]; exact rng_i64 HG.out p k hk)
          have RD := Lib.hid ho0.read
          have HST := Lib.hid (show roundTo M (roundsL M (startAll M) p) (k + 1) = addC M l ⟨(z : Int), cinb, cnx⟩ by rw [HC.out, hl]; rfl)
          obtain ⟨W3, hW3⟩ : ∃ W3, W3 = wr.alloc (.cells #[.int .i64 (z : Int), .slice xa cinb.length xq, .int .i64 cnx] 113) := ⟨_, rfl⟩
          have E3 := Lib.hid (show Ext wr W3 by rw [hW3]; exact (Ext.rfl' _).alloc' _)
          have R3 := Lib.hid (show W3.rowIs wr.heap.size 113 3 (tri (.int .i64 (z : Int)) (.slice xa cinb.length xq) (.int .i64 cnx)) by rw [hW3]; exact row3_made _ _ _ _ _)
          have EX := Lib.hid (Hs.out.1.trans' E3.out)
          have GW := Lib.hid (GO.out.ext E3.out)
          have RW3 := Lib.hid (RD.out.ext E3.out)
          have HWZ := Lib.hid (show w2.heap.size ≤ W3.heap.size from EX.out.size)
          obtain ⟨s0, s1, s2, -, -, -⟩ := row3_facts R3.out
          have k6 := E3.out.cell' q6
          have kg := E3.out.cell' g1
          clear ho0 hl
          by_cases e1 : (z : Int) ∈ l
          case neg =>
            have D1 := Lib.hid (dec_false (p := Has l (z : Int)) fun h => e1 (has_mem.1 h))
            have HA := Lib.hid (show addC M l ⟨(z : Int), cinb, cnx⟩ = l by unfold addC; rw [if_neg (fun h => e1 h.1)])
            clear e1
            go_wp2_with fail
            rw [← hW3]
            clear hW3
            go_wp2_with (go_at_call 110; (with_reducible refine (contains_any _ RW3.out).mono ?_); rintro e _ ⟨rfl, rfl⟩; rw [D1.out])
            go_roundg (M.cls.length - (k + 1))
            case measure => omega
            case rel => exact ⟨k + 1, by omega, rfl, by go_num, EX.out, by rw [HST.out, HA.out]; exact GW.out⟩
          have D1 := Lib.hid (dec_true (p := Has l (z : Int)) (has_mem.2 e1))
          have N1 := Lib.hid e1
          clear e1
          by_cases e2 : y = -1
          case neg =>
            have b2 : (y == -1) = false := beq_eq_false_iff_ne.2 e2
            have HA := Lib.hid (show addC M l ⟨(z : Int), cinb, cnx⟩ = l by unfold addC; rw [if_neg (fun h => e2 (by have := h.2; rw [HY.out]; simpa using this))])
            clear e2
            go_wp2_with fail
            rw [← hW3]
            clear hW3
            go_wp2_with (go_at_call 110; (with_reducible refine (contains_any _ RW3.out).mono ?_); rintro e _ ⟨rfl, rfl⟩; rw [D1.out])
            go_roundg (M.cls.length - (k + 1))
            case measure => omega
            case rel => exact ⟨k + 1, by omega, rfl, by go_num, EX.out, by rw [HST.out, HA.out]; exact GW.out⟩
          have b2 : (y == -1) = true := beq_iff_eq.2 e2
          have HA := Lib.hid (show addC M l ⟨(z : Int), cinb, cnx⟩ = l ++ [cnx] by unfold addC; rw [if_pos ⟨N1.out, by rw [HY.out] at e2; simpa using e2⟩])
          clear e2
          go_wp2_with fail
          rw [← hW3]
          clear hW3
          go_wp2_with (first | (go_at_call 110; (with_reducible refine (contains_any _ RW3.out).mono ?_); rintro e _ ⟨rfl, rfl⟩; rw [D1.out]) | (at_builtin; refine wpList_app2 rfl (.tmp 37) (.tmp 40) 24 rfl w2.heap.size 3 i0 (.int .i64 0) 1 8 Try.underlying24 I0.out.1 I0.out.2.1 I0.out.2.2.1 I0.out.2.2.2 rfl (by decide) (.slice ta l.length tq) l.length (intCells l) rfl (GW.out.ext ((Ext.rfl' W3).alloc' _)) (some ⟨W3.heap.size, 0, none⟩) 1 1 [.int .i64 cnx] rfl (src_one W3 _ 3 rfl) (by have := HLL.out; unfold maxLen; omega) (by have := HLL.out; omega) (by have := HWZ.out; simp; omega) ?_; intro v6 w6 hg6; have G6 := Lib.hid hg6; clear hg6))
          have X6 := Lib.hid (show Ext w2 w6 from G6.out.1.ext (EX.out.alloc' (.cells #[.int .i64 cnx] 3)) fun b hb => (World.ownsRow.lt GW.out b hb).1)
          have N6 := Lib.hid (GN.app rfl G6.out)
          clear G6
          go_wp2
          go_roundg (M.cls.length - (k + 1))
          case measure => omega
          case rel => exact ⟨k + 1, by omega, rfl, by go_num, X6.out, by rw [HST.out, HA.out]; exact N6.out⟩
        · obtain rfl : k = M.cls.length := by omega
          go_wp2
          go_roundg (n - (p + 1))
          case measure => omega
          case rel => exact ⟨p + 1, by omega, rfl, by go_num, Hs.out.1, Hs.out.2⟩
    · obtain rfl : p = n := by omega
      have HLP := Lib.hid (show (roundsL M (startAll M) p).length ≤ 790 by have := len_roundsL M (startAll M) hc60 p; have := HSL.out.2.2.1; omega)
      have HPO := Lib.hid (show 0 < (roundsL M (startAll M) p).length from by
        obtain ⟨y, hy⟩ := List.exists_mem_of_length_pos HSL.out.2.2.2
        exact List.length_pos_of_mem (mem_roundsL hy p))
      have HRG := Lib.hid (show ∀ i, i < (roundsL M (startAll M) p).length → inI64 (gi (roundsL M (startAll M) p) i) from rng_i64 HG.out p 0 (Nat.zero_le _))
      have HRE := Lib.hid (show Lib.compact ((roundsL M (startAll M) p).mergeSort fun x y => decide (x ≤ y)) = reachL M by have := sorted_reach (M := M); rw [HNN.out] at this; exact this)
      obtain ⟨A, hA⟩ : ∃ A, A = roundsL M (startAll M) p := ⟨_, rfl⟩
      rw [← hA] at HLP HPO HRG HRE
      have GA := Lib.hid (show GN w2.heap.size wr _ A by rw [hA]; exact Hr.out.2)
      clear hA
      obtain ⟨ta, tq, rfl⟩ := GA.out.slice
      have GA2 := Lib.hid (show wr.ownsRow w2.heap.size 3 1 (.slice ta A.length tq) A.length (intCells A) from GA.out)
      go_wp2_with fail
      (with_reducible refine (sort_own GA2.out (by have := HLP.out; omega) HPO.out).mono ?_)
      rintro e w4 ⟨rfl, hx, ho⟩
      have X4 := Lib.hid (hx w2 Hr.out.1 (Nat.le_refl _))
      have hml : (A.mergeSort fun x y => decide (x ≤ y)).length = A.length := List.length_mergeSort _
      have O4 := Lib.hid (show w4.ownsRow w2.heap.size 3 1 (.slice ta A.length tq) (A.mergeSort fun x y => decide (x ≤ y)).length (intCells (A.mergeSort fun x y => decide (x ≤ y))) by rw [hml]; exact ho)
      have HML := Lib.hid hml
      have HR4 := Lib.hid (show ∀ i, i < (A.mergeSort fun x y => decide (x ≤ y)).length → inI64 (gi (A.mergeSort fun x y => decide (x ≤ y)) i) from fun i hi => by
        have hm := (List.mergeSort_perm A fun x y => decide (x ≤ y)).mem_iff.1 (gi_mem hi)
        obtain ⟨j, hj, e⟩ := has_mem.2 hm
        rw [← e]; exact HRG.out j hj)
      clear hx ho hml
      go_wp2_with fail
      (with_reducible refine (compact_own O4.out HR4.out (by rw [HML.out]; have := HLP.out; omega) (by rw [HML.out]; exact HPO.out)).mono ?_)
      rintro e w5 ⟨v5, rfl, hx, bs, ho, hb⟩
      have X5 := Lib.hid (hx w2 X4.out (Nat.le_refl _))
      have HO := Lib.hid (own_nodup ho hb)
      clear hx ho hb
      go_wp2
      go_ret2
      exact ⟨_, bs, ret_vb (dec_true HG.out).symm, K2.out.trans' X5.out, by rw [reAns_t HG.out, ← HRE.out]; exact HO.out.1, HO.out.2.1, fun b hb => Nat.le_trans K2.out.size (HO.out.2.2 b hb)⟩
end Go.Proofs.Ytdcgpodjoalokaa
