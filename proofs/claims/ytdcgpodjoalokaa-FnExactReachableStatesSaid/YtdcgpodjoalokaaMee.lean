/- ReachableStates: the model's contract. -/
import Derived.Test.YtdcgpodjoalokaaMed
namespace Go.Proofs.Ytdcgpodjoalokaa
open Go.RowKit

set_option maxHeartbeats 6400000 in
set_option maxRecDepth 100000 in
theorem specReachableStates_any {w : World} {vm : Value} {M : Mach} (h : MachAt w vm M) :
    Calls Try.prog 60 #[vm] w fun e w' => ∃ v' bs, e = .returned (.tuple #[v', .bool (dec (MachOK M))]) ∧ Ext w w' ∧ OwnI w' v' (reAns M) bs ∧ Fresh w bs := by
  have HM := Lib.hid h
  obtain ⟨a3, c3, a4, c4, a5, c5, a6, c6, rfl, h3, -, h5, h6, -⟩ := h
  obtain ⟨W1, hW1⟩ : ∃ W1, W1 = w.alloc (.cells #[.int .i64 M.deg, .int .i64 M.sts, .int .i64 M.msgs, .slice a3 M.start.length c3, .slice a4 M.send.length c4, .slice a5 M.cls.length c5, .slice a6 M.out.length c6] 31) := ⟨_, rfl⟩
  have EW := Lib.hid (show Ext w W1 by rw [hW1]; exact (Ext.rfl' w).alloc' _)
  have RW := Lib.hid (show W1.rowIs w.heap.size 31 7 (sept (.int .i64 M.deg) (.int .i64 M.sts) (.int .i64 M.msgs) (.slice a3 M.start.length c3) (.slice a4 M.send.length c4) (.slice a5 M.cls.length c5) (.slice a6 M.out.length c6)) by rw [hW1]; exact row7_made _ _ _ _ _ _ _ _ _)
  have H3 := Lib.hid h3
  have H5 := Lib.hid h5
  have H6 := Lib.hid h6
  obtain ⟨-, m3, n3⟩ := ssLen h3
  obtain ⟨-, m5, n5⟩ := clLen h5
  obtain ⟨-, m6, n6⟩ := isLen h6
  unfold maxLen at m3 m5 m6
  obtain ⟨p0, p1, p2, p3, p4, p5, p6⟩ := row7_facts RW.out
  clear h3 h5 h6
  go_enter Try.func60, Try.ntmps60
  go_upto_region 1 with fail
  rw [← hW1]
  clear hW1
  go_wp2_with fail
  (with_reducible refine (maGood_any (HM.out.ext EW.out)).mono ?_)
  rintro e w2 ⟨rfl, hx⟩
  have X2 := Lib.hid hx
  have K2 := Lib.hid (EW.out.trans' hx)
  have R2 := Lib.hid (row_ext RW.out hx)
  clear hx p0 p1 p2 p3 p4 p5 p6
  obtain ⟨p0, p1, p2, p3, p4, p5, p6⟩ := row7_facts R2.out
  by_cases hm : MachOK M
  case neg =>
    rw [dec_false hm]
    have D := Lib.hid (dec_false hm)
    have A := Lib.hid (reAns_f hm)
    clear hm
    go_wp2
    go_ret2
    exact ⟨_, [], ret_vb D.out.symm, K2.out, by rw [A.out]; exact own_nilI _, Fresh.nil _⟩
  rw [dec_true hm]
  have HG := Lib.hid hm
  have hsts := sts_in hm
  clear hm
  go_wp2
  go_loopg [4, 18] M.start.length (fun g t i wr => ∃ (k : Nat) (l : List Int), k ≤ M.start.length ∧ g = M.start.length - k ∧ i = .int .i64 k ∧ Hid (Ext w2 wr ∧ OwnB wr t l w2.heap.size ∧ RchIn M l ∧ ∀ a, a < k → ∀ j, j < (gr M.start a).length → gi (gr M.start a) j ∈ l))
  case atStart => exact ⟨0, [], Nat.zero_le _, rfl, rfl, Ext.rfl' _, ownB_nil _ _, ⟨List.Pairwise.nil, by simp, by simp⟩, fun a ha => absurd ha (by omega)⟩
  case round =>
    obtain ⟨k, l0, hk, rfl, rfl, Hr⟩ := hrel
    by_cases hlt : k < M.start.length
    · obtain ⟨b, o, xa, xc, rfl, z0, hx⟩ := ssRow (H3.out.ext (K2.out.trans' Hr.out.1)) hlt
      have HX := Lib.hid hx
      clear hx
      obtain ⟨WR, hWR⟩ : ∃ W : World, W = wr := ⟨_, rfl⟩
      subst hWR
      go_wp2
      go_loopg [4, 24] (gr M.start k).length (fun g t i wx => ∃ (j : Nat) (l : List Int), j ≤ (gr M.start k).length ∧ g = (gr M.start k).length - j ∧ i = .int .i64 j ∧ Hid (Ext WR wx ∧ OwnB wx t l w2.heap.size ∧ RchIn M l ∧ (∀ a, a < k → ∀ j, j < (gr M.start a).length → gi (gr M.start a) j ∈ l) ∧ ∀ u, u < j → gi (gr M.start k) u ∈ l))
      case atStart => exact ⟨0, l0, Nat.zero_le _, rfl, rfl, Ext.rfl' _, Hr.out.2.1, Hr.out.2.2.1, Hr.out.2.2.2, fun u hu => absurd hu (by omega)⟩
      case round =>
        obtain ⟨j, l, hj, rfl, rfl, Hs⟩ := hrel
        by_cases hlj : j < (gr M.start k).length
        · obtain ⟨xa', xb, xo, xd, e, hxa, xl, xm, hxc⟩ := HX.out.ext Hs.out.1
          simp only [Value.slice.injEq] at e
          obtain ⟨rfl, -, rfl⟩ := e
          unfold maxLen at xm
          obtain rfl := hxa (by omega)
          obtain ⟨_, z1, rfl, -⟩ := hxc j hlj
          have HIN := Lib.hid (start_in1 HG.out hlt hlj)
          have HMM := Lib.hid (mem_gr hlt hlj)
          have HLN := Lib.hid Hs.out.2.2.1.len
          clear hxa hxc
          go_wp2_with fail
          (with_reducible refine (put_ownB Hs.out.2.1 (inI64_small (by have := HIN.out; omega) (by have := HIN.out; omega)) (by have := HLN.out; omega) (Nat.le_trans Hr.out.1.size Hs.out.1.size)).mono ?_)
          rintro e w4 ⟨v4, rfl, hx, ho⟩
          have X4 := Lib.hid (Hs.out.1.trans' hx)
          have O4 := Lib.hid ho
          have P4 := Lib.hid (Hs.out.2.2.1.put (x := gi (gr M.start k) j) HIN.out fun S _ h => h _ HMM.out)
          clear hx ho z1
          go_wp2
          go_roundg ((gr M.start k).length - (j + 1))
          case measure => omega
          case rel =>
            refine ⟨j + 1, _, by omega, rfl, by go_num, X4.out, O4.out, P4.out, fun a ha j' hj' => mem_putL.2 (.inl (Hs.out.2.2.2.1 a ha j' hj')), fun u hu => ?_⟩
            by_cases e : u = j
            · subst e; exact mem_putL.2 (.inr rfl)
            · exact mem_putL.2 (.inl (Hs.out.2.2.2.2 u (by omega)))
        · obtain rfl : j = (gr M.start k).length := by omega
          go_wp2
          go_roundg (M.start.length - (k + 1))
          case measure => omega
          case rel =>
            refine ⟨k + 1, l, by omega, rfl, by go_num, Hr.out.1.trans' Hs.out.1, Hs.out.2.1, Hs.out.2.2.1, fun a ha j2 hj2 => ?_⟩
            by_cases e : a = k
            · subst e; exact Hs.out.2.2.2.2 j2 hj2
            · exact Hs.out.2.2.2.1 a (by omega) j2 hj2
    · obtain rfl : k = M.start.length := by omega
      have HST := Lib.hid (show ∀ x ∈ startAll M, x ∈ l0 from fun x hx => by
        obtain ⟨i, hi, j, hj, rfl⟩ := of_mem_flat hx
        exact Hr.out.2.2.2 i hi j hj)
      go_wp2
      go_loopg [4, 9] (M.sts.toNat + 1 - l0.length) (fun g t ag wr => ∃ (l : List Int) (again : Bool), ag = .bool again ∧ g = (if again = true then M.sts.toNat + 1 - l.length else 0) ∧ Hid (Ext w2 wr ∧ OwnB wr t l w2.heap.size ∧ RchIn M l ∧ (∀ x ∈ startAll M, x ∈ l) ∧ (again = false → ClosedL M l)))
      case atStart => exact ⟨l0, true, rfl, by rw [if_pos rfl], Hr.out.1, Hr.out.2.1, Hr.out.2.2.1, HST.out, fun h => by cases h⟩
      case round =>
        obtain ⟨l1, again, rfl, rfl, Ha⟩ := hrel
        cases again
        case false =>
          have HRE := Lib.hid (reach_eq HG.out Ha.out.2.2.1 (Ha.out.2.2.2.2 rfl) Ha.out.2.2.2.1)
          obtain ⟨bs, ho, hb⟩ := Ha.out.2.1
          have HO := Lib.hid (own_nodup ho hb)
          clear ho hb
          go_wp2
          go_ret2
          exact ⟨_, ret_vb (dec_true HG.out).symm, K2.out.trans' Ha.out.1, bs, by rw [reAns_t HG.out, ← HRE.out]; exact HO.out.1, HO.out.2.1, fun b hb => Nat.le_trans K2.out.size (HO.out.2.2 b hb)⟩
        have KA := Lib.hid (K2.out.trans' Ha.out.1)
        obtain ⟨p0, p1, p2, p3, p4, p5, p6⟩ := row7_facts (row_ext R2.out Ha.out.1)
        have HL1 := Lib.hid Ha.out.2.2.1.len
        obtain ⟨WA, hWA⟩ : ∃ W : World, W = wr := ⟨_, rfl⟩
        subst hWA
        go_wp2
        go_loopg [4, 9, 37] M.cls.length (fun g t ag i wx => ∃ (k : Nat) (l : List Int) (again : Bool), k ≤ M.cls.length ∧ g = M.cls.length - k ∧ i = .int .i64 k ∧ ag = .bool again ∧ Hid (Ext WA wx ∧ OwnB wx t l w2.heap.size ∧ RchIn M l ∧ (∀ x ∈ l1, x ∈ l) ∧ (again = true → l1.length < l.length) ∧ (again = false → l = l1 ∧ ∀ j, j < k → (gc M.cls j).st ∈ l → gi M.out (gc M.cls j).st.toNat = -1 → (gc M.cls j).nx ∈ l)))
        case atStart => exact ⟨0, l1, false, Nat.zero_le _, rfl, rfl, rfl, Ext.rfl' _, Ha.out.2.1, Ha.out.2.2.1, fun x hx => hx, (by first | trivial | (intro h; cases h)), fun _ => ⟨rfl, fun j hj => absurd hj (by omega)⟩⟩
        case round =>
          obtain ⟨k, l, again, hk, rfl, rfl, rfl, Hs⟩ := hrel
          by_cases hlt : k < M.cls.length
          · obtain ⟨b, o, rfl, q1, ⟨xa, xn, xq, q2, rfl, q3⟩, q4, -, -⟩ := clRow (H5.out.ext (K2.out.trans' Ha.out.1)) hlt
            have q1 := Hs.out.1.cell' q1
            have q2 := Hs.out.1.cell' q2
            have q4 := Hs.out.1.cell' q4
            have HCI := Lib.hid (cl_in HG.out hlt)
            obtain ⟨c, hc⟩ : ∃ c, c = gc M.cls k := ⟨_, rfl⟩
            have HC := Lib.hid hc
            rw [← hc] at q1 q2 HCI q4
            clear hc q3
            obtain ⟨cst, cinb, cnx⟩ := c
            simp only at q1 q2 q4 HCI
            obtain ⟨z, hz⟩ := Int.eq_ofNat_of_zero_le HCI.out.2.2.1
            subst hz
            have hzl : z < M.out.length := by have := HCI.out; have := HG.out.2.2.2.2.1; omega
            obtain ⟨oa, ob, oo, oc, e, hoa, -, om, hoc⟩ := H6.out.ext (K2.out.trans' (Ha.out.1.trans' Hs.out.1))
            simp only [Value.slice.injEq] at e
            obtain ⟨rfl, -, rfl⟩ := e
            obtain rfl := hoa (by omega)
            obtain ⟨_, g1, rfl, -⟩ := hoc z hzl
            have HOU := Lib.hid (HG.out.2.2.2.2.2 z hzl)
            obtain ⟨y, hy⟩ : ∃ y, y = gi M.out z := ⟨_, rfl⟩
            have HY := Lib.hid hy
            rw [← hy] at g1 HOU
            clear hoa hoc hy
            have p6 := Hs.out.1.cell' p6
            obtain ⟨W3, hW3⟩ : ∃ W3, W3 = wr.alloc (.cells #[.int .i64 (z : Int), .slice xa cinb.length xq, .int .i64 cnx] 113) := ⟨_, rfl⟩
            have E3 := Lib.hid (show Ext wr W3 by rw [hW3]; exact (Ext.rfl' _).alloc' _)
            have EX := Lib.hid (Hs.out.1.trans' E3.out)
            have R3 := Lib.hid (show W3.rowIs wr.heap.size 113 3 (tri (.int .i64 (z : Int)) (.slice xa cinb.length xq) (.int .i64 cnx)) by rw [hW3]; exact row3_made _ _ _ _ _)
            have OW := Lib.hid (Hs.out.2.1.ext E3.out)
            obtain ⟨bs0, ho0, -⟩ := OW.out
            have RD := Lib.hid ho0.read
            have HLN := Lib.hid Hs.out.2.2.1.len
            have HWZ := Lib.hid (show w2.heap.size ≤ W3.heap.size from Nat.le_trans Ha.out.1.size EX.out.size)
            obtain ⟨s0, s1, s2, -, -, -⟩ := row3_facts R3.out
            have k6 := E3.out.cell' p6
            have kg := E3.out.cell' g1
            clear ho0
            by_cases e1 : (z : Int) ∈ l
            case neg =>
              have D1 := Lib.hid (dec_false (p := Has l (z : Int)) fun h => e1 (has_mem.1 h))
              have N1 := Lib.hid e1
              clear e1
              go_wp2_with fail
              rw [← hW3]
              clear hW3
              go_wp2_with (go_at_call 108; (with_reducible refine (l1Has_any _ RD.out).mono ?_); rintro e _ ⟨rfl, rfl⟩; rw [D1.out])
              go_roundg (M.cls.length - (k + 1))
              case measure => omega
              case rel =>
                refine ⟨k + 1, l, again, by omega, rfl, by go_num, rfl, EX.out, OW.out, Hs.out.2.2.1, Hs.out.2.2.2.1, Hs.out.2.2.2.2.1, fun hag => ⟨(Hs.out.2.2.2.2.2 hag).1, fun j hj h1 h2 => ?_⟩⟩
                by_cases e : j = k
                · subst e; rw [← HC.out] at h1 h2 ⊢; exact (N1.out h1).elim
                · exact (Hs.out.2.2.2.2.2 hag).2 j (by omega) h1 h2
            have D1 := Lib.hid (dec_true (p := Has l (z : Int)) (has_mem.2 e1))
            have N1 := Lib.hid e1
            clear e1
            by_cases e2 : y < 0
            case neg =>
              have b2 : decide (y < 0) = false := decide_eq_false e2
              have N2 := Lib.hid e2
              clear e2
              go_wp2_with fail
              rw [← hW3]
              clear hW3
              go_wp2_with (go_at_call 108; (with_reducible refine (l1Has_any _ RD.out).mono ?_); rintro e _ ⟨rfl, rfl⟩; rw [D1.out])
              go_roundg (M.cls.length - (k + 1))
              case measure => omega
              case rel =>
                refine ⟨k + 1, l, again, by omega, rfl, by go_num, rfl, EX.out, OW.out, Hs.out.2.2.1, Hs.out.2.2.2.1, Hs.out.2.2.2.2.1, fun hag => ⟨(Hs.out.2.2.2.2.2 hag).1, fun j hj h1 h2 => ?_⟩⟩
                by_cases e : j = k
                · subst e; rw [← HC.out] at h1 h2 ⊢; (have h2 : gi M.out z = -1 := by simpa using h2); rw [← HY.out] at h2; have := N2.out; omega
                · exact (Hs.out.2.2.2.2.2 hag).2 j (by omega) h1 h2
            have b2 : decide (y < 0) = true := decide_eq_true e2
            have N2 := Lib.hid e2
            clear e2
            by_cases e3 : cnx ∈ l
            case pos =>
              have D2 := Lib.hid (dec_true (p := Has l cnx) (has_mem.2 e3))
              have N3 := Lib.hid e3
              clear e3
              go_wp2_with fail
              rw [← hW3]
              clear hW3
              go_wp2_with (first | (go_at_call 108; (with_reducible refine (l1Has_any _ RD.out).mono ?_); rintro e _ ⟨rfl, rfl⟩; rw [D1.out]) | (go_at_call 108; (with_reducible refine (l1Has_any _ RD.out).mono ?_); rintro e _ ⟨rfl, rfl⟩; rw [D2.out]))
              go_roundg (M.cls.length - (k + 1))
              case measure => omega
              case rel =>
                refine ⟨k + 1, l, again, by omega, rfl, by go_num, rfl, EX.out, OW.out, Hs.out.2.2.1, Hs.out.2.2.2.1, Hs.out.2.2.2.2.1, fun hag => ⟨(Hs.out.2.2.2.2.2 hag).1, fun j hj h1 h2 => ?_⟩⟩
                by_cases e : j = k
                · subst e; rw [← HC.out] at h1 h2 ⊢; exact N3.out
                · exact (Hs.out.2.2.2.2.2 hag).2 j (by omega) h1 h2
            have D2 := Lib.hid (dec_false (p := Has l cnx) fun h => e3 (has_mem.1 h))
            have N3 := Lib.hid e3
            clear e3
            go_wp2_with fail
            rw [← hW3]
            clear hW3
            go_wp2_with (first | (first | (go_at_call 108; (with_reducible refine (l1Has_any _ RD.out).mono ?_); rintro e _ ⟨rfl, rfl⟩; rw [D1.out]) | (go_at_call 108; (with_reducible refine (l1Has_any _ RD.out).mono ?_); rintro e _ ⟨rfl, rfl⟩; rw [D2.out])) | (go_at_call 107; (with_reducible refine (put_ownB OW.out (inI64_small (by have := HCI.out; omega) (by have := HCI.out; omega)) (by have := HLN.out; omega) HWZ.out).mono ?_); rintro e w5 ⟨v5, rfl, hx5, ho5⟩; have X5 := Lib.hid hx5; have O5 := Lib.hid ho5; clear hx5 ho5))
            have P5 := Lib.hid (Hs.out.2.2.1.put (x := cnx) ⟨HCI.out.1, HCI.out.2.1⟩ fun S h1 h2 => by
              have h3 := h1 k hlt
              rw [← HC.out] at h3
              exact h3 (Hs.out.2.2.1.2.2 S h1 h2 _ N1.out) (by show gi M.out (z : Int).toNat = -1; rw [Int.toNat_natCast, ← HY.out]; have := HOU.out; have := N2.out; omega))
            have HLP := Lib.hid (length_putL_new N3.out)
            have HGE := Lib.hid (show l1.length ≤ l.length by
              cases again
              · rw [(Hs.out.2.2.2.2.2 rfl).1]; exact Nat.le_refl _
              · exact Nat.le_of_lt (Hs.out.2.2.2.2.1 rfl))
            go_roundg (M.cls.length - (k + 1))
            case measure => omega
            case rel => exact ⟨k + 1, _, true, by omega, rfl, by go_num, rfl, EX.out.trans' X5.out, O5.out, P5.out, fun x hx => mem_putL.2 (.inl (Hs.out.2.2.2.1 x hx)), fun _ => by rw [HLP.out]; have := HGE.out; omega, fun h => by cases h⟩
          · obtain rfl : k = M.cls.length := by omega
            have HLN := Lib.hid Hs.out.2.2.1.len
            go_wp2
            go_roundg (if again = true then M.sts.toNat + 1 - l.length else 0)
            case measure =>
              have h1 := HLN.out
              have h2 := HL1.out
              have h3 := Hs.out.2.2.2.2.1
              cases again
              · simp; omega
              · have := h3 rfl; simp; omega
            case rel =>
              refine ⟨l, again, rfl, rfl, Ha.out.1.trans' Hs.out.1, Hs.out.2.1, Hs.out.2.2.1, fun x hx => Hs.out.2.2.2.1 x (Ha.out.2.2.2.1 x hx), fun hag => ?_⟩
              exact fun j hj h1 h2 => (Hs.out.2.2.2.2.2 hag).2 j hj h1 h2
end Go.Proofs.Ytdcgpodjoalokaa
