/- CentresOf. -/
import Derived.Test.YtkeiaahlifdbiaaZj
namespace Go.Proofs.Ytkeiaahlifdbiaa
open Go.RowKit

def centres (N : Net) : List Int := idxs (ecc N) (lessL (ecc N)) (lessL (ecc N)) N.ends.length
theorem centresAns_len (N : Net) : (ansOf (GC N) (centres N)).length ≤ 40 := ansOf_len fun h => by
  have := idxs_len (ecc N) (lessL (ecc N)) (lessL (ecc N)) N.ends.length
  have := (good_w h.1).most
  unfold centres
  omega
theorem centres_in {N : Net} (hG : GoodW N) : ∀ i, i < (centres N).length → inI64 (gi (centres N) i) := fun i hi => by
  have := idxs_range (ecc N) (lessL (ecc N)) (lessL (ecc N)) N.ends.length i hi
  have := hG.most
  unfold centres inI64
  omega
/-- The least of 40 and the first k elements. -/
def lst (l : List Int) : Nat → Int
  | 0 => 40
  | k + 1 => if gi l k < lst l k then gi l k else lst l k
theorem lst_spec (l : List Int) : ∀ k, (∀ i, i < k → lst l k ≤ gi l i) ∧ (lst l k = 40 ∨ ∃ i, i < k ∧ lst l k = gi l i) ∧ lst l k ≤ 40
  | 0 => ⟨fun i hi => by omega, .inl rfl, Int.le_refl _⟩
  | k + 1 => by
    obtain ⟨h1, h2, h3⟩ := lst_spec l k
    simp only [lst]
    split
    · refine ⟨fun i hi => ?_, .inr ⟨k, by omega, rfl⟩, by omega⟩
      by_cases e : i = k
      · subst e; omega
      · have := h1 i (by omega); omega
    · refine ⟨fun i hi => ?_, ?_, h3⟩
      · by_cases e : i = k
        · subst e; omega
        · exact h1 i (by omega)
      · rcases h2 with h2 | ⟨i, hi, he⟩
        · exact .inl h2
        · exact .inr ⟨i, by omega, he⟩
theorem lst_less {l : List Int} (h : 0 < l.length) (h40 : ∀ i, i < l.length → gi l i < 40) : lst l l.length = lessL l := by
  obtain ⟨h1, h2, h3⟩ := lst_spec l l.length
  obtain ⟨j, hj, he⟩ := lessL_at h
  have := h1 j hj
  have := h40 j hj
  rcases h2 with h2 | ⟨i, hi, h2⟩
  · omega
  · have := lessL_le hi; omega
theorem idxs_none {l : List Int} {d : Int} {k : Nat} (h : ∀ i, i < k → d < gi l i) : idxs l d d k = [] := by
  refine List.eq_nil_iff_forall_not_mem.2 fun x hx => ?_
  obtain ⟨v, h1, -, h2, h3⟩ := (idxs_mem l d d k x).1 hx
  have := h v h1
  omega

set_option maxHeartbeats 6400000 in
set_option maxRecDepth 100000 in
theorem centresX_any {w : World} {vn : Value} {N : Net} (h : NetAt w vn N) :
    Calls Try.prog 54 #[vn] w fun e w' => ∃ v' bs, e = .returned (.tuple #[v', .bool (dec (GC N))]) ∧ Ext w w' ∧ OwnI w' v' (ansOf (GC N) (centres N)) bs ∧ Fresh w bs := by
  have HA := Lib.hid h
  obtain ⟨v0, v1, v2, rfl, hEa, -, -⟩ := h
  clear hEa
  obtain ⟨i0, hi, hz0, hz1, hz2⟩ := info_parts Try.info3
  have I0 := Lib.hid (And.intro hi (And.intro hz0 (And.intro hz1 hz2)))
  clear hi hz0 hz1 hz2
  obtain ⟨W1, hW1⟩ : ∃ W1, W1 = w.alloc (.cells #[v0, v1, v2] 29) := ⟨_, rfl⟩
  have K0 := Lib.hid (show Ext w W1 by rw [hW1]; exact boxed_ext _ _ _ _ _)
  have R0 := Lib.hid (show W1.rowIs w.heap.size 29 3 (tri v0 v1 v2) by rw [hW1]; exact boxed_row _ _ _ _ _)
  obtain ⟨p0, p1, p2, -, -, -⟩ := row3_facts R0.out
  rw [hW1] at p0 p1 p2
  by_cases hc : GC N
  case neg =>
    have D := Lib.hid (dec_false hc)
    have NB := Lib.hid hc
    clear hc
    go_enter Try.func54, Try.ntmps54
    go_wp2_with fail
    rw [← hW1]
    clear hW1 p0 p1 p2
    (with_reducible refine (greatest_any (HA.out.ext K0.out)).mono ?_)
    rintro e wz ⟨ud, bd, rfl, hxz, hoz, hfz⟩
    rw [D.out]
    have KZ := Lib.hid (K0.out.trans' hxz)
    clear hxz hoz hfz
    go_wp2
    go_ret2
    exact ⟨_, [], ret_mb D.out.symm, KZ.out, by rw [ansOf_f NB.out]; exact own_nilI _, Fresh.nil _⟩
  have D := Lib.hid (dec_true hc)
  have HB := Lib.hid hc
  have HG := Lib.hid (good_w hc.1)
  have hA1 := HG.out.one
  have hA40 := HG.out.most
  have AN := Lib.hid (ansOf_t (l := ecc N) hc)
  obtain ⟨E, hE⟩ : ∃ E, E = ecc N := ⟨_, rfl⟩
  have HE := Lib.hid hE
  have HL := Lib.hid (show E.length = N.ends.length by rw [hE]; exact ecc_len N)
  obtain ⟨n, hnn⟩ : ∃ n, n = N.ends.length := ⟨_, rfl⟩
  have HNN := Lib.hid hnn
  rw [← hnn] at hA1 hA40 HL
  obtain ⟨m, hm⟩ : ∃ m, m = lessL E := ⟨_, rfl⟩
  have HM := Lib.hid hm
  have HC := Lib.hid (show centres N = idxs E m m n by unfold centres; rw [← hE, ← hm, ← hnn])
  rw [← hE] at AN
  clear hc hE hnn hm
  go_enter Try.func54, Try.ntmps54
  go_wp2_with fail
  rw [← hW1]
  clear hW1 p0 p1 p2
  (with_reducible refine (greatest_any (HA.out.ext K0.out)).mono ?_)
  rintro e wz ⟨ud, bd, rfl, hxz, hoz, hfz⟩
  rw [← HE.out, AN.out] at hoz
  rw [D.out]
  obtain ⟨na, nc, rfl⟩ := hoz.1.slice
  have KZ := Lib.hid (K0.out.trans' hxz)
  have OZ := Lib.hid hoz
  rw [HL.out] at OZ ⊢
  clear hxz hoz hfz
  have G0 := Lib.hid (show GrowN wz.heap.size (wz.alloc (.cells #[] 3)) (.slice (some ⟨wz.heap.size, 0, none⟩) 0 0) (idxs E m m 0) from World.ownsRow_lit (base := wz.heap.size) (e := 3) (size := 1) wz #[] 0 (Nat.le_refl _) (by decide) (by simp))
  go_wp2_with fail
  go_loopg [6, 19] n (fun g s i wr => ∃ k : Nat, k ≤ n ∧ g = n - k ∧ i = .int .i64 k ∧ Hid (Ext wz wr ∧ GrowN wz.heap.size wr s (idxs E m m k)))
  case atStart => exact ⟨0, Nat.zero_le _, rfl, rfl, (Ext.rfl' _).alloc' _, G0.out⟩
  case round =>
    obtain ⟨k, hk, rfl, rfl, Hr⟩ := hrel
    have RE := Lib.hid Hr.out.1
    have RG := Lib.hid Hr.out.2
    have RO := Lib.hid (OZ.out.ext Hr.out.1)
    clear Hr
    by_cases hlt : k < n
    · obtain ⟨na', nb', no', nc', e, ha, hl, hmx, hcn⟩ := RO.out.read
      simp only [Value.slice.injEq] at e
      obtain ⟨rfl, -, rfl⟩ := e
      rw [HL.out] at ha hl
      obtain rfl := ha (by omega)
      obtain ⟨_, hn1, rfl, _⟩ := hcn k (by rw [HL.out]; exact hlt)
      unfold maxLen at hmx
      obtain ⟨d, hd⟩ : ∃ d, d = gi E k := ⟨_, rfl⟩
      rw [← hd] at hn1
      have HDD := Lib.hid hd
      have hlen := idxs_len E m m k
      have hsz := RE.out.size
      have RR := Lib.hid (show IntSl wr (.slice (some ⟨nb', no', none⟩) n nc) E from RO.out.read)
      clear hcn ha hd
      by_cases hin : d = m
      · have HAA := Lib.hid (show idxs E m m (k + 1) = idxs E m m k ++ [(k : Int)] by simp only [idxs]; rw [← HDD.out]; exact if_pos ⟨by omega, by omega⟩)
        have hbq : (d == m) = true := by simpa using hin
        clear hin
        go_wp2_with (first | (go_at_call 109; (with_reducible refine (min_any RR.out (by have := HL.out; omega) (by have := HL.out; omega)).mono ?_); rintro e _ ⟨rfl, rfl⟩; rw [← HM.out]) | (at_builtin; refine wpList_app2 rfl (.tmp 28) (.tmp 30) 23 rfl wz.heap.size 3 i0 (.int .i64 0) 1 8 Try.underlying23 I0.out.1 I0.out.2.1 I0.out.2.2.1 I0.out.2.2.2 rfl (by decide) _ (idxs E m m k).length (intCells (idxs E m m k)) rfl (RG.out.ext ((Ext.rfl' _).alloc' _)) (some ⟨wr.heap.size, 0, none⟩) 1 1 (intCells [(k : Int)]) rfl (src_lits wr [(k : Int)] 1 rfl 3) (by unfold maxLen; omega) (by omega) (by simp; omega) ?_))
        intro v' w4 hg
        have gx := RG.out.ext ((Ext.rfl' wr).alloc' (.cells #[.int .i64 (k : Int)] 3))
        have FI := Lib.hid (show Ext wz w4 ∧ GrowN wz.heap.size w4 v' (idxs E m m k ++ [(k : Int)]) from
          ⟨grown_ext (RE.out.alloc' _) (Nat.le_refl _) gx hg.1.2.1, GrowN.step hg.1 rfl⟩)
        clear hg gx
        go_wp2
        go_roundg (n - (k + 1))
        case measure => omega
        case rel => exact ⟨k + 1, by omega, rfl, by go_num, FI.out.1, by rw [HAA.out]; exact FI.out.2⟩
      · have HAA := Lib.hid (show idxs E m m (k + 1) = idxs E m m k by simp only [idxs]; rw [← HDD.out]; exact if_neg fun h => hin (by omega))
        have hbq : (d == m) = false := beq_eq_false_iff_ne.2 hin
        clear hin
        go_wp2_with (first | (go_at_call 109; (with_reducible refine (min_any RR.out (by have := HL.out; omega) (by have := HL.out; omega)).mono ?_); rintro e _ ⟨rfl, rfl⟩; rw [← HM.out]) | fail)
        go_roundg (n - (k + 1))
        case measure => omega
        case rel => exact ⟨k + 1, by omega, rfl, by go_num, RE.out, by rw [HAA.out]; exact RG.out⟩
    · obtain rfl : k = n := by omega
      have CI := Lib.hid (centres_in HG.out)
      rw [HC.out] at CI
      go_wp2
      go_ret2
      obtain ⟨bs, ho, hn, hb⟩ := RG.out.own CI.out
      exact ⟨_, bs, ret_mb D.out.symm, KZ.out.trans' RE.out, by rw [ansOf_t HB.out, HC.out]; exact ho, hn, fun b hb' => by have := hb b hb'; have := KZ.out.size; omega⟩

set_option maxHeartbeats 6400000 in
set_option maxRecDepth 100000 in
theorem specCentres_any {w : World} {vn : Value} {N : Net} (h : NetAt w vn N) :
    Calls Try.prog 53 #[vn] w fun e w' => ∃ v' bs, e = .returned (.tuple #[v', .bool (dec (GC N))]) ∧ Ext w w' ∧ OwnI w' v' (ansOf (GC N) (centres N)) bs ∧ Fresh w bs := by
  have HA := Lib.hid h
  obtain ⟨v0, v1, v2, rfl, hEa, -, -⟩ := h
  obtain ⟨ea, eb, eo, ec, rfl, hea, hel, hem, hec⟩ := hEa
  unfold maxLen at hem
  have HEA := Lib.hid hea
  have HEC := Lib.hid hec
  clear hea hec
  obtain ⟨W1, hW1⟩ : ∃ W1, W1 = w.alloc (.cells #[.slice ea N.ends.length ec, v1, v2] 29) := ⟨_, rfl⟩
  have K0 := Lib.hid (show Ext w W1 by rw [hW1]; exact boxed_ext _ _ _ _ _)
  have R0 := Lib.hid (show W1.rowIs w.heap.size 29 3 (tri (.slice ea N.ends.length ec) v1 v2) by rw [hW1]; exact boxed_row _ _ _ _ _)
  obtain ⟨p0, p1, p2, -, -, -⟩ := row3_facts R0.out
  rw [hW1] at p0 p1 p2
  by_cases hg0 : Good N
  case neg =>
    have G0 := Lib.hid (dec_false hg0)
    have D := Lib.hid (dec_false (p := GC N) fun h => hg0 (h.1))
    have NB := Lib.hid (show ¬ (GC N) from fun h => hg0 (h.1))
    clear hg0
    go_enter Try.func53, Try.ntmps53
    go_wp2_with fail
    rw [← hW1]
    clear hW1 p0 p1 p2
    (with_reducible refine (neGood_any (HA.out.ext K0.out)).mono ?_)
    rintro e w1g ⟨rfl, hxg⟩
    rw [G0.out]
    have K1 := Lib.hid (K0.out.trans' hxg)
    have R1 := Lib.hid (row_ext R0.out hxg)
    clear hxg
    obtain ⟨p0, p1, p2, -, -, -⟩ := row3_facts R1.out
    go_wp2
    go_ret2
    exact ⟨_, [], ret_mb D.out.symm, K1.out, by rw [ansOf_f NB.out]; exact own_nilI _, Fresh.nil _⟩
  have G0 := Lib.hid (dec_true hg0)
  have H0 := Lib.hid hg0
  clear hg0
  by_cases hg1 : Conn N
  case neg =>
    have G1 := Lib.hid (dec_false hg1)
    have D := Lib.hid (dec_false (p := GC N) fun h => hg1 (h.2))
    have NB := Lib.hid (show ¬ (GC N) from fun h => hg1 (h.2))
    clear hg1
    go_enter Try.func53, Try.ntmps53
    go_wp2_with fail
    rw [← hW1]
    clear hW1 p0 p1 p2
    (with_reducible refine (neGood_any (HA.out.ext K0.out)).mono ?_)
    rintro e w1g ⟨rfl, hxg⟩
    rw [G0.out]
    have K1 := Lib.hid (K0.out.trans' hxg)
    have R1 := Lib.hid (row_ext R0.out hxg)
    clear hxg
    obtain ⟨p0, p1, p2, -, -, -⟩ := row3_facts R1.out
    go_wp2_with fail
    clear p0 p1 p2
    (with_reducible refine (meConnected_any (HA.out.ext K1.out) (good_w H0.out)).mono ?_)
    rintro e w2g ⟨rfl, hxg⟩
    rw [G1.out]
    have K2 := Lib.hid (K1.out.trans' hxg)
    have R2 := Lib.hid (row_ext R1.out hxg)
    clear hxg
    obtain ⟨p0, p1, p2, -, -, -⟩ := row3_facts R2.out
    go_wp2
    go_ret2
    exact ⟨_, [], ret_mb D.out.symm, K2.out, by rw [ansOf_f NB.out]; exact own_nilI _, Fresh.nil _⟩
  have G1 := Lib.hid (dec_true hg1)
  have H1 := Lib.hid hg1
  clear hg1
  have HB := Lib.hid (show GC N from ⟨H0.out, H1.out⟩)
  have D := Lib.hid (dec_true HB.out)
  have HG := Lib.hid (good_w H0.out)
  have hA1 := HG.out.one
  have hA40 := HG.out.most
  obtain ⟨i0, hi, hz0, hz1, hz2⟩ := info_parts Try.info3
  have I0 := Lib.hid (And.intro hi (And.intro hz0 (And.intro hz1 hz2)))
  clear hi hz0 hz1 hz2
  obtain ⟨E, hE⟩ : ∃ E, E = ecc N := ⟨_, rfl⟩
  have HE := Lib.hid hE
  have HL := Lib.hid (show E.length = N.ends.length by rw [hE]; exact ecc_len N)
  have HC := Lib.hid (show centres N = idxs E (lst E N.ends.length) (lst E N.ends.length) N.ends.length by
    have := lst_less (l := ecc N) (by rw [ecc_len]; omega) (fun i hi => by rw [ecc_len] at hi; have := ecc_range HG.out hi; omega)
    rw [ecc_len] at this
    unfold centres; rw [hE, this])
  clear hE
  go_enter Try.func53, Try.ntmps53
  go_wp2_with fail
  rw [← hW1]
  clear hW1 p0 p1 p2
  (with_reducible refine (neGood_any (HA.out.ext K0.out)).mono ?_)
  rintro e w1g ⟨rfl, hxg⟩
  rw [G0.out]
  have K1 := Lib.hid (K0.out.trans' hxg)
  have R1 := Lib.hid (row_ext R0.out hxg)
  clear hxg
  obtain ⟨p0, p1, p2, -, -, -⟩ := row3_facts R1.out
  go_wp2_with fail
  clear p0 p1 p2
  (with_reducible refine (meConnected_any (HA.out.ext K1.out) (good_w H0.out)).mono ?_)
  rintro e w2g ⟨rfl, hxg⟩
  rw [G1.out]
  have K2 := Lib.hid (K1.out.trans' hxg)
  have R2 := Lib.hid (row_ext R1.out hxg)
  clear hxg
  obtain ⟨p0, p1, p2, -, -, -⟩ := row3_facts R2.out
  go_wp2_with fail
  clear p0 p1 p2
  go_loopg [4, 5, 19] N.ends.length (fun g s t i wr => ∃ k : Nat, k ≤ N.ends.length ∧ g = N.ends.length - k ∧ i = .int .i64 k ∧ t = .int .i64 (lst E k) ∧ Hid (Ext w2g wr ∧ GrowN w2g.heap.size wr s (idxs E (lst E k) (lst E k) k)))
  case atStart => exact ⟨0, Nat.zero_le _, rfl, rfl, rfl, Ext.rfl' _, GrowN.nil _ _⟩
  case round =>
    obtain ⟨k, hk, rfl, rfl, rfl, Hr⟩ := hrel
    have X0 := Lib.hid Hr.out.1
    have T0 := Lib.hid Hr.out.2
    have E0 := Lib.hid (K2.out.trans' Hr.out.1)
    clear Hr
    by_cases hlt : k < N.ends.length
    · obtain ⟨p0, p1, p2, -, -, -⟩ := row3_facts (row_ext R2.out X0.out)
      have HDL := Lib.hid (dst_small HG.out (x := (k : Int)) (by omega)).1
      have HM := Lib.hid (show most0 (dst N (k : Int)) (dst N (k : Int)).length = gi E k by rw [(most_dst HG.out hlt).2.2, HE.out, gi_ecc hlt])
      have hlr := lst_spec E k
      have hdr := ecc_range HG.out hlt
      rw [← HE.out] at hdr
      go_wp2_with fail
      clear p0 p1 p2
      (with_reducible refine (meFrom_any k hlt (HA.out.ext E0.out) HG.out).mono ?_)
      rintro e w0l ⟨ud, bd, rfl, hx0l, hod, hfr⟩
      have OD := Lib.hid hod
      have X1 := Lib.hid (X0.out.trans' hx0l)
      have T1 := Lib.hid (T0.out.ext hx0l)
      have hsz := X1.out.size
      clear hod hfr hx0l
      obtain ⟨d, hd⟩ : ∃ d, d = gi E k := ⟨_, rfl⟩
      have HDD := Lib.hid hd
      rw [← hd] at HM hdr
      obtain ⟨l, hl⟩ : ∃ l, l = lst E k := ⟨_, rfl⟩
      have HLL := Lib.hid hl
      rw [← hl] at T1 hlr ⊢
      have hl40 := hlr.2.2
      have HLR := Lib.hid hlr.1
      have hlen := idxs_len E l l k
      clear hd hl hlr
      by_cases hlt2 : d < l
      · have HS := Lib.hid (show lst E (k + 1) = d by simp only [lst]; rw [← HLL.out, ← HDD.out]; exact if_pos hlt2)
        have HAA := Lib.hid (show idxs E d d (k + 1) = [] ++ [(k : Int)] by
          have := idxs_none (l := E) (d := d) (k := k) fun i hi => by have := HLR.out i hi; omega
          simp only [idxs]; rw [this, ← HDD.out]; exact if_pos ⟨by omega, by omega⟩)
        go_wp2_with (first | (go_at_call 100; (with_reducible refine (meMost_any OD.out.read (by have := HDL.out; omega)).mono ?_); rintro e _ ⟨rfl, rfl⟩; rw [HM.out]) | (at_builtin; refine wpList_app2 rfl (.tmp 33) (.tmp 35) 23 rfl w2g.heap.size 3 i0 (.int .i64 0) 1 8 Try.underlying23 I0.out.1 I0.out.2.1 I0.out.2.2.1 I0.out.2.2.2 rfl (by decide) _ 0 (intCells []) rfl (GrowN.nil _ _) (some ⟨w0l.heap.size, 0, none⟩) 1 1 (intCells [(k : Int)]) rfl (src_lits w0l [(k : Int)] 1 rfl 3) (by unfold maxLen; omega) (by omega) (by simp; omega) ?_))
        intro v' w4 hg
        have gx := GrowN.nil w2g.heap.size (w0l.alloc (.cells #[.int .i64 (k : Int)] 3))
        have FI := Lib.hid (show Ext w2g w4 ∧ GrowN w2g.heap.size w4 v' ([] ++ [(k : Int)]) from
          ⟨grown_ext (X1.out.alloc' _) (Nat.le_refl _) gx hg.1.2.1, GrowN.step (l := []) hg.1 rfl⟩)
        clear hg gx
        go_wp2
        go_roundg (N.ends.length - (k + 1))
        case measure => omega
        case rel => exact ⟨k + 1, by omega, rfl, by go_num, by rw [HS.out], FI.out.1, by rw [HS.out, HAA.out]; exact FI.out.2⟩
      · have HS := Lib.hid (show lst E (k + 1) = l by simp only [lst]; rw [← HLL.out, ← HDD.out]; exact if_neg hlt2)
        by_cases hin : d = l
        · have HAA := Lib.hid (show idxs E l l (k + 1) = idxs E l l k ++ [(k : Int)] by simp only [idxs]; rw [← HDD.out]; exact if_pos ⟨by omega, by omega⟩)
          have hbq : (d == l) = true := by simpa using hin
          clear hin
          go_wp2_with (first | (go_at_call 100; (with_reducible refine (meMost_any OD.out.read (by have := HDL.out; omega)).mono ?_); rintro e _ ⟨rfl, rfl⟩; rw [HM.out]) | (at_builtin; refine wpList_app2 rfl (.tmp 33) (.tmp 35) 23 rfl w2g.heap.size 3 i0 (.int .i64 0) 1 8 Try.underlying23 I0.out.1 I0.out.2.1 I0.out.2.2.1 I0.out.2.2.2 rfl (by decide) _ (idxs E l l k).length (intCells (idxs E l l k)) rfl (T1.out.ext ((Ext.rfl' _).alloc' _)) (some ⟨w0l.heap.size, 0, none⟩) 1 1 (intCells [(k : Int)]) rfl (src_lits w0l [(k : Int)] 1 rfl 3) (by unfold maxLen; omega) (by omega) (by simp; omega) ?_))
          intro v' w4 hg
          have gx := T1.out.ext ((Ext.rfl' w0l).alloc' (.cells #[.int .i64 (k : Int)] 3))
          have FI := Lib.hid (show Ext w2g w4 ∧ GrowN w2g.heap.size w4 v' (idxs E l l k ++ [(k : Int)]) from
            ⟨grown_ext (X1.out.alloc' _) (Nat.le_refl _) gx hg.1.2.1, GrowN.step hg.1 rfl⟩)
          clear hg gx
          go_wp2
          go_roundg (N.ends.length - (k + 1))
          case measure => omega
          case rel => exact ⟨k + 1, by omega, rfl, by go_num, by rw [HS.out], FI.out.1, by rw [HS.out, HAA.out]; exact FI.out.2⟩
        · have HAA := Lib.hid (show idxs E l l (k + 1) = idxs E l l k by simp only [idxs]; rw [← HDD.out]; exact if_neg fun h => hin (by omega))
          have hbq : (d == l) = false := beq_eq_false_iff_ne.2 hin
          clear hin
          go_wp2_with (first | (go_at_call 100; (with_reducible refine (meMost_any OD.out.read (by have := HDL.out; omega)).mono ?_); rintro e _ ⟨rfl, rfl⟩; rw [HM.out]) | fail)
          go_roundg (N.ends.length - (k + 1))
          case measure => omega
          case rel => exact ⟨k + 1, by omega, rfl, by go_num, by rw [HS.out], X1.out, by rw [HS.out, HAA.out]; exact T1.out⟩
    · obtain rfl : k = N.ends.length := by omega
      have CI := Lib.hid (centres_in HG.out)
      rw [HC.out] at CI
      go_wp2
      go_ret2
      obtain ⟨bs, ho, hn, hb⟩ := T0.out.own CI.out
      exact ⟨_, bs, ret_mb D.out.symm, E0.out, by rw [ansOf_t HB.out, HC.out]; exact ho, hn, fun b hb' => by have := hb b hb'; have := K2.out.size; omega⟩
end Go.Proofs.Ytkeiaahlifdbiaa
