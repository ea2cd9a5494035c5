/- The contracts of both sides' MinimalBase. -/
import Derived.Test.YtgacbfblpkikkaaQz
import Derived.Test.YtgacbfblpkikkaaVnq
namespace Go.Proofs.Ytgacbfblpkikkaa
open Go.RowKit Go.Maps

theorem num_onto {same : Nat → Nat → Bool} : ∀ n k, k < cnt same n → ∃ v, v < n ∧ gi (num same n) v = (k : Int)
  | 0, k, h => by simp [cnt, numTo] at h
  | n + 1, k, h => by
    by_cases e : firstOf same n = n
    · by_cases hk : k < cnt same n
      · obtain ⟨v, hv, he⟩ := num_onto n k hk
        exact ⟨v, by omega, by rw [num_old hv]; exact he⟩
      · have h2 := (num_succ_rep (same := same) e).2
        obtain rfl : k = cnt same n := by omega
        exact ⟨n, by omega, cl_rep e⟩
    · have h2 := (num_succ_old (same := same) e).2
      obtain ⟨v, hv, he⟩ := num_onto (same := same) n k (by omega)
      exact ⟨v, by omega, by rw [num_old hv]; exact he⟩
/-- Classes that do not get finer. -/
structure StC (N : Net) (cl : List Int) : Prop where
  len : cl.length = N.ends.length
  im : ImIn cl N.ends.length
  used : Used cl
  same : ∀ u v, u < N.ends.length → v < N.ends.length → gi cl u = gi cl v → Like0 N u v ∧ LikeE N cl u v
theorem stc_tw {N : Net} (g : Good N) : StC N (seqC N (stOf N)) := by
  have hN := good_nodes g
  have hn : 0 < N.ends.length := g.1.1
  refine ⟨seqC_len N _, fun v hv => ?_, fun k hk => ?_, fun u v hu hv e => ?_⟩
  · rw [seqC_len] at hv
    exact seqC_in hv
  · have h1 := mny_eq (seqC N (stOf N))
    rw [seqC_num, maxI_num (equR N _ _) hn] at h1
    rw [seqC_num] at hk
    obtain ⟨v, hv, he⟩ := num_onto (same := seqR N (stOf N)) N.ends.length k (by omega)
    rw [← seqC_num] at he
    exact fib_nonempty.2 ⟨v, by rw [seqC_len]; exact hv, he⟩
  · have he := even_next hN hn (stOf_stable hN hn).1
    have e2 : gi (seqC N (stOf N + 1)) u = gi (seqC N (stOf N + 1)) v := by rw [he]; exact e
    exact likeS_iff.1 ((seq_same hu hv).1 e2)
theorem StC.under {N : Net} {cl : List Int} (h : StC N cl) {u v : Nat} (hu : u < N.ends.length) (hv : v < N.ends.length) (e : gi cl u = gi cl v) : under cl (gr N.ends u) = under cl (gr N.ends v) := by
  obtain ⟨⟨h1, _⟩, h3⟩ := h.same u v hu hv e
  refine ends_same (by rw [length_under, length_under]; exact h1) fun i hi => ?_
  rw [length_under] at hi
  obtain ⟨a, b⟩ := under_at cl (gr N.ends u) i hi
  obtain ⟨c, d⟩ := under_at cl (gr N.ends v) i (by omega)
  obtain ⟨x, y⟩ := h3 i hi
  rw [a, b, c, d]
  exact ⟨y, x⟩
theorem StC.cls {N : Net} {cl : List Int} (h : StC N cl) {v : Nat} (hv : v < N.ends.length) : ∃ z : Nat, gi cl v = (z : Int) ∧ z < mny cl := by
  have hvl : v < cl.length := by have := h.len; omega
  have h0 := (h.im v hvl).1
  have h1 := maxI_ge hvl
  have h2 := mny_eq cl
  exact ⟨(gi cl v).toNat, by omega, by omega⟩
theorem StC.rep {N : Net} {cl : List Int} (h : StC N cl) {z : Nat} (hz : z < mny cl) : fst cl (z : Int) < N.ends.length ∧ gi cl (fst cl (z : Int)) = (z : Int) := by
  obtain ⟨a, b, _⟩ := fst_of (h.used z hz)
  exact ⟨by have := h.len; omega, b⟩
theorem StC.good {N : Net} {cl : List Int} (h : StC N cl) (g : Good N) : Good (quotNet N cl (mny cl)) := by
  have hl := h.len
  have hw := good_w g
  obtain ⟨m1, m2⟩ := mny_le (n := cl.length) (by rw [hl]; exact h.im) (by have := g.1.1; omega)
  obtain ⟨q1, q2⟩ := quot_len N cl (mny cl)
  refine ⟨by rw [q1]; have := g.1.2; omega, fun v hv => ?_, ⟨.inl rfl, fun i hi => absurd hi (by simp [quotNet])⟩, by rw [q2, q1], fun j hj => ?_⟩
  · rw [q1] at hv
    obtain ⟨hu, hcu⟩ := h.rep hv
    obtain ⟨u, hue⟩ : ∃ u, u = fst cl (v : Int) := ⟨_, rfl⟩
    have hr := (quot_row N cl (mny cl) v hv).1
    rw [← hue] at hr hu hcu
    refine ⟨by rw [hr, length_under]; exact (g.2.1 u hu).1, fun i hi => ?_⟩
    rw [hr, length_under] at hi
    obtain ⟨⟨a, b, c, d⟩, e, f⟩ := (g.2.1 u hu).2 i hi
    obtain ⟨x, hx⟩ := Int.eq_ofNat_of_zero_le a
    obtain ⟨q, hq⟩ := Int.eq_ofNat_of_zero_le c
    rw [hx] at b d e f
    rw [hq] at d e f
    rw [Int.toNat_natCast] at d e f
    rw [Int.toNat_natCast] at e f
    have hxn : x < N.ends.length := by omega
    have hqn : q < (gr N.ends x).length := by omega
    obtain ⟨y, hy, hym⟩ := h.cls hxn
    obtain ⟨hu2, hcu2⟩ := h.rep hym
    obtain ⟨⟨s1, _⟩, s3⟩ := h.same (fst cl (y : Int)) x hu2 hxn (by rw [hcu2, hy])
    have hr2 := (quot_row N cl (mny cl) y hym).1
    have e1 : gn (gr (quotNet N cl (mny cl)).ends v) i = (y : Int) := by rw [hr, (under_at cl _ i hi).1, hx, Int.toNat_natCast]; exact hy
    have e2 : gp (gr (quotNet N cl (mny cl)).ends v) i = (q : Int) := by rw [hr, (under_at cl _ i hi).2, hq]
    have hqq : q < (gr N.ends (fst cl (y : Int))).length := by omega
    obtain ⟨t1, t2⟩ := s3 q hqq
    unfold JoinOK
    rw [e1, e2, Int.toNat_natCast, Int.toNat_natCast, hr2, (under_at cl _ q hqq).1, (under_at cl _ q hqq).2, t1, t2, e, f, Int.toNat_natCast]
    refine ⟨⟨by omega, by rw [q1]; omega, by omega, ?_⟩, hcu, rfl⟩
    rw [Int.toNat_natCast, hr2, length_under]
    omega
  · rw [q2] at hj
    rw [(quot_row N cl (mny cl) j hj).2]
    exact hw.irange _ (h.rep hj).1
theorem StC.pm {N : Net} {cl : List Int} (h : StC N cl) (g : Good N) : PmAns N (quotNet N cl (mny cl)) cl := by
  refine ⟨⟨g, h.good g⟩, h.len, fun v hv => ?_⟩
  obtain ⟨z, hz, hzm⟩ := h.cls hv
  obtain ⟨hu, hcu⟩ := h.rep hzm
  obtain ⟨r1, r2⟩ := quot_row N cl (mny cl) z hzm
  have hs := h.same v (fst cl (z : Int)) hv hu (by rw [hcu, hz])
  unfold PmAt NdIn
  rw [hz, Int.toNat_natCast, r1, r2, (quot_len N cl (mny cl)).1]
  exact ⟨⟨by omega, by omega⟩, hs.1.2, h.under hv hu (by rw [hcu, hz])⟩
theorem tw_quo {N : Net} : QuoB N (twAns N) ↔ Good N := by
  refine ⟨fun k => k.1.1, fun g => ?_⟩
  have s := stc_tw g
  rw [twAns_t g]
  exact ⟨⟨g, s.len, s.im⟩, s.used, s.pm g⟩
noncomputable def mbAns (N : Net) : Net := quoAns N (twAns N)
theorem mbAns_t {N : Net} (g : Good N) : mbAns N = downNet N (seqC N (stOf N)) (mny (seqC N (stOf N))) := by
  have s := stc_tw g
  unfold mbAns
  rw [quoAns_t (tw_quo.2 g), twAns_t g, downNet_quot s.im s.len s.used]
theorem mbAns_f {N : Net} (g : ¬ Good N) : mbAns N = zeroNet := quoAns_f fun k => g k.1.1
theorem mbAns_small (N : Net) : (mbAns N).small := quoAns_small N _

set_option maxHeartbeats 3200000 in
set_option maxRecDepth 100000 in
theorem minimalBase_any {w : World} {v : Value} {N : Net} (h : NetAt w v N) :
    Calls Try.prog 49 #[v] w fun e w' => ∃ v' bs, e = .returned (.tuple #[v', .bool (dec (Good N))]) ∧ Ext w w' ∧ OwnNet w' v' (mbAns N) bs ∧ Fresh w bs := by
  have HN := Lib.hid h
  obtain ⟨v0, v1, v2, rfl, -, -, -⟩ := h
  have HX := Lib.hid (boxed2_ext w v0 v1 v2)
  have HR := Lib.hid (boxed2_row w v0 v1 v2)
  have HQ := Lib.hid (boxed2_res w v0 v1 v2)
  have D := Lib.hid (show dec (QuoB N (twAns N)) = dec (Good N) by
    by_cases g : Good N
    · rw [dec_true g, dec_true (tw_quo.2 g)]
    · rw [dec_false g, dec_false fun k => g (tw_quo.1 k)])
  go_enter Try.func49, Try.ntmps49
  go_wp2_with fail
  (with_reducible refine (twinClasses_any (HN.out.ext HX.out)).mono ?_)
  rintro e w1 ⟨z, bs, rfl, hx1, ho, hf⟩
  have K1 := Lib.hid (HX.out.trans' hx1)
  have R1 := Lib.hid (row_ext HR.out hx1)
  have Q1 := Lib.hid (row_ext HQ.out hx1)
  have HO := Lib.hid ho.read
  clear hx1 ho hf
  obtain ⟨p0, p1, p2, -, -, -⟩ := row3_facts R1.out
  go_wp2_with fail
  clear p0 p1 p2
  (with_reducible refine (quotientOf_any (HN.out.ext K1.out) HO.out).mono ?_)
  rintro e w2 ⟨z2, bs2, rfl, hx2, ho2, hf2⟩
  rw [D.out]
  obtain ⟨a0, c0, a1, c1, a2, c2, rfl⟩ := ho2.agg
  have K2 := Lib.hid (K1.out.trans' hx2)
  have Q2 := Lib.hid (row_ext Q1.out hx2)
  have HSZ := Lib.hid (show ∀ x ∈ bs2, w.heap.size + 2 ≤ x from fun x hx => by have := hf2.2 x hx; have := Q1.out.lt; omega)
  clear hx2
  obtain ⟨q0, q1, q2, t0, t1, t2⟩ := row3_facts Q2.out
  go_wp2
  obtain ⟨c0', c1', c2'⟩ := close_net K2.out ho2 hf2.1 HSZ.out
  refine bodyPost_ret (v := .tuple #[.agg #[.slice a0 (quoAns N (twAns N)).ends.length c0, .slice a1 (quoAns N (twAns N)).ids.length c1, .slice a2 (quoAns N (twAns N)).inputs.length c2], .bool (dec (Good N))]) (by simp [results, Try.results49, go_sem, q0, q1, q2]) rfl ⟨_, bs2, rfl, c0', c1', c2'⟩

set_option maxHeartbeats 3200000 in
set_option maxRecDepth 100000 in
theorem coBase_any {w : World} {v : Value} {N : Net} (h : NetAt w v N) (g : Good N) :
    Calls Try.prog 97 #[v] w fun e w' => ∃ v' bs, e = .returned v' ∧ Ext w w' ∧ OwnNet w' v' (mbAns N) bs ∧ Fresh w bs := by
  have HN := Lib.hid h
  obtain ⟨v0, v1, v2, rfl, -, -, -⟩ := h
  have HX := Lib.hid (boxed2_ext w v0 v1 v2)
  have HR := Lib.hid (boxed2_row w v0 v1 v2)
  have HQ := Lib.hid (boxed2_res w v0 v1 v2)
  have s := stc_tw g
  have h40 := g.1.2
  have h01 := g.1.1
  have HM := Lib.hid (mbAns_t g)
  have hN := good_nodes g
  obtain ⟨cl, hcl⟩ : ∃ cl, cl = seqC N (stOf N) := ⟨_, rfl⟩
  rw [← hcl] at s HM
  have HCL := Lib.hid hcl
  have HG := Lib.hid g
  have S := Lib.hid s
  have hl := s.len
  have HRG := Lib.hid (show ∀ i, i < cl.length → 0 ≤ gi cl i ∧ gi cl i ≤ 1048576 from fun i hi => by have := s.im i hi; omega)
  have hmy := mny_le (n := cl.length) (by rw [hl]; exact s.im) (by omega)
  have HMC := Lib.hid (show ImIn cl (mny cl) from fun i hi => by
    have h1 := s.im i hi
    have h2 := maxI_ge hi
    have h3 := mny_eq cl
    omega)
  have hl1 : 0 < cl.length := by omega
  have hmc4 : mny cl ≤ 1048576 := by omega
  have HMX := Lib.hid (mny_eq cl)
  have hn1 : N.ends.length ≤ 1048576 := by omega
  have hn0 : 0 < N.ends.length := h01
  clear hcl g s
  go_enter Try.func97, Try.ntmps97
  go_wp2_with fail
  (with_reducible refine (viTwins_any (HN.out.ext HX.out) hN hn0 hn1).mono ?_)
  rintro e w1 ⟨b, rfl, hx1, ho, hf⟩
  rw [← HCL.out] at ho
  have K1 := Lib.hid (HX.out.trans' hx1)
  have R1 := Lib.hid (row_ext HR.out hx1)
  have Q1 := Lib.hid (row_ext HQ.out hx1)
  have HO := Lib.hid ho.read
  rw [← hl] at *
  clear hx1 ho hf hN
  obtain ⟨p0, p1, p2, -, -, -⟩ := row3_facts R1.out
  have mkS : ∀ w' : World, Ext w1 w' → w'.cell? ⟨w.heap.size, 0, none⟩ = some v0 ∧ w'.cell? ⟨w.heap.size, 1, none⟩ = some v1 ∧ w'.cell? ⟨w.heap.size, 2, none⟩ = some v2 := fun w' hw => ⟨hw.cell' p0, hw.cell' p1, hw.cell' p2⟩
  clear p0 p1 p2
  go_wp2_with fail
  refine wp_region_gate (n := 5) (S := fun w' => w'.cell? ⟨w.heap.size, 0, none⟩ = some v0 ∧ w'.cell? ⟨w.heap.size, 1, none⟩ = some v1 ∧ w'.cell? ⟨w.heap.size, 2, none⟩ = some v2) (by kernel_rfl) (mkS _ (Ext.rfl' w1).drew') (fun hHeld => ?_)
  refine wpAnyG_take (i := 0) (v := ?_) rfl (by decide +kernel) (by kernel_rfl) (by decide) (by kernel_rfl) (by kernel_rfl) (fun _ _ _ h => h) (Or.inl ⟨by rfl, ?_⟩) hHeld ?_
  rotate_left 1
  · (intro w' hSw; (try dsimp only at hSw); go_simp) <;> with_reducible rfl
  simp only [Act.put]
  refine wpAnyG_take (i := 1) (v := ?_) rfl (by decide +kernel) (by kernel_rfl) (by decide) (by kernel_rfl) (by kernel_rfl) (fun _ _ _ h => h) (Or.inl ⟨by rfl, ?_⟩) hHeld ?_
  rotate_left 1
  · (intro w' hSw; (try dsimp only at hSw); go_simp) <;> with_reducible rfl
  simp only [Act.put]
  refine wpAnyG_take (i := 2) (v := ?_) rfl (by decide +kernel) (by kernel_rfl) (by decide) (by kernel_rfl) (by kernel_rfl) (fun _ _ _ h => h) (Or.inl ⟨by rfl, ?_⟩) hHeld ?_
  rotate_left 1
  · (intro w' hSw; (try dsimp only at hSw); go_simp) <;> with_reducible rfl
  simp only [Act.put]
  clear hHeld
  refine wpAnyG_one (i := 3) rfl (by kernel_rfl) rfl (fun K hK => ?_)
  go_simp
  (with_reducible refine (viMany_any (HO.out.ext (Ext.rfl' w1).drew') HRG.out hl1).mono ?_)
  rintro e w3 ⟨rfl, rfl⟩
  refine hK.out _ _ (fun _ => mkS _ (Ext.rfl' w1).drew') (fun _ => ?_)
  clear hK K
  refine wpAnyG_one (i := 4) rfl (by kernel_rfl) rfl (fun K hK => ?_)
  rw [← HMX.out]
  go_simp
  (with_reducible refine (specQuot_any (c := mny cl) (HN.out.ext (K1.out.trans' (Ext.rfl' w1).drew')) (HO.out.ext (Ext.rfl' w1).drew') HG.out S.out.len HMC.out hmc4).mono ?_)
  rintro e w4 ⟨z, bs, rfl, hx4, ho, hfr⟩
  have X4 := Lib.hid ((Ext.rfl' w1).drew'.trans' hx4)
  rw [← HM.out] at ho
  obtain ⟨a0, c0, a1, c1, a2, c2, rfl⟩ := ho.agg
  refine hK.out _ _ (fun _ => mkS _ X4.out) (fun _ => ?_)
  clear hK K
  have K4 := Lib.hid (K1.out.trans' X4.out)
  have Q4 := Lib.hid (row_ext Q1.out X4.out)
  have HSZ := Lib.hid (show ∀ x ∈ bs, w.heap.size + 2 ≤ x from fun x hx => by have h1 := hfr.2 x hx; have h2 := Q1.out.lt; have h3 := (Ext.rfl' w1).drew'.size; omega)
  clear hx4
  obtain ⟨q0, q1, q2, t0, t1, t2⟩ := row3_facts Q4.out
  refine wpAnyG_one (i := 5) rfl (by kernel_rfl) rfl (fun K hK => ?_)
  go_simp
  refine hK.out _ _ (fun h => absurd rfl h) (fun _ => ?_)
  clear hK K
  refine wpAnyG_done (by kernel_rfl) ?_ _
  go_wp2
  obtain ⟨c0', c1', c2'⟩ := close_net K4.out ho hfr.1 HSZ.out
  refine bodyPost_ret (v := .agg #[.slice a0 (mbAns N).ends.length c0, .slice a1 (mbAns N).ids.length c1, .slice a2 (mbAns N).inputs.length c2]) (by simp [results, Try.results97, go_sem, q0, q1, q2]) rfl ⟨_, bs, rfl, c0', c1', c2'⟩

set_option maxHeartbeats 3200000 in
set_option maxRecDepth 100000 in
theorem specMinimalBase_any {w : World} {v : Value} {N : Net} (h : NetAt w v N) :
    Calls Try.prog 48 #[v] w fun e w' => ∃ v' bs, e = .returned (.tuple #[v', .bool (dec (Good N))]) ∧ Ext w w' ∧ OwnNet w' v' (mbAns N) bs ∧ Fresh w bs := by
  have HN := Lib.hid h
  obtain ⟨v0, v1, v2, rfl, -, -, -⟩ := h
  have HX := Lib.hid (boxed2_ext w v0 v1 v2)
  have HR := Lib.hid (boxed2_row w v0 v1 v2)
  have HQ := Lib.hid (boxed2_res w v0 v1 v2)
  by_cases g : Good N
  case neg =>
    have G := Lib.hid (dec_false g)
    have M := Lib.hid (mbAns_f g)
    clear g
    go_enter Try.func48, Try.ntmps48
    go_wp2_with fail
    (with_reducible refine (neGood_any (HN.out.ext HX.out)).mono ?_)
    rintro e w1 ⟨rfl, hx1⟩
    rw [G.out]
    have K1 := Lib.hid (HX.out.trans' hx1)
    have Q1 := Lib.hid (row_ext HQ.out hx1)
    clear hx1
    obtain ⟨q0, q1, q2, t0, t1, t2⟩ := row3_facts Q1.out
    go_wp2
    refine bodyPost_ret (v := .tuple #[znet, .bool false]) (by simp [results, Try.results48, go_sem, q0, q1, q2, znet]) rfl ⟨_, [], by rw [G.out], store3_ext K1.out (by omega) _ _ _, by rw [M.out]; exact own_zero _, Fresh.nil _⟩
  have G := Lib.hid (dec_true g)
  have HG := Lib.hid g
  clear g
  go_enter Try.func48, Try.ntmps48
  go_wp2_with fail
  (with_reducible refine (neGood_any (HN.out.ext HX.out)).mono ?_)
  rintro e w1 ⟨rfl, hx1⟩
  rw [G.out]
  have K1 := Lib.hid (HX.out.trans' hx1)
  have R1 := Lib.hid (row_ext HR.out hx1)
  have Q1 := Lib.hid (row_ext HQ.out hx1)
  clear hx1
  obtain ⟨p0, p1, p2, -, -, -⟩ := row3_facts R1.out
  go_wp2_with fail
  clear p0 p1 p2
  (with_reducible refine (coBase_any (HN.out.ext K1.out) HG.out).mono ?_)
  rintro e w2 ⟨z2, bs2, rfl, hx2, ho2, hf2⟩
  obtain ⟨a0, c0, a1, c1, a2, c2, rfl⟩ := ho2.agg
  have K2 := Lib.hid (K1.out.trans' hx2)
  have Q2 := Lib.hid (row_ext Q1.out hx2)
  have HSZ := Lib.hid (show ∀ x ∈ bs2, w.heap.size + 2 ≤ x from fun x hx => by have := hf2.2 x hx; have := Q1.out.lt; omega)
  clear hx2
  obtain ⟨q0, q1, q2, t0, t1, t2⟩ := row3_facts Q2.out
  go_wp2
  obtain ⟨c0', c1', c2'⟩ := close_net K2.out ho2 hf2.1 HSZ.out
  refine bodyPost_ret (v := .tuple #[.agg #[.slice a0 (mbAns N).ends.length c0, .slice a1 (mbAns N).ids.length c1, .slice a2 (mbAns N).inputs.length c2], .bool true]) (by simp [results, Try.results48, go_sem, q0, q1, q2]) rfl ⟨_, bs2, by rw [G.out], c0', c1', c2'⟩
end Go.Proofs.Ytgacbfblpkikkaa
