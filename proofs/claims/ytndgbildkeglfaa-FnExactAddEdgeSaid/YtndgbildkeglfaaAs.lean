/- The contracts of both AddStub. -/
import Derived.Test.YtndgbildkeglfaaPut
import Derived.Test.YtndgbildkeglfaaNb
namespace Go.Proofs.Ytndgbildkeglfaa
open Go.RowKit

def StubB (N : Net) (x : Int) : Prop := NodeAns N x ∧ Good (stubNet N x.toNat)
noncomputable def stubAns (N : Net) (x : Int) : Net := if dec (StubB N x) = true then stubNet N x.toNat else zeroNet
theorem stubAns_t {N : Net} {x : Int} (h : StubB N x) : stubAns N x = stubNet N x.toNat := by simp [stubAns, dec_true h]
theorem stubAns_f {N : Net} {x : Int} (h : ¬ StubB N x) : stubAns N x = zeroNet := by simp [stubAns, dec_false h]
theorem stubAns_small (N : Net) (x : Int) : (stubAns N x).small := by
  by_cases h : StubB N x
  · rw [stubAns_t h]; exact good_small h.2
  · rw [stubAns_f h]; exact zero_small
theorem node_nat {N : Net} {x : Int} (h : NodeAns N x) : ∃ k : Nat, x = k ∧ k < N.ends.length := ⟨x.toNat, by have := h.2.1; omega, by have := h.2; unfold NodeOK at this; omega⟩

set_option maxHeartbeats 1600000 in
set_option maxRecDepth 100000 in
theorem specAddStub_any {w : World} {v : Value} {N : Net} (x : Int) (h : NetAt w v N) :
    Calls Try.prog 49 #[v, .int .i64 x] w fun e w' => ∃ v' bs, e = .returned (.tuple #[v', .bool (dec (StubB N x))]) ∧ Ext w w' ∧ OwnNet w' v' (stubAns N x) bs ∧ Fresh w bs := by
  have HN := Lib.hid h
  obtain ⟨v0, v1, v2, rfl, hE, hI, hP⟩ := h
  clear hE hI hP
  have HX := Lib.hid (boxed2_ext w v0 v1 v2)
  have HR := Lib.hid (boxed2_row w v0 v1 v2)
  have HQ := Lib.hid (boxed2_res w v0 v1 v2)
  by_cases hg : NodeAns N x
  · have G := Lib.hid (dec_true hg)
    have Gs := Lib.hid (good_small hg.1)
    obtain ⟨k, rfl, hk⟩ := node_nat hg
    have GB : Hid (Good (stubNet N k) ↔ StubB N k) := ⟨fun j => ⟨hg, j⟩, fun j => j.2⟩
    clear hg
    go_enter Try.func49, Try.ntmps49
    go_wp2_with fail
    (with_reducible refine (neNode_any _ (HN.out.ext HX.out)).mono ?_)
    rintro e w1 ⟨rfl, hw⟩
    rw [G.out]
    have K1 := Lib.hid (HX.out.trans' hw)
    have Q1 := Lib.hid (row_ext HQ.out hw)
    obtain ⟨p0, p1, p2, _, _, _⟩ := row3_facts (row_ext HR.out hw)
    clear hw
    go_wp2_with fail
    (with_reducible refine (neStub_any _ hk (HN.out.ext K1.out) Gs.out).mono ?_)
    rintro e w2 ⟨y, bs, rfl, hw, ho, hf⟩
    have K2 := Lib.hid (K1.out.trans' hw)
    have Q2 := Lib.hid (row_ext Q1.out hw)
    have F2 := Lib.hid (show ∀ b ∈ bs, w.heap.size + 2 ≤ b from fun b hb => by have := hf.2 b hb; have := Q1.out.lt; omega)
    obtain ⟨a0, c0, a1, c1, a2, c2, rfl⟩ := ho.agg
    have O2 := Lib.hid ho
    have N2 := Lib.hid hf.1
    clear hw ho hf p0 p1 p2
    by_cases hb : StubB N k
    · have B := Lib.hid hb
      clear hb
      go_wp2_with fail
      (with_reducible refine (neIf_t O2.out.read (GB.out.2 B.out)).mono ?_)
      rintro e w4 ⟨rfl, hw⟩
      have K4 := Lib.hid (K2.out.trans' hw)
      obtain ⟨u0, u1, u2, s0, s1, s2⟩ := row3_facts (row_ext Q2.out hw)
      have O4 := Lib.hid (O2.out.ext hw)
      have D := Lib.hid (dec_true B.out)
      have E := Lib.hid (stubAns_t B.out)
      clear hw
      go_wp2
      refine bodyPost_ret (v := .tuple #[.agg #[.slice a0 (stubNet N k).ends.length c0, .slice a1 (stubNet N k).ids.length c1, .slice a2 (stubNet N k).inputs.length c2], .bool true]) (by simp [results, Try.results49, go_sem, u0, u1, u2]) rfl ?_
      have hc := close_net K4.out O4.out N2.out F2.out
      exact ⟨_, bs, ret_net D.out.symm, hc.1, by rw [E.out]; exact hc.2.1, hc.2.2⟩
    · have B := Lib.hid hb
      clear hb
      go_wp2_with fail
      (with_reducible refine (neIf_f O2.out.read (fun j => absurd (GB.out.1 j) B.out)).mono ?_)
      rintro e w4 ⟨rfl, hw⟩
      unfold znet
      have K4 := Lib.hid (K2.out.trans' hw)
      obtain ⟨u0, u1, u2, s0, s1, s2⟩ := row3_facts (row_ext Q2.out hw)
      have D := Lib.hid (dec_false B.out)
      have E := Lib.hid (stubAns_f B.out)
      clear hw
      go_wp2
      refine bodyPost_ret (v := .tuple #[znet, .bool false]) (by simp [results, Try.results49, go_sem, u0, u1, u2, znet]) rfl ⟨_, [], ret_net D.out.symm, store3_ext K4.out (by omega) _ _ _, by rw [E.out]; exact own_zero _, Fresh.nil _⟩
  · have G := Lib.hid (dec_false hg)
    have D : Hid (dec (StubB N x) = false) := dec_false fun k => hg k.1
    have E : Hid (stubAns N x = zeroNet) := stubAns_f fun k => hg k.1
    clear hg
    go_enter Try.func49, Try.ntmps49
    go_wp2_with (first | (go_at_call 79; (with_reducible refine (neNode_any _ (HN.out.ext HX.out)).mono ?_); rintro e w1 ⟨rfl, hw⟩; rw [G.out]; have K1 := Lib.hid (HX.out.trans' hw); obtain ⟨q0, q1, q2, t0, t1, t2⟩ := row3_facts (row_ext HQ.out hw); clear hw))
    refine bodyPost_ret (v := .tuple #[znet, .bool false]) (by simp [results, Try.results49, go_sem, q0, q1, q2, znet]) rfl ⟨_, [], ret_net D.out.symm, store3_ext K1.out (by omega) _ _ _, by rw [E.out]; exact own_zero _, Fresh.nil _⟩

set_option maxHeartbeats 3200000 in
set_option maxRecDepth 100000 in
theorem addStub_any {w : World} {v : Value} {N : Net} (x : Int) (h : NetAt w v N) :
    Calls Try.prog 50 #[v, .int .i64 x] w fun e w' => ∃ v' bs, e = .returned (.tuple #[v', .bool (dec (StubB N x))]) ∧ Ext w w' ∧ OwnNet w' v' (stubAns N x) bs ∧ Fresh w bs := by
  have HN := Lib.hid h
  obtain ⟨v0, v1, v2, rfl, hE, hI, hP⟩ := h
  clear hE hI hP
  have HX := Lib.hid (boxed2_ext w v0 v1 v2)
  have HR := Lib.hid (boxed2_row w v0 v1 v2)
  have HQ := Lib.hid (boxed2_res w v0 v1 v2)
  obtain ⟨i1, hj, hy0, hy1, hy2⟩ := info_parts Try.info44
  have I1 := Lib.hid (And.intro hj (And.intro hy0 (And.intro hy1 hy2)))
  clear hj hy0 hy1 hy2
  by_cases hg : Good N
  · have G := Lib.hid (dec_true hg)
    have Gs := Lib.hid (good_small hg)
    by_cases hn : NodeOK N x
    · have G2 := Lib.hid (dec_true hn)
      obtain ⟨k, rfl, hk⟩ := node_nat ⟨hg, hn⟩
      have GB : Hid (Good (stubNet N k) ↔ StubB N k) := ⟨fun j => ⟨⟨hg, hn⟩, j⟩, fun j => j.2⟩
      have hlen := (good_small hg).2.1 k
      have hlen0 := (good_small hg).1
      have hp := Lib.hid (show inI64 (k : Int) ∧ inI64 ((gr N.ends k).length : Int) by unfold inI64; omega)
      clear hg hn
      go_enter Try.func50, Try.ntmps50
      go_wp2_with fail
      (with_reducible refine (isNetwork_any (HN.out.ext HX.out)).mono ?_)
      rintro e w1 ⟨rfl, hw⟩
      rw [G.out]
      have K1 := Lib.hid (HX.out.trans' hw)
      have R1 := Lib.hid (row_ext HR.out hw)
      have Q1 := Lib.hid (row_ext HQ.out hw)
      obtain ⟨p0, p1, p2, _, _, _⟩ := row3_facts R1.out
      clear hw
      go_wp2_with fail
      (with_reducible refine (hasNode_any _ (HN.out.ext K1.out)).mono ?_)
      rintro e w1' ⟨rfl, hw⟩
      rw [G2.out]
      have K1' := Lib.hid (K1.out.trans' hw)
      have R1' := Lib.hid (row_ext R1.out hw)
      have Q1' := Lib.hid (row_ext Q1.out hw)
      clear hw p0 p1 p2
      obtain ⟨p0, p1, p2, _, _, _⟩ := row3_facts R1'.out
      go_wp2_with fail
      (with_reducible refine (copyNetwork_any (HN.out.ext K1'.out) Gs.out).mono ?_)
      rintro e w2 ⟨y, bs, rfl, hw, ho, hf⟩
      obtain ⟨a0, c0, a1, c1, a2, c2, rfl⟩ := ho.agg
      obtain ⟨W, hW⟩ : ∃ W, W = w2.alloc (.cells #[.slice a0 N.ends.length c0, .slice a1 N.ids.length c1, .slice a2 N.inputs.length c2] 30) := ⟨_, rfl⟩
      have hA : Ext w2 W := by rw [hW]; exact (Ext.rfl' w2).alloc' _
      have M2 : Hid (W.rowIs w2.heap.size 30 3 (tri (.slice a0 N.ends.length c0) (.slice a1 N.ids.length c1) (.slice a2 N.inputs.length c2))) := by rw [hW]; exact row3_made w2 _ _ _ 30
      have K2 := Lib.hid ((K1'.out.trans' hw).trans' hA)
      have Q2 := Lib.hid (row_ext (row_ext Q1'.out hw) hA)
      have hz2 := Lib.hid hw.size
      have hge := Lib.hid (show ∀ b ∈ bs, w.heap.size + 2 ≤ b from fun b hb => by have := hf.2 b hb; have := Q1'.out.lt; omega)
      have hBX := Lib.hid ho.lt
      obtain ⟨b, c, ax, cx, t, hv, hat⟩ := own_at (ho.ext hA) hf.1 hk
      obtain ⟨rfl, rfl⟩ : a0 = some ⟨b, 0, none⟩ ∧ c0 = c := by simpa using hv
      have FA := Lib.hid hat
      have hm : Hid (w2.heap.size ∉ bs) := fun h => absurd (hBX.out _ h) (by omega)
      clear hw ho hf hA hv hat p0 p1 p2
      go_wp2_with fail
      rw [← hW]
      clear hW
      have mkS : ∀ w' : World, Ext W w' → w'.cell? ⟨w2.heap.size, 0, none⟩ = some (.slice (some ⟨b, 0, none⟩) (N).ends.length c0) ∧ w'.cell? ⟨b, k, none⟩ = some (.slice ax (gr (N).ends k).length cx) := fun w' h => ⟨h.cell' (row3_facts M2.out).1, h.cell' FA.out.cell⟩
      refine wp_region_gate (n := 19) (S := fun w' => w'.cell? ⟨w2.heap.size, 0, none⟩ = some (.slice (some ⟨b, 0, none⟩) (N).ends.length c0) ∧ w'.cell? ⟨b, k, none⟩ = some (.slice ax (gr (N).ends k).length cx)) (by kernel_rfl) (mkS _ (Ext.rfl' W).drew') (fun hHeld => ?_)
      iterate 16 (
        (first
          | refine wpAnyG_take (i := 0) (v := ?_) rfl (by decide +kernel) (by kernel_rfl) (by decide) (by kernel_rfl) (by kernel_rfl) (fun _ _ _ h => h) (Or.inl ⟨by rfl, ?_⟩) hHeld ?_
          | refine wpAnyG_take (i := 1) (v := ?_) rfl (by decide +kernel) (by kernel_rfl) (by decide) (by kernel_rfl) (by kernel_rfl) (fun _ _ _ h => h) (Or.inl ⟨by rfl, ?_⟩) hHeld ?_
          | refine wpAnyG_take (i := 2) (v := ?_) rfl (by decide +kernel) (by kernel_rfl) (by decide) (by kernel_rfl) (by kernel_rfl) (fun _ _ _ h => h) (Or.inl ⟨by rfl, ?_⟩) hHeld ?_
          | refine wpAnyG_take (i := 3) (v := ?_) rfl (by decide +kernel) (by kernel_rfl) (by decide) (by kernel_rfl) (by kernel_rfl) (fun _ _ _ h => h) (Or.inl ⟨by rfl, ?_⟩) hHeld ?_
          | refine wpAnyG_take (i := 4) (v := ?_) rfl (by decide +kernel) (by kernel_rfl) (by decide) (by kernel_rfl) (by kernel_rfl) (fun _ _ _ h => h) (Or.inl ⟨by rfl, ?_⟩) hHeld ?_
          | refine wpAnyG_take (i := 5) (v := ?_) rfl (by decide +kernel) (by kernel_rfl) (by decide) (by kernel_rfl) (by kernel_rfl) (fun _ _ _ h => h) (Or.inl ⟨by rfl, ?_⟩) hHeld ?_
          | refine wpAnyG_take (i := 6) (v := ?_) rfl (by decide +kernel) (by kernel_rfl) (by decide) (by kernel_rfl) (by kernel_rfl) (fun _ _ _ h => h) (Or.inl ⟨by rfl, ?_⟩) hHeld ?_
          | refine wpAnyG_take (i := 7) (v := ?_) rfl (by decide +kernel) (by kernel_rfl) (by decide) (by kernel_rfl) (by kernel_rfl) (fun _ _ _ h => h) (Or.inl ⟨by rfl, ?_⟩) hHeld ?_
          | refine wpAnyG_take (i := 8) (v := ?_) rfl (by decide +kernel) (by kernel_rfl) (by decide) (by kernel_rfl) (by kernel_rfl) (fun _ _ _ h => h) (Or.inl ⟨by rfl, ?_⟩) hHeld ?_
          | refine wpAnyG_take (i := 9) (v := ?_) rfl (by decide +kernel) (by kernel_rfl) (by decide) (by kernel_rfl) (by kernel_rfl) (fun _ _ _ h => h) (Or.inl ⟨by rfl, ?_⟩) hHeld ?_
          | refine wpAnyG_take (i := 10) (v := ?_) rfl (by decide +kernel) (by kernel_rfl) (by decide) (by kernel_rfl) (by kernel_rfl) (fun _ _ _ h => h) (Or.inl ⟨by rfl, ?_⟩) hHeld ?_
          | refine wpAnyG_take (i := 11) (v := ?_) rfl (by decide +kernel) (by kernel_rfl) (by decide) (by kernel_rfl) (by kernel_rfl) (fun _ _ _ h => h) (Or.inl ⟨by rfl, ?_⟩) hHeld ?_
          | refine wpAnyG_take (i := 12) (v := ?_) rfl (by decide +kernel) (by kernel_rfl) (by decide) (by kernel_rfl) (by kernel_rfl) (fun _ _ _ h => h) (Or.inl ⟨by rfl, ?_⟩) hHeld ?_
          | refine wpAnyG_take (i := 13) (v := ?_) rfl (by decide +kernel) (by kernel_rfl) (by decide) (by kernel_rfl) (by kernel_rfl) (fun _ _ _ h => h) (Or.inl ⟨by rfl, ?_⟩) hHeld ?_
          | refine wpAnyG_take (i := 14) (v := ?_) rfl (by decide +kernel) (by kernel_rfl) (by decide) (by kernel_rfl) (by kernel_rfl) (fun _ _ _ h => h) (Or.inl ⟨by rfl, ?_⟩) hHeld ?_
          | refine wpAnyG_take (i := 15) (v := ?_) rfl (by decide +kernel) (by kernel_rfl) (by decide) (by kernel_rfl) (by kernel_rfl) (fun _ _ _ h => h) (Or.inl ⟨by rfl, ?_⟩) hHeld ?_
        )
        rotate_left 1
        · (intro w' hSw; (try dsimp only at hSw); go_simp) <;> with_reducible rfl
        simp only [Act.put, List.setIfInBounds_toArray])
      refine wpAnyG_one (i := 16) rfl (by kernel_rfl) rfl (fun K hK => ?_)
      go_simp
      refine hK.out _ _ (fun _ => mkS _ (by first | exact (Ext.rfl' W).drew'.alloc' _ | exact ((Ext.rfl' W).alloc' _).drew')) (fun _ => ?_)
      clear hK K
      refine wpAnyG_one (i := 17) rfl (by kernel_rfl) rfl (fun K hK => ?_)
      refine wp_app2 (.tmp 26) (.tmp 35) 70 rfl 0 44 i1 (.agg #[.int .i64 0, .int .i64 0]) 2 16 Try.underlying70 I1.out.1 I1.out.2.1 I1.out.2.2.1 I1.out.2.2.2 rfl (by decide) (.slice ax (gr (N).ends k).length cx) (gr (N).ends k).length (endCells (gr (N).ends k)) rfl ((FA.out.row.ext (by first | exact (Ext.rfl' W).drew'.alloc' _ | exact ((Ext.rfl' W).alloc' _).drew')).owns (fun _ _ => Nat.zero_le _)) (some ⟨W.heap.size, 0, none⟩) 1 1 [.int .i64 ((k : Int)), .int .i64 (((gr N.ends k).length : Int))] rfl (by first | exact src_two W.drew _ _ 44 rfl rfl | exact src_two W _ _ 44 rfl rfl | exact src_drew (src_two W _ _ 44 rfl rfl)) (by unfold maxLen; omega) (by omega) (Nat.zero_le _) ?_
      intro v' w1s hg
      have PUs := Lib.hid (FA.out.put (p := ((k : Int), ((gr N.ends k).length : Int))) (by first | exact (Ext.rfl' W).drew'.alloc' _ | exact ((Ext.rfl' W).alloc' _).drew') hp.out hg)
      obtain ⟨ays, cys, rfl⟩ := PUs.out.form
      have hmb := hm.out
      have MZ := Lib.hid (PUs.out.row hmb M2.out)
      have cz := (row3_facts MZ.out.1).1
      have f1 := PUs.out.cell
      have f2 := PUs.out.frozen
      clear hg hmb
      refine hK.out _ _ (fun _ => ⟨cz, f1⟩) (fun hHeld' => ?_)
      have hHeld := hHeld' (by decide)
      clear hK K hHeld'
      (
        (first
          | refine wpAnyG_take (i := 18) (v := ?_) rfl (by decide +kernel) (by kernel_rfl) (by decide) (by kernel_rfl) (by kernel_rfl) (fun _ _ _ h => h) (Or.inl ⟨by rfl, ?_⟩) hHeld ?_
        )
        rotate_left 1
        · (intro w' hSw; (try dsimp only at hSw); go_simp) <;> with_reducible rfl
        simp only [Act.put, List.setIfInBounds_toArray])
      refine wpAnyG_one (i := 19) rfl (by kernel_rfl) rfl (fun K hK => ?_)
      go_simp
      refine hK.out _ _ (fun h => absurd rfl h) (fun _ => ?_)
      clear hK K
      refine wpAnyG_done (by kernel_rfl) ?_ _
      clear hHeld cz f1 f2 mkS MZ
      have MS := Lib.hid (PUs.out.row hm.out M2.out).2
      have QS := Lib.hid (PUs.out.row (fun h => by have := hge.out _ h; omega) Q2.out).2
      have K3 := Lib.hid (PUs.out.ext w K2.out fun y hy => by have := hge.out y hy; omega)
      obtain ⟨ds, n1, n2, n3⟩ := PUs.out.net
      have O3 : Hid (OwnNet _ _ (stubNet N k) ds) := n1
      have D3 : Hid (ds.Nodup ∧ ∀ y ∈ ds, w.heap.size + 2 ≤ y) := ⟨n2, fun y hy => by rcases n3 y hy with h | h; exact hge.out y h; have := Q2.out.lt; omega⟩
      obtain ⟨r0, r1, r2, _, _, _⟩ := row3_facts MS.out
      clear n1 n2 n3
      by_cases hb : StubB N k
      · have B := Lib.hid hb
        clear hb
        go_wp2_with fail
        (with_reducible refine (networkOrNone_t O3.out.read (GB.out.2 B.out)).mono ?_)
        rintro e w4 ⟨rfl, hw⟩
        have K4 := Lib.hid (K3.out.trans' hw)
        obtain ⟨u0, u1, u2, s0, s1, s2⟩ := row3_facts (row_ext QS.out hw)
        have O4 := Lib.hid (O3.out.ext hw)
        have D := Lib.hid (dec_true B.out)
        have E := Lib.hid (stubAns_t B.out)
        clear hw r0 r1 r2
        go_wp2
        refine bodyPost_ret (v := .tuple #[.agg #[.slice (some ⟨b, 0, none⟩) N.ends.length c0, .slice a1 N.ids.length c1, .slice a2 N.inputs.length c2], .bool true]) (by simp [results, Try.results50, go_sem, u0, u1, u2]) rfl ?_
        have hc := close_net K4.out O4.out D3.out.1 D3.out.2
        exact ⟨_, ds, ret_net D.out.symm, hc.1, by rw [E.out]; exact hc.2.1, hc.2.2⟩
      · have B := Lib.hid hb
        clear hb
        go_wp2_with fail
        (with_reducible refine (networkOrNone_f O3.out.read (fun j => absurd (GB.out.1 j) B.out)).mono ?_)
        rintro e w4 ⟨rfl, hw⟩
        unfold znet
        have K4 := Lib.hid (K3.out.trans' hw)
        obtain ⟨u0, u1, u2, s0, s1, s2⟩ := row3_facts (row_ext QS.out hw)
        have D := Lib.hid (dec_false B.out)
        have E := Lib.hid (stubAns_f B.out)
        clear hw r0 r1 r2
        go_wp2
        refine bodyPost_ret (v := .tuple #[znet, .bool false]) (by simp [results, Try.results50, go_sem, u0, u1, u2, znet]) rfl ⟨_, [], ret_net D.out.symm, store3_ext K4.out (by omega) _ _ _, by rw [E.out]; exact own_zero _, Fresh.nil _⟩
    · have G2 := Lib.hid (dec_false hn)
      have D : Hid (dec (StubB N x) = false) := dec_false fun k => hn k.1.2
      have E : Hid (stubAns N x = zeroNet) := stubAns_f fun k => hn k.1.2
      clear hn
      go_enter Try.func50, Try.ntmps50
      go_wp2_with fail
      (with_reducible refine (isNetwork_any (HN.out.ext HX.out)).mono ?_)
      rintro e w1 ⟨rfl, hw⟩
      rw [G.out]
      have K1 := Lib.hid (HX.out.trans' hw)
      have Q1 := Lib.hid (row_ext HQ.out hw)
      obtain ⟨p0, p1, p2, _, _, _⟩ := row3_facts (row_ext HR.out hw)
      clear hw
      go_wp2_with fail
      (with_reducible refine (hasNode_any _ (HN.out.ext K1.out)).mono ?_)
      rintro e w1' ⟨rfl, hw⟩
      rw [G2.out]
      have K1' := Lib.hid (K1.out.trans' hw)
      obtain ⟨q0, q1, q2, t0, t1, t2⟩ := row3_facts (row_ext Q1.out hw)
      clear p0 p1 p2 hw
      go_wp2
      refine bodyPost_ret (v := .tuple #[znet, .bool false]) (by simp [results, Try.results50, go_sem, q0, q1, q2, znet]) rfl ⟨_, [], ret_net D.out.symm, store3_ext K1'.out (by omega) _ _ _, by rw [E.out]; exact own_zero _, Fresh.nil _⟩
  · have G := Lib.hid (dec_false hg)
    have D : Hid (dec (StubB N x) = false) := dec_false fun k => hg k.1.1
    have E : Hid (stubAns N x = zeroNet) := stubAns_f fun k => hg k.1.1
    clear hg
    go_enter Try.func50, Try.ntmps50
    go_wp2_with (first | (go_at_call 22; (with_reducible refine (isNetwork_any (HN.out.ext HX.out)).mono ?_); rintro e w1 ⟨rfl, hw⟩; rw [G.out]; have K1 := Lib.hid (HX.out.trans' hw); obtain ⟨q0, q1, q2, t0, t1, t2⟩ := row3_facts (row_ext HQ.out hw); clear hw))
    refine bodyPost_ret (v := .tuple #[znet, .bool false]) (by simp [results, Try.results50, go_sem, q0, q1, q2, znet]) rfl ⟨_, [], ret_net D.out.symm, store3_ext K1.out (by omega) _ _ _, by rw [E.out]; exact own_zero _, Fresh.nil _⟩
end Go.Proofs.Ytndgbildkeglfaa
