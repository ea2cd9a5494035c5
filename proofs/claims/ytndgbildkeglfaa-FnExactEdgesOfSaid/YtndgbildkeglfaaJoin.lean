/- The contract of neJoin: a copy of the network with one edge more. -/
import Derived.Test.YtndgbildkeglfaaAs
namespace Go.Proofs.Ytndgbildkeglfaa
open Go.RowKit

/-- The place of the second end. -/
def joinAt (N : Net) (k l : Nat) : Int := if k = l then (gr N.ends l).length + 1 else (gr N.ends l).length
def joinNet (N : Net) (k l : Nat) : Net := addEnd (addEnd N k (l, joinAt N k l)) l (k, (gr N.ends k).length)
theorem addEnd_len (N : Net) (k : Nat) (p : Int × Int) : (addEnd N k p).ends.length = N.ends.length := by simp [addEnd]
theorem addEnd_row (N : Net) (k l : Nat) (p : Int × Int) (hk : k < N.ends.length) : (gr (addEnd N k p).ends l).length ≤ (gr N.ends l).length + 1 := by
  unfold addEnd
  rw [gr_set _ _ _ _ hk]
  by_cases e : l = k
  · subst e; simp
  · simp [e]

set_option maxHeartbeats 3200000 in
set_option maxRecDepth 100000 in
theorem neJoin_any {w : World} {v : Value} {N : Net} (k l : Nat) (hk : k < N.ends.length) (hl : l < N.ends.length) (h : NetAt w v N) (hs : N.small) :
    Calls Try.prog 89 #[v, .int .i64 k, .int .i64 l] w fun e w' => ∃ v' bs, e = .returned v' ∧ Ext w w' ∧ OwnNet w' v' (joinNet N k l) bs ∧ Fresh w bs := by
  have HN := Lib.hid h
  have HS := Lib.hid hs
  obtain ⟨v0, v1, v2, rfl, hE, hI, hP⟩ := h
  clear hE hI hP
  have HX := Lib.hid (boxed2_ext w v0 v1 v2)
  have HR := Lib.hid (boxed2_row w v0 v1 v2)
  have HQ := Lib.hid (boxed2_res w v0 v1 v2)
  obtain ⟨p0, p1, p2, _, _, _⟩ := row3_facts HR.out
  obtain ⟨i1, hj, hy0, hy1, hy2⟩ := info_parts Try.info44
  have I1 := Lib.hid (And.intro hj (And.intro hy0 (And.intro hy1 hy2)))
  have hlen := hs.2.1 k
  have hlenl := hs.2.1 l
  have hlen0 := hs.1
  have hj0 : joinAt N k l ≤ 1048577 ∧ 0 ≤ joinAt N k l := by unfold joinAt; split <;> omega
  have hp := Lib.hid (show inI64 (l : Int) ∧ inI64 (joinAt N k l) by unfold inI64; omega)
  have hp2 := Lib.hid (show inI64 (k : Int) ∧ inI64 ((gr N.ends k).length : Int) by unfold inI64; omega)
  have hrow := addEnd_row N k l (l, joinAt N k l) hk
  have hlenA := Lib.hid (addEnd_len N k (l, joinAt N k l))
  clear hj hy0 hy1 hy2 hs
  go_enter Try.func89, Try.ntmps89
  go_wp2_with fail
  (with_reducible refine (neOwn_any (HN.out.ext HX.out) HS.out).mono ?_)
  rintro e w2 ⟨y, bs, rfl, hw, ho, hf⟩
  obtain ⟨a0, c0, a1, c1, a2, c2, rfl⟩ := ho.agg
  obtain ⟨W, hW⟩ : ∃ W, W = w2.alloc (.cells #[.slice a0 N.ends.length c0, .slice a1 N.ids.length c1, .slice a2 N.inputs.length c2] 30) := ⟨_, rfl⟩
  have hA : Ext w2 W := by rw [hW]; exact (Ext.rfl' w2).alloc' _
  have M2 : Hid (W.rowIs w2.heap.size 30 3 (tri (.slice a0 N.ends.length c0) (.slice a1 N.ids.length c1) (.slice a2 N.inputs.length c2))) := by rw [hW]; exact row3_made w2 _ _ _ 30
  have K2 := Lib.hid ((HX.out.trans' hw).trans' hA)
  have Q2 := Lib.hid (row_ext (row_ext HQ.out hw) hA)
  have hge := Lib.hid (show ∀ b ∈ bs, w.heap.size + 2 ≤ b from fun b hb => by have := hf.2 b hb; have := HQ.out.lt; omega)
  have hge2 := Lib.hid (show w.heap.size + 2 ≤ w2.heap.size by have := hw.size; have := HQ.out.lt; omega)
  have hBX := Lib.hid ho.lt
  have hOW := ho.ext hA
  obtain ⟨b, c, ax, cx, t, hv, hat⟩ := own_at hOW hf.1 hk
  obtain ⟨rfl, rfl⟩ : a0 = some ⟨b, 0, none⟩ ∧ c0 = c := by simpa using hv
  obtain ⟨b2, c', axl, cxl, tl, hv2, hatl⟩ := own_at hOW hf.1 hl
  obtain ⟨rfl, rfl⟩ : b = b2 ∧ c0 = c' := by simpa using hv2
  have FA := Lib.hid hat
  have hm : Hid (w2.heap.size ∉ bs) := fun h => absurd (hBX.out _ h) (by omega)
  obtain ⟨q0, q1, q2, t0, t1, t2⟩ := row3_facts M2.out
  have cellk := hat.cell
  have celll := hatl.cell
  clear hw ho hf hA hv hv2 hat hatl p0 p1 p2 hOW t0 t1 t2
  by_cases hkl : k = l
  case pos =>
    subst hkl
    have hji := Lib.hid (show joinAt N k k = ((gr N.ends k).length : Int) + 1 by simp [joinAt])
    clear celll
    rw [hW] at q0 q1 q2 cellk
    go_wp2_with fail
    rw [← hW]
    clear q0 q1 q2 cellk hW
    have hpX : Hid (inI64 (k : Int) ∧ inI64 (((gr N.ends k).length : Int) + 1)) := by have := hp.out; rw [hji.out] at this; exact this
    have mkS : ∀ w' : World, Ext W w' → w'.cell? ⟨w2.heap.size, 0, none⟩ = some (.slice (some ⟨b, 0, none⟩) (N).ends.length c0) ∧ w'.cell? ⟨b, k, none⟩ = some (.slice ax (gr (N).ends k).length cx) := fun w' h => ⟨h.cell' (row3_facts M2.out).1, h.cell' FA.out.cell⟩
    refine wp_region_gate (n := 14) (S := fun w' => w'.cell? ⟨w2.heap.size, 0, none⟩ = some (.slice (some ⟨b, 0, none⟩) (N).ends.length c0) ∧ w'.cell? ⟨b, k, none⟩ = some (.slice ax (gr (N).ends k).length cx)) (by kernel_rfl) (mkS _ (Ext.rfl' W).drew') (fun hHeld => ?_)
    iterate 11 (
      (first
        | refine wpAnyG_take (i := 0) (v := ?_) rfl (by decide +kernel) (by kernel_rfl) (by decide) (by kernel_rfl) (by kernel_rfl) (fun _ _ _ h => h) (Or.inl ⟨by rfl, ?_⟩) hHeld ?_
        | refine wpAnyG_take (i := 1) (v := ?_) rfl (by decide +kernel) (by kernel_rfl) (by decide) (by kernel_rfl) (by kernel_rfl) (fun _ _ _ h => h) (Or.inl ⟨by rfl, ?_⟩) hHeld ?_
        | refine wpAnyG_take (i := 2) (v := ?_) rfl (by decide +kernel) (by kernel_rfl) (by decide) (by kernel_rfl) (by kernel_rfl) (fun _ _ _ h => h) (Or.inl ⟨by rfl, ?_⟩) hHeld ?_
        | refine wpAnyG_take (i := 3) (v := ?_) rfl (by decide +kernel) (by kernel_rfl) (by decide) (by kernel_rfl) (by kernel_rfl) (fun _ _ _ h => h) (Or.inl ⟨by rfl, ?_⟩) hHeld ?_
        | refine wpAnyG_take (i := 4) (v := ?_) rfl (by decide +kernel) (by kernel_rfl) (by decide) (by kernel_rfl) (by kernel_rfl) (fun _ _ _ h => h) (Or.inl ⟨by rfl, ?_⟩) hHeld ?_
        | refine wpAnyG_take (i := 5) (v := ?_) rfl (by decide +kernel) (by kernel_rfl) (by decide) (by kernel_rfl) (by kernel_rfl) (fun _ _ _ h => h) (Or.inl ⟨by rfl, ?_⟩) hHeld ?_
        | refine wpAnyG_take (i := 6) (v := ?_) rfl (by decide +kernel) (by kernel_rfl) (by decide) (by kernel_rfl) (by kernel_rfl) (fun _ _ _ h => h) (Or.inl ⟨by rfl, ?_⟩) hHeld ?_
        | refine wpAnyG_take (i := 7) (v := ?_) rfl (by decide +kernel) (by kernel_rfl) (by decide) (by kernel_rfl) (by kernel_rfl) (fun _ _ _ h => h) (Or.inl ⟨by rfl, ?_⟩) hHeld ?_
        | refine wpAnyG_take (i := 8) (v := ?_) rfl (by decide +kernel) (by kernel_rfl) (by decide) (by kernel_rfl) (by kernel_rfl) (fun _ _ _ h => h) (Or.inl ⟨by rfl, ?_⟩) hHeld ?_
        | refine wpAnyG_take (i := 9) (v := ?_) rfl (by decide +kernel) (by kernel_rfl) (by decide) (by kernel_rfl) (by kernel_rfl) (fun _ _ _ h => h) (Or.inl ⟨by rfl, ?_⟩) hHeld ?_
        | refine wpAnyG_take (i := 10) (v := ?_) rfl (by decide +kernel) (by kernel_rfl) (by decide) (by kernel_rfl) (by kernel_rfl) (fun _ _ _ h => h) (Or.inl ⟨by rfl, ?_⟩) hHeld ?_
      )
      rotate_left 1
      · (intro w' hSw; (try dsimp only at hSw); go_simp) <;> with_reducible rfl
      simp only [Act.put, List.setIfInBounds_toArray])
    refine wpAnyG_one (i := 11) rfl (by kernel_rfl) rfl (fun K hK => ?_)
    go_simp
    refine hK.out _ _ (fun _ => mkS _ (by first | exact (Ext.rfl' W).drew'.alloc' _ | exact ((Ext.rfl' W).alloc' _).drew')) (fun _ => ?_)
    clear hK K
    refine wpAnyG_one (i := 12) rfl (by kernel_rfl) rfl (fun K hK => ?_)
    refine wp_app2 (.tmp 36) (.tmp 40) 70 rfl 0 44 i1 (.agg #[.int .i64 0, .int .i64 0]) 2 16 Try.underlying70 I1.out.1 I1.out.2.1 I1.out.2.2.1 I1.out.2.2.2 rfl (by decide) (.slice ax (gr (N).ends k).length cx) (gr (N).ends k).length (endCells (gr (N).ends k)) rfl ((FA.out.row.ext (by first | exact (Ext.rfl' W).drew'.alloc' _ | exact ((Ext.rfl' W).alloc' _).drew')).owns (fun _ _ => Nat.zero_le _)) (some ⟨W.heap.size, 0, none⟩) 1 1 [.int .i64 ((k : Int)), .int .i64 (((gr N.ends k).length : Int) + 1)] rfl (by first | exact src_two W.drew _ _ 44 rfl rfl | exact src_two W _ _ 44 rfl rfl | exact src_drew (src_two W _ _ 44 rfl rfl)) (by unfold maxLen; omega) (by omega) (Nat.zero_le _) ?_
    intro v' w1s hg
    have PUs := Lib.hid (FA.out.put (p := ((k : Int), ((gr N.ends k).length : Int) + 1)) (by first | exact (Ext.rfl' W).drew'.alloc' _ | exact ((Ext.rfl' W).alloc' _).drew') hpX.out hg)
    obtain ⟨ays, cys, rfl⟩ := PUs.out.form
    have hmb := hm.out
    have MZ := Lib.hid (PUs.out.row hmb M2.out)
    have cz := (row3_facts MZ.out.1).1
    have f1 := PUs.out.cell
    have f2 := PUs.out.frozen
    clear hg hmb
    refine hK.out _ _ (fun _ => ⟨cz, f1⟩) (fun hHeld' => ?_)
    have hHeld := hHeld' (by decide)
    clear hK K hHeld'
    (
      (first
        | refine wpAnyG_take (i := 13) (v := ?_) rfl (by decide +kernel) (by kernel_rfl) (by decide) (by kernel_rfl) (by kernel_rfl) (fun _ _ _ h => h) (Or.inl ⟨by rfl, ?_⟩) hHeld ?_
      )
      rotate_left 1
      · (intro w' hSw; (try dsimp only at hSw); go_simp) <;> with_reducible rfl
      simp only [Act.put, List.setIfInBounds_toArray])
    refine wpAnyG_one (i := 14) rfl (by kernel_rfl) rfl (fun K hK => ?_)
    go_simp
    refine hK.out _ _ (fun h => absurd rfl h) (fun _ => ?_)
    clear hK K
    refine wpAnyG_done (by kernel_rfl) ?_ _
    clear hHeld cz f1 f2 mkS MZ
    obtain ⟨W', hW'⟩ : ∃ W', W' = w1s.setCell ⟨b, k, none⟩ (.slice ays ((gr N.ends k).length + 1) cys) := ⟨_, rfl⟩
    have M3 : Hid (W'.rowIs w2.heap.size 30 3 (tri (.slice (some ⟨b, 0, none⟩) N.ends.length c0) (.slice a1 N.ids.length c1) (.slice a2 N.inputs.length c2))) := by rw [hW']; exact (PUs.out.row hm.out M2.out).2
    have Q3 : Hid (W'.rowIs (w.heap.size + 1) 30 3 (tri (.slice none 0 0) (.slice none 0 0) (.slice none 0 0))) := by rw [hW']; exact (PUs.out.row (fun h => by have := hge.out _ h; omega) Q2.out).2
    have K3 : Hid (Ext w W') := by rw [hW']; exact PUs.out.ext w K2.out fun y hy => by have := hge.out y hy; omega
    have hz3 : Hid (W.heap.size ≤ W'.heap.size) := by rw [hW']; exact PUs.out.size
    obtain ⟨ds, n1, n2, n3⟩ := PUs.out.net
    rw [← hW'] at n1
    rw [← hji.out] at n1
    have hge3 := Lib.hid (show ∀ y ∈ ds, w.heap.size + 2 ≤ y from fun y hy => by rcases n3 y hy with h | h; exact hge.out y h; have := Q2.out.lt; omega)
    have hm3 : Hid (w2.heap.size ∉ ds) := fun h => by rcases n3 _ h with h | h; exact hm.out h; have := M2.out.lt; omega
    obtain ⟨b3, c3, ax3, cx3, t3, hv3, hat3⟩ := own_at n1 n2 (k := k) (by rw [hlenA.out]; exact hk)
    have hvE : b = b3 ∧ c0 = c3 := by have := hv3; rw [hlenA.out] at this; simpa using this
    obtain ⟨rfl, rfl⟩ := hvE
    have FA3 := Lib.hid hat3
    obtain ⟨r0, r1, r2, _, _, _⟩ := row3_facts M3.out
    clear n1 n2 n3 hv3 hat3
    rw [hW'] at r0 r1 r2
    go_wp2_with fail
    rw [← hW']
    clear r0 r1 r2 hW'
    have mkS : ∀ w' : World, Ext W' w' → w'.cell? ⟨w2.heap.size, 0, none⟩ = some (.slice (some ⟨b, 0, none⟩) N.ends.length c0) ∧ w'.cell? ⟨b, k, none⟩ = some (.slice ax3 (gr (addEnd N k (k, joinAt N k k)).ends k).length cx3) := fun w' h => ⟨h.cell' (row3_facts M3.out).1, h.cell' FA3.out.cell⟩
    refine wp_region_gate (n := 14) (S := fun w' => w'.cell? ⟨w2.heap.size, 0, none⟩ = some (.slice (some ⟨b, 0, none⟩) N.ends.length c0) ∧ w'.cell? ⟨b, k, none⟩ = some (.slice ax3 (gr (addEnd N k (k, joinAt N k k)).ends k).length cx3)) (by kernel_rfl) (mkS _ (Ext.rfl' W').drew') (fun hHeld => ?_)
    iterate 11 (
      (first
        | refine wpAnyG_take (i := 0) (v := ?_) rfl (by decide +kernel) (by kernel_rfl) (by decide) (by kernel_rfl) (by kernel_rfl) (fun _ _ _ h => h) (Or.inl ⟨by rfl, ?_⟩) hHeld ?_
        | refine wpAnyG_take (i := 1) (v := ?_) rfl (by decide +kernel) (by kernel_rfl) (by decide) (by kernel_rfl) (by kernel_rfl) (fun _ _ _ h => h) (Or.inl ⟨by rfl, ?_⟩) hHeld ?_
        | refine wpAnyG_take (i := 2) (v := ?_) rfl (by decide +kernel) (by kernel_rfl) (by decide) (by kernel_rfl) (by kernel_rfl) (fun _ _ _ h => h) (Or.inl ⟨by rfl, ?_⟩) hHeld ?_
        | refine wpAnyG_take (i := 3) (v := ?_) rfl (by decide +kernel) (by kernel_rfl) (by decide) (by kernel_rfl) (by kernel_rfl) (fun _ _ _ h => h) (Or.inl ⟨by rfl, ?_⟩) hHeld ?_
        | refine wpAnyG_take (i := 4) (v := ?_) rfl (by decide +kernel) (by kernel_rfl) (by decide) (by kernel_rfl) (by kernel_rfl) (fun _ _ _ h => h) (Or.inl ⟨by rfl, ?_⟩) hHeld ?_
        | refine wpAnyG_take (i := 5) (v := ?_) rfl (by decide +kernel) (by kernel_rfl) (by decide) (by kernel_rfl) (by kernel_rfl) (fun _ _ _ h => h) (Or.inl ⟨by rfl, ?_⟩) hHeld ?_
        | refine wpAnyG_take (i := 6) (v := ?_) rfl (by decide +kernel) (by kernel_rfl) (by decide) (by kernel_rfl) (by kernel_rfl) (fun _ _ _ h => h) (Or.inl ⟨by rfl, ?_⟩) hHeld ?_
        | refine wpAnyG_take (i := 7) (v := ?_) rfl (by decide +kernel) (by kernel_rfl) (by decide) (by kernel_rfl) (by kernel_rfl) (fun _ _ _ h => h) (Or.inl ⟨by rfl, ?_⟩) hHeld ?_
        | refine wpAnyG_take (i := 8) (v := ?_) rfl (by decide +kernel) (by kernel_rfl) (by decide) (by kernel_rfl) (by kernel_rfl) (fun _ _ _ h => h) (Or.inl ⟨by rfl, ?_⟩) hHeld ?_
        | refine wpAnyG_take (i := 9) (v := ?_) rfl (by decide +kernel) (by kernel_rfl) (by decide) (by kernel_rfl) (by kernel_rfl) (fun _ _ _ h => h) (Or.inl ⟨by rfl, ?_⟩) hHeld ?_
        | refine wpAnyG_take (i := 10) (v := ?_) rfl (by decide +kernel) (by kernel_rfl) (by decide) (by kernel_rfl) (by kernel_rfl) (fun _ _ _ h => h) (Or.inl ⟨by rfl, ?_⟩) hHeld ?_
      )
      rotate_left 1
      · (intro w' hSw; (try dsimp only at hSw); go_simp) <;> with_reducible rfl
      simp only [Act.put, List.setIfInBounds_toArray])
    refine wpAnyG_one (i := 11) rfl (by kernel_rfl) rfl (fun K hK => ?_)
    go_simp
    refine hK.out _ _ (fun _ => mkS _ (by first | exact (Ext.rfl' W').drew'.alloc' _ | exact ((Ext.rfl' W').alloc' _).drew')) (fun _ => ?_)
    clear hK K
    refine wpAnyG_one (i := 12) rfl (by kernel_rfl) rfl (fun K hK => ?_)
    refine wp_app2 (.tmp 50) (.tmp 54) 70 rfl 0 44 i1 (.agg #[.int .i64 0, .int .i64 0]) 2 16 Try.underlying70 I1.out.1 I1.out.2.1 I1.out.2.2.1 I1.out.2.2.2 rfl (by decide) (.slice ax3 (gr (addEnd N k (k, joinAt N k k)).ends k).length cx3) (gr (addEnd N k (k, joinAt N k k)).ends k).length (endCells (gr (addEnd N k (k, joinAt N k k)).ends k)) rfl ((FA3.out.row.ext (by first | exact (Ext.rfl' W').drew'.alloc' _ | exact ((Ext.rfl' W').alloc' _).drew')).owns (fun _ _ => Nat.zero_le _)) (some ⟨W'.heap.size, 0, none⟩) 1 1 [.int .i64 ((k : Int)), .int .i64 (((gr N.ends k).length : Int))] rfl (by first | exact src_two W'.drew _ _ 44 rfl rfl | exact src_two W' _ _ 44 rfl rfl | exact src_drew (src_two W' _ _ 44 rfl rfl)) (by unfold maxLen; omega) (by omega) (Nat.zero_le _) ?_
    intro v' w1u hg
    have PUu := Lib.hid (FA3.out.put (p := ((k : Int), ((gr N.ends k).length : Int))) (by first | exact (Ext.rfl' W').drew'.alloc' _ | exact ((Ext.rfl' W').alloc' _).drew') hp2.out hg)
    obtain ⟨ayu, cyu, rfl⟩ := PUu.out.form
    have hmb := hm3.out
    have MZ := Lib.hid (PUu.out.row hmb M3.out)
    have cz := (row3_facts MZ.out.1).1
    have f1 := PUu.out.cell
    have f2 := PUu.out.frozen
    clear hg hmb
    refine hK.out _ _ (fun _ => ⟨cz, f1⟩) (fun hHeld' => ?_)
    have hHeld := hHeld' (by decide)
    clear hK K hHeld'
    (
      (first
        | refine wpAnyG_take (i := 13) (v := ?_) rfl (by decide +kernel) (by kernel_rfl) (by decide) (by kernel_rfl) (by kernel_rfl) (fun _ _ _ h => h) (Or.inl ⟨by rfl, ?_⟩) hHeld ?_
      )
      rotate_left 1
      · (intro w' hSw; (try dsimp only at hSw); go_simp) <;> with_reducible rfl
      simp only [Act.put, List.setIfInBounds_toArray])
    refine wpAnyG_one (i := 14) rfl (by kernel_rfl) rfl (fun K hK => ?_)
    go_simp
    refine hK.out _ _ (fun h => absurd rfl h) (fun _ => ?_)
    clear hK K
    refine wpAnyG_done (by kernel_rfl) ?_ _
    clear hHeld cz f1 f2 mkS MZ
    have MS := Lib.hid (PUu.out.row hm3.out M3.out).2
    have QS := Lib.hid (PUu.out.row (fun h => by have := hge3.out _ h; omega) Q3.out).2
    have K5 := Lib.hid (PUu.out.ext w K3.out fun y hy => by have := hge3.out y hy; omega)
    obtain ⟨es, n1, n2, n3⟩ := PUu.out.net
    have O5 : Hid (OwnNet _ _ (joinNet N k k) es) := n1
    have D5 : Hid (es.Nodup ∧ ∀ y ∈ es, w.heap.size + 2 ≤ y) := ⟨n2, fun y hy => by rcases n3 y hy with h | h; exact hge3.out y h; have := Q3.out.lt; omega⟩
    obtain ⟨r0, r1, r2, _, _, _⟩ := row3_facts MS.out
    obtain ⟨u0, u1, u2, s0, s1, s2⟩ := row3_facts QS.out
    clear n1 n2 n3
    go_wp2
    refine bodyPost_ret (v := .agg #[.slice (some ⟨b, 0, none⟩) N.ends.length c0, .slice a1 N.ids.length c1, .slice a2 N.inputs.length c2]) (by simp [results, Try.results89, go_sem, u0, u1, u2]) rfl ?_
    have hc := close_net K5.out O5.out D5.out.1 D5.out.2
    exact ⟨_, es, rfl, hc.1, hc.2.1, hc.2.2⟩
  case neg =>
    have hji := Lib.hid (show joinAt N k l = ((gr N.ends l).length : Int) by simp [joinAt, hkl])
    have hkl' : ¬ (k : Int) = (l : Int) := by omega
    rw [hW] at q0 q1 q2 cellk celll
    go_wp2_with fail
    rw [← hW]
    clear q0 q1 q2 cellk celll hW
    have hpX : Hid (inI64 (l : Int) ∧ inI64 (((gr N.ends l).length : Int))) := by have := hp.out; rw [hji.out] at this; exact this
    have mkS : ∀ w' : World, Ext W w' → w'.cell? ⟨w2.heap.size, 0, none⟩ = some (.slice (some ⟨b, 0, none⟩) (N).ends.length c0) ∧ w'.cell? ⟨b, k, none⟩ = some (.slice ax (gr (N).ends k).length cx) := fun w' h => ⟨h.cell' (row3_facts M2.out).1, h.cell' FA.out.cell⟩
    refine wp_region_gate (n := 14) (S := fun w' => w'.cell? ⟨w2.heap.size, 0, none⟩ = some (.slice (some ⟨b, 0, none⟩) (N).ends.length c0) ∧ w'.cell? ⟨b, k, none⟩ = some (.slice ax (gr (N).ends k).length cx)) (by kernel_rfl) (mkS _ (Ext.rfl' W).drew') (fun hHeld => ?_)
    iterate 11 (
      (first
        | refine wpAnyG_take (i := 0) (v := ?_) rfl (by decide +kernel) (by kernel_rfl) (by decide) (by kernel_rfl) (by kernel_rfl) (fun _ _ _ h => h) (Or.inl ⟨by rfl, ?_⟩) hHeld ?_
        | refine wpAnyG_take (i := 1) (v := ?_) rfl (by decide +kernel) (by kernel_rfl) (by decide) (by kernel_rfl) (by kernel_rfl) (fun _ _ _ h => h) (Or.inl ⟨by rfl, ?_⟩) hHeld ?_
        | refine wpAnyG_take (i := 2) (v := ?_) rfl (by decide +kernel) (by kernel_rfl) (by decide) (by kernel_rfl) (by kernel_rfl) (fun _ _ _ h => h) (Or.inl ⟨by rfl, ?_⟩) hHeld ?_
        | refine wpAnyG_take (i := 3) (v := ?_) rfl (by decide +kernel) (by kernel_rfl) (by decide) (by kernel_rfl) (by kernel_rfl) (fun _ _ _ h => h) (Or.inl ⟨by rfl, ?_⟩) hHeld ?_
        | refine wpAnyG_take (i := 4) (v := ?_) rfl (by decide +kernel) (by kernel_rfl) (by decide) (by kernel_rfl) (by kernel_rfl) (fun _ _ _ h => h) (Or.inl ⟨by rfl, ?_⟩) hHeld ?_
        | refine wpAnyG_take (i := 5) (v := ?_) rfl (by decide +kernel) (by kernel_rfl) (by decide) (by kernel_rfl) (by kernel_rfl) (fun _ _ _ h => h) (Or.inl ⟨by rfl, ?_⟩) hHeld ?_
        | refine wpAnyG_take (i := 6) (v := ?_) rfl (by decide +kernel) (by kernel_rfl) (by decide) (by kernel_rfl) (by kernel_rfl) (fun _ _ _ h => h) (Or.inl ⟨by rfl, ?_⟩) hHeld ?_
        | refine wpAnyG_take (i := 7) (v := ?_) rfl (by decide +kernel) (by kernel_rfl) (by decide) (by kernel_rfl) (by kernel_rfl) (fun _ _ _ h => h) (Or.inl ⟨by rfl, ?_⟩) hHeld ?_
        | refine wpAnyG_take (i := 8) (v := ?_) rfl (by decide +kernel) (by kernel_rfl) (by decide) (by kernel_rfl) (by kernel_rfl) (fun _ _ _ h => h) (Or.inl ⟨by rfl, ?_⟩) hHeld ?_
        | refine wpAnyG_take (i := 9) (v := ?_) rfl (by decide +kernel) (by kernel_rfl) (by decide) (by kernel_rfl) (by kernel_rfl) (fun _ _ _ h => h) (Or.inl ⟨by rfl, ?_⟩) hHeld ?_
        | refine wpAnyG_take (i := 10) (v := ?_) rfl (by decide +kernel) (by kernel_rfl) (by decide) (by kernel_rfl) (by kernel_rfl) (fun _ _ _ h => h) (Or.inl ⟨by rfl, ?_⟩) hHeld ?_
      )
      rotate_left 1
      · (intro w' hSw; (try dsimp only at hSw); go_simp) <;> with_reducible rfl
      simp only [Act.put, List.setIfInBounds_toArray])
    refine wpAnyG_one (i := 11) rfl (by kernel_rfl) rfl (fun K hK => ?_)
    go_simp
    refine hK.out _ _ (fun _ => mkS _ (by first | exact (Ext.rfl' W).drew'.alloc' _ | exact ((Ext.rfl' W).alloc' _).drew')) (fun _ => ?_)
    clear hK K
    refine wpAnyG_one (i := 12) rfl (by kernel_rfl) rfl (fun K hK => ?_)
    refine wp_app2 (.tmp 36) (.tmp 40) 70 rfl 0 44 i1 (.agg #[.int .i64 0, .int .i64 0]) 2 16 Try.underlying70 I1.out.1 I1.out.2.1 I1.out.2.2.1 I1.out.2.2.2 rfl (by decide) (.slice ax (gr (N).ends k).length cx) (gr (N).ends k).length (endCells (gr (N).ends k)) rfl ((FA.out.row.ext (by first | exact (Ext.rfl' W).drew'.alloc' _ | exact ((Ext.rfl' W).alloc' _).drew')).owns (fun _ _ => Nat.zero_le _)) (some ⟨W.heap.size, 0, none⟩) 1 1 [.int .i64 ((l : Int)), .int .i64 (((gr N.ends l).length : Int))] rfl (by first | exact src_two W.drew _ _ 44 rfl rfl | exact src_two W _ _ 44 rfl rfl | exact src_drew (src_two W _ _ 44 rfl rfl)) (by unfold maxLen; omega) (by omega) (Nat.zero_le _) ?_
    intro v' w1s hg
    have PUs := Lib.hid (FA.out.put (p := ((l : Int), ((gr N.ends l).length : Int))) (by first | exact (Ext.rfl' W).drew'.alloc' _ | exact ((Ext.rfl' W).alloc' _).drew') hpX.out hg)
    obtain ⟨ays, cys, rfl⟩ := PUs.out.form
    have hmb := hm.out
    have MZ := Lib.hid (PUs.out.row hmb M2.out)
    have cz := (row3_facts MZ.out.1).1
    have f1 := PUs.out.cell
    have f2 := PUs.out.frozen
    clear hg hmb
    refine hK.out _ _ (fun _ => ⟨cz, f1⟩) (fun hHeld' => ?_)
    have hHeld := hHeld' (by decide)
    clear hK K hHeld'
    (
      (first
        | refine wpAnyG_take (i := 13) (v := ?_) rfl (by decide +kernel) (by kernel_rfl) (by decide) (by kernel_rfl) (by kernel_rfl) (fun _ _ _ h => h) (Or.inl ⟨by rfl, ?_⟩) hHeld ?_
      )
      rotate_left 1
      · (intro w' hSw; (try dsimp only at hSw); go_simp) <;> with_reducible rfl
      simp only [Act.put, List.setIfInBounds_toArray])
    refine wpAnyG_one (i := 14) rfl (by kernel_rfl) rfl (fun K hK => ?_)
    go_simp
    refine hK.out _ _ (fun h => absurd rfl h) (fun _ => ?_)
    clear hK K
    refine wpAnyG_done (by kernel_rfl) ?_ _
    clear hHeld cz f1 f2 mkS MZ
    obtain ⟨W', hW'⟩ : ∃ W', W' = w1s.setCell ⟨b, k, none⟩ (.slice ays ((gr N.ends k).length + 1) cys) := ⟨_, rfl⟩
    have M3 : Hid (W'.rowIs w2.heap.size 30 3 (tri (.slice (some ⟨b, 0, none⟩) N.ends.length c0) (.slice a1 N.ids.length c1) (.slice a2 N.inputs.length c2))) := by rw [hW']; exact (PUs.out.row hm.out M2.out).2
    have Q3 : Hid (W'.rowIs (w.heap.size + 1) 30 3 (tri (.slice none 0 0) (.slice none 0 0) (.slice none 0 0))) := by rw [hW']; exact (PUs.out.row (fun h => by have := hge.out _ h; omega) Q2.out).2
    have K3 : Hid (Ext w W') := by rw [hW']; exact PUs.out.ext w K2.out fun y hy => by have := hge.out y hy; omega
    have hz3 : Hid (W.heap.size ≤ W'.heap.size) := by rw [hW']; exact PUs.out.size
    obtain ⟨ds, n1, n2, n3⟩ := PUs.out.net
    rw [← hW'] at n1
    rw [← hji.out] at n1
    have hge3 := Lib.hid (show ∀ y ∈ ds, w.heap.size + 2 ≤ y from fun y hy => by rcases n3 y hy with h | h; exact hge.out y h; have := Q2.out.lt; omega)
    have hm3 : Hid (w2.heap.size ∉ ds) := fun h => by rcases n3 _ h with h | h; exact hm.out h; have := M2.out.lt; omega
    obtain ⟨b3, c3, ax3, cx3, t3, hv3, hat3⟩ := own_at n1 n2 (k := l) (by rw [hlenA.out]; exact hl)
    have hvE : b = b3 ∧ c0 = c3 := by have := hv3; rw [hlenA.out] at this; simpa using this
    obtain ⟨rfl, rfl⟩ := hvE
    have FA3 := Lib.hid hat3
    obtain ⟨r0, r1, r2, _, _, _⟩ := row3_facts M3.out
    clear n1 n2 n3 hv3 hat3
    rw [hW'] at r0 r1 r2
    go_wp2_with fail
    rw [← hW']
    clear r0 r1 r2 hW'
    have mkS : ∀ w' : World, Ext W' w' → w'.cell? ⟨w2.heap.size, 0, none⟩ = some (.slice (some ⟨b, 0, none⟩) N.ends.length c0) ∧ w'.cell? ⟨b, l, none⟩ = some (.slice ax3 (gr (addEnd N k (l, joinAt N k l)).ends l).length cx3) := fun w' h => ⟨h.cell' (row3_facts M3.out).1, h.cell' FA3.out.cell⟩
    refine wp_region_gate (n := 14) (S := fun w' => w'.cell? ⟨w2.heap.size, 0, none⟩ = some (.slice (some ⟨b, 0, none⟩) N.ends.length c0) ∧ w'.cell? ⟨b, l, none⟩ = some (.slice ax3 (gr (addEnd N k (l, joinAt N k l)).ends l).length cx3)) (by kernel_rfl) (mkS _ (Ext.rfl' W').drew') (fun hHeld => ?_)
    iterate 11 (
      (first
        | refine wpAnyG_take (i := 0) (v := ?_) rfl (by decide +kernel) (by kernel_rfl) (by decide) (by kernel_rfl) (by kernel_rfl) (fun _ _ _ h => h) (Or.inl ⟨by rfl, ?_⟩) hHeld ?_
        | refine wpAnyG_take (i := 1) (v := ?_) rfl (by decide +kernel) (by kernel_rfl) (by decide) (by kernel_rfl) (by kernel_rfl) (fun _ _ _ h => h) (Or.inl ⟨by rfl, ?_⟩) hHeld ?_
        | refine wpAnyG_take (i := 2) (v := ?_) rfl (by decide +kernel) (by kernel_rfl) (by decide) (by kernel_rfl) (by kernel_rfl) (fun _ _ _ h => h) (Or.inl ⟨by rfl, ?_⟩) hHeld ?_
        | refine wpAnyG_take (i := 3) (v := ?_) rfl (by decide +kernel) (by kernel_rfl) (by decide) (by kernel_rfl) (by kernel_rfl) (fun _ _ _ h => h) (Or.inl ⟨by rfl, ?_⟩) hHeld ?_
        | refine wpAnyG_take (i := 4) (v := ?_) rfl (by decide +kernel) (by kernel_rfl) (by decide) (by kernel_rfl) (by kernel_rfl) (fun _ _ _ h => h) (Or.inl ⟨by rfl, ?_⟩) hHeld ?_
        | refine wpAnyG_take (i := 5) (v := ?_) rfl (by decide +kernel) (by kernel_rfl) (by decide) (by kernel_rfl) (by kernel_rfl) (fun _ _ _ h => h) (Or.inl ⟨by rfl, ?_⟩) hHeld ?_
        | refine wpAnyG_take (i := 6) (v := ?_) rfl (by decide +kernel) (by kernel_rfl) (by decide) (by kernel_rfl) (by kernel_rfl) (fun _ _ _ h => h) (Or.inl ⟨by rfl, ?_⟩) hHeld ?_
        | refine wpAnyG_take (i := 7) (v := ?_) rfl (by decide +kernel) (by kernel_rfl) (by decide) (by kernel_rfl) (by kernel_rfl) (fun _ _ _ h => h) (Or.inl ⟨by rfl, ?_⟩) hHeld ?_
        | refine wpAnyG_take (i := 8) (v := ?_) rfl (by decide +kernel) (by kernel_rfl) (by decide) (by kernel_rfl) (by kernel_rfl) (fun _ _ _ h => h) (Or.inl ⟨by rfl, ?_⟩) hHeld ?_
        | refine wpAnyG_take (i := 9) (v := ?_) rfl (by decide +kernel) (by kernel_rfl) (by decide) (by kernel_rfl) (by kernel_rfl) (fun _ _ _ h => h) (Or.inl ⟨by rfl, ?_⟩) hHeld ?_
        | refine wpAnyG_take (i := 10) (v := ?_) rfl (by decide +kernel) (by kernel_rfl) (by decide) (by kernel_rfl) (by kernel_rfl) (fun _ _ _ h => h) (Or.inl ⟨by rfl, ?_⟩) hHeld ?_
      )
      rotate_left 1
      · (intro w' hSw; (try dsimp only at hSw); go_simp) <;> with_reducible rfl
      simp only [Act.put, List.setIfInBounds_toArray])
    refine wpAnyG_one (i := 11) rfl (by kernel_rfl) rfl (fun K hK => ?_)
    go_simp
    refine hK.out _ _ (fun _ => mkS _ (by first | exact (Ext.rfl' W').drew'.alloc' _ | exact ((Ext.rfl' W').alloc' _).drew')) (fun _ => ?_)
    clear hK K
    refine wpAnyG_one (i := 12) rfl (by kernel_rfl) rfl (fun K hK => ?_)
    refine wp_app2 (.tmp 50) (.tmp 54) 70 rfl 0 44 i1 (.agg #[.int .i64 0, .int .i64 0]) 2 16 Try.underlying70 I1.out.1 I1.out.2.1 I1.out.2.2.1 I1.out.2.2.2 rfl (by decide) (.slice ax3 (gr (addEnd N k (l, joinAt N k l)).ends l).length cx3) (gr (addEnd N k (l, joinAt N k l)).ends l).length (endCells (gr (addEnd N k (l, joinAt N k l)).ends l)) rfl ((FA3.out.row.ext (by first | exact (Ext.rfl' W').drew'.alloc' _ | exact ((Ext.rfl' W').alloc' _).drew')).owns (fun _ _ => Nat.zero_le _)) (some ⟨W'.heap.size, 0, none⟩) 1 1 [.int .i64 ((k : Int)), .int .i64 (((gr N.ends k).length : Int))] rfl (by first | exact src_two W'.drew _ _ 44 rfl rfl | exact src_two W' _ _ 44 rfl rfl | exact src_drew (src_two W' _ _ 44 rfl rfl)) (by unfold maxLen; omega) (by omega) (Nat.zero_le _) ?_
    intro v' w1u hg
    have PUu := Lib.hid (FA3.out.put (p := ((k : Int), ((gr N.ends k).length : Int))) (by first | exact (Ext.rfl' W').drew'.alloc' _ | exact ((Ext.rfl' W').alloc' _).drew') hp2.out hg)
    obtain ⟨ayu, cyu, rfl⟩ := PUu.out.form
    have hmb := hm3.out
    have MZ := Lib.hid (PUu.out.row hmb M3.out)
    have cz := (row3_facts MZ.out.1).1
    have f1 := PUu.out.cell
    have f2 := PUu.out.frozen
    clear hg hmb
    refine hK.out _ _ (fun _ => ⟨cz, f1⟩) (fun hHeld' => ?_)
    have hHeld := hHeld' (by decide)
    clear hK K hHeld'
    (
      (first
        | refine wpAnyG_take (i := 13) (v := ?_) rfl (by decide +kernel) (by kernel_rfl) (by decide) (by kernel_rfl) (by kernel_rfl) (fun _ _ _ h => h) (Or.inl ⟨by rfl, ?_⟩) hHeld ?_
      )
      rotate_left 1
      · (intro w' hSw; (try dsimp only at hSw); go_simp) <;> with_reducible rfl
      simp only [Act.put, List.setIfInBounds_toArray])
    refine wpAnyG_one (i := 14) rfl (by kernel_rfl) rfl (fun K hK => ?_)
    go_simp
    refine hK.out _ _ (fun h => absurd rfl h) (fun _ => ?_)
    clear hK K
    refine wpAnyG_done (by kernel_rfl) ?_ _
    clear hHeld cz f1 f2 mkS MZ
    have MS := Lib.hid (PUu.out.row hm3.out M3.out).2
    have QS := Lib.hid (PUu.out.row (fun h => by have := hge3.out _ h; omega) Q3.out).2
    have K5 := Lib.hid (PUu.out.ext w K3.out fun y hy => by have := hge3.out y hy; omega)
    obtain ⟨es, n1, n2, n3⟩ := PUu.out.net
    have O5 : Hid (OwnNet _ _ (joinNet N k l) es) := n1
    have D5 : Hid (es.Nodup ∧ ∀ y ∈ es, w.heap.size + 2 ≤ y) := ⟨n2, fun y hy => by rcases n3 y hy with h | h; exact hge3.out y h; have := Q3.out.lt; omega⟩
    obtain ⟨r0, r1, r2, _, _, _⟩ := row3_facts MS.out
    obtain ⟨u0, u1, u2, s0, s1, s2⟩ := row3_facts QS.out
    clear n1 n2 n3
    go_wp2
    refine bodyPost_ret (v := .agg #[.slice (some ⟨b, 0, none⟩) N.ends.length c0, .slice a1 N.ids.length c1, .slice a2 N.inputs.length c2]) (by simp [results, Try.results89, go_sem, u0, u1, u2]) rfl ?_
    have hc := close_net K5.out O5.out D5.out.1 D5.out.2
    exact ⟨_, es, rfl, hc.1, hc.2.1, hc.2.2⟩
end Go.Proofs.Ytndgbildkeglfaa
