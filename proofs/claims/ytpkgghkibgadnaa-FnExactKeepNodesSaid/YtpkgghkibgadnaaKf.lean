/- Several texts in one: Join, Ae, Ae2. -/
import Derived.Test.YtpkgghkibgadnaaKe
/- The contract of neJoin: a copy of the network with one edge more. -/
namespace Go.Proofs.Ytpkgghkibgadnaa
open Go.RowKit

/-- The place of the second end. -/
def joinAt (N : Net) (k l : Nat) : Int := if k = l then (gr N.ends l).length + 1 else (gr N.ends l).length
def joinNet (N : Net) (k l : Nat) : Net := addEnd (addEnd N k (l, joinAt N k l)) l (k, (gr N.ends k).length)
theorem addEnd_len (N : Net) (k : Nat) (p : Int × Int) : (addEnd N k p).ends.length = N.ends.length := by simp [addEnd]
theorem addEnd_row (N : Net) (k l : Nat) (p : Int × Int) (hk : k < N.ends.length) : (gr (addEnd N k p).ends l).length ≤ (gr N.ends l).length + 1 := by
  unfold addEnd
  rw [gr_set _ _ _ _ hk]
  by_cases e : l = k
  · subst e; simp
  · simp [e]

set_option maxHeartbeats 3200000 in
set_option maxRecDepth 100000 in
theorem neJoin_any {w : World} {v : Value} {N : Net} (k l : Nat) (hk : k < N.ends.length) (hl : l < N.ends.length) (h : NetAt w v N) (hs : N.small) :
    Calls Try.prog 37 #[v, .int .i64 k, .int .i64 l] w fun e w' => ∃ v' bs, e = .returned v' ∧ Ext w w' ∧ OwnNet w' v' (joinNet N k l) bs ∧ Fresh w bs := by
  have HN := Lib.hid h
  have HS := Lib.hid hs
  obtain ⟨v0, v1, v2, rfl, hE, hI, hP⟩ := h
  clear hE hI hP
  have HX := Lib.hid (boxed2_ext w v0 v1 v2)
  have HR := Lib.hid (boxed2_row w v0 v1 v2)
  have HQ := Lib.hid (boxed2_res w v0 v1 v2)
  obtain ⟨p0, p1, p2, _, _, _⟩ := row3_facts HR.out
  obtain ⟨i1, hj, hy0, hy1, hy2⟩ := info_parts Try.info44
  have I1 := Lib.hid (And.intro hj (And.intro hy0 (And.intro hy1 hy2)))
  have hlen := hs.2.1 k
  have hlenl := hs.2.1 l
  have hlen0 := hs.1
  have hj0 : joinAt N k l ≤ 1048577 ∧ 0 ≤ joinAt N k l := by unfold joinAt; split <;> omega
  have hp := Lib.hid (show inI64 (l : Int) ∧ inI64 (joinAt N k l) by unfold inI64; omega)
  have hp2 := Lib.hid (show inI64 (k : Int) ∧ inI64 ((gr N.ends k).length : Int) by unfold inI64; omega)
  have hrow := addEnd_row N k l (l, joinAt N k l) hk
  have hlenA := Lib.hid (addEnd_len N k (l, joinAt N k l))
  clear hj hy0 hy1 hy2 hs
  go_enter Try.func37, Try.ntmps37
  go_wp2_with fail
  (with_reducible refine (neOwn_any (HN.out.ext HX.out) HS.out).mono ?_)
  rintro e w2 ⟨y, bs, rfl, hw, ho, hf⟩
  obtain ⟨a0, c0, a1, c1, a2, c2, rfl⟩ := ho.agg
  obtain ⟨W, hW⟩ : ∃ W, W = w2.alloc (.cells #[.slice a0 N.ends.length c0, .slice a1 N.ids.length c1, .slice a2 N.inputs.length c2] 29) := ⟨_, rfl⟩
  have hA : Ext w2 W := by rw [hW]; exact (Ext.rfl' w2).alloc' _
  have M2 : Hid (W.rowIs w2.heap.size 29 3 (tri (.slice a0 N.ends.length c0) (.slice a1 N.ids.length c1) (.slice a2 N.inputs.length c2))) := by rw [hW]; exact row3_made w2 _ _ _ 29
  have K2 := Lib.hid ((HX.out.trans' hw).trans' hA)
  have Q2 := Lib.hid (row_ext (row_ext HQ.out hw) hA)
  have hge := Lib.hid (show ∀ b ∈ bs, w.heap.size + 2 ≤ b from fun b hb => by have := hf.2 b hb; have := HQ.out.lt; omega)
  have hge2 := Lib.hid (show w.heap.size + 2 ≤ w2.heap.size by have := hw.size; have := HQ.out.lt; omega)
  have hBX := Lib.hid ho.lt
  have hOW := ho.ext hA
  obtain ⟨b, c, ax, cx, t, hv, hat⟩ := own_at hOW hf.1 hk
  obtain ⟨rfl, rfl⟩ : a0 = some ⟨b, 0, none⟩ ∧ c0 = c := by simpa using hv
  obtain ⟨b2, c', axl, cxl, tl, hv2, hatl⟩ := own_at hOW hf.1 hl
  obtain ⟨rfl, rfl⟩ : b = b2 ∧ c0 = c' := by simpa using hv2
  have FA := Lib.hid hat
  have hm : Hid (w2.heap.size ∉ bs) := fun h => absurd (hBX.out _ h) (by omega)
  obtain ⟨q0, q1, q2, t0, t1, t2⟩ := row3_facts M2.out
  have cellk := hat.cell
  have celll := hatl.cell
  clear hw ho hf hA hv hv2 hat hatl p0 p1 p2 hOW t0 t1 t2
  by_cases hkl : k = l
  case pos =>
    subst hkl
    have hji := Lib.hid (show joinAt N k k = ((gr N.ends k).length : Int) + 1 by simp [joinAt])
    clear celll
    rw [hW] at q0 q1 q2 cellk
    go_wp2_with fail
    rw [← hW]
    clear q0 q1 q2 cellk hW
    have hpX : Hid (inI64 (k : Int) ∧ inI64 (((gr N.ends k).length : Int) + 1)) := by have := hp.out; rw [hji.out] at this; exact this
    have mkS : ∀ w' : World, Ext W w' → w'.cell? ⟨w2.heap.size, 0, none⟩ = some (.slice (some ⟨b, 0, none⟩) (N).ends.length c0) ∧ w'.cell? ⟨b, k, none⟩ = some (.slice ax (gr (N).ends k).length cx) := fun w' h => ⟨h.cell' (row3_facts M2.out).1, h.cell' FA.out.cell⟩
    refine wp_region_gate (n := 14) (S := fun w' => w'.cell? ⟨w2.heap.size, 0, none⟩ = some (.slice (some ⟨b, 0, none⟩) (N).ends.length c0) ∧ w'.cell? ⟨b, k, none⟩ = some (.slice ax (gr (N).ends k).length cx)) (by kernel_rfl) (mkS _ (Ext.rfl' W).drew') (fun hHeld => ?_)
    iterate 11 (
      (first
        | refine wpAnyG_take (i := 0) (v := ?_) rfl (by decide +kernel) (by kernel_rfl) (by decide) (by kernel_rfl) (by kernel_rfl) (fun _ _ _ h => h) (Or.inl ⟨by rfl, ?_⟩) hHeld ?_
        | refine wpAnyG_take (i := 1) (v := ?_) rfl (by decide +kernel) (by kernel_rfl) (by decide) (by kernel_rfl) (by kernel_rfl) (fun _ _ _ h => h) (Or.inl ⟨by rfl, ?_⟩) hHeld ?_
        | refine wpAnyG_take (i := 2) (v := ?_) rfl (by decide +kernel) (by kernel_rfl) (by decide) (by kernel_rfl) (by kernel_rfl) (fun _ _ _ h => h) (Or.inl ⟨by rfl, ?_⟩) hHeld ?_
        | refine wpAnyG_take (i := 3) (v := ?_) rfl (by decide +kernel) (by kernel_rfl) (by decide) (by kernel_rfl) (by kernel_rfl) (fun _ _ _ h => h) (Or.inl ⟨by rfl, ?_⟩) hHeld ?_
        | refine wpAnyG_take (i := 4) (v := ?_) rfl (by decide +kernel) (by kernel_rfl) (by decide) (by kernel_rfl) (by kernel_rfl) (fun _ _ _ h => h) (Or.inl ⟨by rfl, ?_⟩) hHeld ?_
        | refine wpAnyG_take (i := 5) (v := ?_) rfl (by decide +kernel) (by kernel_rfl) (by decide) (by kernel_rfl) (by kernel_rfl) (fun _ _ _ h => h) (Or.inl ⟨by rfl, ?_⟩) hHeld ?_
        | refine wpAnyG_take (i := 6) (v := ?_) rfl (by decide +kernel) (by kernel_rfl) (by decide) (by kernel_rfl) (by kernel_rfl) (fun _ _ _ h => h) (Or.inl ⟨by rfl, ?_⟩) hHeld ?_
        | refine wpAnyG_take (i := 7) (v := ?_) rfl (by decide +kernel) (by kernel_rfl) (by decide) (by kernel_rfl) (by kernel_rfl) (fun _ _ _ h => h) (Or.inl ⟨by rfl, ?_⟩) hHeld ?_
        | refine wpAnyG_take (i := 8) (v := ?_) rfl (by decide +kernel) (by kernel_rfl) (by decide) (by kernel_rfl) (by kernel_rfl) (fun _ _ _ h => h) (Or.inl ⟨by rfl, ?_⟩) hHeld ?_
        | refine wpAnyG_take (i := 9) (v := ?_) rfl (by decide +kernel) (by kernel_rfl) (by decide) (by kernel_rfl) (by kernel_rfl) (fun _ _ _ h => h) (Or.inl ⟨by rfl, ?_⟩) hHeld ?_
        | refine wpAnyG_take (i := 10) (v := ?_) rfl (by decide +kernel) (by kernel_rfl) (by decide) (by kernel_rfl) (by kernel_rfl) (fun _ _ _ h => h) (Or.inl ⟨by rfl, ?_⟩) hHeld ?_
      )
      rotate_left 1
      · (intro w' hSw; (try dsimp only at hSw); go_simp) <;> with_reducible rfl
      simp only [Act.put, List.setIfInBounds_toArray])
    refine wpAnyG_one (i := 11) rfl (by kernel_rfl) rfl (fun K hK => ?_)
    go_simp
    refine hK.out _ _ (fun _ => mkS _ (by first | exact (Ext.rfl' W).drew'.alloc' _ | exact ((Ext.rfl' W).alloc' _).drew')) (fun _ => ?_)
    clear hK K
    refine wpAnyG_one (i := 12) rfl (by kernel_rfl) rfl (fun K hK => ?_)
    refine wp_app2 (.tmp 36) (.tmp 40) 59 rfl 0 52 i1 (.agg #[.int .i64 0, .int .i64 0]) 2 16 Try.underlying59 I1.out.1 I1.out.2.1 I1.out.2.2.1 I1.out.2.2.2 rfl (by decide) (.slice ax (gr (N).ends k).length cx) (gr (N).ends k).length (endCells (gr (N).ends k)) rfl ((FA.out.row.ext (by first | exact (Ext.rfl' W).drew'.alloc' _ | exact ((Ext.rfl' W).alloc' _).drew')).owns (fun _ _ => Nat.zero_le _)) (some ⟨W.heap.size, 0, none⟩) 1 1 [.int .i64 ((k : Int)), .int .i64 (((gr N.ends k).length : Int) + 1)] rfl (by first | exact src_two W.drew _ _ 52 rfl rfl | exact src_two W _ _ 52 rfl rfl | exact src_drew (src_two W _ _ 52 rfl rfl)) (by unfold maxLen; omega) (by omega) (Nat.zero_le _) ?_
    intro v' w1s hg
    have PUs := Lib.hid (FA.out.put (p := ((k : Int), ((gr N.ends k).length : Int) + 1)) (by first | exact (Ext.rfl' W).drew'.alloc' _ | exact ((Ext.rfl' W).alloc' _).drew') hpX.out hg)
    obtain ⟨ays, cys, rfl⟩ := PUs.out.form
    have hmb := hm.out
    have MZ := Lib.hid (PUs.out.row hmb M2.out)
    have cz := (row3_facts MZ.out.1).1
    have f1 := PUs.out.cell
    have f2 := PUs.out.frozen
    clear hg hmb
    refine hK.out _ _ (fun _ => ⟨cz, f1⟩) (fun hHeld' => ?_)
    have hHeld := hHeld' (by decide)
    clear hK K hHeld'
    (
      (first
        | refine wpAnyG_take (i := 13) (v := ?_) rfl (by decide +kernel) (by kernel_rfl) (by decide) (by kernel_rfl) (by kernel_rfl) (fun _ _ _ h => h) (Or.inl ⟨by rfl, ?_⟩) hHeld ?_
      )
      rotate_left 1
      · (intro w' hSw; (try dsimp only at hSw); go_simp) <;> with_reducible rfl
      simp only [Act.put, List.setIfInBounds_toArray])
    refine wpAnyG_one (i := 14) rfl (by kernel_rfl) rfl (fun K hK => ?_)
    go_simp
    refine hK.out _ _ (fun h => absurd rfl h) (fun _ => ?_)
    clear hK K
    refine wpAnyG_done (by kernel_rfl) ?_ _
    clear hHeld cz f1 f2 mkS MZ
    obtain ⟨W', hW'⟩ : ∃ W', W' = w1s.setCell ⟨b, k, none⟩ (.slice ays ((gr N.ends k).length + 1) cys) := ⟨_, rfl⟩
    have M3 : Hid (W'.rowIs w2.heap.size 29 3 (tri (.slice (some ⟨b, 0, none⟩) N.ends.length c0) (.slice a1 N.ids.length c1) (.slice a2 N.inputs.length c2))) := by rw [hW']; exact (PUs.out.row hm.out M2.out).2
    have Q3 : Hid (W'.rowIs (w.heap.size + 1) 29 3 (tri (.slice none 0 0) (.slice none 0 0) (.slice none 0 0))) := by rw [hW']; exact (PUs.out.row (fun h => by have := hge.out _ h; omega) Q2.out).2
    have K3 : Hid (Ext w W') := by rw [hW']; exact PUs.out.ext w K2.out fun y hy => by have := hge.out y hy; omega
    have hz3 : Hid (W.heap.size ≤ W'.heap.size) := by rw [hW']; exact PUs.out.size
    obtain ⟨ds, n1, n2, n3⟩ := PUs.out.net
    rw [← hW'] at n1
    rw [← hji.out] at n1
    have hge3 := Lib.hid (show ∀ y ∈ ds, w.heap.size + 2 ≤ y from fun y hy => by rcases n3 y hy with h | h; exact hge.out y h; have := Q2.out.lt; omega)
    have hm3 : Hid (w2.heap.size ∉ ds) := fun h => by rcases n3 _ h with h | h; exact hm.out h; have := M2.out.lt; omega
    obtain ⟨b3, c3, ax3, cx3, t3, hv3, hat3⟩ := own_at n1 n2 (k := k) (by rw [hlenA.out]; exact hk)
    have hvE : b = b3 ∧ c0 = c3 := by have := hv3; rw [hlenA.out] at this; simpa using this
    obtain ⟨rfl, rfl⟩ := hvE
    have FA3 := Lib.hid hat3
    obtain ⟨r0, r1, r2, _, _, _⟩ := row3_facts M3.out
    clear n1 n2 n3 hv3 hat3
    rw [hW'] at r0 r1 r2
    go_wp2_with fail
    rw [← hW']
    clear r0 r1 r2 hW'
    have mkS : ∀ w' : World, Ext W' w' → w'.cell? ⟨w2.heap.size, 0, none⟩ = some (.slice (some ⟨b, 0, none⟩) N.ends.length c0) ∧ w'.cell? ⟨b, k, none⟩ = some (.slice ax3 (gr (addEnd N k (k, joinAt N k k)).ends k).length cx3) := fun w' h => ⟨h.cell' (row3_facts M3.out).1, h.cell' FA3.out.cell⟩
    refine wp_region_gate (n := 14) (S := fun w' => w'.cell? ⟨w2.heap.size, 0, none⟩ = some (.slice (some ⟨b, 0, none⟩) N.ends.length c0) ∧ w'.cell? ⟨b, k, none⟩ = some (.slice ax3 (gr (addEnd N k (k, joinAt N k k)).ends k).length cx3)) (by kernel_rfl) (mkS _ (Ext.rfl' W').drew') (fun hHeld => ?_)
    iterate 11 (
      (first
        | refine wpAnyG_take (i := 0) (v := ?_) rfl (by decide +kernel) (by kernel_rfl) (by decide) (by kernel_rfl) (by kernel_rfl) (fun _ _ _ h => h) (Or.inl ⟨by rfl, ?_⟩) hHeld ?_
        | refine wpAnyG_take (i := 1) (v := ?_) rfl (by decide +kernel) (by kernel_rfl) (by decide) (by kernel_rfl) (by kernel_rfl) (fun _ _ _ h => h) (Or.inl ⟨by rfl, ?_⟩) hHeld ?_
        | refine wpAnyG_take (i := 2) (v := ?_) rfl (by decide +kernel) (by kernel_rfl) (by decide) (by kernel_rfl) (by kernel_rfl) (fun _ _ _ h => h) (Or.inl ⟨by rfl, ?_⟩) hHeld ?_
        | refine wpAnyG_take (i := 3) (v := ?_) rfl (by decide +kernel) (by kernel_rfl) (by decide) (by kernel_rfl) (by kernel_rfl) (fun _ _ _ h => h) (Or.inl ⟨by rfl, ?_⟩) hHeld ?_
        | refine wpAnyG_take (i := 4) (v := ?_) rfl (by decide +kernel) (by kernel_rfl) (by decide) (by kernel_rfl) (by kernel_rfl) (fun _ _ _ h => h) (Or.inl ⟨by rfl, ?_⟩) hHeld ?_
        | refine wpAnyG_take (i := 5) (v := ?_) rfl (by decide +kernel) (by kernel_rfl) (by decide) (by kernel_rfl) (by kernel_rfl) (fun _ _ _ h => h) (Or.inl ⟨by rfl, ?_⟩) hHeld ?_
        | refine wpAnyG_take (i := 6) (v := ?_) rfl (by decide +kernel) (by kernel_rfl) (by decide) (by kernel_rfl) (by kernel_rfl) (fun _ _ _ h => h) (Or.inl ⟨by rfl, ?_⟩) hHeld ?_
        | refine wpAnyG_take (i := 7) (v := ?_) rfl (by decide +kernel) (by kernel_rfl) (by decide) (by kernel_rfl) (by kernel_rfl) (fun _ _ _ h => h) (Or.inl ⟨by rfl, ?_⟩) hHeld ?_
        | refine wpAnyG_take (i := 8) (v := ?_) rfl (by decide +kernel) (by kernel_rfl) (by decide) (by kernel_rfl) (by kernel_rfl) (fun _ _ _ h => h) (Or.inl ⟨by rfl, ?_⟩) hHeld ?_
        | refine wpAnyG_take (i := 9) (v := ?_) rfl (by decide +kernel) (by kernel_rfl) (by decide) (by kernel_rfl) (by kernel_rfl) (fun _ _ _ h => h) (Or.inl ⟨by rfl, ?_⟩) hHeld ?_
        | refine wpAnyG_take (i := 10) (v := ?_) rfl (by decide +kernel) (by kernel_rfl) (by decide) (by kernel_rfl) (by kernel_rfl) (fun _ _ _ h => h) (Or.inl ⟨by rfl, ?_⟩) hHeld ?_
      )
      rotate_left 1
      · (intro w' hSw; (try dsimp only at hSw); go_simp) <;> with_reducible rfl
      simp only [Act.put, List.setIfInBounds_toArray])
    refine wpAnyG_one (i := 11) rfl (by kernel_rfl) rfl (fun K hK => ?_)
    go_simp
    refine hK.out _ _ (fun _ => mkS _ (by first | exact (Ext.rfl' W').drew'.alloc' _ | exact ((Ext.rfl' W').alloc' _).drew')) (fun _ => ?_)
    clear hK K
    refine wpAnyG_one (i := 12) rfl (by kernel_rfl) rfl (fun K hK => ?_)
    refine wp_app2 (.tmp 50) (.tmp 54) 59 rfl 0 52 i1 (.agg #[.int .i64 0, .int .i64 0]) 2 16 Try.underlying59 I1.out.1 I1.out.2.1 I1.out.2.2.1 I1.out.2.2.2 rfl (by decide) (.slice ax3 (gr (addEnd N k (k, joinAt N k k)).ends k).length cx3) (gr (addEnd N k (k, joinAt N k k)).ends k).length (endCells (gr (addEnd N k (k, joinAt N k k)).ends k)) rfl ((FA3.out.row.ext (by first | exact (Ext.rfl' W').drew'.alloc' _ | exact ((Ext.rfl' W').alloc' _).drew')).owns (fun _ _ => Nat.zero_le _)) (some ⟨W'.heap.size, 0, none⟩) 1 1 [.int .i64 ((k : Int)), .int .i64 (((gr N.ends k).length : Int))] rfl (by first | exact src_two W'.drew _ _ 52 rfl rfl | exact src_two W' _ _ 52 rfl rfl | exact src_drew (src_two W' _ _ 52 rfl rfl)) (by unfold maxLen; omega) (by omega) (Nat.zero_le _) ?_
    intro v' w1u hg
    have PUu := Lib.hid (FA3.out.put (p := ((k : Int), ((gr N.ends k).length : Int))) (by first | exact (Ext.rfl' W').drew'.alloc' _ | exact ((Ext.rfl' W').alloc' _).drew') hp2.out hg)
    obtain ⟨ayu, cyu, rfl⟩ := PUu.out.form
    have hmb := hm3.out
    have MZ := Lib.hid (PUu.out.row hmb M3.out)
    have cz := (row3_facts MZ.out.1).1
    have f1 := PUu.out.cell
    have f2 := PUu.out.frozen
    clear hg hmb
    refine hK.out _ _ (fun _ => ⟨cz, f1⟩) (fun hHeld' => ?_)
    have hHeld := hHeld' (by decide)
    clear hK K hHeld'
    (
      (first
        | refine wpAnyG_take (i := 13) (v := ?_) rfl (by decide +kernel) (by kernel_rfl) (by decide) (by kernel_rfl) (by kernel_rfl) (fun _ _ _ h => h) (Or.inl ⟨by rfl, ?_⟩) hHeld ?_
      )
      rotate_left 1
      · (intro w' hSw; (try dsimp only at hSw); go_simp) <;> with_reducible rfl
      simp only [Act.put, List.setIfInBounds_toArray])
    refine wpAnyG_one (i := 14) rfl (by kernel_rfl) rfl (fun K hK => ?_)
    go_simp
    refine hK.out _ _ (fun h => absurd rfl h) (fun _ => ?_)
    clear hK K
    refine wpAnyG_done (by kernel_rfl) ?_ _
    clear hHeld cz f1 f2 mkS MZ
    have MS := Lib.hid (PUu.out.row hm3.out M3.out).2
    have QS := Lib.hid (PUu.out.row (fun h => by have := hge3.out _ h; omega) Q3.out).2
    have K5 := Lib.hid (PUu.out.ext w K3.out fun y hy => by have := hge3.out y hy; omega)
    obtain ⟨es, n1, n2, n3⟩ := PUu.out.net
    have O5 : Hid (OwnNet _ _ (joinNet N k k) es) := n1
    have D5 : Hid (es.Nodup ∧ ∀ y ∈ es, w.heap.size + 2 ≤ y) := ⟨n2, fun y hy => by rcases n3 y hy with h | h; exact hge3.out y h; have := Q3.out.lt; omega⟩
    obtain ⟨r0, r1, r2, _, _, _⟩ := row3_facts MS.out
    obtain ⟨u0, u1, u2, s0, s1, s2⟩ := row3_facts QS.out
    clear n1 n2 n3
    go_wp2
    refine bodyPost_ret (v := .agg #[.slice (some ⟨b, 0, none⟩) N.ends.length c0, .slice a1 N.ids.length c1, .slice a2 N.inputs.length c2]) (by simp [results, Try.results37, go_sem, u0, u1, u2]) rfl ?_
    have hc := close_net K5.out O5.out D5.out.1 D5.out.2
    exact ⟨_, es, rfl, hc.1, hc.2.1, hc.2.2⟩
  case neg =>
    have hji := Lib.hid (show joinAt N k l = ((gr N.ends l).length : Int) by simp [joinAt, hkl])
    have hkl' : ¬ (k : Int) = (l : Int) := by omega
    rw [hW] at q0 q1 q2 cellk celll
    go_wp2_with fail
    rw [← hW]
    clear q0 q1 q2 cellk celll hW
    have hpX : Hid (inI64 (l : Int) ∧ inI64 (((gr N.ends l).length : Int))) := by have := hp.out; rw [hji.out] at this; exact this
    have mkS : ∀ w' : World, Ext W w' → w'.cell? ⟨w2.heap.size, 0, none⟩ = some (.slice (some ⟨b, 0, none⟩) (N).ends.length c0) ∧ w'.cell? ⟨b, k, none⟩ = some (.slice ax (gr (N).ends k).length cx) := fun w' h => ⟨h.cell' (row3_facts M2.out).1, h.cell' FA.out.cell⟩
    refine wp_region_gate (n := 14) (S := fun w' => w'.cell? ⟨w2.heap.size, 0, none⟩ = some (.slice (some ⟨b, 0, none⟩) (N).ends.length c0) ∧ w'.cell? ⟨b, k, none⟩ = some (.slice ax (gr (N).ends k).length cx)) (by kernel_rfl) (mkS _ (Ext.rfl' W).drew') (fun hHeld => ?_)
    iterate 11 (
      (first
        | refine wpAnyG_take (i := 0) (v := ?_) rfl (by decide +kernel) (by kernel_rfl) (by decide) (by kernel_rfl) (by kernel_rfl) (fun _ _ _ h => h) (Or.inl ⟨by rfl, ?_⟩) hHeld ?_
        | refine wpAnyG_take (i := 1) (v := ?_) rfl (by decide +kernel) (by kernel_rfl) (by decide) (by kernel_rfl) (by kernel_rfl) (fun _ _ _ h => h) (Or.inl ⟨by rfl, ?_⟩) hHeld ?_
        | refine wpAnyG_take (i := 2) (v := ?_) rfl (by decide +kernel) (by kernel_rfl) (by decide) (by kernel_rfl) (by kernel_rfl) (fun _ _ _ h => h) (Or.inl ⟨by rfl, ?_⟩) hHeld ?_
        | refine wpAnyG_take (i := 3) (v := ?_) rfl (by decide +kernel) (by kernel_rfl) (by decide) (by kernel_rfl) (by kernel_rfl) (fun _ _ _ h => h) (Or.inl ⟨by rfl, ?_⟩) hHeld ?_
        | refine wpAnyG_take (i := 4) (v := ?_) rfl (by decide +kernel) (by kernel_rfl) (by decide) (by kernel_rfl) (by kernel_rfl) (fun _ _ _ h => h) (Or.inl ⟨by rfl, ?_⟩) hHeld ?_
        | refine wpAnyG_take (i := 5) (v := ?_) rfl (by decide +kernel) (by kernel_rfl) (by decide) (by kernel_rfl) (by kernel_rfl) (fun _ _ _ h => h) (Or.inl ⟨by rfl, ?_⟩) hHeld ?_
        | refine wpAnyG_take (i := 6) (v := ?_) rfl (by decide +kernel) (by kernel_rfl) (by decide) (by kernel_rfl) (by kernel_rfl) (fun _ _ _ h => h) (Or.inl ⟨by rfl, ?_⟩) hHeld ?_
        | refine wpAnyG_take (i := 7) (v := ?_) rfl (by decide +kernel) (by kernel_rfl) (by decide) (by kernel_rfl) (by kernel_rfl) (fun _ _ _ h => h) (Or.inl ⟨by rfl, ?_⟩) hHeld ?_
        | refine wpAnyG_take (i := 8) (v := ?_) rfl (by decide +kernel) (by kernel_rfl) (by decide) (by kernel_rfl) (by kernel_rfl) (fun _ _ _ h => h) (Or.inl ⟨by rfl, ?_⟩) hHeld ?_
        | refine wpAnyG_take (i := 9) (v := ?_) rfl (by decide +kernel) (by kernel_rfl) (by decide) (by kernel_rfl) (by kernel_rfl) (fun _ _ _ h => h) (Or.inl ⟨by rfl, ?_⟩) hHeld ?_
        | refine wpAnyG_take (i := 10) (v := ?_) rfl (by decide +kernel) (by kernel_rfl) (by decide) (by kernel_rfl) (by kernel_rfl) (fun _ _ _ h => h) (Or.inl ⟨by rfl, ?_⟩) hHeld ?_
      )
      rotate_left 1
      · (intro w' hSw; (try dsimp only at hSw); go_simp) <;> with_reducible rfl
      simp only [Act.put, List.setIfInBounds_toArray])
    refine wpAnyG_one (i := 11) rfl (by kernel_rfl) rfl (fun K hK => ?_)
    go_simp
    refine hK.out _ _ (fun _ => mkS _ (by first | exact (Ext.rfl' W).drew'.alloc' _ | exact ((Ext.rfl' W).alloc' _).drew')) (fun _ => ?_)
    clear hK K
    refine wpAnyG_one (i := 12) rfl (by kernel_rfl) rfl (fun K hK => ?_)
    refine wp_app2 (.tmp 36) (.tmp 40) 59 rfl 0 52 i1 (.agg #[.int .i64 0, .int .i64 0]) 2 16 Try.underlying59 I1.out.1 I1.out.2.1 I1.out.2.2.1 I1.out.2.2.2 rfl (by decide) (.slice ax (gr (N).ends k).length cx) (gr (N).ends k).length (endCells (gr (N).ends k)) rfl ((FA.out.row.ext (by first | exact (Ext.rfl' W).drew'.alloc' _ | exact ((Ext.rfl' W).alloc' _).drew')).owns (fun _ _ => Nat.zero_le _)) (some ⟨W.heap.size, 0, none⟩) 1 1 [.int .i64 ((l : Int)), .int .i64 (((gr N.ends l).length : Int))] rfl (by first | exact src_two W.drew _ _ 52 rfl rfl | exact src_two W _ _ 52 rfl rfl | exact src_drew (src_two W _ _ 52 rfl rfl)) (by unfold maxLen; omega) (by omega) (Nat.zero_le _) ?_
    intro v' w1s hg
    have PUs := Lib.hid (FA.out.put (p := ((l : Int), ((gr N.ends l).length : Int))) (by first | exact (Ext.rfl' W).drew'.alloc' _ | exact ((Ext.rfl' W).alloc' _).drew') hpX.out hg)
    obtain ⟨ays, cys, rfl⟩ := PUs.out.form
    have hmb := hm.out
    have MZ := Lib.hid (PUs.out.row hmb M2.out)
    have cz := (row3_facts MZ.out.1).1
    have f1 := PUs.out.cell
    have f2 := PUs.out.frozen
    clear hg hmb
    refine hK.out _ _ (fun _ => ⟨cz, f1⟩) (fun hHeld' => ?_)
    have hHeld := hHeld' (by decide)
    clear hK K hHeld'
    (
      (first
        | refine wpAnyG_take (i := 13) (v := ?_) rfl (by decide +kernel) (by kernel_rfl) (by decide) (by kernel_rfl) (by kernel_rfl) (fun _ _ _ h => h) (Or.inl ⟨by rfl, ?_⟩) hHeld ?_
      )
      rotate_left 1
      · (intro w' hSw; (try dsimp only at hSw); go_simp) <;> with_reducible rfl
      simp only [Act.put, List.setIfInBounds_toArray])
    refine wpAnyG_one (i := 14) rfl (by kernel_rfl) rfl (fun K hK => ?_)
    go_simp
    refine hK.out _ _ (fun h => absurd rfl h) (fun _ => ?_)
    clear hK K
    refine wpAnyG_done (by kernel_rfl) ?_ _
    clear hHeld cz f1 f2 mkS MZ
    obtain ⟨W', hW'⟩ : ∃ W', W' = w1s.setCell ⟨b, k, none⟩ (.slice ays ((gr N.ends k).length + 1) cys) := ⟨_, rfl⟩
    have M3 : Hid (W'.rowIs w2.heap.size 29 3 (tri (.slice (some ⟨b, 0, none⟩) N.ends.length c0) (.slice a1 N.ids.length c1) (.slice a2 N.inputs.length c2))) := by rw [hW']; exact (PUs.out.row hm.out M2.out).2
    have Q3 : Hid (W'.rowIs (w.heap.size + 1) 29 3 (tri (.slice none 0 0) (.slice none 0 0) (.slice none 0 0))) := by rw [hW']; exact (PUs.out.row (fun h => by have := hge.out _ h; omega) Q2.out).2
    have K3 : Hid (Ext w W') := by rw [hW']; exact PUs.out.ext w K2.out fun y hy => by have := hge.out y hy; omega
    have hz3 : Hid (W.heap.size ≤ W'.heap.size) := by rw [hW']; exact PUs.out.size
    obtain ⟨ds, n1, n2, n3⟩ := PUs.out.net
    rw [← hW'] at n1
    rw [← hji.out] at n1
    have hge3 := Lib.hid (show ∀ y ∈ ds, w.heap.size + 2 ≤ y from fun y hy => by rcases n3 y hy with h | h; exact hge.out y h; have := Q2.out.lt; omega)
    have hm3 : Hid (w2.heap.size ∉ ds) := fun h => by rcases n3 _ h with h | h; exact hm.out h; have := M2.out.lt; omega
    obtain ⟨b3, c3, ax3, cx3, t3, hv3, hat3⟩ := own_at n1 n2 (k := l) (by rw [hlenA.out]; exact hl)
    have hvE : b = b3 ∧ c0 = c3 := by have := hv3; rw [hlenA.out] at this; simpa using this
    obtain ⟨rfl, rfl⟩ := hvE
    have FA3 := Lib.hid hat3
    obtain ⟨r0, r1, r2, _, _, _⟩ := row3_facts M3.out
    clear n1 n2 n3 hv3 hat3
    rw [hW'] at r0 r1 r2
    go_wp2_with fail
    rw [← hW']
    clear r0 r1 r2 hW'
    have mkS : ∀ w' : World, Ext W' w' → w'.cell? ⟨w2.heap.size, 0, none⟩ = some (.slice (some ⟨b, 0, none⟩) N.ends.length c0) ∧ w'.cell? ⟨b, l, none⟩ = some (.slice ax3 (gr (addEnd N k (l, joinAt N k l)).ends l).length cx3) := fun w' h => ⟨h.cell' (row3_facts M3.out).1, h.cell' FA3.out.cell⟩
    refine wp_region_gate (n := 14) (S := fun w' => w'.cell? ⟨w2.heap.size, 0, none⟩ = some (.slice (some ⟨b, 0, none⟩) N.ends.length c0) ∧ w'.cell? ⟨b, l, none⟩ = some (.slice ax3 (gr (addEnd N k (l, joinAt N k l)).ends l).length cx3)) (by kernel_rfl) (mkS _ (Ext.rfl' W').drew') (fun hHeld => ?_)
    iterate 11 (
      (first
        | refine wpAnyG_take (i := 0) (v := ?_) rfl (by decide +kernel) (by kernel_rfl) (by decide) (by kernel_rfl) (by kernel_rfl) (fun _ _ _ h => h) (Or.inl ⟨by rfl, ?_⟩) hHeld ?_
        | refine wpAnyG_take (i := 1) (v := ?_) rfl (by decide +kernel) (by kernel_rfl) (by decide) (by kernel_rfl) (by kernel_rfl) (fun _ _ _ h => h) (Or.inl ⟨by rfl, ?_⟩) hHeld ?_
        | refine wpAnyG_take (i := 2) (v := ?_) rfl (by decide +kernel) (by kernel_rfl) (by decide) (by kernel_rfl) (by kernel_rfl) (fun _ _ _ h => h) (Or.inl ⟨by rfl, ?_⟩) hHeld ?_
        | refine wpAnyG_take (i := 3) (v := ?_) rfl (by decide +kernel) (by kernel_rfl) (by decide) (by kernel_rfl) (by kernel_rfl) (fun _ _ _ h => h) (Or.inl ⟨by rfl, ?_⟩) hHeld ?_
        | refine wpAnyG_take (i := 4) (v := ?_) rfl (by decide +kernel) (by kernel_rfl) (by decide) (by kernel_rfl) (by kernel_rfl) (fun _ _ _ h => h) (Or.inl ⟨by rfl, ?_⟩) hHeld ?_
        | refine wpAnyG_take (i := 5) (v := ?_) rfl (by decide +kernel) (by kernel_rfl) (by decide) (by kernel_rfl) (by kernel_rfl) (fun _ _ _ h => h) (Or.inl ⟨by rfl, ?_⟩) hHeld ?_
        | refine wpAnyG_take (i := 6) (v := ?_) rfl (by decide +kernel) (by kernel_rfl) (by decide) (by kernel_rfl) (by kernel_rfl) (fun _ _ _ h => h) (Or.inl ⟨by rfl, ?_⟩) hHeld ?_
        | refine wpAnyG_take (i := 7) (v := ?_) rfl (by decide +kernel) (by kernel_rfl) (by decide) (by kernel_rfl) (by kernel_rfl) (fun _ _ _ h => h) (Or.inl ⟨by rfl, ?_⟩) hHeld ?_
        | refine wpAnyG_take (i := 8) (v := ?_) rfl (by decide +kernel) (by kernel_rfl) (by decide) (by kernel_rfl) (by kernel_rfl) (fun _ _ _ h => h) (Or.inl ⟨by rfl, ?_⟩) hHeld ?_
        | refine wpAnyG_take (i := 9) (v := ?_) rfl (by decide +kernel) (by kernel_rfl) (by decide) (by kernel_rfl) (by kernel_rfl) (fun _ _ _ h => h) (Or.inl ⟨by rfl, ?_⟩) hHeld ?_
        | refine wpAnyG_take (i := 10) (v := ?_) rfl (by decide +kernel) (by kernel_rfl) (by decide) (by kernel_rfl) (by kernel_rfl) (fun _ _ _ h => h) (Or.inl ⟨by rfl, ?_⟩) hHeld ?_
      )
      rotate_left 1
      · (intro w' hSw; (try dsimp only at hSw); go_simp) <;> with_reducible rfl
      simp only [Act.put, List.setIfInBounds_toArray])
    refine wpAnyG_one (i := 11) rfl (by kernel_rfl) rfl (fun K hK => ?_)
    go_simp
    refine hK.out _ _ (fun _ => mkS _ (by first | exact (Ext.rfl' W').drew'.alloc' _ | exact ((Ext.rfl' W').alloc' _).drew')) (fun _ => ?_)
    clear hK K
    refine wpAnyG_one (i := 12) rfl (by kernel_rfl) rfl (fun K hK => ?_)
    refine wp_app2 (.tmp 50) (.tmp 54) 59 rfl 0 52 i1 (.agg #[.int .i64 0, .int .i64 0]) 2 16 Try.underlying59 I1.out.1 I1.out.2.1 I1.out.2.2.1 I1.out.2.2.2 rfl (by decide) (.slice ax3 (gr (addEnd N k (l, joinAt N k l)).ends l).length cx3) (gr (addEnd N k (l, joinAt N k l)).ends l).length (endCells (gr (addEnd N k (l, joinAt N k l)).ends l)) rfl ((FA3.out.row.ext (by first | exact (Ext.rfl' W').drew'.alloc' _ | exact ((Ext.rfl' W').alloc' _).drew')).owns (fun _ _ => Nat.zero_le _)) (some ⟨W'.heap.size, 0, none⟩) 1 1 [.int .i64 ((k : Int)), .int .i64 (((gr N.ends k).length : Int))] rfl (by first | exact src_two W'.drew _ _ 52 rfl rfl | exact src_two W' _ _ 52 rfl rfl | exact src_drew (src_two W' _ _ 52 rfl rfl)) (by unfold maxLen; omega) (by omega) (Nat.zero_le _) ?_
    intro v' w1u hg
    have PUu := Lib.hid (FA3.out.put (p := ((k : Int), ((gr N.ends k).length : Int))) (by first | exact (Ext.rfl' W').drew'.alloc' _ | exact ((Ext.rfl' W').alloc' _).drew') hp2.out hg)
    obtain ⟨ayu, cyu, rfl⟩ := PUu.out.form
    have hmb := hm3.out
    have MZ := Lib.hid (PUu.out.row hmb M3.out)
    have cz := (row3_facts MZ.out.1).1
    have f1 := PUu.out.cell
    have f2 := PUu.out.frozen
    clear hg hmb
    refine hK.out _ _ (fun _ => ⟨cz, f1⟩) (fun hHeld' => ?_)
    have hHeld := hHeld' (by decide)
    clear hK K hHeld'
    (
      (first
        | refine wpAnyG_take (i := 13) (v := ?_) rfl (by decide +kernel) (by kernel_rfl) (by decide) (by kernel_rfl) (by kernel_rfl) (fun _ _ _ h => h) (Or.inl ⟨by rfl, ?_⟩) hHeld ?_
      )
      rotate_left 1
      · (intro w' hSw; (try dsimp only at hSw); go_simp) <;> with_reducible rfl
      simp only [Act.put, List.setIfInBounds_toArray])
    refine wpAnyG_one (i := 14) rfl (by kernel_rfl) rfl (fun K hK => ?_)
    go_simp
    refine hK.out _ _ (fun h => absurd rfl h) (fun _ => ?_)
    clear hK K
    refine wpAnyG_done (by kernel_rfl) ?_ _
    clear hHeld cz f1 f2 mkS MZ
    have MS := Lib.hid (PUu.out.row hm3.out M3.out).2
    have QS := Lib.hid (PUu.out.row (fun h => by have := hge3.out _ h; omega) Q3.out).2
    have K5 := Lib.hid (PUu.out.ext w K3.out fun y hy => by have := hge3.out y hy; omega)
    obtain ⟨es, n1, n2, n3⟩ := PUu.out.net
    have O5 : Hid (OwnNet _ _ (joinNet N k l) es) := n1
    have D5 : Hid (es.Nodup ∧ ∀ y ∈ es, w.heap.size + 2 ≤ y) := ⟨n2, fun y hy => by rcases n3 y hy with h | h; exact hge3.out y h; have := Q3.out.lt; omega⟩
    obtain ⟨r0, r1, r2, _, _, _⟩ := row3_facts MS.out
    obtain ⟨u0, u1, u2, s0, s1, s2⟩ := row3_facts QS.out
    clear n1 n2 n3
    go_wp2
    refine bodyPost_ret (v := .agg #[.slice (some ⟨b, 0, none⟩) N.ends.length c0, .slice a1 N.ids.length c1, .slice a2 N.inputs.length c2]) (by simp [results, Try.results37, go_sem, u0, u1, u2]) rfl ?_
    have hc := close_net K5.out O5.out D5.out.1 D5.out.2
    exact ⟨_, es, rfl, hc.1, hc.2.1, hc.2.2⟩
end Go.Proofs.Ytpkgghkibgadnaa

/- The contracts of both AddEdge. -/
namespace Go.Proofs.Ytpkgghkibgadnaa
open Go.RowKit

theorem EndSS.row {w : World} {v : Value} {l : List (List (Int × Int))} (h : EndSS w v l) {k : Nat} (hk : k < l.length) : ∃ b o c ax cx, v = .slice (some ⟨b, o, none⟩) l.length c ∧ w.cell? ⟨b, o + k, none⟩ = some (.slice ax (gr l k).length cx) := by
  obtain ⟨a, b, o, c, rfl, ha, hl, hm, hc⟩ := h
  obtain ⟨x, hx, hr⟩ := hc k hk
  obtain ⟨ax, _, _, cx, rfl, _⟩ := hr
  obtain rfl := ha (by omega)
  exact ⟨b, o, c, ax, cx, rfl, hx⟩

def duo (x y : Value) : Nat → Value
  | 0 => x
  | _ => y
theorem duo_made (w : World) (x y : Value) (t : Nat) : (w.alloc (.cells #[x, y] t)).rowIs w.heap.size t 2 (duo x y) :=
  ⟨#[x, y], heap_alloc_new w _, rfl, fun i hi => by match i with | 0 => rfl | 1 => rfl⟩
theorem duo_facts {w : World} {b t : Nat} {x y : Value} (h : w.rowIs b t 2 (duo x y)) : w.cell? ⟨b, 0, none⟩ = some x ∧ w.cell? ⟨b, 1, none⟩ = some y ∧ w.frozen? ⟨b, 0, none⟩ = false ∧ w.frozen? ⟨b, 1, none⟩ = false :=
  ⟨h.cell (i := 0) (by omega), h.cell (i := 1) (by omega), h.frozen _, h.frozen _⟩
theorem duo_set1 {w : World} {b t : Nat} {x y : Value} (h : w.rowIs b t 2 (duo x y)) (z : Value) : (w.setCell ⟨b, 1, none⟩ z).rowIs b t 2 (duo x z) :=
  (h.set 1 z).congr fun i hi => by match i with | 0 => rfl | 1 => rfl
/-- The two new ends lie in blocks of their own. -/
structure PQ (w3 wx : World) (N : Net) (k l pb qb : Nat) (jv : Int) : Prop where
  ext : Ext w3 wx
  size : w3.heap.size + 2 ≤ wx.heap.size
  pge : w3.heap.size ≤ pb
  qge : w3.heap.size ≤ qb
  p : wx.rowIs pb 52 2 (duo (.int .i64 k) (.int .i64 ((gr N.ends k).length : Int)))
  q : wx.rowIs qb 52 2 (duo (.int .i64 l) (.int .i64 jv))
theorem pq_one (w3 : World) (N : Net) (k l : Nat) (jv : Int) :
    PQ w3 ((w3.alloc (.cells #[.int .i64 k, .int .i64 ((gr N.ends k).length : Int)] 52)).alloc (.cells #[.int .i64 l, .int .i64 jv] 52)) N k l w3.heap.size (w3.heap.size + 1) jv :=
  ⟨((Ext.rfl' w3).alloc' _).alloc' _, by simp, Nat.le_refl _, by omega, (duo_made w3 _ _ 52).alloc _, by simpa using duo_made (w3.alloc (.cells #[.int .i64 k, .int .i64 ((gr N.ends k).length : Int)] 52)) (.int .i64 l) (.int .i64 jv) 52⟩
theorem pq_two (w3 : World) (N : Net) (k l : Nat) (jv : Int) :
    PQ w3 ((w3.alloc (.cells #[.int .i64 l, .int .i64 jv] 52)).alloc (.cells #[.int .i64 k, .int .i64 ((gr N.ends k).length : Int)] 52)) N k l (w3.heap.size + 1) w3.heap.size jv :=
  ⟨((Ext.rfl' w3).alloc' _).alloc' _, by simp, by omega, Nat.le_refl _, by simpa using duo_made (w3.alloc (.cells #[.int .i64 l, .int .i64 jv] 52)) (.int .i64 k) (.int .i64 ((gr N.ends k).length : Int)) 52, (duo_made w3 _ _ 52).alloc _⟩
theorem PQ.drew {w3 wx : World} {N : Net} {k l pb qb : Nat} {jv : Int} (h : PQ w3 wx N k l pb qb jv) : PQ w3 wx.drew N k l pb qb jv := ⟨h.ext.drew', by simpa using h.size, h.pge, h.qge, row_ext h.p (Ext.rfl' _).drew', row_ext h.q (Ext.rfl' _).drew'⟩
theorem PQ.set {w3 wx : World} {N : Net} {k l pb qb : Nat} {jv : Int} (h : PQ w3 wx N k l pb qb jv) (hne : pb ≠ qb) (z : Int) : PQ w3 (wx.setCell ⟨qb, 1, none⟩ (.int .i64 z)) N k l pb qb z :=
  ⟨h.ext.store h.qge _, by have := h.size; simp [World.setCell]; omega, h.pge, h.qge, h.p.setOther hne _, duo_set1 h.q _⟩

def JoinB (N : Net) (x y : Int) : Prop := NodeAns N x ∧ NodeOK N y ∧ Good (joinNet N x.toNat y.toNat)
noncomputable def joinAns (N : Net) (x y : Int) : Net := if dec (JoinB N x y) = true then joinNet N x.toNat y.toNat else zeroNet
theorem joinAns_t {N : Net} {x y : Int} (h : JoinB N x y) : joinAns N x y = joinNet N x.toNat y.toNat := by simp [joinAns, dec_true h]
theorem joinAns_f {N : Net} {x y : Int} (h : ¬ JoinB N x y) : joinAns N x y = zeroNet := by simp [joinAns, dec_false h]
theorem joinAns_small (N : Net) (x y : Int) : (joinAns N x y).small := by
  by_cases h : JoinB N x y
  · rw [joinAns_t h]; exact good_small h.2.2
  · rw [joinAns_f h]; exact zero_small

set_option maxHeartbeats 3200000 in
set_option maxRecDepth 100000 in
theorem addEdge_yes {w : World} {v : Value} {N : Net} (k l : Nat) (hk : k < N.ends.length) (hl : l < N.ends.length) (hg : Good N) (h : NetAt w v N) :
    Calls Try.prog 69 #[v, .int .i64 k, .int .i64 l] w fun e w' => ∃ v' bs, e = .returned (.tuple #[v', .bool (dec (JoinB N k l))]) ∧ Ext w w' ∧ OwnNet w' v' (joinAns N k l) bs ∧ Fresh w bs := by
  have HN := Lib.hid h
  obtain ⟨v0, v1, v2, rfl, hE, hI, hP⟩ := h
  obtain ⟨eb, eo, ec, axk, cxk, rfl, hck⟩ := hE.row hk
  obtain ⟨eb2, eo2, ec2, axl, cxl, hv, hcl⟩ := hE.row hl
  obtain ⟨⟨rfl, rfl⟩, rfl⟩ : (eb = eb2 ∧ eo = eo2) ∧ ec = ec2 := by simpa using hv
  have HX := Lib.hid (boxed2_ext w (.slice (some ⟨eb, eo, none⟩) N.ends.length ec) v1 v2)
  have HR := Lib.hid (boxed2_row w (.slice (some ⟨eb, eo, none⟩) N.ends.length ec) v1 v2)
  have HQ := Lib.hid (boxed2_res w (.slice (some ⟨eb, eo, none⟩) N.ends.length ec) v1 v2)
  have Hk := Lib.hid hck
  have Hl := Lib.hid hcl
  obtain ⟨i1, hj, hy0, hy1, hy2⟩ := info_parts Try.info44
  have I1 := Lib.hid (And.intro hj (And.intro hy0 (And.intro hy1 hy2)))
  clear hj hy0 hy1 hy2 hE hI hP hv hck hcl
  have G := Lib.hid (dec_true hg)
  have Gs := Lib.hid (good_small hg)
  have G2 := Lib.hid (dec_true (p := NodeOK N k) ⟨by omega, by omega⟩)
  have G3 := Lib.hid (dec_true (p := NodeOK N l) ⟨by omega, by omega⟩)
  have GB : Hid (Good (joinNet N k l) ↔ JoinB N k l) := ⟨fun j => ⟨⟨hg, by unfold NodeOK; omega⟩, by unfold NodeOK; omega, j⟩, fun j => j.2.2⟩
  have hlen := (good_small hg).2.1 k
  have hlenl := (good_small hg).2.1 l
  have hlen0 := (good_small hg).1
  clear hg
  go_enter Try.func69, Try.ntmps69
  go_wp2_with fail
  (with_reducible refine (isNetwork_any (HN.out.ext HX.out)).mono ?_)
  rintro e w1 ⟨rfl, hw⟩
  rw [G.out]
  have K1 := Lib.hid (HX.out.trans' hw)
  have R1 := Lib.hid (row_ext HR.out hw)
  have Q1 := Lib.hid (row_ext HQ.out hw)
  obtain ⟨p0, p1, p2, _, _, _⟩ := row3_facts R1.out
  clear hw
  go_wp2_with fail
  (with_reducible refine (hasNode_any _ (HN.out.ext K1.out)).mono ?_)
  rintro e w2 ⟨rfl, hw⟩
  rw [G2.out]
  have K2 := Lib.hid (K1.out.trans' hw)
  have R2 := Lib.hid (row_ext R1.out hw)
  have Q2 := Lib.hid (row_ext Q1.out hw)
  clear hw p0 p1 p2
  obtain ⟨p0, p1, p2, _, _, _⟩ := row3_facts R2.out
  go_wp2_with fail
  (with_reducible refine (hasNode_any _ (HN.out.ext K2.out)).mono ?_)
  rintro e w3 ⟨rfl, hw⟩
  rw [G3.out]
  have K3 := Lib.hid (K2.out.trans' hw)
  have R3 := Lib.hid (row_ext R2.out hw)
  have Q3 := Lib.hid (row_ext Q2.out hw)
  clear hw p0 p1 p2
  obtain ⟨p0, p1, p2, _, _, _⟩ := row3_facts R3.out
  have ck := K3.out.cell' Hk.out
  have cl := K3.out.cell' Hl.out
  go_wp2_with fail
  have mkS : ∀ w' : World, Ext w3 w' → w'.cell? ⟨w.heap.size, 0, none⟩ = some (.slice (some ⟨eb, eo, none⟩) N.ends.length ec) ∧ w'.cell? ⟨eb, eo + k, none⟩ = some (.slice axk (gr N.ends k).length cxk) ∧ w'.cell? ⟨eb, eo + l, none⟩ = some (.slice axl (gr N.ends l).length cxl) := fun w' h => ⟨h.cell' p0, h.cell' ck, h.cell' cl⟩
  go_cut [8, 9] from 27 to 43 (fun t8 t9 wx => ∃ pb qb : Nat, t8 = .pointer (some ⟨pb, 0, none⟩) ∧ t9 = .pointer (some ⟨qb, 0, none⟩) ∧ pb ≠ qb ∧ Hid (PQ w3 wx N k l pb qb ((gr N.ends l).length : Int)))
  case first =>
    go_region_held3 (fun w' => w'.cell? ⟨w.heap.size, 0, none⟩ = some (.slice (some ⟨eb, eo, none⟩) N.ends.length ec) ∧ w'.cell? ⟨eb, eo + k, none⟩ = some (.slice axk (gr N.ends k).length cxk) ∧ w'.cell? ⟨eb, eo + l, none⟩ = some (.slice axl (gr N.ends l).length cxl))
      (exact mkS _ (by repeat (first | exact Ext.rfl' _ | refine Ext.alloc' ?_ _ | refine Ext.drew' ?_ | refine Ext.store ?_ (by simp) _)))
      (first | fail)
    all_goals go_wp2
    all_goals go_meet
    case rel => exact ⟨_, _, rfl, rfl, by omega, (pq_one w3 N k l _).drew⟩
    case rel => exact ⟨_, _, rfl, rfl, by omega, (pq_two w3 N k l _).drew⟩
  case rest =>
    obtain ⟨pb, qb, rfl, rfl, hpq, H4⟩ := hcut
    obtain ⟨g0, g1, g2, g3⟩ := duo_facts H4.out.q
    clear mkS p0 p1 p2 ck cl
    go_upto_if 45 with (fail)
    go_cut [] from 46 to 50 (fun wx => Hid (PQ w3 wx N k l pb qb (joinAt N k l)))
    case first =>
      by_cases hkl : k = l
      case pos =>
        subst hkl
        have hji := Lib.hid (show ((gr N.ends k).length : Int) + 1 = joinAt N k k by simp [joinAt])
        go_wp2
        go_meet
        case rel => rw [← hji.out]; exact H4.out.set hpq _
      case neg =>
        have hji := Lib.hid (show ((gr N.ends l).length : Int) = joinAt N k l by simp [joinAt, hkl])
        have hkl' : ¬ (k : Int) = (l : Int) := by omega
        go_wp2
        go_meet
        case rel => rw [← hji.out]; exact H4.out
    case rest =>
      have H6 := hcut
      clear g0 g1 g2 g3 hcut
      have K6 := Lib.hid (K3.out.trans' H6.out.ext)
      have R6 := Lib.hid (row_ext R3.out H6.out.ext)
      have Q6 := Lib.hid (row_ext Q3.out H6.out.ext)
      obtain ⟨p0, p1, p2, _, _, _⟩ := row3_facts R6.out
      go_wp2_with fail
      (with_reducible refine (copyNetwork_any (HN.out.ext K6.out) Gs.out).mono ?_)
      rintro e w7 ⟨y, bs, rfl, hw, ho, hf⟩
      obtain ⟨a0, c0, a1, c1, a2, c2, rfl⟩ := ho.agg
      obtain ⟨W, hW⟩ : ∃ W, W = w7.alloc (.cells #[.slice a0 N.ends.length c0, .slice a1 N.ids.length c1, .slice a2 N.inputs.length c2] 29) := ⟨_, rfl⟩
      have hA : Ext w7 W := by rw [hW]; exact (Ext.rfl' w7).alloc' _
      have M7 : Hid (W.rowIs w7.heap.size 29 3 (tri (.slice a0 N.ends.length c0) (.slice a1 N.ids.length c1) (.slice a2 N.inputs.length c2))) := by rw [hW]; exact row3_made w7 _ _ _ 29
      have K7 := Lib.hid ((K6.out.trans' hw).trans' hA)
      have Q7 := Lib.hid (row_ext (row_ext Q6.out hw) hA)
      have PP := Lib.hid (row_ext (row_ext H6.out.p hw) hA)
      have QQ := Lib.hid (row_ext (row_ext H6.out.q hw) hA)
      have hge := Lib.hid (show ∀ b ∈ bs, w.heap.size + 2 ≤ b from fun b hb => by have := hf.2 b hb; have := Q6.out.lt; omega)
      have hpn : Hid (pb ∉ bs) := fun h => by have := hf.2 _ h; have := H6.out.p.lt; omega
      have hqn : Hid (qb ∉ bs) := fun h => by have := hf.2 _ h; have := H6.out.q.lt; omega
      have hBX := Lib.hid ho.lt
      obtain ⟨b, c, ax, cx, t, hv, hat⟩ := own_at (ho.ext hA) hf.1 hk
      obtain ⟨rfl, rfl⟩ : a0 = some ⟨b, 0, none⟩ ∧ c0 = c := by simpa using hv
      have FA := Lib.hid hat
      have hm : Hid (w7.heap.size ∉ bs) := fun h => absurd (hBX.out _ h) (by omega)
      have hj0 : joinAt N k l ≤ 1048577 ∧ 0 ≤ joinAt N k l := by unfold joinAt; split <;> omega
      have hp := Lib.hid (show inI64 (l : Int) ∧ inI64 (joinAt N k l) by unfold inI64; omega)
      have hp2 := Lib.hid (show inI64 (k : Int) ∧ inI64 ((gr N.ends k).length : Int) by unfold inI64; omega)
      have hrow := addEnd_row N k l (l, joinAt N k l) hk
      have hlenA := Lib.hid (addEnd_len N k (l, joinAt N k l))
      obtain ⟨qc0, qc1, _, _⟩ := duo_facts QQ.out
      have hqlt := Lib.hid QQ.out.lt
      have hplt := Lib.hid PP.out.lt
      clear hw ho hf hA hv hat p0 p1 p2 hj0
      go_wp2_with fail
      rw [← hW]
      clear hW
      have mkS : ∀ w' : World, Ext W w' → w'.cell? ⟨w7.heap.size, 0, none⟩ = some (.slice (some ⟨b, 0, none⟩) (N).ends.length c0) ∧ w'.cell? ⟨b, k, none⟩ = some (.slice ax (gr (N).ends k).length cx) ∧ w'.cell? ⟨qb, 0, none⟩ = some (.int .i64 (l : Int)) ∧ w'.cell? ⟨qb, 1, none⟩ = some (.int .i64 (joinAt N k l)) := fun w' h => ⟨h.cell' (row3_facts M7.out).1, h.cell' FA.out.cell, h.cell' qc0, h.cell' qc1⟩
      refine wp_region_gate (n := 12) (S := fun w' => w'.cell? ⟨w7.heap.size, 0, none⟩ = some (.slice (some ⟨b, 0, none⟩) (N).ends.length c0) ∧ w'.cell? ⟨b, k, none⟩ = some (.slice ax (gr (N).ends k).length cx) ∧ w'.cell? ⟨qb, 0, none⟩ = some (.int .i64 (l : Int)) ∧ w'.cell? ⟨qb, 1, none⟩ = some (.int .i64 (joinAt N k l))) (by kernel_rfl) (mkS _ (Ext.rfl' W).drew') (fun hHeld => ?_)
      iterate 9 (
        (first
          | refine wpAnyG_take (i := 0) (v := ?_) rfl (by decide +kernel) (by kernel_rfl) (by decide) (by kernel_rfl) (by kernel_rfl) (fun _ _ _ h => h) (Or.inl ⟨by rfl, ?_⟩) hHeld ?_
          | refine wpAnyG_take (i := 1) (v := ?_) rfl (by decide +kernel) (by kernel_rfl) (by decide) (by kernel_rfl) (by kernel_rfl) (fun _ _ _ h => h) (Or.inl ⟨by rfl, ?_⟩) hHeld ?_
          | refine wpAnyG_take (i := 2) (v := ?_) rfl (by decide +kernel) (by kernel_rfl) (by decide) (by kernel_rfl) (by kernel_rfl) (fun _ _ _ h => h) (Or.inl ⟨by rfl, ?_⟩) hHeld ?_
          | refine wpAnyG_take (i := 3) (v := ?_) rfl (by decide +kernel) (by kernel_rfl) (by decide) (by kernel_rfl) (by kernel_rfl) (fun _ _ _ h => h) (Or.inl ⟨by rfl, ?_⟩) hHeld ?_
          | refine wpAnyG_take (i := 4) (v := ?_) rfl (by decide +kernel) (by kernel_rfl) (by decide) (by kernel_rfl) (by kernel_rfl) (fun _ _ _ h => h) (Or.inl ⟨by rfl, ?_⟩) hHeld ?_
          | refine wpAnyG_take (i := 5) (v := ?_) rfl (by decide +kernel) (by kernel_rfl) (by decide) (by kernel_rfl) (by kernel_rfl) (fun _ _ _ h => h) (Or.inl ⟨by rfl, ?_⟩) hHeld ?_
          | refine wpAnyG_take (i := 6) (v := ?_) rfl (by decide +kernel) (by kernel_rfl) (by decide) (by kernel_rfl) (by kernel_rfl) (fun _ _ _ h => h) (Or.inl ⟨by rfl, ?_⟩) hHeld ?_
          | refine wpAnyG_take (i := 7) (v := ?_) rfl (by decide +kernel) (by kernel_rfl) (by decide) (by kernel_rfl) (by kernel_rfl) (fun _ _ _ h => h) (Or.inl ⟨by rfl, ?_⟩) hHeld ?_
          | refine wpAnyG_take (i := 8) (v := ?_) rfl (by decide +kernel) (by kernel_rfl) (by decide) (by kernel_rfl) (by kernel_rfl) (fun _ _ _ h => h) (Or.inl ⟨by rfl, ?_⟩) hHeld ?_
        )
        rotate_left 1
        · (intro w' hSw; (try dsimp only at hSw); go_simp) <;> with_reducible rfl
        simp only [Act.put, List.setIfInBounds_toArray])
      refine wpAnyG_one (i := 9) rfl (by kernel_rfl) rfl (fun K hK => ?_)
      go_simp
      refine hK.out _ _ (fun _ => mkS _ (by first | exact (Ext.rfl' W).drew'.alloc' _ | exact ((Ext.rfl' W).alloc' _).drew')) (fun _ => ?_)
      clear hK K
      refine wpAnyG_one (i := 10) rfl (by kernel_rfl) rfl (fun K hK => ?_)
      refine wp_app2 (.tmp 59) (.tmp 61) 59 rfl 0 52 i1 (.agg #[.int .i64 0, .int .i64 0]) 2 16 Try.underlying59 I1.out.1 I1.out.2.1 I1.out.2.2.1 I1.out.2.2.2 rfl (by decide) (.slice ax (gr (N).ends k).length cx) (gr (N).ends k).length (endCells (gr (N).ends k)) rfl ((FA.out.row.ext (by first | exact (Ext.rfl' W).drew'.alloc' _ | exact ((Ext.rfl' W).alloc' _).drew')).owns (fun _ _ => Nat.zero_le _)) (some ⟨W.heap.size, 0, none⟩) 1 1 [.int .i64 ((l : Int)), .int .i64 (joinAt N k l)] rfl (by first | exact src_two W.drew _ _ 52 rfl rfl | exact src_two W _ _ 52 rfl rfl | exact src_drew (src_two W _ _ 52 rfl rfl)) (by unfold maxLen; omega) (by omega) (Nat.zero_le _) ?_
      intro v' w1s hg
      have PUs := Lib.hid (FA.out.put (p := ((l : Int), joinAt N k l)) (by first | exact (Ext.rfl' W).drew'.alloc' _ | exact ((Ext.rfl' W).alloc' _).drew') hp.out hg)
      obtain ⟨ays, cys, rfl⟩ := PUs.out.form
      have hmb := hm.out
      have MZ := Lib.hid (PUs.out.row hmb M7.out)
      have cz := (row3_facts MZ.out.1).1
      have f1 := PUs.out.cell
      have f2 := PUs.out.frozen
      have g0 : w1s.cell? ⟨qb, 0, none⟩ = some (.int .i64 (l : Int)) := by rw [World.cell?_of_block (w := W) (PUs.out.keep _ hqlt.out hqn.out).1]; exact qc0
      have g1 : w1s.cell? ⟨qb, 1, none⟩ = some (.int .i64 (joinAt N k l)) := by rw [World.cell?_of_block (w := W) (PUs.out.keep _ hqlt.out hqn.out).1]; exact qc1
      clear hg hmb
      refine hK.out _ _ (fun _ => ⟨cz, f1, g0, g1⟩) (fun hHeld' => ?_)
      have hHeld := hHeld' (by decide)
      clear hK K hHeld'
      (
        (first
          | refine wpAnyG_take (i := 11) (v := ?_) rfl (by decide +kernel) (by kernel_rfl) (by decide) (by kernel_rfl) (by kernel_rfl) (fun _ _ _ h => h) (Or.inl ⟨by rfl, ?_⟩) hHeld ?_
        )
        rotate_left 1
        · (intro w' hSw; (try dsimp only at hSw); go_simp) <;> with_reducible rfl
        simp only [Act.put, List.setIfInBounds_toArray])
      refine wpAnyG_one (i := 12) rfl (by kernel_rfl) rfl (fun K hK => ?_)
      go_simp
      refine hK.out _ _ (fun h => absurd rfl h) (fun _ => ?_)
      clear hK K
      refine wpAnyG_done (by kernel_rfl) ?_ _
      clear hHeld cz f1 f2 mkS MZ g0 g1
      clear qc0 qc1
      obtain ⟨W', hW'⟩ : ∃ W', W' = w1s.setCell ⟨b, k, none⟩ (.slice ays ((gr N.ends k).length + 1) cys) := ⟨_, rfl⟩
      have M8 : Hid (W'.rowIs w7.heap.size 29 3 (tri (.slice (some ⟨b, 0, none⟩) N.ends.length c0) (.slice a1 N.ids.length c1) (.slice a2 N.inputs.length c2))) := by rw [hW']; exact (PUs.out.row hm.out M7.out).2
      have Q8 : Hid (W'.rowIs (w.heap.size + 1) 29 3 (tri (.slice none 0 0) (.slice none 0 0) (.slice none 0 0))) := by rw [hW']; exact (PUs.out.row (fun h => by have := hge.out _ h; omega) Q7.out).2
      have P8 : Hid (W'.rowIs pb 52 2 (duo (.int .i64 k) (.int .i64 ((gr N.ends k).length : Int)))) := by rw [hW']; exact (PUs.out.row hpn.out PP.out).2
      have K8 : Hid (Ext w W') := by rw [hW']; exact PUs.out.ext w K7.out fun y hy => by have := hge.out y hy; omega
      obtain ⟨ds, n1, n2, n3⟩ := PUs.out.net
      rw [← hW'] at n1
      have hge3 := Lib.hid (show ∀ y ∈ ds, w.heap.size + 2 ≤ y from fun y hy => by rcases n3 y hy with h | h; exact hge.out y h; have := Q7.out.lt; omega)
      have hm3 : Hid (w7.heap.size ∉ ds) := fun h => by rcases n3 _ h with h | h; exact hm.out h; have := M7.out.lt; omega
      have hpn3 : Hid (pb ∉ ds) := fun h => by rcases n3 _ h with h | h; exact hpn.out h; have := hplt.out; omega
      have hplt3 := Lib.hid P8.out.lt
      obtain ⟨b3, c3, ax3, cx3, t3, hv3, hat3⟩ := own_at n1 n2 (k := l) (by rw [hlenA.out]; exact hl)
      have hvE : b = b3 ∧ c0 = c3 := by have := hv3; rw [hlenA.out] at this; simpa using this
      obtain ⟨rfl, rfl⟩ := hvE
      have FA3 := Lib.hid hat3
      obtain ⟨pc0, pc1, _, _⟩ := duo_facts P8.out
      clear n1 n2 n3 hv3 hat3
      go_wp2_with fail
      rw [← hW']
      clear hW'
      have mkS : ∀ w' : World, Ext W' w' → w'.cell? ⟨w7.heap.size, 0, none⟩ = some (.slice (some ⟨b, 0, none⟩) N.ends.length c0) ∧ w'.cell? ⟨b, l, none⟩ = some (.slice ax3 (gr (addEnd N k (l, joinAt N k l)).ends l).length cx3) ∧ w'.cell? ⟨pb, 0, none⟩ = some (.int .i64 (k : Int)) ∧ w'.cell? ⟨pb, 1, none⟩ = some (.int .i64 ((gr N.ends k).length : Int)) := fun w' h => ⟨h.cell' (row3_facts M8.out).1, h.cell' FA3.out.cell, h.cell' pc0, h.cell' pc1⟩
      refine wp_region_gate (n := 12) (S := fun w' => w'.cell? ⟨w7.heap.size, 0, none⟩ = some (.slice (some ⟨b, 0, none⟩) N.ends.length c0) ∧ w'.cell? ⟨b, l, none⟩ = some (.slice ax3 (gr (addEnd N k (l, joinAt N k l)).ends l).length cx3) ∧ w'.cell? ⟨pb, 0, none⟩ = some (.int .i64 (k : Int)) ∧ w'.cell? ⟨pb, 1, none⟩ = some (.int .i64 ((gr N.ends k).length : Int))) (by kernel_rfl) (mkS _ (Ext.rfl' W').drew') (fun hHeld => ?_)
      iterate 9 (
        (first
          | refine wpAnyG_take (i := 0) (v := ?_) rfl (by decide +kernel) (by kernel_rfl) (by decide) (by kernel_rfl) (by kernel_rfl) (fun _ _ _ h => h) (Or.inl ⟨by rfl, ?_⟩) hHeld ?_
          | refine wpAnyG_take (i := 1) (v := ?_) rfl (by decide +kernel) (by kernel_rfl) (by decide) (by kernel_rfl) (by kernel_rfl) (fun _ _ _ h => h) (Or.inl ⟨by rfl, ?_⟩) hHeld ?_
          | refine wpAnyG_take (i := 2) (v := ?_) rfl (by decide +kernel) (by kernel_rfl) (by decide) (by kernel_rfl) (by kernel_rfl) (fun _ _ _ h => h) (Or.inl ⟨by rfl, ?_⟩) hHeld ?_
          | refine wpAnyG_take (i := 3) (v := ?_) rfl (by decide +kernel) (by kernel_rfl) (by decide) (by kernel_rfl) (by kernel_rfl) (fun _ _ _ h => h) (Or.inl ⟨by rfl, ?_⟩) hHeld ?_
          | refine wpAnyG_take (i := 4) (v := ?_) rfl (by decide +kernel) (by kernel_rfl) (by decide) (by kernel_rfl) (by kernel_rfl) (fun _ _ _ h => h) (Or.inl ⟨by rfl, ?_⟩) hHeld ?_
          | refine wpAnyG_take (i := 5) (v := ?_) rfl (by decide +kernel) (by kernel_rfl) (by decide) (by kernel_rfl) (by kernel_rfl) (fun _ _ _ h => h) (Or.inl ⟨by rfl, ?_⟩) hHeld ?_
          | refine wpAnyG_take (i := 6) (v := ?_) rfl (by decide +kernel) (by kernel_rfl) (by decide) (by kernel_rfl) (by kernel_rfl) (fun _ _ _ h => h) (Or.inl ⟨by rfl, ?_⟩) hHeld ?_
          | refine wpAnyG_take (i := 7) (v := ?_) rfl (by decide +kernel) (by kernel_rfl) (by decide) (by kernel_rfl) (by kernel_rfl) (fun _ _ _ h => h) (Or.inl ⟨by rfl, ?_⟩) hHeld ?_
          | refine wpAnyG_take (i := 8) (v := ?_) rfl (by decide +kernel) (by kernel_rfl) (by decide) (by kernel_rfl) (by kernel_rfl) (fun _ _ _ h => h) (Or.inl ⟨by rfl, ?_⟩) hHeld ?_
        )
        rotate_left 1
        · (intro w' hSw; (try dsimp only at hSw); go_simp) <;> with_reducible rfl
        simp only [Act.put, List.setIfInBounds_toArray])
      refine wpAnyG_one (i := 9) rfl (by kernel_rfl) rfl (fun K hK => ?_)
      go_simp
      refine hK.out _ _ (fun _ => mkS _ (by first | exact (Ext.rfl' W').drew'.alloc' _ | exact ((Ext.rfl' W').alloc' _).drew')) (fun _ => ?_)
      clear hK K
      refine wpAnyG_one (i := 10) rfl (by kernel_rfl) rfl (fun K hK => ?_)
      refine wp_app2 (.tmp 71) (.tmp 73) 59 rfl 0 52 i1 (.agg #[.int .i64 0, .int .i64 0]) 2 16 Try.underlying59 I1.out.1 I1.out.2.1 I1.out.2.2.1 I1.out.2.2.2 rfl (by decide) (.slice ax3 (gr (addEnd N k (l, joinAt N k l)).ends l).length cx3) (gr (addEnd N k (l, joinAt N k l)).ends l).length (endCells (gr (addEnd N k (l, joinAt N k l)).ends l)) rfl ((FA3.out.row.ext (by first | exact (Ext.rfl' W').drew'.alloc' _ | exact ((Ext.rfl' W').alloc' _).drew')).owns (fun _ _ => Nat.zero_le _)) (some ⟨W'.heap.size, 0, none⟩) 1 1 [.int .i64 ((k : Int)), .int .i64 (((gr N.ends k).length : Int))] rfl (by first | exact src_two W'.drew _ _ 52 rfl rfl | exact src_two W' _ _ 52 rfl rfl | exact src_drew (src_two W' _ _ 52 rfl rfl)) (by unfold maxLen; omega) (by omega) (Nat.zero_le _) ?_
      intro v' w1u hg
      have PUu := Lib.hid (FA3.out.put (p := ((k : Int), ((gr N.ends k).length : Int))) (by first | exact (Ext.rfl' W').drew'.alloc' _ | exact ((Ext.rfl' W').alloc' _).drew') hp2.out hg)
      obtain ⟨ayu, cyu, rfl⟩ := PUu.out.form
      have hmb := hm3.out
      have MZ := Lib.hid (PUu.out.row hmb M8.out)
      have cz := (row3_facts MZ.out.1).1
      have f1 := PUu.out.cell
      have f2 := PUu.out.frozen
      have g0 : w1u.cell? ⟨pb, 0, none⟩ = some (.int .i64 (k : Int)) := by rw [World.cell?_of_block (w := W') (PUu.out.keep _ hplt3.out hpn3.out).1]; exact pc0
      have g1 : w1u.cell? ⟨pb, 1, none⟩ = some (.int .i64 ((gr N.ends k).length : Int)) := by rw [World.cell?_of_block (w := W') (PUu.out.keep _ hplt3.out hpn3.out).1]; exact pc1
      clear hg hmb
      refine hK.out _ _ (fun _ => ⟨cz, f1, g0, g1⟩) (fun hHeld' => ?_)
      have hHeld := hHeld' (by decide)
      clear hK K hHeld'
      (
        (first
          | refine wpAnyG_take (i := 11) (v := ?_) rfl (by decide +kernel) (by kernel_rfl) (by decide) (by kernel_rfl) (by kernel_rfl) (fun _ _ _ h => h) (Or.inl ⟨by rfl, ?_⟩) hHeld ?_
        )
        rotate_left 1
        · (intro w' hSw; (try dsimp only at hSw); go_simp) <;> with_reducible rfl
        simp only [Act.put, List.setIfInBounds_toArray])
      refine wpAnyG_one (i := 12) rfl (by kernel_rfl) rfl (fun K hK => ?_)
      go_simp
      refine hK.out _ _ (fun h => absurd rfl h) (fun _ => ?_)
      clear hK K
      refine wpAnyG_done (by kernel_rfl) ?_ _
      clear hHeld cz f1 f2 mkS MZ g0 g1
      clear pc0 pc1
      have MS := Lib.hid (PUu.out.row hm3.out M8.out).2
      have QS := Lib.hid (PUu.out.row (fun h => by have := hge3.out _ h; omega) Q8.out).2
      have K9 := Lib.hid (PUu.out.ext w K8.out fun y hy => by have := hge3.out y hy; omega)
      obtain ⟨es, n1, n2, n3⟩ := PUu.out.net
      have O9 : Hid (OwnNet _ _ (joinNet N k l) es) := n1
      have D9 : Hid (es.Nodup ∧ ∀ y ∈ es, w.heap.size + 2 ≤ y) := ⟨n2, fun y hy => by rcases n3 y hy with h | h; exact hge3.out y h; have := Q8.out.lt; omega⟩
      obtain ⟨r0, r1, r2, _, _, _⟩ := row3_facts MS.out
      clear n1 n2 n3
      by_cases hb : JoinB N k l
      case pos =>
        have B := Lib.hid hb
        clear hb
        go_wp2_with fail
        (with_reducible refine (networkOrNone_t O9.out.read (GB.out.2 B.out)).mono ?_)
        rintro e w10 ⟨rfl, hw⟩
        have K10 := Lib.hid (K9.out.trans' hw)
        obtain ⟨u0, u1, u2, s0, s1, s2⟩ := row3_facts (row_ext QS.out hw)
        have O10 := Lib.hid (O9.out.ext hw)
        have D := Lib.hid (dec_true B.out)
        have E := Lib.hid (joinAns_t B.out)
        clear hw r0 r1 r2
        go_wp2
        refine bodyPost_ret (v := .tuple #[.agg #[.slice (some ⟨b, 0, none⟩) N.ends.length c0, .slice a1 N.ids.length c1, .slice a2 N.inputs.length c2], .bool true]) (by simp [results, Try.results69, go_sem, u0, u1, u2]) rfl ?_
        have hc := close_net K10.out O10.out D9.out.1 D9.out.2
        exact ⟨_, es, ret_net D.out.symm, hc.1, by rw [E.out]; exact hc.2.1, hc.2.2⟩
      case neg =>
        have B := Lib.hid hb
        clear hb
        go_wp2_with fail
        (with_reducible refine (networkOrNone_f O9.out.read (fun j => absurd (GB.out.1 j) B.out)).mono ?_)
        rintro e w10 ⟨rfl, hw⟩
        unfold znet
        have K10 := Lib.hid (K9.out.trans' hw)
        obtain ⟨u0, u1, u2, s0, s1, s2⟩ := row3_facts (row_ext QS.out hw)
        have D := Lib.hid (dec_false B.out)
        have E := Lib.hid (joinAns_f B.out)
        clear hw r0 r1 r2
        go_wp2
        refine bodyPost_ret (v := .tuple #[znet, .bool false]) (by simp [results, Try.results69, go_sem, u0, u1, u2, znet]) rfl ⟨_, [], ret_net D.out.symm, store3_ext K10.out (by omega) _ _ _, by rw [E.out]; exact own_zero _, Fresh.nil _⟩
end Go.Proofs.Ytpkgghkibgadnaa

/- The contracts of both AddEdge, whatever the arguments. -/
namespace Go.Proofs.Ytpkgghkibgadnaa
open Go.RowKit
set_option maxHeartbeats 1600000 in
set_option maxRecDepth 100000 in
theorem addEdge_any {w : World} {v : Value} {N : Net} (x z : Int) (h : NetAt w v N) :
    Calls Try.prog 69 #[v, .int .i64 x, .int .i64 z] w fun e w' => ∃ v' bs, e = .returned (.tuple #[v', .bool (dec (JoinB N x z))]) ∧ Ext w w' ∧ OwnNet w' v' (joinAns N x z) bs ∧ Fresh w bs := by
  by_cases hall : Good N ∧ NodeOK N x ∧ NodeOK N z
  · obtain ⟨k, rfl, hk⟩ := node_nat ⟨hall.1, hall.2.1⟩
    obtain ⟨l, rfl, hl⟩ := node_nat ⟨hall.1, hall.2.2⟩
    exact addEdge_yes k l hk hl hall.1 h
  · have D : Hid (dec (JoinB N x z) = false) := dec_false fun j => hall ⟨j.1.1, j.1.2, j.2.1⟩
    have E : Hid (joinAns N x z = zeroNet) := joinAns_f fun j => hall ⟨j.1.1, j.1.2, j.2.1⟩
    have HN := Lib.hid h
    obtain ⟨v0, v1, v2, rfl, hE, hI, hP⟩ := h
    clear hE hI hP
    have HX := Lib.hid (boxed2_ext w v0 v1 v2)
    have HR := Lib.hid (boxed2_row w v0 v1 v2)
    have HQ := Lib.hid (boxed2_res w v0 v1 v2)
    by_cases hg : Good N
    · have G := Lib.hid (dec_true hg)
      by_cases hn : NodeOK N x
      · have G2 := Lib.hid (dec_true hn)
        have G3 := Lib.hid (dec_false (p := NodeOK N z) fun j => hall ⟨hg, hn, j⟩)
        clear hall hg hn
        go_enter Try.func69, Try.ntmps69
        go_wp2_with fail
        (with_reducible refine (isNetwork_any (HN.out.ext HX.out)).mono ?_)
        rintro e w1 ⟨rfl, hw⟩
        rw [G.out]
        have K1 := Lib.hid (HX.out.trans' hw)
        have R1 := Lib.hid (row_ext HR.out hw)
        have Q1 := Lib.hid (row_ext HQ.out hw)
        obtain ⟨p0, p1, p2, _, _, _⟩ := row3_facts R1.out
        clear hw
        go_wp2_with fail
        (with_reducible refine (hasNode_any _ (HN.out.ext K1.out)).mono ?_)
        rintro e w2 ⟨rfl, hw⟩
        rw [G2.out]
        have K2 := Lib.hid (K1.out.trans' hw)
        have R2 := Lib.hid (row_ext R1.out hw)
        have Q2 := Lib.hid (row_ext Q1.out hw)
        clear hw p0 p1 p2
        obtain ⟨p0, p1, p2, _, _, _⟩ := row3_facts R2.out
        go_wp2_with fail
        (with_reducible refine (hasNode_any _ (HN.out.ext K2.out)).mono ?_)
        rintro e w3 ⟨rfl, hw⟩
        rw [G3.out]
        have K3 := Lib.hid (K2.out.trans' hw)
        obtain ⟨q0, q1, q2, t0, t1, t2⟩ := row3_facts (row_ext Q2.out hw)
        clear hw p0 p1 p2
        go_wp2
        refine bodyPost_ret (v := .tuple #[znet, .bool false]) (by simp [results, Try.results69, go_sem, q0, q1, q2, znet]) rfl ⟨_, [], ret_net D.out.symm, store3_ext K3.out (by omega) _ _ _, by rw [E.out]; exact own_zero _, Fresh.nil _⟩
      · have G2 := Lib.hid (dec_false hn)
        clear hall hg hn
        go_enter Try.func69, Try.ntmps69
        go_wp2_with fail
        (with_reducible refine (isNetwork_any (HN.out.ext HX.out)).mono ?_)
        rintro e w1 ⟨rfl, hw⟩
        rw [G.out]
        have K1 := Lib.hid (HX.out.trans' hw)
        have Q1 := Lib.hid (row_ext HQ.out hw)
        obtain ⟨p0, p1, p2, _, _, _⟩ := row3_facts (row_ext HR.out hw)
        clear hw
        go_wp2_with fail
        (with_reducible refine (hasNode_any _ (HN.out.ext K1.out)).mono ?_)
        rintro e w2 ⟨rfl, hw⟩
        rw [G2.out]
        have K2 := Lib.hid (K1.out.trans' hw)
        obtain ⟨q0, q1, q2, t0, t1, t2⟩ := row3_facts (row_ext Q1.out hw)
        clear hw p0 p1 p2
        go_wp2
        refine bodyPost_ret (v := .tuple #[znet, .bool false]) (by simp [results, Try.results69, go_sem, q0, q1, q2, znet]) rfl ⟨_, [], ret_net D.out.symm, store3_ext K2.out (by omega) _ _ _, by rw [E.out]; exact own_zero _, Fresh.nil _⟩
    · have G := Lib.hid (dec_false hg)
      clear hall hg
      go_enter Try.func69, Try.ntmps69
      go_wp2_with (first | (go_at_call 29; (with_reducible refine (isNetwork_any (HN.out.ext HX.out)).mono ?_); rintro e w1 ⟨rfl, hw⟩; rw [G.out]; have K1 := Lib.hid (HX.out.trans' hw); obtain ⟨q0, q1, q2, t0, t1, t2⟩ := row3_facts (row_ext HQ.out hw); clear hw))
      refine bodyPost_ret (v := .tuple #[znet, .bool false]) (by simp [results, Try.results69, go_sem, q0, q1, q2, znet]) rfl ⟨_, [], ret_net D.out.symm, store3_ext K1.out (by omega) _ _ _, by rw [E.out]; exact own_zero _, Fresh.nil _⟩
end Go.Proofs.Ytpkgghkibgadnaa
