/- Inboxes on both sides. -/
import Derived.Test.YtdcgpodjoalokaaMq
namespace Go.Proofs.Ytdcgpodjoalokaa
open Go.RowKit

theorem inboxL_r {M : Mach} {N : Net} {s : List Int} (h : Sts M N s) {v : Nat} (hv : v < N.ends.length) : ∀ i, i < (inboxL M N s v).length → inI64 (gi (inboxL M N s v) i) := fun i hi => by
  have := inbox_in h hv i hi
  have := h.1.1.1.2.2.2
  exact inI64_small (by omega) (by omega)
def duoM (x y : Value) : Nat → Value
  | 0 => x
  | _ => y
theorem duoM_made (w : World) (x y : Value) (t : Nat) : (w.alloc (.cells #[x, y] t)).rowIs w.heap.size t 2 (duoM x y) :=
  World.rowIs_alloc w #[x, y] t _ fun i hi => by
    have h : i < 2 := hi
    match i, h with
    | 0, _ => rfl
    | 1, _ => rfl
/-- What append leaves: a row of another type. -/
theorem grew_other {w w' : World} {B t k n n' b t' m : Nat} {v v' : Value} {xs ys : List Value} {f : Nat → Value} (ho : w.ownsRow B t k v n xs) (hg : Grew w w' B t k v v' n' ys) (hr : w.rowIs b t' m f) (hne : t' ≠ t) : w'.rowIs b t' m f := by
  exact hr.of_block (kept_grown ho hg.2.1 (bs := [b]) (fun x hx => by obtain rfl := List.mem_singleton.1 hx; obtain ⟨cur, hc, -⟩ := hr; exact ⟨cur, hc⟩) hne b (by simp))
theorem deg_small {N : Net} (h : Good N) {v : Nat} (hv : v < N.ends.length) : (gr N.ends v).length ≤ 6 := (h.2.1 v hv).1

set_option maxHeartbeats 6400000 in
set_option maxRecDepth 100000 in
theorem maInbox_any {w : World} {vm vn vs : Value} {M : Mach} {N : Net} {s : List Int} (h : MachAt w vm M) (k : NetAt w vn N) (hs : IntSl w vs s) (ha : Sts M N s) (v : Nat) (hv : v < N.ends.length) : Calls Try.prog 90 #[vm, vn, vs, .int .i64 (v : Int)] w fun e w' => ∃ v' bs, e = .returned v' ∧ Ext w w' ∧ OwnI w' v' (inboxL M N s v) bs ∧ Fresh w bs := by
  have HSS := Lib.hid hs
  obtain ⟨ssa, ssc, rfl⟩ := hs.isSlice
  obtain ⟨-, ssm, ssn⟩ := isLen hs
  unfold maxLen at ssm
  clear hs
  have HM := Lib.hid h
  have HN := Lib.hid k
  obtain ⟨a3, c3, a4, c4, a5, c5, a6, c6, rfl, h3, h4, -⟩ := h
  obtain ⟨v0, v1, v2, rfl, hE, -, hP⟩ := k
  obtain ⟨W1, hW1⟩ : ∃ W1, W1 = twoBox w (.int .i64 M.deg) (.int .i64 M.sts) (.int .i64 M.msgs) (.slice a3 M.start.length c3) (.slice a4 M.send.length c4) (.slice a5 M.cls.length c5) (.slice a6 M.out.length c6) v0 v1 v2 := ⟨_, rfl⟩
  have EW := Lib.hid (show Ext w W1 by rw [hW1]; exact twoBox_ext _ _ _ _ _ _ _ _ _ _ _)
  have RA := Lib.hid (show W1.rowIs w.heap.size 31 7 (sept (.int .i64 M.deg) (.int .i64 M.sts) (.int .i64 M.msgs) (.slice a3 M.start.length c3) (.slice a4 M.send.length c4) (.slice a5 M.cls.length c5) (.slice a6 M.out.length c6)) by rw [hW1]; exact twoBox_m _ _ _ _ _ _ _ _ _ _ _)
  have RB := Lib.hid (show W1.rowIs (w.heap.size + 1) 43 3 (tri v0 v1 v2) by rw [hW1]; exact twoBox_n _ _ _ _ _ _ _ _ _ _ _)
  have hsz : W1.heap.size = w.heap.size + 2 := by rw [hW1]; simp [twoBox]
  have HSZ := Lib.hid hsz
  have HE3 := Lib.hid (h3.ext EW.out)
  have HE4 := Lib.hid (h4.ext EW.out)
  have HNE := Lib.hid (hE.ext EW.out)
  have HNP := Lib.hid (hP.ext EW.out)
  obtain ⟨-, ms3, ns3⟩ := ssLen h3
  obtain ⟨-, ms4, ns4⟩ := ssLen h4
  unfold maxLen at ms3 ms4
  clear h3 h4 hE hP hsz
  obtain ⟨p0, p1, p2, p3, p4, p5, p6⟩ := row7_facts RA.out
  obtain ⟨q0, q1, q2, -, -, -⟩ := row3_facts RB.out
  unfold twoBox at hW1
  have HA := Lib.hid ha
  have HG := Lib.hid ha.1.2.1
  obtain ⟨ea, eb, eo, ec, rfl, hea, el, em, hec⟩ := HNE.out
  unfold maxLen at em
  have HEA := Lib.hid hea
  have HEC := Lib.hid hec
  have hn40 : N.ends.length ≤ 40 := ha.1.2.1.1.2
  clear hea hec
  obtain ⟨x, hx, hrow⟩ := HEC.out v hv
  obtain ⟨xa, xb, xo, xc, rfl, hxa, xl, xm, hxc⟩ := hrow
  unfold maxLen at xm
  obtain rfl := HEA.out (by omega)
  have HXA := Lib.hid hxa
  have HXC := Lib.hid hxc
  have hd6 := deg_small ha.1.2.1 hv
  clear hxa hxc ha
  obtain ⟨i0, hi, hz0, hz1, hz2⟩ := info_parts Try.info3
  have I0 := Lib.hid (And.intro hi (And.intro hz0 (And.intro hz1 hz2)))
  clear hi hz0 hz1 hz2
  go_enter Try.func90, Try.ntmps90
  go_upto_region 1 with fail
  rw [← hW1]
  clear hW1
  have HV := Lib.hid hv
  go_wp2
  clear hv
  go_loopg [9, 18] (gr N.ends v).length (fun g t i wr => ∃ k : Nat, k ≤ (gr N.ends v).length ∧ g = (gr N.ends v).length - k ∧ i = .int .i64 k ∧ Hid (Ext W1 wr ∧ GN W1.heap.size wr t ((List.range k).map (msgAt M N s v))))
  case atStart => exact ⟨0, Nat.zero_le _, rfl, rfl, Ext.rfl' _, GN.nil _ _⟩
  case round =>
    obtain ⟨k, hk, rfl, rfl, Hr⟩ := hrel
    by_cases hlt : k < (gr N.ends v).length
    · obtain ⟨ga, gq, rfl⟩ := Hr.out.2.slice
      have hv := HV.out
      obtain ⟨m0, m1, m2, m3, m4, m5, m6, m7⟩ := msg_in HA.out hv hlt
      obtain ⟨g1, g2, -, -⟩ := HXC.out k hlt
      obtain rfl := HXA.out (by omega)
      obtain ⟨z, hz⟩ := Int.eq_ofNat_of_zero_le m0
      rw [hz, Int.toNat_natCast] at m1 m2 m3 m5
      obtain ⟨sv, hsv⟩ := Int.eq_ofNat_of_zero_le m2
      rw [hsv, Int.toNat_natCast] at m3 m5
      obtain ⟨p, hp⟩ := Int.eq_ofNat_of_zero_le m4
      rw [hp, Int.toNat_natCast] at m5
      rw [hz] at g1
      rw [hp] at g2
      obtain ⟨sb, so, ra, rc, rfl, z0, hsr⟩ := ssRow HE4.out m3
      obtain ⟨ra', rb, ro, rd, e, hra, rl, rm, hrc⟩ := hsr
      simp only [Value.slice.injEq] at e
      obtain ⟨rfl, -, rfl⟩ := e
      unfold maxLen at rm
      obtain rfl := hra (by omega)
      obtain ⟨_, z1, rfl, -⟩ := hrc p m5
      obtain ⟨sa', pb, po, pd, e, hpa, pl, pm, hpc⟩ := HSS.out.ext EW.out
      simp only [Value.slice.injEq] at e
      obtain ⟨rfl, -, rfl⟩ := e
      unfold maxLen at pm
      obtain rfl := hpa (by omega)
      obtain ⟨_, z2, rfl, -⟩ := hpc z m1
      rw [hsv] at z2
      obtain ⟨y, hy⟩ : ∃ y, y = gi (gr M.send sv) p := ⟨_, rfl⟩
      have HY := Lib.hid (show msgAt M N s v k = y by rw [hy]; unfold msgAt; rw [hz, hp, Int.toNat_natCast, hsv, Int.toNat_natCast, Int.toNat_natCast])
      rw [← hy] at z1
      obtain ⟨nr, hnr⟩ : ∃ n, n = (gr M.send sv).length := ⟨_, rfl⟩
      rw [← hnr] at z0 m5 rl
      clear hy hnr hra hrc hpa hpc m0 m2 m4 m6 m7 hz hsv hp
      obtain ⟨W2, hW2⟩ : ∃ W2, W2 = wr.alloc (.cells #[.int .i64 (z : Int), .int .i64 (p : Int)] 123) := ⟨_, rfl⟩
      have E2 := Lib.hid (show Ext wr W2 by rw [hW2]; exact (Ext.rfl' _).alloc' _)
      have R2 := Lib.hid (show W2.rowIs wr.heap.size 123 2 (duoM (.int .i64 (z : Int)) (.int .i64 (p : Int))) by rw [hW2]; exact duoM_made _ _ _ _)
      have f1 := Hr.out.1.cell' g1
      have f2 := Hr.out.1.cell' g2
      have mkS : ∀ w' : World, Ext W2 w' → w'.cell? ⟨w.heap.size, 4, none⟩ = some (.slice (some ⟨sb, so, none⟩) M.send.length c4) ∧ w'.cell? ⟨sb, so + sv, none⟩ = some (.slice (some ⟨rb, ro, none⟩) nr rc) ∧ w'.cell? ⟨pb, po + z, none⟩ = some (.int .i64 (sv : Int)) ∧ w'.cell? ⟨rb, ro + p, none⟩ = some (.int .i64 y) ∧ w'.cell? ⟨wr.heap.size, 0, none⟩ = some (.int .i64 (z : Int)) ∧ w'.cell? ⟨wr.heap.size, 1, none⟩ = some (.int .i64 (p : Int)) := fun w' h => ⟨h.cell' ((Hr.out.1.trans' E2.out).cell' p4), h.cell' ((Hr.out.1.trans' E2.out).cell' z0), h.cell' ((Hr.out.1.trans' E2.out).cell' z2), h.cell' ((Hr.out.1.trans' E2.out).cell' z1), (row_ext R2.out h).cell (i := 0) (by omega), (row_ext R2.out h).cell (i := 1) (by omega)⟩
      have ZZ0 := Lib.hid (fun (w' : World) (h : Ext W1 w') => h.cell' z0)
      have ZZ1 := Lib.hid (fun (w' : World) (h : Ext W1 w') => h.cell' z1)
      have ZZ2 := Lib.hid (fun (w' : World) (h : Ext W1 w') => h.cell' z2)
      have hlen : ((List.range k).map (msgAt M N s v)).length = k := by simp
      have HGK := Lib.hid (show ∀ w' : World, Ext wr w' → w'.ownsRow W1.heap.size 3 1 (.slice ga k gq) k (intCells ((List.range k).map (msgAt M N s v))) from fun w' h => by have := Hr.out.2.ext h; unfold GN at this; rw [hlen] at this; exact this)
      have HGL := Lib.hid hlen
      clear hx z0 z1 z2 g1 g2 hlen
      go_upto_region 5 with fail
      rw [← hW2]
      clear hW2
      refine wp_region_gate (n := 16) (S := fun w' => w'.cell? ⟨w.heap.size, 4, none⟩ = some (.slice (some ⟨sb, so, none⟩) M.send.length c4) ∧ w'.cell? ⟨sb, so + sv, none⟩ = some (.slice (some ⟨rb, ro, none⟩) nr rc) ∧ w'.cell? ⟨pb, po + z, none⟩ = some (.int .i64 (sv : Int)) ∧ w'.cell? ⟨rb, ro + p, none⟩ = some (.int .i64 y) ∧ w'.cell? ⟨wr.heap.size, 0, none⟩ = some (.int .i64 (z : Int)) ∧ w'.cell? ⟨wr.heap.size, 1, none⟩ = some (.int .i64 (p : Int))) (by kernel_rfl) (mkS _ (Ext.rfl' W2).drew') (fun hHeld => ?_)
      refine wpAnyG_take (i := 0) (v := ?_) rfl (by decide +kernel) (by kernel_rfl) (by decide) (by kernel_rfl) (by kernel_rfl) (fun _ _ _ h => h) (Or.inl ⟨by kernel_rfl, ?_⟩) hHeld ?_
      rotate_left 1
      · (intro w' hSw; (try dsimp only at hSw); go_simp) <;> with_reducible rfl
      simp only [Act.put]
      refine wpAnyG_take (i := 1) (v := ?_) rfl (by decide +kernel) (by kernel_rfl) (by decide) (by kernel_rfl) (by kernel_rfl) (fun _ _ _ h => h) (Or.inl ⟨by kernel_rfl, ?_⟩) hHeld ?_
      rotate_left 1
      · (intro w' hSw; (try dsimp only at hSw); go_simp) <;> with_reducible rfl
      simp only [Act.put]
      refine wpAnyG_take (i := 2) (v := ?_) rfl (by decide +kernel) (by kernel_rfl) (by decide) (by kernel_rfl) (by kernel_rfl) (fun _ _ _ h => h) (Or.inl ⟨by kernel_rfl, ?_⟩) hHeld ?_
      rotate_left 1
      · (intro w' hSw; (try dsimp only at hSw); go_simp) <;> with_reducible rfl
      simp only [Act.put]
      refine wpAnyG_take (i := 3) (v := ?_) rfl (by decide +kernel) (by kernel_rfl) (by decide) (by kernel_rfl) (by kernel_rfl) (fun _ _ _ h => h) (Or.inl ⟨by kernel_rfl, ?_⟩) hHeld ?_
      rotate_left 1
      · (intro w' hSw; (try dsimp only at hSw); go_simp) <;> with_reducible rfl
      simp only [Act.put]
      refine wpAnyG_take (i := 4) (v := ?_) rfl (by decide +kernel) (by kernel_rfl) (by decide) (by kernel_rfl) (by kernel_rfl) (fun _ _ _ h => h) (Or.inl ⟨by kernel_rfl, ?_⟩) hHeld ?_
      rotate_left 1
      · (intro w' hSw; (try dsimp only at hSw); go_simp) <;> with_reducible rfl
      simp only [Act.put]
      refine wpAnyG_take (i := 5) (v := ?_) rfl (by decide +kernel) (by kernel_rfl) (by decide) (by kernel_rfl) (by kernel_rfl) (fun _ _ _ h => h) (Or.inl ⟨by kernel_rfl, ?_⟩) hHeld ?_
      rotate_left 1
      · (intro w' hSw; (try dsimp only at hSw); go_simp) <;> with_reducible rfl
      simp only [Act.put]
      refine wpAnyG_take (i := 6) (v := ?_) rfl (by decide +kernel) (by kernel_rfl) (by decide) (by kernel_rfl) (by kernel_rfl) (fun _ _ _ h => h) (Or.inl ⟨by kernel_rfl, ?_⟩) hHeld ?_
      rotate_left 1
      · (intro w' hSw; (try dsimp only at hSw); go_simp) <;> with_reducible rfl
      simp only [Act.put]
      refine wpAnyG_take (i := 7) (v := ?_) rfl (by decide +kernel) (by kernel_rfl) (by decide) (by kernel_rfl) (by kernel_rfl) (fun _ _ _ h => h) (Or.inl ⟨by kernel_rfl, ?_⟩) hHeld ?_
      rotate_left 1
      · (intro w' hSw; (try dsimp only at hSw); go_simp) <;> with_reducible rfl
      simp only [Act.put]
      refine wpAnyG_take (i := 8) (v := ?_) rfl (by decide +kernel) (by kernel_rfl) (by decide) (by kernel_rfl) (by kernel_rfl) (fun _ _ _ h => h) (Or.inl ⟨by kernel_rfl, ?_⟩) hHeld ?_
      rotate_left 1
      · (intro w' hSw; (try dsimp only at hSw); go_simp) <;> with_reducible rfl
      simp only [Act.put]
      refine wpAnyG_take (i := 9) (v := ?_) rfl (by decide +kernel) (by kernel_rfl) (by decide) (by kernel_rfl) (by kernel_rfl) (fun _ _ _ h => h) (Or.inl ⟨by kernel_rfl, ?_⟩) hHeld ?_
      rotate_left 1
      · (intro w' hSw; (try dsimp only at hSw); go_simp) <;> with_reducible rfl
      simp only [Act.put]
      refine wpAnyG_take (i := 10) (v := ?_) rfl (by decide +kernel) (by kernel_rfl) (by decide) (by kernel_rfl) (by kernel_rfl) (fun _ _ _ h => h) (Or.inl ⟨by kernel_rfl, ?_⟩) hHeld ?_
      rotate_left 1
      · (intro w' hSw; (try dsimp only at hSw); go_simp) <;> with_reducible rfl
      simp only [Act.put]
      refine wpAnyG_take (i := 11) (v := ?_) rfl (by decide +kernel) (by kernel_rfl) (by decide) (by kernel_rfl) (by kernel_rfl) (fun _ _ _ h => h) (Or.inl ⟨by kernel_rfl, ?_⟩) hHeld ?_
      rotate_left 1
      · (intro w' hSw; (try dsimp only at hSw); go_simp) <;> with_reducible rfl
      simp only [Act.put]
      refine wpAnyG_take (i := 12) (v := ?_) rfl (by decide +kernel) (by kernel_rfl) (by decide) (by kernel_rfl) (by kernel_rfl) (fun _ _ _ h => h) (Or.inl ⟨by kernel_rfl, ?_⟩) hHeld ?_
      rotate_left 1
      · (intro w' hSw; (try dsimp only at hSw); go_simp) <;> with_reducible rfl
      simp only [Act.put]
      refine wpAnyG_take (i := 13) (v := ?_) rfl (by decide +kernel) (by kernel_rfl) (by decide) (by kernel_rfl) (by kernel_rfl) (fun _ _ _ h => h) (Or.inl ⟨by kernel_rfl, ?_⟩) hHeld ?_
      rotate_left 1
      · (intro w' hSw; (try dsimp only at hSw); go_simp) <;> with_reducible rfl
      simp only [Act.put]
      refine wpAnyG_one (i := 14) rfl (by kernel_rfl) rfl (fun K hK => ?_)
      go_simp
      clear hHeld
      refine hK.out _ _ (fun _ => mkS _ (by first | exact (Ext.rfl' W2).drew'.alloc' _ | exact ((Ext.rfl' W2).alloc' _).drew')) (fun hHeld' => ?_)
      have hHeld := hHeld' (by decide)
      clear hK K hHeld'
      refine wpAnyG_one (i := 15) rfl (by kernel_rfl) rfl (fun K hK => ?_)
      refine wp_app2 (.tmp 22) (.tmp 36) 24 rfl W1.heap.size 3 i0 (.int .i64 0) 1 8 Try.underlying24 I0.out.1 I0.out.2.1 I0.out.2.2.1 I0.out.2.2.2 rfl (by decide) (.slice ga k gq) k (intCells ((List.range k).map (msgAt M N s v))) (by first | rfl | (simp; done)) (HGK.out _ (E2.out.trans' (by first | exact (Ext.rfl' W2).drew'.alloc' _ | exact ((Ext.rfl' W2).alloc' _).drew'))) (some ⟨W2.heap.size, 0, none⟩) 1 1 [.int .i64 y] rfl (by first | exact src_one W2.drew _ 3 rfl | exact src_drewM (src_one W2 _ 3 rfl)) (by unfold maxLen; omega) (by omega) (Nat.le_trans (Hr.out.1.trans' E2.out).size (by simp)) ?_
      intro v' w2 hg
      have X2 := Lib.hid (GN.since (HGK.out _ (E2.out.trans' (by first | exact (Ext.rfl' W2).drew'.alloc' _ | exact ((Ext.rfl' W2).alloc' _).drew'))) ((Hr.out.1.trans' E2.out).trans' (by first | exact (Ext.rfl' W2).drew'.alloc' _ | exact ((Ext.rfl' W2).alloc' _).drew')) hg)
      have X22 := Lib.hid (show w2.rowIs wr.heap.size 123 2 (duoM (.int .i64 (z : Int)) (.int .i64 (p : Int))) from grew_other (HGK.out _ (E2.out.trans' (by first | exact (Ext.rfl' W2).drew'.alloc' _ | exact ((Ext.rfl' W2).alloc' _).drew'))) hg.1 (row_ext R2.out (by first | exact (Ext.rfl' W2).drew'.alloc' _ | exact ((Ext.rfl' W2).alloc' _).drew')) (by decide))
      have G2 := Lib.hid (GN.app HGL.out hg)
      clear hg hHeld
      obtain ⟨ha2, hq2, rfl⟩ := G2.out.slice
      refine hK.out _ _ (fun _ => ⟨X2.out.cell' p4, ZZ0.out _ X2.out, ZZ2.out _ X2.out, ZZ1.out _ X2.out, X22.out.cell (i := 0) (by omega), X22.out.cell (i := 1) (by omega)⟩) (fun _ => ?_)
      clear hK K
      refine wpAnyG_one (i := 16) rfl (by kernel_rfl) rfl (fun K hK => ?_)
      go_simp
      refine hK.out _ _ (fun h => absurd rfl h) (fun _ => ?_)
      clear hK K
      refine wpAnyG_done (by kernel_rfl) ?_ _
      clear mkS f1 f2
      go_wp2
      go_roundg ((gr N.ends v).length - (k + 1))
      case measure => omega
      case rel => exact ⟨k + 1, by omega, rfl, by go_num, X2.out, by rw [← tab_succ, HY.out]; have := G2.out; rw [List.length_append, HGL.out] at this; exact this⟩
    · obtain rfl : k = (gr N.ends v).length := by omega
      obtain ⟨bs, ho, hnd, hge⟩ := own_of_cells (l := inboxL M N s v) Hr.out.2 (inboxL_r HA.out HV.out)
      have HO := Lib.hid ho
      have HF := Lib.hid (show Fresh w bs from ⟨hnd, fun b hb => by have := hge b hb; have := HSZ.out; omega⟩)
      clear ho hnd hge
      go_wp2
      go_ret
      exact ⟨_, bs, rfl, EW.out.trans' Hr.out.1, HO.out, HF.out⟩

end Go.Proofs.Ytdcgpodjoalokaa
