/- Start states and inboxes, on both sides. -/
import Derived.Test.YtdcgpodjoalokaaMl
namespace Go.Proofs.Ytdcgpodjoalokaa
open Go.RowKit

/-- A list of ints that grows in memory of its own. -/
def GN (B : Nat) (w : World) (v : Value) (l : List Int) : Prop := w.ownsRow B 3 1 v l.length (intCells l)
theorem GN.nil (B : Nat) (w : World) : GN B w (.slice none 0 0) [] := World.ownsRow_nil _ _ _ _
theorem GN.ext {B : Nat} {w w' : World} {v : Value} {l : List Int} (h : GN B w v l) (he : Ext w w') : GN B w' v l := owns_ext h he
theorem GN.slice {B : Nat} {w : World} {v : Value} {l : List Int} (h : GN B w v l) : ∃ a c, v = .slice a l.length c := owns_slice h
theorem GN.app {B n : Nat} {w w' : World} {v v' : Value} {l : List Int} {x : Int} (hn : l.length = n) (hg : Grew2 w w' B 3 1 v v' (n + 1) (intCells l ++ [.int .i64 x])) : GN B w' v' (l ++ [x]) := by
  subst hn
  have := hg.1.1
  simpa [GN, intCells] using this
theorem GN.since {W w w' : World} {v v' : Value} {l : List Int} {x : Int} {n : Nat} (h : w.ownsRow W.heap.size 3 1 v n (intCells l)) (he : Ext W w) (hg : Grew2 w w' W.heap.size 3 1 v v' (n + 1) (intCells l ++ [.int .i64 x])) : Ext W w' :=
  hg.1.ext he fun b hb => (World.ownsRow.lt h b hb).1
theorem src_drewM {w : World} {ao : Option Addr} {m k : Nat} {news : List Value} (h : SrcAt w ao m k news) : SrcAt w.drew ao m k news := ⟨h.1, h.2.1, fun ad e j u hu => by simpa using h.2.2.1 ad e j u hu, h.2.2.2⟩
theorem own_rowM {w : World} {b n : Nat} {l : List Int} (hl : l.length = n) (hr : ∀ i, i < n → inI64 (gi l i)) (hn : n ≤ 1048576) (h : w.rowIs b 3 n (copied l n)) : OwnI w (.slice (some ⟨b, 0, none⟩) n n) l [b] := by
  subst hl
  refine ⟨⟨l.length, Nat.le_refl _, small_max hn, .inr ⟨b, l.length, copied l l.length, rfl, rfl, by omega, h, fun i hi => ?_⟩⟩, fun i hi => hr i (by omega)⟩
  simp only [copied]
  rw [if_pos (by omega)]
theorem tab_succ (f : Nat → Int) (k : Nat) : (List.range k).map f ++ [f k] = (List.range (k + 1)).map f := by simp [List.range_succ]
theorem inI64_small {x : Int} (h0 : -1 ≤ x) (h1 : x ≤ 1048576) : inI64 x := by unfold inI64; omega
theorem startL_r {M : Mach} {N : Net} (h : Asked M N) : ∀ i, i < (startL M N).length → inI64 (gi (startL M N) i) := fun i hi => by
  have := (start_sts h).2 i hi
  have := h.1.1.2.1.2
  exact inI64_small (by omega) (by omega)

set_option maxHeartbeats 6400000 in
set_option maxRecDepth 100000 in
theorem maStart_any {w : World} {vm vn : Value} {M : Mach} {N : Net} (h : MachAt w vm M) (k : NetAt w vn N) (ha : Asked M N) : Calls Try.prog 86 #[vm, vn] w fun e w' => ∃ v' bs, e = .returned v' ∧ Ext w w' ∧ OwnI w' v' (startL M N) bs ∧ Fresh w bs := by
  have HM := Lib.hid h
  have HN := Lib.hid k
  obtain ⟨a3, c3, a4, c4, a5, c5, a6, c6, rfl, h3, h4, -⟩ := h
  obtain ⟨v0, v1, v2, rfl, hE, -, hP⟩ := k
  obtain ⟨W1, hW1⟩ : ∃ W1, W1 = twoBox w (.int .i64 M.deg) (.int .i64 M.sts) (.int .i64 M.msgs) (.slice a3 M.start.length c3) (.slice a4 M.send.length c4) (.slice a5 M.cls.length c5) (.slice a6 M.out.length c6) v0 v1 v2 := ⟨_, rfl⟩
  have EW := Lib.hid (show Ext w W1 by rw [hW1]; exact twoBox_ext _ _ _ _ _ _ _ _ _ _ _)
  have RA := Lib.hid (show W1.rowIs w.heap.size 31 7 (sept (.int .i64 M.deg) (.int .i64 M.sts) (.int .i64 M.msgs) (.slice a3 M.start.length c3) (.slice a4 M.send.length c4) (.slice a5 M.cls.length c5) (.slice a6 M.out.length c6)) by rw [hW1]; exact twoBox_m _ _ _ _ _ _ _ _ _ _ _)
  have RB := Lib.hid (show W1.rowIs (w.heap.size + 1) 43 3 (tri v0 v1 v2) by rw [hW1]; exact twoBox_n _ _ _ _ _ _ _ _ _ _ _)
  have hsz : W1.heap.size = w.heap.size + 2 := by rw [hW1]; simp [twoBox]
  have HSZ := Lib.hid hsz
  have HE3 := Lib.hid (h3.ext EW.out)
  have HE4 := Lib.hid (h4.ext EW.out)
  have HNE := Lib.hid (hE.ext EW.out)
  have HNP := Lib.hid (hP.ext EW.out)
  obtain ⟨-, ms3, ns3⟩ := ssLen h3
  obtain ⟨-, ms4, ns4⟩ := ssLen h4
  unfold maxLen at ms3 ms4
  clear h3 h4 hE hP hsz
  obtain ⟨p0, p1, p2, p3, p4, p5, p6⟩ := row7_facts RA.out
  obtain ⟨q0, q1, q2, -, -, -⟩ := row3_facts RB.out
  unfold twoBox at hW1
  have HA := Lib.hid ha
  obtain ⟨ea, eb, eo, ec, rfl, hea, el, em, hec⟩ := HNE.out
  unfold maxLen at em
  have HEA := Lib.hid hea
  have HEC := Lib.hid hec
  obtain ⟨p8, p9, rfl⟩ := HNP.out.isSlice
  have hn40 : N.ends.length ≤ 40 := ha.2.1.1.2
  clear hea hec ha
  obtain ⟨i0, hi, hz0, hz1, hz2⟩ := info_parts Try.info3
  have I0 := Lib.hid (And.intro hi (And.intro hz0 (And.intro hz1 hz2)))
  clear hi hz0 hz1 hz2
  go_enter Try.func86, Try.ntmps86
  go_upto_region 1 with fail
  rw [← hW1]
  clear hW1
  go_wp2
  go_loopg [5, 11] N.ends.length (fun g s i wr => ∃ k : Nat, k ≤ N.ends.length ∧ g = N.ends.length - k ∧ i = .int .i64 k ∧ Hid (Ext W1 wr ∧ GN W1.heap.size wr s ((List.range k).map (startAt M N))))
  case atStart => exact ⟨0, Nat.zero_le _, rfl, rfl, Ext.rfl' _, GN.nil _ _⟩
  case round =>
    obtain ⟨k, hk, rfl, rfl, Hr⟩ := hrel
    by_cases hlt : k < N.ends.length
    · obtain ⟨ga, gq, rfl⟩ := Hr.out.2.slice
      obtain ⟨hd, hi0, hi1, -, hki, hr0, hr1⟩ := start_in HA.out hlt
      obtain ⟨x, hx, hrow⟩ := HEC.out k hlt
      obtain ⟨xa, xb, xo, xc, rfl, -, xl, xm, -⟩ := hrow
      unfold maxLen at xm
      obtain rfl := HEA.out (by omega)
      obtain ⟨sb, so, ra, rc, rfl, z0, hsr⟩ := ssRow HE3.out hd
      obtain ⟨ra', rb, ro, rd, e, hra, rl, rm, hrc⟩ := hsr
      simp only [Value.slice.injEq] at e
      obtain ⟨rfl, -, rfl⟩ := e
      unfold maxLen at rm
      obtain ⟨m, hm⟩ := Int.eq_ofNat_of_zero_le hi0
      rw [hm, Int.toNat_natCast] at hi1
      obtain rfl := hra (by omega)
      obtain ⟨_, z1, rfl, -⟩ := hrc m hi1
      obtain ⟨pa', pb, po, pd, e, hpa, pl, pm, hpc⟩ := HNP.out
      simp only [Value.slice.injEq] at e
      obtain ⟨rfl, -, rfl⟩ := e
      unfold maxLen at pm
      obtain rfl := hpa (by omega)
      obtain ⟨_, z2, rfl, -⟩ := hpc k hki
      rw [hm] at z2
      obtain ⟨d, hdd⟩ : ∃ d, d = (gr N.ends k).length := ⟨_, rfl⟩
      obtain ⟨y, hy⟩ : ∃ y, y = gi (gr M.start d) m := ⟨_, rfl⟩
      have HY := Lib.hid (show startAt M N k = y by rw [hy, hdd]; unfold startAt; rw [hm, Int.toNat_natCast])
      rw [← hdd] at hx xl hd z0 z1 hi1 rl
      rw [← hy] at z1
      obtain ⟨nr, hnr⟩ : ∃ n, n = (gr M.start d).length := ⟨_, rfl⟩
      rw [← hnr] at z0 hi1 rl
      clear hy hdd hm hnr hi0 hra hrc hpa hpc
      have mkS : ∀ w' : World, Ext wr w' → w'.cell? ⟨w.heap.size, 3, none⟩ = some (.slice (some ⟨sb, so, none⟩) M.start.length c3) ∧ w'.cell? ⟨sb, so + d, none⟩ = some (.slice (some ⟨rb, ro, none⟩) nr rc) ∧ w'.cell? ⟨w.heap.size + 1, 2, none⟩ = some (.slice (some ⟨pb, po, none⟩) N.inputs.length p9) ∧ w'.cell? ⟨pb, po + k, none⟩ = some (.int .i64 (m : Int)) ∧ w'.cell? ⟨rb, ro + m, none⟩ = some (.int .i64 y) := fun w' h => ⟨h.cell' (Hr.out.1.cell' p3), h.cell' (Hr.out.1.cell' z0), h.cell' (Hr.out.1.cell' q2), h.cell' (Hr.out.1.cell' z2), h.cell' (Hr.out.1.cell' z1)⟩
      have hxx := Hr.out.1.cell' hx
      have hlen : ((List.range k).map (startAt M N)).length = k := by simp
      have HGK := Lib.hid (show ∀ w' : World, Ext wr w' → w'.ownsRow W1.heap.size 3 1 (.slice ga k gq) k (intCells ((List.range k).map (startAt M N))) from fun w' h => by have := Hr.out.2.ext h; unfold GN at this; rw [hlen] at this; exact this)
      have HGL := Lib.hid hlen
      clear hlen
      have ZZ0 := Lib.hid (fun (w' : World) (h : Ext W1 w') => h.cell' z0)
      have ZZ1 := Lib.hid (fun (w' : World) (h : Ext W1 w') => h.cell' z1)
      have ZZ2 := Lib.hid (fun (w' : World) (h : Ext W1 w') => h.cell' z2)
      clear hx z0 z1 z2
      go_upto_region 5 with fail
      refine wp_region_gate (n := 16) (S := fun w' => w'.cell? ⟨w.heap.size, 3, none⟩ = some (.slice (some ⟨sb, so, none⟩) M.start.length c3) ∧ w'.cell? ⟨sb, so + d, none⟩ = some (.slice (some ⟨rb, ro, none⟩) nr rc) ∧ w'.cell? ⟨w.heap.size + 1, 2, none⟩ = some (.slice (some ⟨pb, po, none⟩) N.inputs.length p9) ∧ w'.cell? ⟨pb, po + k, none⟩ = some (.int .i64 (m : Int)) ∧ w'.cell? ⟨rb, ro + m, none⟩ = some (.int .i64 y)) (by kernel_rfl) (mkS _ (Ext.rfl' wr).drew') (fun hHeld => ?_)
      refine wpAnyG_take (i := 0) (v := ?_) rfl (by decide +kernel) (by kernel_rfl) (by decide) (by kernel_rfl) (by kernel_rfl) (fun _ _ _ h => h) (Or.inl ⟨by kernel_rfl, ?_⟩) hHeld ?_
      rotate_left 1
      · (intro w' hSw; (try dsimp only at hSw); go_simp) <;> with_reducible rfl
      simp only [Act.put]
      refine wpAnyG_take (i := 1) (v := ?_) rfl (by decide +kernel) (by kernel_rfl) (by decide) (by kernel_rfl) (by kernel_rfl) (fun _ _ _ h => h) (Or.inl ⟨by kernel_rfl, ?_⟩) hHeld ?_
      rotate_left 1
      · (intro w' hSw; (try dsimp only at hSw); go_simp) <;> with_reducible rfl
      simp only [Act.put]
      refine wpAnyG_take (i := 2) (v := ?_) rfl (by decide +kernel) (by kernel_rfl) (by decide) (by kernel_rfl) (by kernel_rfl) (fun _ _ _ h => h) (Or.inl ⟨by kernel_rfl, ?_⟩) hHeld ?_
      rotate_left 1
      · (intro w' hSw; (try dsimp only at hSw); go_simp) <;> with_reducible rfl
      simp only [Act.put]
      refine wpAnyG_take (i := 3) (v := ?_) rfl (by decide +kernel) (by kernel_rfl) (by decide) (by kernel_rfl) (by kernel_rfl) (fun _ _ _ h => h) (Or.inl ⟨by kernel_rfl, ?_⟩) hHeld ?_
      rotate_left 1
      · (intro w' hSw; (try dsimp only at hSw); go_simp) <;> with_reducible rfl
      simp only [Act.put]
      refine wpAnyG_take (i := 4) (v := ?_) rfl (by decide +kernel) (by kernel_rfl) (by decide) (by kernel_rfl) (by kernel_rfl) (fun _ _ _ h => h) (Or.inl ⟨by kernel_rfl, ?_⟩) hHeld ?_
      rotate_left 1
      · (intro w' hSw; (try dsimp only at hSw); go_simp) <;> with_reducible rfl
      simp only [Act.put]
      refine wpAnyG_take (i := 5) (v := ?_) rfl (by decide +kernel) (by kernel_rfl) (by decide) (by kernel_rfl) (by kernel_rfl) (fun _ _ _ h => h) (Or.inl ⟨by kernel_rfl, ?_⟩) hHeld ?_
      rotate_left 1
      · (intro w' hSw; (try dsimp only at hSw); go_simp) <;> with_reducible rfl
      simp only [Act.put]
      refine wpAnyG_take (i := 6) (v := ?_) rfl (by decide +kernel) (by kernel_rfl) (by decide) (by kernel_rfl) (by kernel_rfl) (fun _ _ _ h => h) (Or.inl ⟨by kernel_rfl, ?_⟩) hHeld ?_
      rotate_left 1
      · (intro w' hSw; (try dsimp only at hSw); go_simp) <;> with_reducible rfl
      simp only [Act.put]
      refine wpAnyG_take (i := 7) (v := ?_) rfl (by decide +kernel) (by kernel_rfl) (by decide) (by kernel_rfl) (by kernel_rfl) (fun _ _ _ h => h) (Or.inl ⟨by kernel_rfl, ?_⟩) hHeld ?_
      rotate_left 1
      · (intro w' hSw; (try dsimp only at hSw); go_simp) <;> with_reducible rfl
      simp only [Act.put]
      refine wpAnyG_take (i := 8) (v := ?_) rfl (by decide +kernel) (by kernel_rfl) (by decide) (by kernel_rfl) (by kernel_rfl) (fun _ _ _ h => h) (Or.inl ⟨by kernel_rfl, ?_⟩) hHeld ?_
      rotate_left 1
      · (intro w' hSw; (try dsimp only at hSw); go_simp) <;> with_reducible rfl
      simp only [Act.put]
      refine wpAnyG_take (i := 9) (v := ?_) rfl (by decide +kernel) (by kernel_rfl) (by decide) (by kernel_rfl) (by kernel_rfl) (fun _ _ _ h => h) (Or.inl ⟨by kernel_rfl, ?_⟩) hHeld ?_
      rotate_left 1
      · (intro w' hSw; (try dsimp only at hSw); go_simp) <;> with_reducible rfl
      simp only [Act.put]
      refine wpAnyG_take (i := 10) (v := ?_) rfl (by decide +kernel) (by kernel_rfl) (by decide) (by kernel_rfl) (by kernel_rfl) (fun _ _ _ h => h) (Or.inl ⟨by kernel_rfl, ?_⟩) hHeld ?_
      rotate_left 1
      · (intro w' hSw; (try dsimp only at hSw); go_simp) <;> with_reducible rfl
      simp only [Act.put]
      refine wpAnyG_take (i := 11) (v := ?_) rfl (by decide +kernel) (by kernel_rfl) (by decide) (by kernel_rfl) (by kernel_rfl) (fun _ _ _ h => h) (Or.inl ⟨by kernel_rfl, ?_⟩) hHeld ?_
      rotate_left 1
      · (intro w' hSw; (try dsimp only at hSw); go_simp) <;> with_reducible rfl
      simp only [Act.put]
      refine wpAnyG_take (i := 12) (v := ?_) rfl (by decide +kernel) (by kernel_rfl) (by decide) (by kernel_rfl) (by kernel_rfl) (fun _ _ _ h => h) (Or.inl ⟨by kernel_rfl, ?_⟩) hHeld ?_
      rotate_left 1
      · (intro w' hSw; (try dsimp only at hSw); go_simp) <;> with_reducible rfl
      simp only [Act.put]
      refine wpAnyG_take (i := 13) (v := ?_) rfl (by decide +kernel) (by kernel_rfl) (by decide) (by kernel_rfl) (by kernel_rfl) (fun _ _ _ h => h) (Or.inl ⟨by kernel_rfl, ?_⟩) hHeld ?_
      rotate_left 1
      · (intro w' hSw; (try dsimp only at hSw); go_simp) <;> with_reducible rfl
      simp only [Act.put]
      refine wpAnyG_one (i := 14) rfl (by kernel_rfl) rfl (fun K hK => ?_)
      go_simp
      clear hHeld
      refine hK.out _ _ (fun _ => mkS _ (by first | exact (Ext.rfl' wr).drew'.alloc' _ | exact ((Ext.rfl' wr).alloc' _).drew')) (fun hHeld' => ?_)
      have hHeld := hHeld' (by decide)
      clear hK K hHeld'
      refine wpAnyG_one (i := 15) rfl (by kernel_rfl) rfl (fun K hK => ?_)
      refine wp_app2 (.tmp 16) (.tmp 30) 24 rfl W1.heap.size 3 i0 (.int .i64 0) 1 8 Try.underlying24 I0.out.1 I0.out.2.1 I0.out.2.2.1 I0.out.2.2.2 rfl (by decide) (.slice ga k gq) k (intCells ((List.range k).map (startAt M N))) (by first | rfl | (simp; done)) (HGK.out _ (by first | exact (Ext.rfl' wr).drew'.alloc' _ | exact ((Ext.rfl' wr).alloc' _).drew')) (some ⟨wr.heap.size, 0, none⟩) 1 1 [.int .i64 y] rfl (by first | exact src_one wr.drew _ 3 rfl | exact src_drewM (src_one wr _ 3 rfl)) (by unfold maxLen; omega) (by omega) (Nat.le_trans Hr.out.1.size (by simp)) ?_
      intro v' w2 hg
      have X2 := Lib.hid (GN.since (HGK.out _ (by first | exact (Ext.rfl' wr).drew'.alloc' _ | exact ((Ext.rfl' wr).alloc' _).drew')) (Hr.out.1.trans' (by first | exact (Ext.rfl' wr).drew'.alloc' _ | exact ((Ext.rfl' wr).alloc' _).drew')) hg)
      have G2 := Lib.hid (GN.app HGL.out hg)
      clear hg hHeld
      obtain ⟨ha2, hq2, rfl⟩ := G2.out.slice
      refine hK.out _ _ (fun _ => ⟨X2.out.cell' p3, ZZ0.out _ X2.out, X2.out.cell' q2, ZZ2.out _ X2.out, ZZ1.out _ X2.out⟩) (fun _ => ?_)
      clear hK K
      refine wpAnyG_one (i := 16) rfl (by kernel_rfl) rfl (fun K hK => ?_)
      go_simp
      refine hK.out _ _ (fun h => absurd rfl h) (fun _ => ?_)
      clear hK K
      refine wpAnyG_done (by kernel_rfl) ?_ _
      clear mkS hxx
      go_wp2
      go_roundg (N.ends.length - (k + 1))
      case measure => omega
      case rel => exact ⟨k + 1, by omega, rfl, by go_num, X2.out, by rw [← tab_succ, HY.out]; have := G2.out; rw [List.length_append, HGL.out] at this; exact this⟩
    · obtain rfl : k = N.ends.length := by omega
      obtain ⟨bs, ho, hnd, hge⟩ := own_of_cells (l := startL M N) Hr.out.2 (startL_r HA.out)
      have HO := Lib.hid ho
      have HF := Lib.hid (show Fresh w bs from ⟨hnd, fun b hb => by have := hge b hb; have := HSZ.out; omega⟩)
      clear ho hnd hge
      go_wp2
      go_ret
      exact ⟨_, bs, rfl, EW.out.trans' Hr.out.1, HO.out, HF.out⟩

set_option maxHeartbeats 6400000 in
set_option maxRecDepth 100000 in
theorem startStates_any {w : World} {vm vn : Value} {M : Mach} {N : Net} (h : MachAt w vm M) (k : NetAt w vn N) (ha : Asked M N) : Calls Try.prog 149 #[vm, vn] w fun e w' => ∃ v' bs, e = .returned v' ∧ Ext w w' ∧ OwnI w' v' (startL M N) bs ∧ Fresh w bs := by
  have HM := Lib.hid h
  have HN := Lib.hid k
  obtain ⟨a3, c3, a4, c4, a5, c5, a6, c6, rfl, h3, h4, -⟩ := h
  obtain ⟨v0, v1, v2, rfl, hE, -, hP⟩ := k
  obtain ⟨W1, hW1⟩ : ∃ W1, W1 = twoBox w (.int .i64 M.deg) (.int .i64 M.sts) (.int .i64 M.msgs) (.slice a3 M.start.length c3) (.slice a4 M.send.length c4) (.slice a5 M.cls.length c5) (.slice a6 M.out.length c6) v0 v1 v2 := ⟨_, rfl⟩
  have EW := Lib.hid (show Ext w W1 by rw [hW1]; exact twoBox_ext _ _ _ _ _ _ _ _ _ _ _)
  have RA := Lib.hid (show W1.rowIs w.heap.size 31 7 (sept (.int .i64 M.deg) (.int .i64 M.sts) (.int .i64 M.msgs) (.slice a3 M.start.length c3) (.slice a4 M.send.length c4) (.slice a5 M.cls.length c5) (.slice a6 M.out.length c6)) by rw [hW1]; exact twoBox_m _ _ _ _ _ _ _ _ _ _ _)
  have RB := Lib.hid (show W1.rowIs (w.heap.size + 1) 43 3 (tri v0 v1 v2) by rw [hW1]; exact twoBox_n _ _ _ _ _ _ _ _ _ _ _)
  have hsz : W1.heap.size = w.heap.size + 2 := by rw [hW1]; simp [twoBox]
  have HSZ := Lib.hid hsz
  have HE3 := Lib.hid (h3.ext EW.out)
  have HE4 := Lib.hid (h4.ext EW.out)
  have HNE := Lib.hid (hE.ext EW.out)
  have HNP := Lib.hid (hP.ext EW.out)
  obtain ⟨-, ms3, ns3⟩ := ssLen h3
  obtain ⟨-, ms4, ns4⟩ := ssLen h4
  unfold maxLen at ms3 ms4
  clear h3 h4 hE hP hsz
  obtain ⟨p0, p1, p2, p3, p4, p5, p6⟩ := row7_facts RA.out
  obtain ⟨q0, q1, q2, -, -, -⟩ := row3_facts RB.out
  unfold twoBox at hW1
  have HA := Lib.hid ha
  obtain ⟨ea, eb, eo, ec, rfl, hea, el, em, hec⟩ := HNE.out
  unfold maxLen at em
  have HEA := Lib.hid hea
  have HEC := Lib.hid hec
  obtain ⟨p8, p9, rfl⟩ := HNP.out.isSlice
  have hn40 : N.ends.length ≤ 40 := ha.2.1.1.2
  clear hea hec ha
  have hmk := run_make_row' (P := Try.prog) 24 3 (.int .i64 0) 8 Try.underlying24 Try.info3 rfl .i64 .i64 N.ends.length (by omega) (by omega)
  have qa := ((Ext.rfl' W1).alloc' (.cells (madeCells #[.int .i64 0] N.ends.length) 3)).cell' q0
  go_enter Try.func149, Try.ntmps149
  go_upto_region 1 with fail
  rw [← hW1]
  clear hW1
  go_wp2
  clear hmk qa
  go_loopg [15] N.ends.length (fun g i wr => ∃ k : Nat, k ≤ N.ends.length ∧ g = N.ends.length - k ∧ i = .int .i64 k ∧ Hid (Ext W1 wr ∧ W1.heap.size < wr.heap.size ∧ wr.rowIs W1.heap.size 3 N.ends.length (copied (startL M N) k)))
  case atStart => exact ⟨0, Nat.zero_le _, rfl, rfl, (Ext.rfl' W1).alloc' _, by simp, (World.rowIs_made W1 _ _ _).congr fun i _ => by simp [copied]⟩
  case round =>
    obtain ⟨k, hk, rfl, rfl, Hr⟩ := hrel
    by_cases hlt : k < N.ends.length
    · skip
      obtain ⟨hd, hi0, hi1, -, hki, hr0, hr1⟩ := start_in HA.out hlt
      obtain ⟨x, hx, hrow⟩ := HEC.out k hlt
      obtain ⟨xa, xb, xo, xc, rfl, -, xl, xm, -⟩ := hrow
      unfold maxLen at xm
      obtain rfl := HEA.out (by omega)
      obtain ⟨sb, so, ra, rc, rfl, z0, hsr⟩ := ssRow HE3.out hd
      obtain ⟨ra', rb, ro, rd, e, hra, rl, rm, hrc⟩ := hsr
      simp only [Value.slice.injEq] at e
      obtain ⟨rfl, -, rfl⟩ := e
      unfold maxLen at rm
      obtain ⟨m, hm⟩ := Int.eq_ofNat_of_zero_le hi0
      rw [hm, Int.toNat_natCast] at hi1
      obtain rfl := hra (by omega)
      obtain ⟨_, z1, rfl, -⟩ := hrc m hi1
      obtain ⟨pa', pb, po, pd, e, hpa, pl, pm, hpc⟩ := HNP.out
      simp only [Value.slice.injEq] at e
      obtain ⟨rfl, -, rfl⟩ := e
      unfold maxLen at pm
      obtain rfl := hpa (by omega)
      obtain ⟨_, z2, rfl, -⟩ := hpc k hki
      rw [hm] at z2
      obtain ⟨d, hdd⟩ : ∃ d, d = (gr N.ends k).length := ⟨_, rfl⟩
      obtain ⟨y, hy⟩ : ∃ y, y = gi (gr M.start d) m := ⟨_, rfl⟩
      have HY := Lib.hid (show startAt M N k = y by rw [hy, hdd]; unfold startAt; rw [hm, Int.toNat_natCast])
      rw [← hdd] at hx xl hd z0 z1 hi1 rl
      rw [← hy] at z1
      obtain ⟨nr, hnr⟩ : ∃ n, n = (gr M.start d).length := ⟨_, rfl⟩
      rw [← hnr] at z0 hi1 rl
      clear hy hdd hm hnr hi0 hra hrc hpa hpc
      have hxx := Hr.out.1.cell' hx
      have y0 := Hr.out.1.cell' p3
      have y1 := Hr.out.1.cell' z0
      have y2 := Hr.out.1.cell' q2
      have y3 := Hr.out.1.cell' z2
      have y4 := Hr.out.1.cell' z1
      have y5 := Hr.out.2.2.cell hlt
      have y6 := Hr.out.2.2.frozen k
      clear hx z0 z1 z2 p0 p1 p2 p3 p4 p5 p6 q0 q1 q2
      go_wp2_with fail
      go_region
      clear hxx y0 y1 y2 y3 y4 y5 y6
      go_wp2
      go_roundg (N.ends.length - (k + 1))
      case measure => omega
      case rel =>
        refine ⟨k + 1, by omega, rfl, by go_num, (Hr.out.1.store (Nat.le_refl _) _).drew', by simpa using Hr.out.2.1, ?_⟩
        have := copied_step (l := startL M N) (k := k) Hr.out.2.2
        rw [gi_startL _ _ _ hlt, HY.out] at this
        exact row_ext this ((Ext.rfl' _).drew')
    · obtain rfl : k = N.ends.length := by omega
      have HO := Lib.hid (show OwnI wr (.slice (some ⟨W1.heap.size, 0, none⟩) N.ends.length N.ends.length) (startL M N) [W1.heap.size] from own_rowM (length_startL M N) (fun i hi => startL_r HA.out i (by rw [length_startL]; exact hi)) (by omega) Hr.out.2.2)
      go_wp2
      go_ret
      exact ⟨_, _, rfl, EW.out.trans' Hr.out.1, HO.out, by simp, fun b hb => by obtain rfl := List.mem_singleton.1 hb; have := HSZ.out; omega⟩

end Go.Proofs.Ytdcgpodjoalokaa
