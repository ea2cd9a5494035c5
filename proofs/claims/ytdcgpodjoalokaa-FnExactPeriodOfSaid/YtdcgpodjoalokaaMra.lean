/- RunMachine, the model. -/
import Derived.Test.YtdcgpodjoalokaaMz
namespace Go.Proofs.Ytdcgpodjoalokaa
open Go.RowKit

def runsL (M : Mach) (N : Net) (m : Nat) : List (List Int) := (List.range m).map (runL M N)
theorem length_runsL (M : Mach) (N : Net) (m : Nat) : (runsL M N m).length = m := by simp [runsL]
theorem gr_runsL (M : Mach) (N : Net) {m i : Nat} (h : i < m) : gr (runsL M N m) i = runL M N i := by simp [gr, runsL, List.getD, h]
def RunB (M : Mach) (N : Net) (r : Int) : Prop := Asked M N ∧ InB r 0 40
noncomputable def rmAns (M : Mach) (N : Net) (r : Int) : List (List Int) := if dec (RunB M N r) = true then runsL M N (r.toNat + 1) else []
theorem rmAns_t {M : Mach} {N : Net} {r : Int} (h : RunB M N r) : rmAns M N r = runsL M N (r.toNat + 1) := by unfold rmAns; rw [if_pos (dec_true h)]
theorem rmAns_f {M : Mach} {N : Net} {r : Int} (h : ¬ RunB M N r) : rmAns M N r = [] := by unfold rmAns; rw [dec_false h]; rfl
theorem rmAns_small (M : Mach) (N : Net) (r : Int) : IISmall (rmAns M N r) := by
  by_cases h : RunB M N r
  · rw [rmAns_t h]
    have hr := h.2
    unfold InB at hr
    refine ⟨by rw [length_runsL]; omega, fun i => ?_⟩
    by_cases hi : i < r.toNat + 1
    · rw [gr_runsL _ _ hi, length_runL]; have := h.1.2.1.1.2; omega
    · simp [gr, List.getD, List.getElem?_eq_none (show (runsL M N (r.toNat + 1)).length ≤ i by rw [length_runsL]; omega)]
  · rw [rmAns_f h]; exact ⟨by simp, fun i => by rw [gr_nilM]; simp⟩
/-- A list with one row. -/
theorem GrowI.one {w : World} {x : Value} {l : List (List Int)} {bs : List Nat} {B : Nat} (ho : OwnI w x (gr l 0) bs) (hf : ∀ b ∈ bs, B ≤ b) (hB : B ≤ w.heap.size) :
    GrowI B (w.alloc (.cells #[x] 24)) (.slice (some ⟨w.heap.size, 0, none⟩) 1 1) l 1 := by
  refine ⟨fun _ => x, fun _ => bs, by simpa using World.ownsRow_lit (e := 24) (size := 1) w #[x] 1 hB (by decide) rfl, fun i hi => ?_, ?_, ?_⟩
  · obtain rfl : i = 0 := by omega
    exact ho.ext ((Ext.rfl' _).alloc' _)
  · simpa using ho.1.nodup
  · simpa using hf
theorem GrowI.stepF {B : Nat} {w w1 w2 : World} {v x : Value} {l : List (List Int)} {k : Nat} {bs : List Nat} (h : GrowI B w v l k) (hx : Ext w w1) (ho : OwnI w1 x (gr l k) bs) (hf : ∀ b ∈ bs, w.heap.size ≤ b) (hB : B ≤ w.heap.size) (hx2 : Ext w1 w2) :
    ∃ R, (∀ W, Ext w W → W.ownsRow B 24 1 v k ((List.range k).map R)) ∧ (∀ v' w', Grew w2 w' B 24 1 v v' (k + 1) ((List.range k).map R ++ [x]) → GrowI B w' v' l (k + 1)) := by
  obtain ⟨R, T, h1, h2, h3, h4⟩ := h
  refine ⟨R, fun W hW => owns_ext h1 hW, fun _ _ hg => GrowI.step (owns_ext h1 (hx.trans' hx2)) (fun i hi => ((h2 i hi).ext hx).ext hx2) h3 h4 (bs := bs) (ho.ext hx2) (fun b hb => ⟨Nat.le_trans hB (hf b hb), fun hm => ?_⟩) hg⟩
  obtain ⟨i, hi, hbi⟩ := List.mem_flatMap.1 hm
  have := (h2 i (List.mem_range.1 hi)).1.lt b hbi
  have := hf b hb
  omega
theorem GrowI.mono {B B' : Nat} {w : World} {v : Value} {l : List (List Int)} {k : Nat} (h : GrowI B w v l k) (hB : B' ≤ B) : GrowI B' w v l k := by
  obtain ⟨R, T, ⟨h0, h1⟩, h2, h3, h4⟩ := h
  refine ⟨R, T, ⟨h0, ?_⟩, h2, h3, fun b hb => Nat.le_trans hB (h4 b hb)⟩
  rcases h1 with h1 | ⟨g, cap, cur, e, hb, h⟩
  · exact .inl h1
  · exact .inr ⟨g, cap, cur, e, Nat.le_trans hB hb, h⟩
/-- The rows of a list as it grows. -/
theorem GrowI.parts {B : Nat} {w : World} {v : Value} {l : List (List Int)} {k : Nat} (h : GrowI B w v l k) (hk : 0 < k) :
    ∃ g c, v = .slice (some ⟨g, 0, none⟩) k c ∧ B ≤ g ∧ k ≤ c ∧ c ≤ maxLen ∧ ∀ i, i < k → ∃ x bs, w.cell? ⟨g, i, none⟩ = some x ∧ OwnI w x (gr l i) bs := by
  obtain ⟨R, T, h1, h2, h3, h4⟩ := h
  obtain ⟨h0, h1'⟩ := id h1
  rcases h1' with ⟨rfl, hn⟩ | ⟨g, cap, cur, rfl, hb, hh, hc1, hc2, -⟩
  · omega
  · refine ⟨g, cap, rfl, hb, hc1, hc2, fun i hi => ⟨R i, T i, ?_, h2 i hi⟩⟩
    rw [World.ownsRow.cellAt h1 i (by omega)]
    simp [hi]

set_option maxHeartbeats 6400000 in
set_option maxRecDepth 100000 in
theorem maRun_any {w : World} {vm vn : Value} {M : Mach} {N : Net} (m : Nat) (hm : m ≤ 40) (h : MachAt w vm M) (k : NetAt w vn N) (ha : Asked M N) : Calls Try.prog 99 #[vm, vn, .int .i64 (m : Int)] w fun e w' => ∃ v' bs, e = .returned v' ∧ Ext w w' ∧ OwnII w' v' (runsL M N (m + 1)) bs ∧ Fresh w bs := by
  have HA := Lib.hid ha
  clear ha
  have HM := Lib.hid h
  have HN := Lib.hid k
  obtain ⟨a3, c3, a4, c4, a5, c5, a6, c6, rfl, h3, h4, -⟩ := h
  obtain ⟨v0, v1, v2, rfl, hE, -, hP⟩ := k
  obtain ⟨W1, hW1⟩ : ∃ W1, W1 = twoBox w (.int .i64 M.deg) (.int .i64 M.sts) (.int .i64 M.msgs) (.slice a3 M.start.length c3) (.slice a4 M.send.length c4) (.slice a5 M.cls.length c5) (.slice a6 M.out.length c6) v0 v1 v2 := ⟨_, rfl⟩
  have EW := Lib.hid (show Ext w W1 by rw [hW1]; exact twoBox_ext _ _ _ _ _ _ _ _ _ _ _)
  have RA := Lib.hid (show W1.rowIs w.heap.size 31 7 (sept (.int .i64 M.deg) (.int .i64 M.sts) (.int .i64 M.msgs) (.slice a3 M.start.length c3) (.slice a4 M.send.length c4) (.slice a5 M.cls.length c5) (.slice a6 M.out.length c6)) by rw [hW1]; exact twoBox_m _ _ _ _ _ _ _ _ _ _ _)
  have RB := Lib.hid (show W1.rowIs (w.heap.size + 1) 43 3 (tri v0 v1 v2) by rw [hW1]; exact twoBox_n _ _ _ _ _ _ _ _ _ _ _)
  have hsz : W1.heap.size = w.heap.size + 2 := by rw [hW1]; simp [twoBox]
  have HSZ := Lib.hid hsz
  have HE3 := Lib.hid (h3.ext EW.out)
  have HE4 := Lib.hid (h4.ext EW.out)
  have HNE := Lib.hid (hE.ext EW.out)
  have HNP := Lib.hid (hP.ext EW.out)
  obtain ⟨-, ms3, ns3⟩ := ssLen h3
  obtain ⟨-, ms4, ns4⟩ := ssLen h4
  unfold maxLen at ms3 ms4
  clear h3 h4 hE hP hsz
  obtain ⟨p0, p1, p2, p3, p4, p5, p6⟩ := row7_facts RA.out
  obtain ⟨q0, q1, q2, -, -, -⟩ := row3_facts RB.out
  unfold twoBox at hW1
  go_enter Try.func99, Try.ntmps99
  go_upto_region 1 with fail
  rw [← hW1]
  clear hW1
  obtain ⟨i0, hi, hz0, hz1, hz2⟩ := info_parts Try.infoTSIm
  have I0 := Lib.hid (And.intro hi (And.intro hz0 (And.intro hz1 hz2)))
  clear hi hz0 hz1 hz2
  go_wp2_with fail
  (with_reducible refine (maStart_any (HM.out.ext EW.out) (HN.out.ext EW.out) HA.out).mono ?_)
  rintro e w2 ⟨sv, bs0, rfl, hx, ho, hf⟩
  obtain ⟨sa, sq, rfl⟩ := ho.read.isSlice
  rw [length_startL] at ho ⊢
  have X2 := Lib.hid hx
  have G2 := Lib.hid (GrowI.one (l := runsL M N (m + 1)) (B := W1.heap.size) (by rw [gr_runsL _ _ (by omega)]; exact ho) hf.2 hx.size)
  have E2 := Lib.hid (hx.alloc' (.cells #[.slice sa N.ends.length sq] 24))
  clear hx ho hf p0 p1 p2 p3 p4 p5 p6 q0 q1 q2
  go_wp2
  go_loopg [7, 8] (m + 1) (fun g0 t i wr => ∃ k : Nat, k ≤ m ∧ g0 = m + 1 - k ∧ i = .int .i64 k ∧ Hid (Ext W1 wr ∧ GrowI W1.heap.size wr t (runsL M N (m + 1)) (k + 1)))
  case atStart => exact ⟨0, Nat.zero_le _, rfl, rfl, E2.out, G2.out⟩
  case round =>
    obtain ⟨k, hk, rfl, rfl, Hr⟩ := hrel
    obtain ⟨g, gc, rfl, hgB, hg1, hg2, hgr⟩ := Hr.out.2.parts (by omega)
    unfold maxLen at hg2
    by_cases hlt : k < m
    · obtain ⟨x, xb, hxc, hxo⟩ := hgr k (by omega)
      rw [gr_runsL _ _ (by omega)] at hxo
      obtain ⟨xa, xc, rfl⟩ := hxo.read.isSlice
      rw [length_runL] at hxc hxo
      have HXO := Lib.hid hxo
      have KR := Lib.hid (EW.out.trans' Hr.out.1)
      have RA2 := Lib.hid (row_ext RA.out Hr.out.1)
      have RB2 := Lib.hid (row_ext RB.out Hr.out.1)
      have mkS : ∀ w' : World, Ext wr w' → (w'.cell? ⟨w.heap.size, 0, none⟩ = some (.int .i64 M.deg) ∧ w'.cell? ⟨w.heap.size, 1, none⟩ = some (.int .i64 M.sts) ∧ w'.cell? ⟨w.heap.size, 2, none⟩ = some (.int .i64 M.msgs) ∧ w'.cell? ⟨w.heap.size, 3, none⟩ = some (.slice a3 M.start.length c3) ∧ w'.cell? ⟨w.heap.size, 4, none⟩ = some (.slice a4 M.send.length c4) ∧ w'.cell? ⟨w.heap.size, 5, none⟩ = some (.slice a5 M.cls.length c5) ∧ w'.cell? ⟨w.heap.size, 6, none⟩ = some (.slice a6 M.out.length c6)) ∧ (w'.cell? ⟨w.heap.size + 1, 0, none⟩ = some v0 ∧ w'.cell? ⟨w.heap.size + 1, 1, none⟩ = some v1 ∧ w'.cell? ⟨w.heap.size + 1, 2, none⟩ = some v2) := fun w' h => ⟨row7_facts (row_ext RA2.out h), ⟨(row_ext RB2.out h).cell (i := 0) (by omega), (row_ext RB2.out h).cell (i := 1) (by omega), (row_ext RB2.out h).cell (i := 2) (by omega)⟩⟩
      have hkk : (k : Int) < (k : Int) + 1 := by omega
      clear hgr hxo
      go_upto_region 5 with fail
      refine wp_region_gate (n := 10) (S := fun w' => (w'.cell? ⟨w.heap.size, 0, none⟩ = some (.int .i64 M.deg) ∧ w'.cell? ⟨w.heap.size, 1, none⟩ = some (.int .i64 M.sts) ∧ w'.cell? ⟨w.heap.size, 2, none⟩ = some (.int .i64 M.msgs) ∧ w'.cell? ⟨w.heap.size, 3, none⟩ = some (.slice a3 M.start.length c3) ∧ w'.cell? ⟨w.heap.size, 4, none⟩ = some (.slice a4 M.send.length c4) ∧ w'.cell? ⟨w.heap.size, 5, none⟩ = some (.slice a5 M.cls.length c5) ∧ w'.cell? ⟨w.heap.size, 6, none⟩ = some (.slice a6 M.out.length c6)) ∧ (w'.cell? ⟨w.heap.size + 1, 0, none⟩ = some v0 ∧ w'.cell? ⟨w.heap.size + 1, 1, none⟩ = some v1 ∧ w'.cell? ⟨w.heap.size + 1, 2, none⟩ = some v2)) (by kernel_rfl) (mkS _ (Ext.rfl' wr).drew') (fun hHeld => ?_)
      refine wpAnyG_take (i := 0) (v := ?_) rfl (by decide +kernel) (by kernel_rfl) (by decide) (by kernel_rfl) (by kernel_rfl) (fun _ _ _ h => h) (Or.inl ⟨by kernel_rfl, ?_⟩) hHeld ?_
      rotate_left 1
      · (intro w' hSw; (try dsimp only at hSw); go_simp) <;> with_reducible rfl
      simp only [Act.put]
      refine wpAnyG_take (i := 1) (v := ?_) rfl (by decide +kernel) (by kernel_rfl) (by decide) (by kernel_rfl) (by kernel_rfl) (fun _ _ _ h => h) (Or.inl ⟨by kernel_rfl, ?_⟩) hHeld ?_
      rotate_left 1
      · (intro w' hSw; (try dsimp only at hSw); go_simp) <;> with_reducible rfl
      simp only [Act.put]
      refine wpAnyG_take (i := 2) (v := ?_) rfl (by decide +kernel) (by kernel_rfl) (by decide) (by kernel_rfl) (by kernel_rfl) (fun _ _ _ h => h) (Or.inl ⟨by kernel_rfl, ?_⟩) hHeld ?_
      rotate_left 1
      · (intro w' hSw; (try dsimp only at hSw); go_simp) <;> with_reducible rfl
      simp only [Act.put]
      refine wpAnyG_take (i := 3) (v := ?_) rfl (by decide +kernel) (by kernel_rfl) (by decide) (by kernel_rfl) (by kernel_rfl) (fun _ _ _ h => h) (Or.inl ⟨by kernel_rfl, ?_⟩) hHeld ?_
      rotate_left 1
      · (intro w' hSw; (try dsimp only at hSw); go_simp) <;> with_reducible rfl
      simp only [Act.put]
      refine wpAnyG_take (i := 4) (v := ?_) rfl (by decide +kernel) (by kernel_rfl) (by decide) (by kernel_rfl) (by kernel_rfl) (fun _ _ _ h => h) (Or.inl ⟨by kernel_rfl, ?_⟩) hHeld ?_
      rotate_left 1
      · (intro w' hSw; (try dsimp only at hSw); go_simp) <;> with_reducible rfl
      simp only [Act.put]
      refine wpAnyG_take (i := 5) (v := ?_) rfl (by decide +kernel) (by kernel_rfl) (by decide) (by kernel_rfl) (by kernel_rfl) (fun _ _ _ h => h) (Or.inl ⟨by kernel_rfl, ?_⟩) hHeld ?_
      rotate_left 1
      · (intro w' hSw; (try dsimp only at hSw); go_simp) <;> with_reducible rfl
      simp only [Act.put]
      have hxd := (Ext.rfl' wr).drew'.cell' hxc
      refine wpAnyG_one (i := 6) rfl (by kernel_rfl) rfl (fun K hK => ?_)
      go_simp
      clear hHeld
      refine hK.out _ _ (fun _ => mkS _ (Ext.rfl' wr).drew') (fun hHeld' => ?_)
      have hHeld := hHeld' (by decide)
      clear hK K hHeld'
      refine wpAnyG_one (i := 7) rfl (by kernel_rfl) rfl (fun K hK => ?_)
      go_simp
      (with_reducible refine (maStep_any (HM.out.ext (KR.out.trans' (Ext.rfl' wr).drew')) (HN.out.ext (KR.out.trans' (Ext.rfl' wr).drew')) (HXO.out.ext (Ext.rfl' wr).drew').read (run_sts HA.out k)).mono ?_)
      rintro e w4 ⟨v4, bs4, rfl, hx, ho, hf⟩
      obtain ⟨sa4, sq4, rfl⟩ := ho.read.isSlice
      rw [length_stepL] at ho ⊢
      have X4 := Lib.hid ((Ext.rfl' wr).drew'.trans' hx)
      have O4 := Lib.hid (show OwnI w4 (.slice sa4 N.ends.length sq4) (gr (runsL M N (m + 1)) (k + 1)) bs4 by rw [gr_runsL _ _ (by omega)]; exact ho)
      have F4 := Lib.hid (fun b hb => Nat.le_trans (Ext.rfl' wr).drew'.size (hf.2 b hb))
      clear hx ho hf
      clear hHeld
      refine hK.out _ _ (fun _ => mkS _ X4.out) (fun hHeld' => ?_)
      have hHeld := hHeld' (by decide)
      clear hK K hHeld'
      refine wpAnyG_one (i := 8) rfl (by kernel_rfl) rfl (fun K hK => ?_)
      go_simp
      clear hHeld
      refine hK.out _ _ (fun _ => mkS _ (X4.out.alloc' _)) (fun hHeld' => ?_)
      have hHeld := hHeld' (by decide)
      clear hK K hHeld'
      obtain ⟨R, hR1, hR2⟩ := GrowI.stepF Hr.out.2 X4.out O4.out F4.out Hr.out.1.size ((Ext.rfl' w4).alloc' (.cells #[.slice sa4 N.ends.length sq4] 24))
      have HR1 := Lib.hid hR1
      have HR2 := Lib.hid hR2
      clear hR1 hR2
      refine wpAnyG_one (i := 9) rfl (by kernel_rfl) rfl (fun K hK => ?_)
      refine wp_app2 (.tmp 18) (.tmp 26) 22 rfl W1.heap.size 24 i0 (.slice none 0 0) 1 24 Try.underlying22 I0.out.1 I0.out.2.1 I0.out.2.2.1 I0.out.2.2.2 rfl (by decide) (.slice (some ⟨g, 0, none⟩) (k + 1) gc) (k + 1) ((List.range (k + 1)).map R) (by first | rfl | (simp; done)) (HR1.out _ (X4.out.alloc' _)) (some ⟨w4.heap.size, 0, none⟩) 1 1 [.slice sa4 N.ends.length sq4] rfl (src_one w4 _ 24 rfl) (by unfold maxLen; omega) (by omega) (Nat.le_trans Hr.out.1.size (X4.out.alloc' _).size) ?_
      intro v' w5 hg
      have G5 := Lib.hid (HR2.out _ _ hg.1)
      have X5 := Lib.hid (show Ext W1 w5 from hg.1.ext (Hr.out.1.trans' (X4.out.alloc' _)) fun b hb => (World.ownsRow.lt (HR1.out _ X4.out) b hb).1)
      have S5 := Lib.hid (show (w5.cell? ⟨w.heap.size, 0, none⟩ = some (.int .i64 M.deg) ∧ w5.cell? ⟨w.heap.size, 1, none⟩ = some (.int .i64 M.sts) ∧ w5.cell? ⟨w.heap.size, 2, none⟩ = some (.int .i64 M.msgs) ∧ w5.cell? ⟨w.heap.size, 3, none⟩ = some (.slice a3 M.start.length c3) ∧ w5.cell? ⟨w.heap.size, 4, none⟩ = some (.slice a4 M.send.length c4) ∧ w5.cell? ⟨w.heap.size, 5, none⟩ = some (.slice a5 M.cls.length c5) ∧ w5.cell? ⟨w.heap.size, 6, none⟩ = some (.slice a6 M.out.length c6)) ∧ (w5.cell? ⟨w.heap.size + 1, 0, none⟩ = some v0 ∧ w5.cell? ⟨w.heap.size + 1, 1, none⟩ = some v1 ∧ w5.cell? ⟨w.heap.size + 1, 2, none⟩ = some v2) from ⟨row7_facts (row_ext RA.out X5.out), ⟨(row_ext RB.out X5.out).cell (i := 0) (by omega), (row_ext RB.out X5.out).cell (i := 1) (by omega), (row_ext RB.out X5.out).cell (i := 2) (by omega)⟩⟩)
      clear hg hHeld
      refine hK.out _ _ (fun h => S5.out) (fun _ => ?_)
      clear hK K
      refine wpAnyG_one (i := 10) rfl (by kernel_rfl) rfl (fun K hK => ?_)
      go_simp
      refine hK.out _ _ (fun h => absurd rfl h) (fun _ => ?_)
      clear hK K
      refine wpAnyG_done (by kernel_rfl) ?_ _
      clear mkS hxc
      go_wp2
      go_roundg (m + 1 - (k + 1))
      case measure => omega
      case rel => exact ⟨k + 1, by omega, rfl, by go_num, X5.out, G5.out⟩
    · obtain rfl : k = m := by omega
      obtain ⟨bs, ho, hnd, hge⟩ := GrowI.done (l := runsL M N (k + 1)) (by rw [length_runsL]; exact Hr.out.2)
      have HO := Lib.hid ho
      have HF := Lib.hid (show Fresh w bs from ⟨hnd, fun b hb => Nat.le_trans EW.out.size (hge b hb)⟩)
      clear ho hnd hge hgr
      go_wp2
      go_ret
      exact ⟨_, bs, rfl, EW.out.trans' Hr.out.1, HO.out, HF.out⟩

set_option maxHeartbeats 6400000 in
set_option maxRecDepth 100000 in
theorem specRunMachine_any {w : World} {vm vn : Value} {M : Mach} {N : Net} (r : Int) (h : MachAt w vm M) (k : NetAt w vn N) : Calls Try.prog 46 #[vm, vn, .int .i64 r] w fun e w' => ∃ v' bs, e = .returned (.tuple #[v', .bool (dec (RunB M N r))]) ∧ Ext w w' ∧ OwnII w' v' (rmAns M N r) bs ∧ Fresh w bs := by
  have HM := Lib.hid h
  have HN := Lib.hid k
  obtain ⟨a3, c3, a4, c4, a5, c5, a6, c6, rfl, h3, h4, -⟩ := h
  obtain ⟨v0, v1, v2, rfl, hE, -, hP⟩ := k
  obtain ⟨W1, hW1⟩ : ∃ W1, W1 = twoBox w (.int .i64 M.deg) (.int .i64 M.sts) (.int .i64 M.msgs) (.slice a3 M.start.length c3) (.slice a4 M.send.length c4) (.slice a5 M.cls.length c5) (.slice a6 M.out.length c6) v0 v1 v2 := ⟨_, rfl⟩
  have EW := Lib.hid (show Ext w W1 by rw [hW1]; exact twoBox_ext _ _ _ _ _ _ _ _ _ _ _)
  have RA := Lib.hid (show W1.rowIs w.heap.size 31 7 (sept (.int .i64 M.deg) (.int .i64 M.sts) (.int .i64 M.msgs) (.slice a3 M.start.length c3) (.slice a4 M.send.length c4) (.slice a5 M.cls.length c5) (.slice a6 M.out.length c6)) by rw [hW1]; exact twoBox_m _ _ _ _ _ _ _ _ _ _ _)
  have RB := Lib.hid (show W1.rowIs (w.heap.size + 1) 43 3 (tri v0 v1 v2) by rw [hW1]; exact twoBox_n _ _ _ _ _ _ _ _ _ _ _)
  have hsz : W1.heap.size = w.heap.size + 2 := by rw [hW1]; simp [twoBox]
  have HSZ := Lib.hid hsz
  have HE3 := Lib.hid (h3.ext EW.out)
  have HE4 := Lib.hid (h4.ext EW.out)
  have HNE := Lib.hid (hE.ext EW.out)
  have HNP := Lib.hid (hP.ext EW.out)
  obtain ⟨-, ms3, ns3⟩ := ssLen h3
  obtain ⟨-, ms4, ns4⟩ := ssLen h4
  unfold maxLen at ms3 ms4
  clear h3 h4 hE hP hsz
  obtain ⟨p0, p1, p2, p3, p4, p5, p6⟩ := row7_facts RA.out
  obtain ⟨q0, q1, q2, -, -, -⟩ := row3_facts RB.out
  unfold twoBox at hW1
  go_enter Try.func46, Try.ntmps46
  go_upto_region 1 with fail
  rw [← hW1]
  clear hW1
  go_wp2_with fail
  (with_reducible refine (maAsked_any (HM.out.ext EW.out) (HN.out.ext EW.out)).mono ?_)
  rintro e w2 ⟨rfl, hx⟩
  have Y1 := Lib.hid hx
  clear hx p0 p1 p2 p3 p4 p5 p6 q0 q1 q2
  obtain ⟨p0, p1, p2, p3, p4, p5, p6⟩ := row7_facts (row_ext RA.out Y1.out)
  obtain ⟨q0, q1, q2, -, -, -⟩ := row3_facts (row_ext RB.out Y1.out)
  have K1 := Lib.hid (EW.out.trans' Y1.out)
  by_cases ha : Asked M N
  case neg =>
    rw [dec_false ha]
    have DA := Lib.hid (show ¬ RunB M N r from fun h => ha h.1)
    clear ha
    go_wp2
    go_ret2
    exact ⟨_, [], ret_vb (dec_false DA.out).symm, K1.out, by rw [rmAns_f DA.out]; exact own_nilIIm _, Fresh.nil _⟩
  rw [dec_true ha]
  have HA := Lib.hid ha
  clear ha
  by_cases hr : InB r 0 40
  case neg =>
    have D := Lib.hid (dec_false hr)
    have DA := Lib.hid (show ¬ RunB M N r from fun h => hr h.2)
    clear hr
    go_wp2_with (go_at_call 93; (with_reducible refine (l1In_any _ _ _ _).mono ?_); rintro e w' ⟨rfl, rfl⟩; rw [D.out])
    go_ret2
    exact ⟨_, [], ret_vb (dec_false DA.out).symm, K1.out, by rw [rmAns_f DA.out]; exact own_nilIIm _, Fresh.nil _⟩
  have HR := Lib.hid hr
  have D := Lib.hid (dec_true hr)
  obtain ⟨m, rfl⟩ := Int.eq_ofNat_of_zero_le hr.1
  have hm : m ≤ 40 := by have := hr.2; omega
  clear hr
  have HL := Lib.hid (show RunB M N (m : Int) from ⟨HA.out, HR.out⟩)
  go_wp2_with (go_at_call 93; (with_reducible refine (l1In_any _ _ _ _).mono ?_); rintro e w' ⟨rfl, rfl⟩; rw [D.out])
  (with_reducible refine (maRun_any m hm (HM.out.ext K1.out) (HN.out.ext K1.out) HA.out).mono ?_)
  rintro e w3 ⟨v', bs, rfl, hx, ho, hf⟩
  have K3 := Lib.hid (K1.out.trans' hx)
  have HO := Lib.hid ho
  have HF := Lib.hid (hf.of K1.out.size)
  clear hx ho hf
  go_wp2
  go_ret2
  exact ⟨_, bs, ret_vb (dec_true HL.out).symm, K3.out, by rw [rmAns_t HL.out, Int.toNat_natCast]; exact HO.out, HF.out⟩
end Go.Proofs.Ytdcgpodjoalokaa
