/- PeriodOf: the plain mathematics, the model. -/
import Derived.Test.YtdcgpodjoalokaaMra
import Derived.Test.YtdcgpodjoalokaaMfa
namespace Go.Proofs.Ytdcgpodjoalokaa
open Go.RowKit

def Rep (M : Mach) (N : Net) (k : Nat) : Prop := ∃ j, j < k ∧ runL M N j = runL M N k
noncomputable def peK (M : Mach) (N : Net) (r : Int) : Int := fstP (fun k => dec (Rep M N k)) (r.toNat + 1)
noncomputable def peR (M : Mach) (N : Net) (k : Nat) : Int := fstP (fun j => decide (runL M N j = runL M N k)) k
def PerB (M : Mach) (N : Net) (r : Int) : Prop := LongOK M N r ∧ peK M N r ≠ -1
noncomputable def poR (M : Mach) (N : Net) (r : Int) : Int := if dec (PerB M N r) = true then peR M N (peK M N r).toNat else 0
noncomputable def poQ (M : Mach) (N : Net) (r : Int) : Int := if dec (PerB M N r) = true then peK M N r - peR M N (peK M N r).toNat else 0
theorem po_f {M : Mach} {N : Net} {r : Int} (h : ¬ PerB M N r) : poR M N r = 0 ∧ poQ M N r = 0 := by unfold poR poQ; rw [dec_false h]; exact ⟨rfl, rfl⟩
theorem per_hit {M : Mach} {N : Net} {r : Int} {k j : Nat} (h : LongOK M N r) (hk : k ≤ r.toNat) (hno : ∀ i, i < k → ¬ Rep M N i) (hj : j < k) (he : runL M N j = runL M N k) :
    PerB M N r ∧ poR M N r = (j : Int) ∧ poQ M N r = (k : Int) - (j : Int) := by
  have h1 : peK M N r = (k : Int) := fstP_hit (p := fun k => dec (Rep M N k)) (fun i hi => dec_false (hno i hi)) (dec_true ⟨j, hj, he⟩) _ (by omega)
  have h2 : peR M N k = (j : Int) := fstP_hit (p := fun j => decide (runL M N j = runL M N k)) (fun i hi => decide_eq_false fun hi2 => hno j hj ⟨i, hi, by rw [hi2, he]⟩) (decide_eq_true he) _ hj
  have h3 : PerB M N r := ⟨h, by rw [h1]; omega⟩
  refine ⟨h3, ?_, ?_⟩
  · unfold poR; rw [dec_true h3, if_pos rfl, h1, Int.toNat_natCast, h2]
  · unfold poQ; rw [dec_true h3, if_pos rfl, h1, Int.toNat_natCast, h2]
theorem per_none {M : Mach} {N : Net} {r : Int} (h : ∀ i, i ≤ r.toNat → ¬ Rep M N i) : ¬ PerB M N r := fun hb => hb.2 (fstP_none _ fun j hj => dec_false (h j (by omega)))

set_option maxHeartbeats 6400000 in
set_option maxRecDepth 100000 in
theorem specPeriodOf_any {w : World} {vm vn : Value} {M : Mach} {N : Net} (r : Int) (h : MachAt w vm M) (k : NetAt w vn N) : Calls Try.prog 58 #[vm, vn, .int .i64 r] w fun e w' => e = .returned (.tuple #[.int .i64 (poR M N r), .int .i64 (poQ M N r), .bool (dec (PerB M N r))]) ∧ Ext w w' := by
  have HM := Lib.hid h
  have HN := Lib.hid k
  obtain ⟨a3, c3, a4, c4, a5, c5, a6, c6, rfl, h3, h4, -⟩ := h
  obtain ⟨v0, v1, v2, rfl, hE, -, hP⟩ := k
  obtain ⟨W1, hW1⟩ : ∃ W1, W1 = twoBox w (.int .i64 M.deg) (.int .i64 M.sts) (.int .i64 M.msgs) (.slice a3 M.start.length c3) (.slice a4 M.send.length c4) (.slice a5 M.cls.length c5) (.slice a6 M.out.length c6) v0 v1 v2 := ⟨_, rfl⟩
  have EW := Lib.hid (show Ext w W1 by rw [hW1]; exact twoBox_ext _ _ _ _ _ _ _ _ _ _ _)
  have RA := Lib.hid (show W1.rowIs w.heap.size 31 7 (sept (.int .i64 M.deg) (.int .i64 M.sts) (.int .i64 M.msgs) (.slice a3 M.start.length c3) (.slice a4 M.send.length c4) (.slice a5 M.cls.length c5) (.slice a6 M.out.length c6)) by rw [hW1]; exact twoBox_m _ _ _ _ _ _ _ _ _ _ _)
  have RB := Lib.hid (show W1.rowIs (w.heap.size + 1) 43 3 (tri v0 v1 v2) by rw [hW1]; exact twoBox_n _ _ _ _ _ _ _ _ _ _ _)
  have hsz : W1.heap.size = w.heap.size + 2 := by rw [hW1]; simp [twoBox]
  have HSZ := Lib.hid hsz
  have HE3 := Lib.hid (h3.ext EW.out)
  have HE4 := Lib.hid (h4.ext EW.out)
  have HNE := Lib.hid (hE.ext EW.out)
  have HNP := Lib.hid (hP.ext EW.out)
  obtain ⟨-, ms3, ns3⟩ := ssLen h3
  obtain ⟨-, ms4, ns4⟩ := ssLen h4
  unfold maxLen at ms3 ms4
  clear h3 h4 hE hP hsz
  obtain ⟨p0, p1, p2, p3, p4, p5, p6⟩ := row7_facts RA.out
  obtain ⟨q0, q1, q2, -, -, -⟩ := row3_facts RB.out
  unfold twoBox at hW1
  go_enter Try.func58, Try.ntmps58
  go_upto_region 1 with fail
  rw [← hW1]
  clear hW1
  go_wp2_with fail
  (with_reducible refine (maAsked_any (HM.out.ext EW.out) (HN.out.ext EW.out)).mono ?_)
  rintro e w2 ⟨rfl, hx⟩
  have Y1 := Lib.hid hx
  clear hx p0 p1 p2 p3 p4 p5 p6 q0 q1 q2
  obtain ⟨p0, p1, p2, p3, p4, p5, p6⟩ := row7_facts (row_ext RA.out Y1.out)
  obtain ⟨q0, q1, q2, -, -, -⟩ := row3_facts (row_ext RB.out Y1.out)
  have K1 := Lib.hid (EW.out.trans' Y1.out)
  by_cases ha : Asked M N
  case neg =>
    rw [dec_false ha]
    have DA := Lib.hid (show ¬ PerB M N r from fun h => ha h.1.1)
    clear ha
    go_wp2
    go_ret3
    exact ⟨ret_iib (po_f DA.out).1.symm (po_f DA.out).2.symm (dec_false DA.out).symm, K1.out⟩
  rw [dec_true ha]
  have HA := Lib.hid ha
  clear ha
  by_cases hr : InB r 0 2000
  case neg =>
    have D := Lib.hid (dec_false hr)
    have DA := Lib.hid (show ¬ PerB M N r from fun h => hr h.1.2)
    clear hr
    go_wp2_with (go_at_call 101; (with_reducible refine (maLong_any _ _).mono ?_); rintro e w' ⟨rfl, rfl⟩; rw [D.out])
    go_ret3
    exact ⟨ret_iib (po_f DA.out).1.symm (po_f DA.out).2.symm (dec_false DA.out).symm, K1.out⟩
  have HR := Lib.hid hr
  have D := Lib.hid (dec_true hr)
  obtain ⟨m, rfl⟩ := Int.eq_ofNat_of_zero_le hr.1
  have hm : m ≤ 2000 := by have := hr.2; omega
  clear hr
  have HL := Lib.hid (show LongOK M N (m : Int) from ⟨HA.out, HR.out⟩)
  obtain ⟨i0, hi, hz0, hz1, hz2⟩ := info_parts Try.infoTSIm
  have I0 := Lib.hid (And.intro hi (And.intro hz0 (And.intro hz1 hz2)))
  clear hi hz0 hz1 hz2
  go_wp2_with (go_at_call 101; (with_reducible refine (maLong_any _ _).mono ?_); rintro e w' ⟨rfl, rfl⟩; rw [D.out])
  (with_reducible refine (maStart_any (HM.out.ext K1.out) (HN.out.ext K1.out) HA.out).mono ?_)
  rintro e w3 ⟨sv, bs0, rfl, hx, ho, hf⟩
  obtain ⟨sa, sq, rfl⟩ := ho.read.isSlice
  rw [length_startL] at ho ⊢
  have X3 := Lib.hid hx
  have G3 := Lib.hid (GrowI.one (l := runsL M N (m + 1)) (B := w2.heap.size) (by rw [gr_runsL _ _ (by omega)]; exact ho) hf.2 hx.size)
  have E3 := Lib.hid (hx.alloc' (.cells #[.slice sa N.ends.length sq] 24))
  have RA2 := Lib.hid (row_ext RA.out Y1.out)
  have RB2 := Lib.hid (row_ext RB.out Y1.out)
  clear hx ho hf p0 p1 p2 p3 p4 p5 p6 q0 q1 q2
  go_wp2
  go_loopg [9, 10] (m + 1) (fun g0 t i wr => ∃ p : Nat, p ≤ m ∧ g0 = m + 1 - p ∧ i = .int .i64 ((p : Int) + 1) ∧ Hid (Ext w2 wr ∧ GrowI w2.heap.size wr t (runsL M N (m + 1)) (p + 1) ∧ ∀ i, i < p + 1 → ¬ Rep M N i))
  case atStart => exact ⟨0, Nat.zero_le _, rfl, by go_num, E3.out, G3.out, fun i hi ⟨j, hj, _⟩ => by omega⟩
  case round =>
    obtain ⟨k, hk, rfl, rfl, Hr⟩ := hrel
    obtain ⟨g, gc, rfl, hgB, hg1, hg2, hgr⟩ := Hr.out.2.1.parts (by omega)
    have HGR := Lib.hid hgr
    unfold maxLen at hg2
    by_cases hlt : k < m
    · obtain ⟨x, xb, hxc, hxo⟩ := hgr k (by omega)
      rw [gr_runsL _ _ (by omega)] at hxo
      obtain ⟨xa, xc, rfl⟩ := hxo.read.isSlice
      rw [length_runL] at hxc hxo
      have HXO := Lib.hid hxo
      have KR := Lib.hid (K1.out.trans' Hr.out.1)
      have RA3 := Lib.hid (row_ext RA2.out Hr.out.1)
      have RB3 := Lib.hid (row_ext RB2.out Hr.out.1)
      have hle : decide ((k : Int) + 1 ≤ (m : Int)) = true := decide_eq_true (by omega)
      have hkk : (k : Int) < (k : Int) + 1 := by omega
      have hw1 : IntKind.i64.wrap (k : Int) = (k : Int) := IntWalk.i64_in _ (by omega)
      have mkS : ∀ w' : World, Ext wr w' → (w'.cell? ⟨w.heap.size, 0, none⟩ = some (.int .i64 M.deg) ∧ w'.cell? ⟨w.heap.size, 1, none⟩ = some (.int .i64 M.sts) ∧ w'.cell? ⟨w.heap.size, 2, none⟩ = some (.int .i64 M.msgs) ∧ w'.cell? ⟨w.heap.size, 3, none⟩ = some (.slice a3 M.start.length c3) ∧ w'.cell? ⟨w.heap.size, 4, none⟩ = some (.slice a4 M.send.length c4) ∧ w'.cell? ⟨w.heap.size, 5, none⟩ = some (.slice a5 M.cls.length c5) ∧ w'.cell? ⟨w.heap.size, 6, none⟩ = some (.slice a6 M.out.length c6)) ∧ (w'.cell? ⟨w.heap.size + 1, 0, none⟩ = some v0 ∧ w'.cell? ⟨w.heap.size + 1, 1, none⟩ = some v1 ∧ w'.cell? ⟨w.heap.size + 1, 2, none⟩ = some v2) := fun w' h => ⟨row7_facts (row_ext RA3.out h), ⟨(row_ext RB3.out h).cell (i := 0) (by omega), (row_ext RB3.out h).cell (i := 1) (by omega), (row_ext RB3.out h).cell (i := 2) (by omega)⟩⟩
      clear hgr hxo
      go_upto_region 7 with fail
      refine wp_region_gate (n := 8) (S := fun w' => (w'.cell? ⟨w.heap.size, 0, none⟩ = some (.int .i64 M.deg) ∧ w'.cell? ⟨w.heap.size, 1, none⟩ = some (.int .i64 M.sts) ∧ w'.cell? ⟨w.heap.size, 2, none⟩ = some (.int .i64 M.msgs) ∧ w'.cell? ⟨w.heap.size, 3, none⟩ = some (.slice a3 M.start.length c3) ∧ w'.cell? ⟨w.heap.size, 4, none⟩ = some (.slice a4 M.send.length c4) ∧ w'.cell? ⟨w.heap.size, 5, none⟩ = some (.slice a5 M.cls.length c5) ∧ w'.cell? ⟨w.heap.size, 6, none⟩ = some (.slice a6 M.out.length c6)) ∧ (w'.cell? ⟨w.heap.size + 1, 0, none⟩ = some v0 ∧ w'.cell? ⟨w.heap.size + 1, 1, none⟩ = some v1 ∧ w'.cell? ⟨w.heap.size + 1, 2, none⟩ = some v2)) (by kernel_rfl) (mkS _ (Ext.rfl' wr).drew') (fun hHeld => ?_)
      refine wpAnyG_take (i := 0) (v := ?_) rfl (by decide +kernel) (by kernel_rfl) (by decide) (by kernel_rfl) (by kernel_rfl) (fun _ _ _ h => h) (Or.inl ⟨by kernel_rfl, ?_⟩) hHeld ?_
      rotate_left 1
      · (intro w' hSw; (try dsimp only at hSw); go_simp) <;> with_reducible rfl
      simp only [Act.put]
      refine wpAnyG_take (i := 1) (v := ?_) rfl (by decide +kernel) (by kernel_rfl) (by decide) (by kernel_rfl) (by kernel_rfl) (fun _ _ _ h => h) (Or.inl ⟨by kernel_rfl, ?_⟩) hHeld ?_
      rotate_left 1
      · (intro w' hSw; (try dsimp only at hSw); go_simp) <;> with_reducible rfl
      simp only [Act.put]
      refine wpAnyG_take (i := 2) (v := ?_) rfl (by decide +kernel) (by kernel_rfl) (by decide) (by kernel_rfl) (by kernel_rfl) (fun _ _ _ h => h) (Or.inl ⟨by kernel_rfl, ?_⟩) hHeld ?_
      rotate_left 1
      · (intro w' hSw; (try dsimp only at hSw); go_simp) <;> with_reducible rfl
      simp only [Act.put]
      refine wpAnyG_take (i := 3) (v := ?_) rfl (by decide +kernel) (by kernel_rfl) (by decide) (by kernel_rfl) (by kernel_rfl) (fun _ _ _ h => h) (Or.inl ⟨by kernel_rfl, ?_⟩) hHeld ?_
      rotate_left 1
      · (intro w' hSw; (try dsimp only at hSw); go_simp) <;> with_reducible rfl
      simp only [Act.put]
      refine wpAnyG_take (i := 4) (v := ?_) rfl (by decide +kernel) (by kernel_rfl) (by decide) (by kernel_rfl) (by kernel_rfl) (fun _ _ _ h => h) (Or.inl ⟨by kernel_rfl, ?_⟩) hHeld ?_
      rotate_left 1
      · (intro w' hSw; (try dsimp only at hSw); go_simp) <;> with_reducible rfl
      simp only [Act.put]
      refine wpAnyG_take (i := 5) (v := ?_) rfl (by decide +kernel) (by kernel_rfl) (by decide) (by kernel_rfl) (by kernel_rfl) (fun _ _ _ h => h) (Or.inl ⟨by kernel_rfl, ?_⟩) hHeld ?_
      rotate_left 1
      · (intro w' hSw; (try dsimp only at hSw); go_simp) <;> with_reducible rfl
      simp only [Act.put]
      have hxd := (Ext.rfl' wr).drew'.cell' hxc
      refine wpAnyG_one (i := 6) rfl (by kernel_rfl) rfl (fun K hK => ?_)
      go_simp
      clear hHeld
      refine hK.out _ _ (fun _ => mkS _ (Ext.rfl' wr).drew') (fun hHeld' => ?_)
      have hHeld := hHeld' (by decide)
      clear hK K hHeld'
      refine wpAnyG_one (i := 7) rfl (by kernel_rfl) rfl (fun K hK => ?_)
      go_simp
      (with_reducible refine (maStep_any (HM.out.ext (KR.out.trans' (Ext.rfl' wr).drew')) (HN.out.ext (KR.out.trans' (Ext.rfl' wr).drew')) (HXO.out.ext (Ext.rfl' wr).drew').read (run_sts HA.out k)).mono ?_)
      rintro e w4 ⟨v4, bs4, rfl, hx, ho, hf⟩
      obtain ⟨sa4, sq4, rfl⟩ := ho.read.isSlice
      rw [length_stepL] at ho ⊢
      have X4 := Lib.hid ((Ext.rfl' wr).drew'.trans' hx)
      have O4 := Lib.hid (show OwnI w4 (.slice sa4 N.ends.length sq4) (gr (runsL M N (m + 1)) (k + 1)) bs4 by rw [gr_runsL _ _ (by omega)]; exact ho)
      have O5 := Lib.hid (show OwnI w4 (.slice sa4 N.ends.length sq4) (runL M N (k + 1)) bs4 from ho)
      have F4 := Lib.hid (fun b hb => Nat.le_trans (Ext.rfl' wr).drew'.size (hf.2 b hb))
      clear hx ho hf
      clear hHeld
      refine hK.out _ _ (fun _ => mkS _ X4.out) (fun hHeld' => ?_)
      have hHeld := hHeld' (by decide)
      clear hK K hHeld'
      refine wpAnyG_one (i := 8) rfl (by kernel_rfl) rfl (fun K hK => ?_)
      go_simp
      refine hK.out _ _ (fun h => absurd rfl h) (fun _ => ?_)
      clear hK K
      refine wpAnyG_done (by kernel_rfl) ?_ _
      clear mkS hxc hxd
      have G4 := Lib.hid (Hr.out.2.1.ext X4.out)
      have KX := Lib.hid (KR.out.trans' X4.out)
      have HGR4 := Lib.hid (fun i (hi : i < k + 1) => (let ⟨x, bs, h1, h2⟩ := HGR.out i hi; (⟨x, bs, X4.out.cell' h1, h2.ext X4.out⟩ : ∃ x bs, w4.cell? ⟨g, i, none⟩ = some x ∧ OwnI w4 x (gr (runsL M N (m + 1)) i) bs)))
      go_wp2
      go_loopg [42] (k + 1) (fun g0 i wx => ∃ j : Nat, j ≤ k + 1 ∧ g0 = k + 1 - j ∧ i = .int .i64 j ∧ Hid (Ext w4 wx ∧ ∀ u, u < j → runL M N u ≠ runL M N (k + 1)))
      case atStart => exact ⟨0, Nat.zero_le _, rfl, rfl, Ext.rfl' _, fun u hu => absurd hu (by omega)⟩
      case round =>
        obtain ⟨j, hj, rfl, rfl, Hs⟩ := hrel
        by_cases hlj : j < k + 1
        · obtain ⟨x, xb, hxc, hxo⟩ := HGR4.out j hlj
          rw [gr_runsL _ _ (by omega)] at hxo
          obtain ⟨ya, yc, rfl⟩ := hxo.read.isSlice
          rw [length_runL] at hxc hxo
          have HXJ := Lib.hid (hxo.ext Hs.out.1)
          have hxj := Hs.out.1.cell' hxc
          have hjk : (j : Int) < (k : Int) + 1 := by omega
          clear hxc hxo
          go_wp2_with fail
          (with_reducible refine (l1Same_any HXJ.out.read (O5.out.ext Hs.out.1).read).mono ?_)
          rintro e w5 ⟨rfl, hx⟩
          have X5 := Lib.hid (Hs.out.1.trans' hx)
          clear hx hxj
          by_cases hs : runL M N j = runL M N (k + 1)
          · have Dd := Lib.hid (decide_eq_true hs)
            have PH := Lib.hid (per_hit HL.out (by rw [Int.toNat_natCast]; omega) Hr.out.2.2 hlj hs)
            have hwr : IntKind.i64.wrap ((k : Int) + 1 - (j : Int)) = (k : Int) + 1 - (j : Int) := IntWalk.i64_in _ (by omega)
            rw [Dd.out]
            clear hs
            go_wp2
            go_ret3
            exact ⟨ret_iib PH.out.2.1.symm (by rw [PH.out.2.2]; push_cast; rfl) (dec_true PH.out.1).symm, KX.out.trans' X5.out⟩
          · have Dd := Lib.hid (decide_eq_false hs)
            have Hne := Lib.hid hs
            rw [Dd.out]
            clear hs
            go_wp2
            go_roundg (k + 1 - (j + 1))
            case measure => omega
            case rel =>
              refine ⟨j + 1, by omega, rfl, by go_num, X5.out, fun u hu => ?_⟩
              by_cases e : u = j
              · subst e; exact Hne.out
              · exact Hs.out.2 u (by omega)
        · obtain rfl : j = k + 1 := by omega
          have HNR := Lib.hid (show ¬ Rep M N (k + 1) from fun ⟨u, h1, h2⟩ => Hs.out.2 u h1 h2)
          obtain ⟨R, hR1, hR2⟩ := GrowI.stepF Hr.out.2.1 (X4.out.trans' Hs.out.1) (O4.out.ext Hs.out.1) F4.out Hr.out.1.size ((Ext.rfl' wr).alloc' (.cells #[.slice sa4 N.ends.length sq4] 24))
          have HR1 := Lib.hid hR1
          have HR2 := Lib.hid hR2
          have XA := Lib.hid ((X4.out.trans' Hs.out.1).alloc' (.cells #[.slice sa4 N.ends.length sq4] 24))
          have XB := Lib.hid (Hr.out.1.trans' XA.out)
          have hszw := XB.out.size
          clear hR1 hR2
          go_wp2_with (at_builtin; refine wpList_app rfl (.tmp 55) (.tmp 57) 22 rfl w2.heap.size 24 i0 (.slice none 0 0) 1 24 Try.underlying22 I0.out.1 I0.out.2.1 I0.out.2.2.1 I0.out.2.2.2 rfl (by decide) (.slice (some ⟨g, 0, none⟩) (k + 1) gc) (k + 1) ((List.range (k + 1)).map R) rfl (HR1.out _ XA.out) (some ⟨wr.heap.size, 0, none⟩) 1 1 [.slice sa4 N.ends.length sq4] rfl (src_one wr _ 24 rfl) (by unfold maxLen; omega) (by omega) (by simpa using hszw) ?_; intro v' w6 hg; have HGG := Lib.hid hg; clear hg)
          have G6 := Lib.hid (HR2.out _ _ HGG.out)
          have X6 := Lib.hid (show Ext w2 w6 from HGG.out.ext XB.out fun b hb => (World.ownsRow.lt (HR1.out _ (X4.out.trans' Hs.out.1)) b hb).1)
          clear HGG
          go_wp2
          go_roundg (m + 1 - (k + 1))
          case measure => omega
          case rel =>
            refine ⟨k + 1, by omega, rfl, by go_num, X6.out, G6.out, fun i hi => ?_⟩
            by_cases e : i = k + 1
            · subst e; exact HNR.out
            · exact Hr.out.2.2 i (by omega)
    · obtain rfl : k = m := by omega
      have hle : decide ((k : Int) + 1 ≤ (k : Int)) = false := decide_eq_false (by omega)
      have DA := Lib.hid (per_none (r := (k : Int)) fun i hi => Hr.out.2.2 i (by rw [Int.toNat_natCast] at hi; omega))
      go_wp2
      go_ret3
      exact ⟨ret_iib (po_f DA.out).1.symm (po_f DA.out).2.symm (dec_false DA.out).symm, (K1.out.trans' Hr.out.1)⟩
end Go.Proofs.Ytdcgpodjoalokaa
