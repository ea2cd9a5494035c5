/- The contracts of endsUnder and of slices.Equal on ends. -/
import Derived.Test.YtkpdbceglejbnaaQa
import Derived.Test.YtkpdbceglejbnaaJd
import Derived.BigQuiet
namespace Go.Proofs.Ytkpdbceglejbnaa
open Go.RowKit

theorem ends_same {l1 l2 : List (Int × Int)} (h : l1.length = l2.length) (k : ∀ i, i < l1.length → gn l1 i = gn l2 i ∧ gp l1 i = gp l2 i) : l1 = l2 := ends_eq h k

set_option maxHeartbeats 1600000 in
set_option maxRecDepth 100000 in
theorem endEq_any {w : World} {v1 v2 : Value} {l1 l2 : List (Int × Int)} (h1 : EndSl w v1 l1) (h2 : EndSl w v2 l2) :
    Calls Try.prog 78 #[v1, v2] w fun e w' => e = .returned (.bool (dec (l1 = l2))) ∧ Ext w w' := by
  obtain ⟨a1, b1, o1, c1, rfl, ha1, hl1, hm1, hc1⟩ := h1
  obtain ⟨a2, b2, o2, c2, rfl, ha2, hl2, hm2, hc2⟩ := h2
  unfold maxLen at hm1 hm2
  have Hc1 := Lib.hid hc1
  have Ha1 := Lib.hid ha1
  have Hc2 := Lib.hid hc2
  have Ha2 := Lib.hid ha2
  clear hc1 ha1 hc2 ha2
  by_cases hn : l1.length = l2.length
  case neg =>
    have hnb : ((l1.length : Int) != (l2.length : Int)) = true := by simp; omega
    have HF := Lib.hid (show ¬ l1 = l2 from fun e => hn (by rw [e]))
    clear hn
    go_enter Try.func78, Try.ntmps78
    go_wp2
    go_ret
    exact ⟨ret_f HF.out, Ext.rfl' w⟩
  have Hn := Lib.hid hn
  have hnb : ((l1.length : Int) != (l2.length : Int)) = false := by simp; omega
  clear hn
  go_enter Try.func78, Try.ntmps78
  go_wp2
  go_loopg [13] l1.length (fun g i wr => ∃ k : Nat, k ≤ l1.length ∧ g = l1.length - k ∧ i = .int .i64 k ∧ Hid (Ext w wr ∧ ∀ j, j < k → gn l1 j = gn l2 j ∧ gp l1 j = gp l2 j))
  case atStart => exact ⟨0, Nat.zero_le _, rfl, rfl, Ext.rfl' w, fun j hj => absurd hj (by omega)⟩
  case round =>
    obtain ⟨k, hk, rfl, rfl, Hr⟩ := hrel
    by_cases hlt : k < l1.length
    · have hlt2 : k < l2.length := by have := Hn.out; omega
      obtain ⟨e1, e2, -⟩ := Hc1.out k hlt
      obtain ⟨f1, f2, -⟩ := Hc2.out k hlt2
      obtain rfl := Ha1.out (by omega)
      obtain rfl := Ha2.out (by omega)
      obtain ⟨x1, hx1⟩ : ∃ d, d = gn l1 k := ⟨_, rfl⟩
      obtain ⟨y1, hy1⟩ : ∃ d, d = gp l1 k := ⟨_, rfl⟩
      obtain ⟨x2, hx2⟩ : ∃ d, d = gn l2 k := ⟨_, rfl⟩
      obtain ⟨y2, hy2⟩ : ∃ d, d = gp l2 k := ⟨_, rfl⟩
      rw [← hx1] at e1
      rw [← hy1] at e2
      rw [← hx2] at f1
      rw [← hy2] at f2
      have HI := Lib.hid (show (gn l1 k = gn l2 k ∧ gp l1 k = gp l2 k) ↔ (x1 = x2 ∧ y1 = y2) by rw [hx1, hy1, hx2, hy2])
      clear hx1 hy1 hx2 hy2
      have T1 : ∀ x' : Wx wr, x'.w.cell? ⟨b1, o1 + k * 2, none⟩ = some (.int .i64 x1) := fun x' => x'.ok.cell' (Hr.out.1.cell' e1)
      have T2 : ∀ x' : Wx wr, x'.w.cell? ⟨b1, o1 + k * 2 + 1, none⟩ = some (.int .i64 y1) := fun x' => x'.ok.cell' (Hr.out.1.cell' e2)
      have T3 : ∀ x' : Wx wr, x'.w.cell? ⟨b2, o2 + k * 2, none⟩ = some (.int .i64 x2) := fun x' => x'.ok.cell' (Hr.out.1.cell' f1)
      have T4 : ∀ x' : Wx wr, x'.w.cell? ⟨b2, o2 + k * 2 + 1, none⟩ = some (.int .i64 y2) := fun x' => x'.ok.cell' (Hr.out.1.cell' f2)
      clear e1 e2 f1 f2
      by_cases hE1 : x1 = x2
      · subst hE1
        by_cases hE2 : y1 = y2
        · subst hE2
          have HQ := Lib.hid (HI.out.2 ⟨rfl, rfl⟩)
          go_wp2_with fail
          refine wp_region_ext (by kernel_rfl) (by kernel_rfl) ?_
          repeat (go_big_quiet_step (fail))
          refine wpQuiet_nil ?_
          rintro wz ⟨⟨_, hz2⟩, rfl⟩
          have HZ2 := Lib.hid hz2
          clear hz2
          go_wp2
          go_roundg (l1.length - (k + 1))
          case measure => omega
          case rel =>
            refine ⟨k + 1, by omega, rfl, by go_num, Hr.out.1.trans' HZ2.out, fun t ht => ?_⟩
            by_cases e : t = k
            · subst e; exact HQ.out
            · exact Hr.out.2 t (by omega)
        · have hvb : (y1 == y2) = false := beq_eq_false_iff_ne.2 hE2
          have HF := Lib.hid (show ¬ l1 = l2 from fun e => hE2 (HI.out.1 (by rw [e]; exact ⟨rfl, rfl⟩)).2)
          clear hE2
          go_wp2_with fail
          refine wp_region_ext (by kernel_rfl) (by kernel_rfl) ?_
          repeat (go_big_quiet_step (fail))
          refine wpQuiet_nil ?_
          rintro wz ⟨⟨_, hz2⟩, rfl⟩
          have HZ2 := Lib.hid (Hr.out.1.trans' hz2)
          clear hz2
          go_wp2
          go_ret
          exact ⟨ret_f HF.out, HZ2.out⟩
      · have hvb : (x1 == x2) = false := beq_eq_false_iff_ne.2 hE1
        have HF := Lib.hid (show ¬ l1 = l2 from fun e => hE1 (HI.out.1 (by rw [e]; exact ⟨rfl, rfl⟩)).1)
        clear hE1
        go_wp2_with fail
        refine wp_region_ext (by kernel_rfl) (by kernel_rfl) ?_
        repeat (go_big_quiet_step (fail))
        refine wpQuiet_nil ?_
        rintro wz ⟨⟨_, hz2⟩, rfl⟩
        have HZ2 := Lib.hid (Hr.out.1.trans' hz2)
        clear hz2
        go_wp2
        go_ret
        exact ⟨ret_f HF.out, HZ2.out⟩
    · obtain rfl : k = l1.length := by omega
      have HF := Lib.hid (show l1 = l2 from ends_same Hn.out fun i hi => Hr.out.2 i (by omega))
      go_wp2
      go_ret
      exact ⟨ret_t HF.out, Hr.out.1⟩

set_option maxHeartbeats 1600000 in
set_option maxRecDepth 100000 in
theorem endsUnder_any {w : World} {vm v : Value} {m : List Int} {l : List (Int × Int)} (hm : IntSl w vm m) (h : EndSl w v l) (hs : l.length ≤ 1048576) (hin : ∀ i, i < l.length → 0 ≤ gn l i ∧ gn l i < (m.length : Int)) :
    Calls Try.prog 79 #[vm, v] w fun e w' => ∃ b, e = .returned (.slice (some ⟨b, 0, none⟩) l.length l.length) ∧ Ext w w' ∧ OwnE w' (.slice (some ⟨b, 0, none⟩) l.length l.length) (under m l) [b] ∧ w.heap.size ≤ b := by
  obtain ⟨a, b, o, c, rfl, ha, h3, h4, hc⟩ := h
  obtain ⟨ma, mb, mo, mc, rfl, hma, hml, hmm, hmc⟩ := hm
  unfold maxLen at h4 hmm
  have Hc := Lib.hid hc
  have Ha := Lib.hid ha
  have HMA := Lib.hid hma
  have HMC := Lib.hid hmc
  have HIN := Lib.hid hin
  clear hc ha hma hmc hin
  obtain ⟨i0, hi, hz0, hz1, hz2⟩ := info_parts Try.info44
  have hmk : ∀ u : World, (Instr.makeSlice 93 (.int .i64 (l.length : Int)) (.int .i64 (l.length : Int))).run Try.prog u =
      .ok (.slice (some ⟨u.heap.size, 0, none⟩) l.length l.length) (u.alloc (.cells (madeCells #[.int .i64 0, .int .i64 0] (l.length * 2)) 95)) := fun u => by
    have h := run_make (P := Try.prog) u 93 95 i0 _ Try.underlying93 hi hz0 .i64 .i64 l.length l.length (by omega) (Int.le_refl _) (by rw [hz2]; omega) (by omega)
    simpa [hz1, Value.cells] using h
  have HU : ∀ k, k < l.length → gn (under m l) k = gi m (gn l k).toNat ∧ gp (under m l) k = gp l k := fun k hk => under_at m l k hk
  have HUL := length_under m l
  obtain ⟨L, hL⟩ : ∃ L, L = under m l := ⟨_, rfl⟩
  rw [← hL] at HU HUL
  have HU := Lib.hid HU
  have HL := Lib.hid hL
  have HUL' := Lib.hid HUL
  clear hL HUL
  go_enter Try.func79, Try.ntmps79
  go_wp2
  clear hmk hi hz0 hz1 hz2
  go_loopg [13] l.length (fun g i wr => ∃ k : Nat, k ≤ l.length ∧ g = l.length - k ∧ i = .int .i64 k ∧ Hid (Ext w wr ∧ wr.rowIs w.heap.size 95 (l.length * 2) (ecopied L k)))
  case atStart => exact ⟨0, Nat.zero_le _, rfl, rfl, (Ext.rfl' w).alloc' _, (emade w _).congr fun i _ => by simp [ecopied]⟩
  case round =>
    obtain ⟨k, hk, rfl, rfl, Hr⟩ := hrel
    by_cases hlt : k < l.length
    · obtain ⟨e1, e2, -⟩ := Hc.out k hlt
      obtain rfl := Ha.out (by omega)
      obtain ⟨hl0, hl1⟩ := HIN.out k hlt
      obtain ⟨zz, hzz⟩ := Int.eq_ofNat_of_zero_le hl0
      have hzm : zz < m.length := by omega
      obtain rfl := HMA.out (by omega)
      obtain ⟨_, g1, rfl, _⟩ := HMC.out zz hzm
      rw [hzz] at e1
      obtain ⟨hu1, hu2⟩ := HU.out k hlt
      rw [hzz, Int.toNat_natCast] at hu1
      obtain ⟨nA, hnA⟩ : ∃ d, d = gi m zz := ⟨_, rfl⟩
      obtain ⟨pA, hpA⟩ : ∃ d, d = gp l k := ⟨_, rfl⟩
      rw [← hnA] at g1 hu1
      rw [← hpA] at e2 hu2
      have HU1 := Lib.hid hu1
      have HU2 := Lib.hid hu2
      clear hnA hpA hzz hl0 hl1 hu1 hu2
      have Hx := Lib.hid Hr.out.1
      have Hrow := Lib.hid Hr.out.2
      have s1 := Hx.out.cell' e1
      have s2 := Hx.out.cell' e2
      obtain ⟨W2, hW2⟩ : ∃ W2, W2 = wr.alloc (.cells #[.int .i64 zz, .int .i64 pA] 95) := ⟨_, rfl⟩
      have E2 := Lib.hid (show Ext wr W2 by rw [hW2]; exact (Ext.rfl' _).alloc' _)
      have R2 := Lib.hid (show W2.rowIs wr.heap.size 95 2 (duo (.int .i64 zz) (.int .i64 pA)) by rw [hW2]; exact duo_made _ _ _ _)
      obtain ⟨r0, r1, -, -⟩ := duo_facts R2.out
      have g2 := E2.out.cell' (Hx.out.cell' g1)
      obtain ⟨f1, f2, f3, f4⟩ := row_two (row_ext Hrow.out E2.out) (show k * 2 + 1 < l.length * 2 by omega)
      clear g1 e1 e2
      go_wp2_with fail
      rw [← hW2]
      clear hW2 s1 s2
      go_region
      all_goals go_wp2
      go_roundg (l.length - (k + 1))
      case measure => omega
      case rel =>
        have e := ecopied_step (row_ext Hrow.out E2.out)
        rw [HU1.out, HU2.out] at e
        exact ⟨k + 1, by omega, rfl, by go_num, (((Hx.out.trans' E2.out).store (Nat.le_refl _) _).store (Nat.le_refl _) _).drew', e⟩
    · go_wp2
      go_ret
      obtain rfl : k = l.length := by omega
      obtain ⟨he, hrow⟩ := Hr.out
      refine ⟨_, rfl, he, ?_, Nat.le_refl _⟩
      rw [← HL.out]
      have hu := HUL'.out
      refine ⟨?_, fun i hi => ?_⟩
      · rw [hu]
        exact own_made hrow (by unfold maxLen; omega) fun i hi => by simp [ecopied, hi]
      · have hi' : i < l.length := by omega
        obtain ⟨_, _, _, i4⟩ := Hc.out i hi'
        obtain ⟨j1, j2⟩ := HU.out i hi'
        obtain ⟨k1, k2⟩ := HIN.out i hi'
        obtain ⟨_, _, _, k4⟩ := HMC.out (gn l i).toNat (by omega)
        rw [j1, j2]
        exact ⟨k4, i4⟩
end Go.Proofs.Ytkpdbceglejbnaa
