/- portsAfter for any kind of change: the contracts of its callees are taken. -/
import Derived.Test.YtkeiaahlifdbiaaCh3
namespace Go.Proofs.Ytkeiaahlifdbiaa
open Go.RowKit

/-- Which ports of a node stay (st), where each goes (pos), where the new ones come from (src). -/
structure Plan (len m : Nat) (st : Nat → Bool) (pos src : Nat → Nat) : Prop where
  le : m ≤ len
  goes : ∀ i, i < len → st i = true → pos i < m ∧ src (pos i) = i
  come : ∀ q, q < m → src q < len ∧ st (src q) = true ∧ pos (src q) = q
def planRow (m : Nat) (src : Nat → Nat) (nn pp : Nat → Int) : List (Int × Int) := (List.range m).map fun q => (nn (src q), pp (src q))
theorem length_planRow (m : Nat) (src : Nat → Nat) (nn pp : Nat → Int) : (planRow m src nn pp).length = m := by simp [planRow]
theorem gn_planRow {m : Nat} {src : Nat → Nat} {nn pp : Nat → Int} {q : Nat} (h : q < m) : gn (planRow m src nn pp) q = nn (src q) := by simp [gn, planRow, List.getD, h]
theorem gp_planRow {m : Nat} {src : Nat → Nat} {nn pp : Nat → Int} {q : Nat} (h : q < m) : gp (planRow m src nn pp) q = pp (src q) := by simp [gp, planRow, List.getD, h]
def efill (src : Nat → Nat) (r : List (Int × Int)) (k : Nat) (i : Nat) : Value := if src (i / 2) < k then ecell r i else .int .i64 0
theorem efill_all {len m : Nat} {st : Nat → Bool} {pos src : Nat → Nat} {r : List (Int × Int)} (h : Plan len m st pos src) {i : Nat} (hi : i < m * 2) : efill src r len i = ecell r i := by
  unfold efill
  rw [if_pos (h.come (i / 2) (by omega)).1]
theorem plan_range {len m : Nat} {st : Nat → Bool} {pos src : Nat → Nat} {nn pp : Nat → Int} (h : Plan len m st pos src) (hr : ∀ i, i < len → st i = true → inI64 (nn i) ∧ inI64 (pp i)) :
    ∀ i, i < (planRow m src nn pp).length → inI64 (gn (planRow m src nn pp) i) ∧ inI64 (gp (planRow m src nn pp) i) := fun i hi => by
  rw [length_planRow] at hi
  rw [gn_planRow hi, gp_planRow hi]
  exact hr _ (h.come i hi).1 (h.come i hi).2.1
theorem plan_step {w : World} {b len m k : Nat} {st : Nat → Bool} {pos src : Nat → Nat} {nn pp : Nat → Int} (h : Plan len m st pos src) (hk : k < len) (hs : st k = true) (hw : w.rowIs b 66 (m * 2) (efill src (planRow m src nn pp) k)) :
    ((w.setCell ⟨b, pos k * 2, none⟩ (.int .i64 (nn k))).setCell ⟨b, pos k * 2 + 1, none⟩ (.int .i64 (pp k))).rowIs b 66 (m * 2) (efill src (planRow m src nn pp) (k + 1)) := by
  obtain ⟨h1, h2⟩ := h.goes k hk hs
  refine ((hw.set _ _).set _ _).congr fun i hi => ?_
  by_cases e : i = pos k * 2 + 1
  · subst e
    have e1 : (pos k * 2 + 1) / 2 = pos k := by omega
    rw [if_pos rfl]
    unfold efill ecell
    rw [e1, h2, if_pos (by omega), if_neg (by omega), gp_planRow h1, h2]
  · rw [if_neg e]
    by_cases e2 : i = pos k * 2
    · subst e2
      have e1 : (pos k * 2) / 2 = pos k := by omega
      rw [if_pos rfl]
      unfold efill ecell
      rw [e1, h2, if_pos (by omega), if_pos (by omega), gn_planRow h1, h2]
    · rw [if_neg e2]
      unfold efill
      have hne : src (i / 2) ≠ k := fun e3 => by have := (h.come (i / 2) (by omega)).2.2; rw [e3] at this; omega
      by_cases e3 : src (i / 2) < k
      · rw [if_pos e3, if_pos (by omega)]
      · rw [if_neg e3, if_neg (by omega)]
theorem plan_skip {w : World} {b len m k : Nat} {st : Nat → Bool} {pos src : Nat → Nat} {r : List (Int × Int)} (h : Plan len m st pos src) (hs : st k = false) (hw : w.rowIs b 66 (m * 2) (efill src r k)) : w.rowIs b 66 (m * 2) (efill src r (k + 1)) :=
  hw.congr fun i hi => by
    unfold efill
    have hne : src (i / 2) ≠ k := fun e3 => by have := (h.come (i / 2) (by omega)).2.1; rw [e3, hs] at this; exact Bool.noConfusion this
    by_cases e3 : src (i / 2) < k
    · rw [if_pos e3, if_pos (by omega)]
    · rw [if_neg e3, if_neg (by omega)]

set_option maxHeartbeats 3200000 in
set_option maxRecDepth 100000 in
theorem portsAfterG_any {w : World} {c : Value} {N : Net} {x y kk : Int} {l : List Int} (v m : Nat) {st : Nat → Bool} {pos src : Nat → Nat} {nn pp : Nat → Int} (h : ChgAt w c kk N x y l) (hg : Good N) (hv : v < N.ends.length) (hpl : Plan (gr N.ends v).length m st pos src)
    (hr : ∀ i, i < (gr N.ends v).length → st i = true → inI64 (nn i) ∧ inI64 (pp i))
    (hcnt : ∀ w' : World, Ext w w' → Calls Try.prog 164 #[c, .int .i64 v, .int .i64 (gr N.ends v).length] w' fun e w'' => e = .returned (.int .i64 m) ∧ Ext w' w'')
    (hst : ∀ (w' : World) (i : Nat), Ext w w' → i < (gr N.ends v).length → Calls Try.prog 165 #[c, .agg #[.int .i64 v, .int .i64 i]] w' fun e w'' => e = .returned (.bool (st i)) ∧ Ext w' w'')
    (hpa : ∀ (w' : World) (i : Nat), Ext w w' → i < (gr N.ends v).length → st i = true → Calls Try.prog 166 #[c, .agg #[.int .i64 v, .int .i64 i]] w' fun e w'' => e = .returned (.int .i64 (pos i)) ∧ Ext w' w'')
    (hna : ∀ (w' : World) (i : Nat), Ext w w' → i < (gr N.ends v).length → st i = true → Calls Try.prog 160 #[c, .int .i64 (gn (gr N.ends v) i)] w' fun e w'' => e = .returned (.int .i64 (nn i)) ∧ Ext w' w'')
    (hpb : ∀ (w' : World) (i : Nat), Ext w w' → i < (gr N.ends v).length → st i = true → Calls Try.prog 166 #[c, .agg #[.int .i64 (gn (gr N.ends v) i), .int .i64 (gp (gr N.ends v) i)]] w' fun e w'' => e = .returned (.int .i64 (pp i)) ∧ Ext w' w'') :
    Calls Try.prog 161 #[c, .int .i64 v] w fun e w' => ∃ v' bs, e = .returned v' ∧ Ext w w' ∧ OwnE w' v' (planRow m src nn pp) bs ∧ Fresh w bs := by
  obtain ⟨v0, v1, v2, v3, rfl, hN, hL⟩ := h
  have HCN := Lib.hid hcnt
  have HST := Lib.hid hst
  have HPA := Lib.hid hpa
  have HNA := Lib.hid hna
  have HPB := Lib.hid hpb
  have HRR := Lib.hid hr
  have PL := Lib.hid hpl
  have hm6 := hpl.le
  clear hcnt hst hpa hna hpb hr hpl hL
  obtain ⟨_, _, _, h0, hE, hI, hP⟩ := hN
  cases h0
  obtain ⟨a, b, o, cc, rfl, ha, hl, hm, hc⟩ := hE
  unfold maxLen at hm
  obtain ⟨z, hz, hz2⟩ := hc v hv
  have HZ := Lib.hid hz2
  obtain ⟨a', b', o', c', rfl, ha', hl', hm', hc'⟩ := hz2
  unfold maxLen at hm'
  obtain rfl := ha (by omega)
  have hX := (Ext.rfl' w).alloc' (.cells #[.int .i64 kk, .slice (some ⟨b, o, none⟩) N.ends.length cc, v1, v2, .int .i64 x, .int .i64 y, v3] 119)
  have HX := Lib.hid hX
  have z1 := hX.cell' hz
  have HC := Lib.hid (chg_cells w kk (.slice (some ⟨b, o, none⟩) N.ends.length cc) v1 v2 v3 x y)
  have h6 := (hg.2.1 v hv).1
  obtain ⟨i44, hj, hy0, hy1, hy2⟩ := info_parts Try.info44
  have I44 := Lib.hid (And.intro hj (And.intro hy0 (And.intro hy1 hy2)))
  clear hj hy0 hy1 hy2
  have hmk : ∀ z : World, (Instr.makeSlice 67 (.int .i64 (m : Int)) (.int .i64 (m : Int))).run Try.prog z =
      .ok (.slice (some ⟨z.heap.size, 0, none⟩) m m) (z.alloc (.cells (madeCells #[.int .i64 0, .int .i64 0] (m * 2)) 66)) := fun z => by
    have h := run_make (P := Try.prog) z 67 66 i44 _ Try.underlying67 I44.out.1 I44.out.2.1 .i64 .i64 m m (by omega) (Int.le_refl _) (by rw [I44.out.2.2.2]; omega) (by omega)
    simpa [I44.out.2.2.1, Value.cells] using h
  clear hX hz hc ha' hc' hI hP
  obtain ⟨c0, c1, c2, c3, c4, c5, c6⟩ := HC.out
  go_enter Try.func161, Try.ntmps161
  go_wp2_with fail
  have hW0 : w.heap.size + 1 ≤ (w.alloc (.cells #[.int .i64 kk, .slice (some ⟨b, o, none⟩) N.ends.length cc, v1, v2, .int .i64 x, .int .i64 y, v3] 119)).heap.size := by simp
  generalize w.alloc (.cells #[.int .i64 kk, .slice (some ⟨b, o, none⟩) N.ends.length cc, v1, v2, .int .i64 x, .int .i64 y, v3] 119) = W0 at *
  have mkS : ∀ w', Ext W0 w' → w'.cell? ⟨w.heap.size, 0, none⟩ = some (.int .i64 kk) ∧ w'.cell? ⟨w.heap.size, 1, none⟩ = some (.slice (some ⟨b, o, none⟩) N.ends.length cc) ∧ w'.cell? ⟨w.heap.size, 2, none⟩ = some v1 ∧ w'.cell? ⟨w.heap.size, 3, none⟩ = some v2 ∧ w'.cell? ⟨w.heap.size, 4, none⟩ = some (.int .i64 x) ∧ w'.cell? ⟨w.heap.size, 5, none⟩ = some (.int .i64 y) ∧ w'.cell? ⟨w.heap.size, 6, none⟩ = some v3 ∧ w'.cell? ⟨b, o + v, none⟩ = some (.slice a' (gr N.ends v).length c') ∧ Hid (Ext W0 w') := fun w' h => ⟨h.cell' c0, h.cell' c1, h.cell' c2, h.cell' c3, h.cell' c4, h.cell' c5, h.cell' c6, h.cell' z1, h⟩
  go_region_held3 (fun w' => w'.cell? ⟨w.heap.size, 0, none⟩ = some (.int .i64 kk) ∧ w'.cell? ⟨w.heap.size, 1, none⟩ = some (.slice (some ⟨b, o, none⟩) N.ends.length cc) ∧ w'.cell? ⟨w.heap.size, 2, none⟩ = some v1 ∧ w'.cell? ⟨w.heap.size, 3, none⟩ = some v2 ∧ w'.cell? ⟨w.heap.size, 4, none⟩ = some (.int .i64 x) ∧ w'.cell? ⟨w.heap.size, 5, none⟩ = some (.int .i64 y) ∧ w'.cell? ⟨w.heap.size, 6, none⟩ = some v3 ∧ w'.cell? ⟨b, o + v, none⟩ = some (.slice a' (gr N.ends v).length c') ∧ Hid (Ext W0 w'))
      (first | exact mkS _ K1.out | exact mkS _ (Ext.alloc' K1.out _) | exact mkS _ (Ext.rfl' W0).drew' | exact mkS _ (Ext.rfl' W0) | fail)
      (first | (go_at_call 164; (with_reducible refine (HCN.out _ (HX.out.drew')).mono ?_); rintro e w1 ⟨rfl, hw⟩; have K1 := Lib.hid (Ext.trans' (Ext.rfl' W0).drew' hw)) | fail)
  obtain ⟨d0, d1, d2, d3, d4, d5, d6, y1, _⟩ := mkS _ (K1.out.alloc' (.cells (madeCells #[.int .i64 0, .int .i64 0] (m * 2)) 66))
  have HS := Lib.hid mkS
  clear mkS c0 c1 c2 c3 c4 c5 c6 z1
  go_wp2_with fail
  clear d0 d1 d2 d3 d4 d5 d6 y1
  go_loopg [27] (gr N.ends v).length (fun g i wx => ∃ j : Nat, j ≤ (gr N.ends v).length ∧ g = (gr N.ends v).length - j ∧ i = .int .i64 j ∧ Hid (Ext w1 wx ∧ w1.heap.size + 1 ≤ wx.heap.size ∧ wx.rowIs w1.heap.size 66 (m * 2) (efill src (planRow m src nn pp) j)))
  case atStart => exact ⟨0, Nat.zero_le _, rfl, rfl, (Ext.rfl' _).alloc' _, by simp, (emade w1 _).congr fun i _ => by simp [efill]⟩
  case round =>
    obtain ⟨j, hj, rfl, rfl, Hs⟩ := hrel
    by_cases hjt : j < (gr N.ends v).length
    · obtain ⟨az, bz, oz, cz, hzz, hax, hlx, hmx, hcx⟩ := HZ.out
      simp only [Value.slice.injEq, true_and] at hzz
      obtain ⟨rfl, rfl⟩ := hzz
      obtain ⟨q1, q2, _, _⟩ := hcx j hjt
      obtain rfl := hax (by omega)
      obtain ⟨⟨g1, g2, g3, g4⟩, _⟩ := (hg.2.1 v hv).2 j hjt
      obtain ⟨en, hen⟩ := Int.eq_ofNat_of_zero_le g1
      obtain ⟨ep, hep⟩ := Int.eq_ofNat_of_zero_le g3
      rw [hen] at q1 g2 g4
      rw [hep] at q2 g4
      rw [Int.toNat_natCast] at g4
      have g2' : en < N.ends.length := by omega
      have g4' : ep < (gr N.ends en).length := by omega
      have HNAj : Hid (st j = true → ∀ w' : World, Ext w w' → Calls Try.prog 160 #[_, .int .i64 en] w' fun e w'' => e = .returned (.int .i64 (nn j)) ∧ Ext w' w'') := fun hs w' hw => by have := HNA.out w' j hw hjt hs; rwa [hen] at this
      have HPBj : Hid (st j = true → ∀ w' : World, Ext w w' → Calls Try.prog 166 #[_, .agg #[.int .i64 en, .int .i64 ep]] w' fun e w'' => e = .returned (.int .i64 (pp j)) ∧ Ext w' w'') := fun hs w' hw => by have := HPB.out w' j hw hjt hs; rwa [hen, hep] at this
      have E0 := Lib.hid (HX.out.trans' K1.out)
      have r1 := (E0.out.trans' Hs.out.1).cell' q1
      have r2 := (E0.out.trans' Hs.out.1).cell' q2
      have hsz := Hs.out.2.1
      have k1sz := K1.out.size
      have hxa := ((Ext.rfl' wr).alloc' (.cells #[.int .i64 en, .int .i64 ep] 66)).alloc' (.cells #[.int .i64 v, .int .i64 j] 66)
      obtain ⟨d0, d1, d2, d3, d4, d5, d6, y1, _⟩ := HS.out _ (K1.out.trans' (Hs.out.1.trans' hxa))
      have e0 : ((wr.alloc (.cells #[.int .i64 en, .int .i64 ep] 66)).alloc (.cells #[.int .i64 v, .int .i64 j] 66)).cell? ⟨wr.heap.size, 0, none⟩ = some (.int .i64 en) := by simp
      have e1 : ((wr.alloc (.cells #[.int .i64 en, .int .i64 ep] 66)).alloc (.cells #[.int .i64 v, .int .i64 j] 66)).cell? ⟨wr.heap.size, 1, none⟩ = some (.int .i64 ep) := by simp
      have e2 : ((wr.alloc (.cells #[.int .i64 en, .int .i64 ep] 66)).alloc (.cells #[.int .i64 v, .int .i64 j] 66)).cell? ⟨wr.heap.size + 1, 0, none⟩ = some (.int .i64 v) := by simp
      have e3 : ((wr.alloc (.cells #[.int .i64 en, .int .i64 ep] 66)).alloc (.cells #[.int .i64 v, .int .i64 j] 66)).cell? ⟨wr.heap.size + 1, 1, none⟩ = some (.int .i64 j) := by simp
      have A2 := Lib.hid (Hs.out.1.trans' hxa)
      have RW := Lib.hid (row_ext Hs.out.2.2 hxa)
      clear hcx hax hxa q1 q2
      by_cases hsj : st j = true
      · obtain ⟨hpm, hps⟩ := PL.out.goes j hjt hsj
        go_wp2_with (go_at_call 165; (with_reducible refine (HST.out _ j (E0.out.trans' A2.out) hjt).mono ?_); rintro e w2 ⟨rfl, hw2⟩; rw [hsj]; have HW2 := Lib.hid hw2; clear hw2)
        have far : ∀ (w' : World) (q : Addr) (i i' : Nat) (z z' : Value), q.block ≠ w1.heap.size → ((w'.setCell ⟨w1.heap.size, i, none⟩ z).setCell ⟨w1.heap.size, i', none⟩ z').cell? q = w'.cell? q := fun w' q i i' z z' hq => by
          rw [World.cell?_setCell_far _ _ _ _ (Ne.symm hq), World.cell?_setCell_far _ _ _ _ (Ne.symm hq)]
        have mk0 : ∀ w', Ext w2 w' → w'.cell? ⟨w.heap.size, 0, none⟩ = some (.int .i64 kk) ∧ w'.cell? ⟨w.heap.size, 1, none⟩ = some (.slice (some ⟨b, o, none⟩) N.ends.length cc) ∧ w'.cell? ⟨w.heap.size, 2, none⟩ = some v1 ∧ w'.cell? ⟨w.heap.size, 3, none⟩ = some v2 ∧ w'.cell? ⟨w.heap.size, 4, none⟩ = some (.int .i64 x) ∧ w'.cell? ⟨w.heap.size, 5, none⟩ = some (.int .i64 y) ∧ w'.cell? ⟨w.heap.size, 6, none⟩ = some v3 ∧ w'.cell? ⟨wr.heap.size, 0, none⟩ = some (.int .i64 en) ∧ w'.cell? ⟨wr.heap.size, 1, none⟩ = some (.int .i64 ep) ∧ w'.cell? ⟨wr.heap.size + 1, 0, none⟩ = some (.int .i64 v) ∧ w'.cell? ⟨wr.heap.size + 1, 1, none⟩ = some (.int .i64 j) := fun w' h => ⟨(h.cell' (HW2.out.cell' d0)), (h.cell' (HW2.out.cell' d1)), (h.cell' (HW2.out.cell' d2)), (h.cell' (HW2.out.cell' d3)), (h.cell' (HW2.out.cell' d4)), (h.cell' (HW2.out.cell' d5)), (h.cell' (HW2.out.cell' d6)), (h.cell' (HW2.out.cell' e0)), (h.cell' (HW2.out.cell' e1)), (h.cell' (HW2.out.cell' e2)), (h.cell' (HW2.out.cell' e3))⟩
        have mk1 : ∀ (w' : World) (i i' : Nat) (z z' : Value), (w'.cell? ⟨w.heap.size, 0, none⟩ = some (.int .i64 kk) ∧ w'.cell? ⟨w.heap.size, 1, none⟩ = some (.slice (some ⟨b, o, none⟩) N.ends.length cc) ∧ w'.cell? ⟨w.heap.size, 2, none⟩ = some v1 ∧ w'.cell? ⟨w.heap.size, 3, none⟩ = some v2 ∧ w'.cell? ⟨w.heap.size, 4, none⟩ = some (.int .i64 x) ∧ w'.cell? ⟨w.heap.size, 5, none⟩ = some (.int .i64 y) ∧ w'.cell? ⟨w.heap.size, 6, none⟩ = some v3 ∧ w'.cell? ⟨wr.heap.size, 0, none⟩ = some (.int .i64 en) ∧ w'.cell? ⟨wr.heap.size, 1, none⟩ = some (.int .i64 ep) ∧ w'.cell? ⟨wr.heap.size + 1, 0, none⟩ = some (.int .i64 v) ∧ w'.cell? ⟨wr.heap.size + 1, 1, none⟩ = some (.int .i64 j)) → ((w'.setCell ⟨w1.heap.size, i, none⟩ z).setCell ⟨w1.heap.size, i', none⟩ z').cell? ⟨w.heap.size, 0, none⟩ = some (.int .i64 kk) ∧ ((w'.setCell ⟨w1.heap.size, i, none⟩ z).setCell ⟨w1.heap.size, i', none⟩ z').cell? ⟨w.heap.size, 1, none⟩ = some (.slice (some ⟨b, o, none⟩) N.ends.length cc) ∧ ((w'.setCell ⟨w1.heap.size, i, none⟩ z).setCell ⟨w1.heap.size, i', none⟩ z').cell? ⟨w.heap.size, 2, none⟩ = some v1 ∧ ((w'.setCell ⟨w1.heap.size, i, none⟩ z).setCell ⟨w1.heap.size, i', none⟩ z').cell? ⟨w.heap.size, 3, none⟩ = some v2 ∧ ((w'.setCell ⟨w1.heap.size, i, none⟩ z).setCell ⟨w1.heap.size, i', none⟩ z').cell? ⟨w.heap.size, 4, none⟩ = some (.int .i64 x) ∧ ((w'.setCell ⟨w1.heap.size, i, none⟩ z).setCell ⟨w1.heap.size, i', none⟩ z').cell? ⟨w.heap.size, 5, none⟩ = some (.int .i64 y) ∧ ((w'.setCell ⟨w1.heap.size, i, none⟩ z).setCell ⟨w1.heap.size, i', none⟩ z').cell? ⟨w.heap.size, 6, none⟩ = some v3 ∧ ((w'.setCell ⟨w1.heap.size, i, none⟩ z).setCell ⟨w1.heap.size, i', none⟩ z').cell? ⟨wr.heap.size, 0, none⟩ = some (.int .i64 en) ∧ ((w'.setCell ⟨w1.heap.size, i, none⟩ z).setCell ⟨w1.heap.size, i', none⟩ z').cell? ⟨wr.heap.size, 1, none⟩ = some (.int .i64 ep) ∧ ((w'.setCell ⟨w1.heap.size, i, none⟩ z).setCell ⟨w1.heap.size, i', none⟩ z').cell? ⟨wr.heap.size + 1, 0, none⟩ = some (.int .i64 v) ∧ ((w'.setCell ⟨w1.heap.size, i, none⟩ z).setCell ⟨w1.heap.size, i', none⟩ z').cell? ⟨wr.heap.size + 1, 1, none⟩ = some (.int .i64 j) := fun w' i i' z z' ⟨a0, a1, a2, a3, a4, a5, a6, a7, a8, a9, a10⟩ => ⟨(far _ _ _ _ _ _ (by show w.heap.size ≠ _; omega)).trans a0, (far _ _ _ _ _ _ (by show w.heap.size ≠ _; omega)).trans a1, (far _ _ _ _ _ _ (by show w.heap.size ≠ _; omega)).trans a2, (far _ _ _ _ _ _ (by show w.heap.size ≠ _; omega)).trans a3, (far _ _ _ _ _ _ (by show w.heap.size ≠ _; omega)).trans a4, (far _ _ _ _ _ _ (by show w.heap.size ≠ _; omega)).trans a5, (far _ _ _ _ _ _ (by show w.heap.size ≠ _; omega)).trans a6, (far _ _ _ _ _ _ (by show wr.heap.size ≠ _; omega)).trans a7, (far _ _ _ _ _ _ (by show wr.heap.size ≠ _; omega)).trans a8, (far _ _ _ _ _ _ (by show wr.heap.size + 1 ≠ _; omega)).trans a9, (far _ _ _ _ _ _ (by show wr.heap.size + 1 ≠ _; omega)).trans a10⟩
        have XD : Hid (Ext w2 w2.drew) := (Ext.rfl' w2).drew'
        have RD : Hid (w2.drew.rowIs w1.heap.size 66 (m * 2) (efill src (planRow m src nn pp) j)) := row_ext (row_ext RW.out HW2.out) (Ext.rfl' w2).drew'
        have E2 := Lib.hid (E0.out.trans' (A2.out.trans' HW2.out))
        have hj2 : pos j * 2 + 1 < m * 2 := by omega
        clear d0 d1 d2 d3 d4 d5 d6 e0 e1 e2 e3 r1 r2 y1 far
        go_region_held3 (fun w' => w'.cell? ⟨w.heap.size, 0, none⟩ = some (.int .i64 kk) ∧ w'.cell? ⟨w.heap.size, 1, none⟩ = some (.slice (some ⟨b, o, none⟩) N.ends.length cc) ∧ w'.cell? ⟨w.heap.size, 2, none⟩ = some v1 ∧ w'.cell? ⟨w.heap.size, 3, none⟩ = some v2 ∧ w'.cell? ⟨w.heap.size, 4, none⟩ = some (.int .i64 x) ∧ w'.cell? ⟨w.heap.size, 5, none⟩ = some (.int .i64 y) ∧ w'.cell? ⟨w.heap.size, 6, none⟩ = some v3 ∧ w'.cell? ⟨wr.heap.size, 0, none⟩ = some (.int .i64 en) ∧ w'.cell? ⟨wr.heap.size, 1, none⟩ = some (.int .i64 ep) ∧ w'.cell? ⟨wr.heap.size + 1, 0, none⟩ = some (.int .i64 v) ∧ w'.cell? ⟨wr.heap.size + 1, 1, none⟩ = some (.int .i64 j))
          (first | exact mk0 _ (Hid.out ‹Hid (Ext w2 _)›) | exact mk1 _ _ _ _ _ (mk0 _ (Hid.out ‹Hid (Ext w2 _)›)) | fail)
          (first
            | (go_at_call 166; (with_reducible refine (HPA.out _ j (E2.out.trans' (Hid.out ‹Hid (Ext w2 _)›)) hjt hsj).mono ?_); rintro e wa ⟨rfl, hw⟩; have XA := Lib.hid (Ext.trans' (Hid.out ‹Hid (Ext w2 _)›) hw); have RA := Lib.hid (row_ext (Hid.out ‹Hid (World.rowIs _ _ 66 _ _)›) hw); clear hw)
            | (go_at_call 160; (with_reducible refine (HNAj.out hsj _ (E2.out.trans' (Hid.out ‹Hid (Ext w2 _)›))).mono ?_); rintro e wb ⟨rfl, hw⟩; have XB := Lib.hid (Ext.trans' (Hid.out ‹Hid (Ext w2 _)›) hw); have RB := Lib.hid (row_ext (Hid.out ‹Hid (World.rowIs _ _ 66 _ _)›) hw); clear hw)
            | (go_at_call 166; (with_reducible refine (HPBj.out hsj _ (E2.out.trans' (Hid.out ‹Hid (Ext w2 _)›))).mono ?_); rintro e wc ⟨rfl, hw⟩; have XC := Lib.hid (Ext.trans' (Hid.out ‹Hid (Ext w2 _)›) hw); have RC := Lib.hid (row_ext (Hid.out ‹Hid (World.rowIs _ _ 66 _ _)›) hw); obtain ⟨f1, f2, f3, f4⟩ := row_two RC.out hj2; clear hw)
            | fail)
        have HST2 := Lib.hid (plan_step PL.out hjt hsj RC.out)
        have XST := Lib.hid ((((A2.out.trans' HW2.out).trans' XC.out).store (p := ⟨w1.heap.size, pos j * 2, none⟩) (Nat.le_refl _) (.int .i64 (nn j))).store (p := ⟨w1.heap.size, pos j * 2 + 1, none⟩) (Nat.le_refl _) (.int .i64 (pp j)))
        clear f1 f2 f3 f4
        go_wp2
        go_roundg ((gr N.ends v).length - (j + 1))
        case measure => omega
        case rel => exact ⟨j + 1, by omega, rfl, by go_num, XST.out, HST2.out.lt, HST2.out⟩
      · have hsf : st j = false := by simpa using hsj
        clear hsj
        go_wp2_with (go_at_call 165; (with_reducible refine (HST.out _ j (E0.out.trans' A2.out) hjt).mono ?_); rintro e w2 ⟨rfl, hw2⟩; rw [hsf]; have HW2 := Lib.hid hw2; clear hw2)
        have R2 := Lib.hid (plan_skip PL.out hsf (row_ext RW.out HW2.out))
        go_roundg ((gr N.ends v).length - (j + 1))
        case measure => omega
        case rel => exact ⟨j + 1, by omega, rfl, by go_num, A2.out.trans' HW2.out, R2.out.lt, R2.out⟩
    · obtain rfl : j = (gr N.ends v).length := by omega
      go_wp2
      go_ret
      exact ⟨_, [w1.heap.size], rfl, HX.out.trans' (K1.out.trans' Hs.out.1), ⟨by rw [length_planRow]; exact own_made Hs.out.2.2 (by unfold maxLen; omega) (fun i hi => efill_all PL.out hi), plan_range PL.out HRR.out⟩, ⟨by simp, fun b hb => by have := HX.out.size; have := K1.out.size; simp at hb; omega⟩⟩
end Go.Proofs.Ytkeiaahlifdbiaa

