/- portsAfter for a change that renumbers the nodes. -/
import Derived.Test.YtkeiaahlifdbiaaCh2
namespace Go.Proofs.Ytkeiaahlifdbiaa
open Go.RowKit

/-- A row of ends that have other nodes. -/
def renRow (l : List Int) (r : List (Int × Int)) : List (Int × Int) := r.map fun p => (gi l p.1.toNat, p.2)
theorem length_renRow (l : List Int) (r : List (Int × Int)) : (renRow l r).length = r.length := by simp [renRow]
theorem gn_renRow (l : List Int) (r : List (Int × Int)) (i : Nat) (h : i < r.length) : gn (renRow l r) i = gi l (gn r i).toNat := by simp [gn, renRow, List.getD, h]
theorem gp_renRow (l : List Int) (r : List (Int × Int)) (i : Nat) (h : i < r.length) : gp (renRow l r) i = gp r i := by simp [gp, renRow, List.getD, h]

theorem renRow_range {N : Net} {l : List Int} (hg : Good N) {v : Nat} (hv : v < N.ends.length) (hll : l.length = N.ends.length) (hr : ∀ i, i < l.length → inI64 (gi l i)) :
    ∀ i, i < (renRow l (gr N.ends v)).length → inI64 (gn (renRow l (gr N.ends v)) i) ∧ inI64 (gp (renRow l (gr N.ends v)) i) := fun i hi => by
  rw [length_renRow] at hi
  obtain ⟨⟨g1, g2, g3, g4⟩, _⟩ := (hg.2.1 v hv).2 i hi
  have h6 := (hg.2.1 (gn (gr N.ends v) i).toNat (by omega)).1
  rw [gn_renRow _ _ _ hi, gp_renRow _ _ _ hi]
  refine ⟨hr _ (by omega), ?_⟩
  unfold inI64
  omega

set_option maxHeartbeats 1600000 in
set_option maxRecDepth 100000 in
theorem portsAfter2_any {w : World} {c : Value} {N : Net} {x y : Int} {l : List Int} (v : Nat) (h : ChgAt w c 2 N x y l) (hg : Good N) (hv : v < N.ends.length) (hll : l.length = N.ends.length) :
    Calls Try.prog 161 #[c, .int .i64 v] w fun e w' => ∃ v' bs, e = .returned v' ∧ Ext w w' ∧ OwnE w' v' (renRow l (gr N.ends v)) bs ∧ Fresh w bs := by
  have H := Lib.hid h
  obtain ⟨v0, v1, v2, v3, rfl, hN, hL⟩ := h
  have HL := Lib.hid hL.range
  clear hL
  obtain ⟨_, _, _, h0, hE, hI, hP⟩ := hN
  cases h0
  obtain ⟨a, b, o, cc, rfl, ha, hl, hm, hc⟩ := hE
  unfold maxLen at hm
  obtain ⟨z, hz, hz2⟩ := hc v hv
  have HZ := Lib.hid hz2
  obtain ⟨a', b', o', c', rfl, ha', hl', hm', hc'⟩ := hz2
  unfold maxLen at hm'
  obtain rfl := ha (by omega)
  have hX := (Ext.rfl' w).alloc' (.cells #[.int .i64 2, .slice (some ⟨b, o, none⟩) N.ends.length cc, v1, v2, .int .i64 x, .int .i64 y, v3] 119)
  have HX := Lib.hid hX
  have z1 := hX.cell' hz
  have HC := Lib.hid (chg_cells w 2 (.slice (some ⟨b, o, none⟩) N.ends.length cc) v1 v2 v3 x y)
  have hrow := length_renRow l (gr N.ends v)
  have h6 := (hg.2.1 v hv).1
  obtain ⟨i44, hj, hy0, hy1, hy2⟩ := info_parts Try.info44
  have I44 := Lib.hid (And.intro hj (And.intro hy0 (And.intro hy1 hy2)))
  clear hj hy0 hy1 hy2
  have hmk : ∀ z : World, (Instr.makeSlice 67 (.int .i64 ((gr N.ends v).length : Int)) (.int .i64 ((gr N.ends v).length : Int))).run Try.prog z =
      .ok (.slice (some ⟨z.heap.size, 0, none⟩) (gr N.ends v).length (gr N.ends v).length) (z.alloc (.cells (madeCells #[.int .i64 0, .int .i64 0] ((gr N.ends v).length * 2)) 66)) := fun z => by
    have h := run_make (P := Try.prog) z 67 66 i44 _ Try.underlying67 I44.out.1 I44.out.2.1 .i64 .i64 (gr N.ends v).length (gr N.ends v).length (by omega) (Int.le_refl _) (by rw [I44.out.2.2.2]; omega) (by omega)
    simpa [I44.out.2.2.1, Value.cells] using h
  clear hX hz hc ha' hc' hI hP
  obtain ⟨c0, c1, c2, c3, c4, c5, c6⟩ := HC.out
  go_enter Try.func161, Try.ntmps161
  go_wp2_with fail
  have hW0 : w.heap.size + 1 ≤ (w.alloc (.cells #[.int .i64 2, .slice (some ⟨b, o, none⟩) N.ends.length cc, v1, v2, .int .i64 x, .int .i64 y, v3] 119)).heap.size := by simp
  generalize w.alloc (.cells #[.int .i64 2, .slice (some ⟨b, o, none⟩) N.ends.length cc, v1, v2, .int .i64 x, .int .i64 y, v3] 119) = W0 at *
  have mkS : ∀ w', Ext W0 w' → w'.cell? ⟨w.heap.size, 0, none⟩ = some (.int .i64 2) ∧ w'.cell? ⟨w.heap.size, 1, none⟩ = some (.slice (some ⟨b, o, none⟩) N.ends.length cc) ∧ w'.cell? ⟨w.heap.size, 2, none⟩ = some v1 ∧ w'.cell? ⟨w.heap.size, 3, none⟩ = some v2 ∧ w'.cell? ⟨w.heap.size, 4, none⟩ = some (.int .i64 x) ∧ w'.cell? ⟨w.heap.size, 5, none⟩ = some (.int .i64 y) ∧ w'.cell? ⟨w.heap.size, 6, none⟩ = some v3 ∧ w'.cell? ⟨b, o + v, none⟩ = some (.slice a' (gr N.ends v).length c') ∧ Hid (Ext W0 w') := fun w' h => ⟨h.cell' c0, h.cell' c1, h.cell' c2, h.cell' c3, h.cell' c4, h.cell' c5, h.cell' c6, h.cell' z1, h⟩
  go_region_held3 (fun w' => w'.cell? ⟨w.heap.size, 0, none⟩ = some (.int .i64 2) ∧ w'.cell? ⟨w.heap.size, 1, none⟩ = some (.slice (some ⟨b, o, none⟩) N.ends.length cc) ∧ w'.cell? ⟨w.heap.size, 2, none⟩ = some v1 ∧ w'.cell? ⟨w.heap.size, 3, none⟩ = some v2 ∧ w'.cell? ⟨w.heap.size, 4, none⟩ = some (.int .i64 x) ∧ w'.cell? ⟨w.heap.size, 5, none⟩ = some (.int .i64 y) ∧ w'.cell? ⟨w.heap.size, 6, none⟩ = some v3 ∧ w'.cell? ⟨b, o + v, none⟩ = some (.slice a' (gr N.ends v).length c') ∧ Hid (Ext W0 w'))
      (first | exact mkS _ K1.out | exact mkS _ (Ext.alloc' K1.out _) | exact mkS _ (Ext.rfl' W0).drew' | exact mkS _ (Ext.rfl' W0) | fail)
      (first | (go_at_call 164; (with_reducible refine (stayingAll_any _ _ (H.out.ext (HX.out.drew')) rfl rfl hv (Nat.le_refl _) (by omega)).mono ?_); rintro e w1 ⟨rfl, hw⟩; have K1 := Lib.hid (Ext.trans' (Ext.rfl' W0).drew' hw)) | fail)
  obtain ⟨d0, d1, d2, d3, d4, d5, d6, y1, _⟩ := mkS _ (K1.out.alloc' (.cells (madeCells #[.int .i64 0, .int .i64 0] ((gr N.ends v).length * 2)) 66))
  have HS := Lib.hid mkS
  clear mkS c0 c1 c2 c3 c4 c5 c6 z1
  go_wp2_with fail
  clear d0 d1 d2 d3 d4 d5 d6 y1
  go_loopg [27] (gr N.ends v).length (fun g i wx => ∃ j : Nat, j ≤ (gr N.ends v).length ∧ g = (gr N.ends v).length - j ∧ i = .int .i64 j ∧ Hid (Ext w1 wx ∧ w1.heap.size + 1 ≤ wx.heap.size ∧ wx.rowIs w1.heap.size 66 ((gr N.ends v).length * 2) (ecopied (renRow l (gr N.ends v)) j)))
  case atStart => exact ⟨0, Nat.zero_le _, rfl, rfl, (Ext.rfl' _).alloc' _, by simp, (emade w1 _).congr fun i _ => by simp [ecopied]⟩
  case round =>
    obtain ⟨j, hj, rfl, rfl, Hs⟩ := hrel
    by_cases hjt : j < (gr N.ends v).length
    · obtain ⟨az, bz, oz, cz, hzz, hax, hlx, hmx, hcx⟩ := HZ.out
      simp only [Value.slice.injEq, true_and] at hzz
      obtain ⟨rfl, rfl⟩ := hzz
      obtain ⟨q1, q2, _, _⟩ := hcx j hjt
      obtain rfl := hax (by omega)
      obtain ⟨⟨g1, g2, g3, g4⟩, _⟩ := (hg.2.1 v hv).2 j hjt
      obtain ⟨en, hen⟩ := Int.eq_ofNat_of_zero_le g1
      obtain ⟨ep, hep⟩ := Int.eq_ofNat_of_zero_le g3
      rw [hen] at q1 g2 g4
      rw [hep] at q2 g4
      rw [Int.toNat_natCast] at g4
      have g2' : en < N.ends.length := by omega
      have g4' : ep < (gr N.ends en).length := by omega
      have h6e := (hg.2.1 en g2').1
      have E0 := Lib.hid (HX.out.trans' K1.out)
      have r1 := (E0.out.trans' Hs.out.1).cell' q1
      have r2 := (E0.out.trans' Hs.out.1).cell' q2
      have hsz := Hs.out.2.1
      have k1sz := K1.out.size
      have hxa := ((Ext.rfl' wr).alloc' (.cells #[.int .i64 en, .int .i64 ep] 66)).alloc' (.cells #[.int .i64 v, .int .i64 j] 66)
      obtain ⟨d0, d1, d2, d3, d4, d5, d6, y1, _⟩ := HS.out _ (K1.out.trans' (Hs.out.1.trans' hxa))
      have e0 : ((wr.alloc (.cells #[.int .i64 en, .int .i64 ep] 66)).alloc (.cells #[.int .i64 v, .int .i64 j] 66)).cell? ⟨wr.heap.size, 0, none⟩ = some (.int .i64 en) := by simp
      have e1 : ((wr.alloc (.cells #[.int .i64 en, .int .i64 ep] 66)).alloc (.cells #[.int .i64 v, .int .i64 j] 66)).cell? ⟨wr.heap.size, 1, none⟩ = some (.int .i64 ep) := by simp
      have e2 : ((wr.alloc (.cells #[.int .i64 en, .int .i64 ep] 66)).alloc (.cells #[.int .i64 v, .int .i64 j] 66)).cell? ⟨wr.heap.size + 1, 0, none⟩ = some (.int .i64 v) := by simp
      have e3 : ((wr.alloc (.cells #[.int .i64 en, .int .i64 ep] 66)).alloc (.cells #[.int .i64 v, .int .i64 j] 66)).cell? ⟨wr.heap.size + 1, 1, none⟩ = some (.int .i64 j) := by simp
      have A2 := Lib.hid (Hs.out.1.trans' hxa)
      have RW := Lib.hid (row_ext Hs.out.2.2 hxa)
      clear hcx hax hxa q1 q2
      go_wp2_with (go_at_call 165; (with_reducible refine (staysAll_any _ _ (H.out.ext (E0.out.trans' A2.out)) rfl rfl hv hjt).mono ?_); rintro e w2 ⟨rfl, hw2⟩; have HW2 := Lib.hid hw2; clear hw2)
      have far : ∀ (w' : World) (q : Addr) (i i' : Nat) (z z' : Value), q.block ≠ w1.heap.size → ((w'.setCell ⟨w1.heap.size, i, none⟩ z).setCell ⟨w1.heap.size, i', none⟩ z').cell? q = w'.cell? q := fun w' q i i' z z' hq => by
        rw [World.cell?_setCell_far _ _ _ _ (Ne.symm hq), World.cell?_setCell_far _ _ _ _ (Ne.symm hq)]
      have mk0 : ∀ w', Ext w2 w' → w'.cell? ⟨w.heap.size, 0, none⟩ = some (.int .i64 2) ∧ w'.cell? ⟨w.heap.size, 1, none⟩ = some (.slice (some ⟨b, o, none⟩) N.ends.length cc) ∧ w'.cell? ⟨w.heap.size, 2, none⟩ = some v1 ∧ w'.cell? ⟨w.heap.size, 3, none⟩ = some v2 ∧ w'.cell? ⟨w.heap.size, 4, none⟩ = some (.int .i64 x) ∧ w'.cell? ⟨w.heap.size, 5, none⟩ = some (.int .i64 y) ∧ w'.cell? ⟨w.heap.size, 6, none⟩ = some v3 ∧ w'.cell? ⟨wr.heap.size, 0, none⟩ = some (.int .i64 en) ∧ w'.cell? ⟨wr.heap.size, 1, none⟩ = some (.int .i64 ep) ∧ w'.cell? ⟨wr.heap.size + 1, 0, none⟩ = some (.int .i64 v) ∧ w'.cell? ⟨wr.heap.size + 1, 1, none⟩ = some (.int .i64 j) := fun w' h => ⟨(h.cell' (HW2.out.cell' d0)), (h.cell' (HW2.out.cell' d1)), (h.cell' (HW2.out.cell' d2)), (h.cell' (HW2.out.cell' d3)), (h.cell' (HW2.out.cell' d4)), (h.cell' (HW2.out.cell' d5)), (h.cell' (HW2.out.cell' d6)), (h.cell' (HW2.out.cell' e0)), (h.cell' (HW2.out.cell' e1)), (h.cell' (HW2.out.cell' e2)), (h.cell' (HW2.out.cell' e3))⟩
      have mk1 : ∀ (w' : World) (i i' : Nat) (z z' : Value), (w'.cell? ⟨w.heap.size, 0, none⟩ = some (.int .i64 2) ∧ w'.cell? ⟨w.heap.size, 1, none⟩ = some (.slice (some ⟨b, o, none⟩) N.ends.length cc) ∧ w'.cell? ⟨w.heap.size, 2, none⟩ = some v1 ∧ w'.cell? ⟨w.heap.size, 3, none⟩ = some v2 ∧ w'.cell? ⟨w.heap.size, 4, none⟩ = some (.int .i64 x) ∧ w'.cell? ⟨w.heap.size, 5, none⟩ = some (.int .i64 y) ∧ w'.cell? ⟨w.heap.size, 6, none⟩ = some v3 ∧ w'.cell? ⟨wr.heap.size, 0, none⟩ = some (.int .i64 en) ∧ w'.cell? ⟨wr.heap.size, 1, none⟩ = some (.int .i64 ep) ∧ w'.cell? ⟨wr.heap.size + 1, 0, none⟩ = some (.int .i64 v) ∧ w'.cell? ⟨wr.heap.size + 1, 1, none⟩ = some (.int .i64 j)) → ((w'.setCell ⟨w1.heap.size, i, none⟩ z).setCell ⟨w1.heap.size, i', none⟩ z').cell? ⟨w.heap.size, 0, none⟩ = some (.int .i64 2) ∧ ((w'.setCell ⟨w1.heap.size, i, none⟩ z).setCell ⟨w1.heap.size, i', none⟩ z').cell? ⟨w.heap.size, 1, none⟩ = some (.slice (some ⟨b, o, none⟩) N.ends.length cc) ∧ ((w'.setCell ⟨w1.heap.size, i, none⟩ z).setCell ⟨w1.heap.size, i', none⟩ z').cell? ⟨w.heap.size, 2, none⟩ = some v1 ∧ ((w'.setCell ⟨w1.heap.size, i, none⟩ z).setCell ⟨w1.heap.size, i', none⟩ z').cell? ⟨w.heap.size, 3, none⟩ = some v2 ∧ ((w'.setCell ⟨w1.heap.size, i, none⟩ z).setCell ⟨w1.heap.size, i', none⟩ z').cell? ⟨w.heap.size, 4, none⟩ = some (.int .i64 x) ∧ ((w'.setCell ⟨w1.heap.size, i, none⟩ z).setCell ⟨w1.heap.size, i', none⟩ z').cell? ⟨w.heap.size, 5, none⟩ = some (.int .i64 y) ∧ ((w'.setCell ⟨w1.heap.size, i, none⟩ z).setCell ⟨w1.heap.size, i', none⟩ z').cell? ⟨w.heap.size, 6, none⟩ = some v3 ∧ ((w'.setCell ⟨w1.heap.size, i, none⟩ z).setCell ⟨w1.heap.size, i', none⟩ z').cell? ⟨wr.heap.size, 0, none⟩ = some (.int .i64 en) ∧ ((w'.setCell ⟨w1.heap.size, i, none⟩ z).setCell ⟨w1.heap.size, i', none⟩ z').cell? ⟨wr.heap.size, 1, none⟩ = some (.int .i64 ep) ∧ ((w'.setCell ⟨w1.heap.size, i, none⟩ z).setCell ⟨w1.heap.size, i', none⟩ z').cell? ⟨wr.heap.size + 1, 0, none⟩ = some (.int .i64 v) ∧ ((w'.setCell ⟨w1.heap.size, i, none⟩ z).setCell ⟨w1.heap.size, i', none⟩ z').cell? ⟨wr.heap.size + 1, 1, none⟩ = some (.int .i64 j) := fun w' i i' z z' ⟨a0, a1, a2, a3, a4, a5, a6, a7, a8, a9, a10⟩ => ⟨(far _ _ _ _ _ _ (by show w.heap.size ≠ _; omega)).trans a0, (far _ _ _ _ _ _ (by show w.heap.size ≠ _; omega)).trans a1, (far _ _ _ _ _ _ (by show w.heap.size ≠ _; omega)).trans a2, (far _ _ _ _ _ _ (by show w.heap.size ≠ _; omega)).trans a3, (far _ _ _ _ _ _ (by show w.heap.size ≠ _; omega)).trans a4, (far _ _ _ _ _ _ (by show w.heap.size ≠ _; omega)).trans a5, (far _ _ _ _ _ _ (by show w.heap.size ≠ _; omega)).trans a6, (far _ _ _ _ _ _ (by show wr.heap.size ≠ _; omega)).trans a7, (far _ _ _ _ _ _ (by show wr.heap.size ≠ _; omega)).trans a8, (far _ _ _ _ _ _ (by show wr.heap.size + 1 ≠ _; omega)).trans a9, (far _ _ _ _ _ _ (by show wr.heap.size + 1 ≠ _; omega)).trans a10⟩
      have XD : Hid (Ext w2 w2.drew) := (Ext.rfl' w2).drew'
      have RD : Hid (w2.drew.rowIs w1.heap.size 66 ((gr N.ends v).length * 2) (ecopied (renRow l (gr N.ends v)) j)) := row_ext (row_ext RW.out HW2.out) (Ext.rfl' w2).drew'
      have E2 := Lib.hid (E0.out.trans' (A2.out.trans' HW2.out))
      have hj2 : j * 2 + 1 < (gr N.ends v).length * 2 := by omega
      clear d0 d1 d2 d3 d4 d5 d6 e0 e1 e2 e3 r1 r2 y1 far
      go_region_held3 (fun w' => w'.cell? ⟨w.heap.size, 0, none⟩ = some (.int .i64 2) ∧ w'.cell? ⟨w.heap.size, 1, none⟩ = some (.slice (some ⟨b, o, none⟩) N.ends.length cc) ∧ w'.cell? ⟨w.heap.size, 2, none⟩ = some v1 ∧ w'.cell? ⟨w.heap.size, 3, none⟩ = some v2 ∧ w'.cell? ⟨w.heap.size, 4, none⟩ = some (.int .i64 x) ∧ w'.cell? ⟨w.heap.size, 5, none⟩ = some (.int .i64 y) ∧ w'.cell? ⟨w.heap.size, 6, none⟩ = some v3 ∧ w'.cell? ⟨wr.heap.size, 0, none⟩ = some (.int .i64 en) ∧ w'.cell? ⟨wr.heap.size, 1, none⟩ = some (.int .i64 ep) ∧ w'.cell? ⟨wr.heap.size + 1, 0, none⟩ = some (.int .i64 v) ∧ w'.cell? ⟨wr.heap.size + 1, 1, none⟩ = some (.int .i64 j))
        (first | exact mk0 _ (Hid.out ‹Hid (Ext w2 _)›) | exact mk1 _ _ _ _ _ (mk0 _ (Hid.out ‹Hid (Ext w2 _)›)) | fail)
        (first
          | (go_at_call 166; (with_reducible refine (portAfter2_any v j (H.out.ext (E2.out.trans' (Hid.out ‹Hid (Ext w2 _)›))) hv hjt (by omega)).mono ?_); rintro e wa ⟨rfl, hw⟩; have XA := Lib.hid (Ext.trans' (Hid.out ‹Hid (Ext w2 _)›) hw); have RA := Lib.hid (row_ext (Hid.out ‹Hid (World.rowIs _ _ 66 _ _)›) hw); clear hw)
          | (go_at_call 160; (with_reducible refine (nodeAfter2_any en (H.out.ext (E2.out.trans' (Hid.out ‹Hid (Ext w2 _)›))) (by omega)).mono ?_); rintro e wb ⟨rfl, hw⟩; have XB := Lib.hid (Ext.trans' (Hid.out ‹Hid (Ext w2 _)›) hw); have RB := Lib.hid (row_ext (Hid.out ‹Hid (World.rowIs _ _ 66 _ _)›) hw); clear hw)
          | (go_at_call 166; (with_reducible refine (portAfter2_any en ep (H.out.ext (E2.out.trans' (Hid.out ‹Hid (Ext w2 _)›))) g2' g4' (by omega)).mono ?_); rintro e wc ⟨rfl, hw⟩; have XC := Lib.hid (Ext.trans' (Hid.out ‹Hid (Ext w2 _)›) hw); have RC := Lib.hid (row_ext (Hid.out ‹Hid (World.rowIs _ _ 66 _ _)›) hw); obtain ⟨f1, f2, f3, f4⟩ := row_two RC.out hj2; clear hw)
          | fail)
      have hst := ecopied_step RC.out
      rw [gn_renRow _ _ _ hjt, gp_renRow _ _ _ hjt, hen, hep, Int.toNat_natCast] at hst
      have HST := Lib.hid hst
      have XST := Lib.hid ((((A2.out.trans' HW2.out).trans' XC.out).store (p := ⟨w1.heap.size, j * 2, none⟩) (Nat.le_refl _) (.int .i64 (gi l en))).store (p := ⟨w1.heap.size, j * 2 + 1, none⟩) (Nat.le_refl _) (.int .i64 ep))
      clear hst f1 f2 f3 f4
      go_wp2
      go_roundg ((gr N.ends v).length - (j + 1))
      case measure => omega
      case rel => exact ⟨j + 1, by omega, rfl, by go_num, XST.out, HST.out.lt, HST.out⟩
    · obtain rfl : j = (gr N.ends v).length := by omega
      go_wp2
      go_ret
      exact ⟨_, [w1.heap.size], rfl, HX.out.trans' (K1.out.trans' Hs.out.1), ⟨by rw [hrow]; exact own_made Hs.out.2.2 (by unfold maxLen; omega) (fun i hi => by simp [ecopied]; omega), renRow_range hg hv hll HL.out⟩, ⟨by simp, fun b hb => by have := HX.out.size; have := K1.out.size; simp at hb; omega⟩⟩
end Go.Proofs.Ytkeiaahlifdbiaa
