/- The program's join, where the edges lie in memory that is younger than the network. -/
import Derived.Test.YtdcgpodjoalokaaKg
namespace Go.Proofs.Ytdcgpodjoalokaa
open Go.RowKit

set_option maxHeartbeats 3200000 in
set_option maxRecDepth 100000 in
theorem join2_any {w : World} {v0 v1 v2 ve : Value} {N : Net} {bs : List Nat} {E : List (Int × Int)} (m : Nat) (hm : E.length = 2 * m) (h : OwnNet w (.agg #[v0, v1, v2]) N bs) (hnd : bs.Nodup) (hE : FlatSl w ve m E) (hfar : ∀ b o n c, ve = .slice (some ⟨b, o, none⟩) n c → b ∉ bs) (hp : PortsOK N E) :
    Calls Try.prog 118 #[.agg #[v0, v1, v2], ve] w fun e w' => e = .returned (.tuple #[]) ∧ Chg w w' bs ∧ OwnNet w' (.agg #[v0, v1, v2]) (linkTo N E m) bs := by
  obtain ⟨a0, c0, a1, c1, a2, c2, hagg⟩ := h.agg
  obtain ⟨rfl, rfl, rfl⟩ : v0 = .slice a0 N.ends.length c0 ∧ v1 = .slice a1 N.ids.length c1 ∧ v2 = .slice a2 N.inputs.length c2 := by simpa using hagg
  have HO := Lib.hid h
  have HND := Lib.hid hnd
  have HP := Lib.hid hp
  have HM := Lib.hid hm
  have HF := Lib.hid hfar
  obtain ⟨a, b, o, c, rfl, ha, hl, hmx, hc⟩ := hE
  unfold maxLen at hmx
  have Hc := Lib.hid hc
  have Ha := Lib.hid ha
  have HLT := Lib.hid h.lt
  clear hc ha hp h hnd hm hagg hfar
  have HX := Lib.hid ((Ext.rfl' w).alloc' (.cells #[.slice a0 N.ends.length c0, .slice a1 N.ids.length c1, .slice a2 N.inputs.length c2] 43))
  have HB := Lib.hid (row3_made w (.slice a0 N.ends.length c0) (.slice a1 N.ids.length c1) (.slice a2 N.inputs.length c2) 43)
  go_enter Try.func118, Try.ntmps118
  go_wp2_with fail
  go_loopg [8] m (fun g i wr => ∃ k : Nat, k ≤ m ∧ g = m - k ∧ i = .int .i64 k ∧ Hid (Chg (w.alloc (.cells #[.slice a0 N.ends.length c0, .slice a1 N.ids.length c1, .slice a2 N.inputs.length c2] 43)) wr bs ∧ OwnNet wr (.agg #[.slice a0 N.ends.length c0, .slice a1 N.ids.length c1, .slice a2 N.inputs.length c2]) (linkTo N E k) bs))
  case atStart => exact ⟨0, Nat.zero_le _, rfl, rfl, Chg.rfl' _ _, HO.out.ext HX.out⟩
  case round =>
    obtain ⟨k, hk, rfl, rfl, Hr⟩ := hrel
    by_cases hlt : k < m
    · obtain ⟨y1, y2, y3, y4⟩ := Hc.out (2 * k) (by have := HM.out; omega)
      obtain ⟨z1, z2, z3, z4⟩ := Hc.out (2 * k + 1) (by have := HM.out; omega)
      obtain rfl := Ha.out (by omega)
      obtain ⟨g1, g2, g3, g4⟩ := HP.out (2 * k) (by have := HM.out; omega)
      obtain ⟨f1, f2, f3, f4⟩ := HP.out (2 * k + 1) (by have := HM.out; omega)
      obtain ⟨pu, hpu⟩ := Int.eq_ofNat_of_zero_le g1
      obtain ⟨pj, hpj⟩ := Int.eq_ofNat_of_zero_le g3
      obtain ⟨qu, hqu⟩ := Int.eq_ofNat_of_zero_le f1
      obtain ⟨qj, hqj⟩ := Int.eq_ofNat_of_zero_le f3
      rw [hpu] at y1 y3 g2 g4
      rw [hpj] at y2 y4 g4
      rw [hqu] at z1 z3 f2 f4
      rw [hqj] at z2 z4 f4
      rw [Int.toNat_natCast] at g4 f4
      have g2' : pu < N.ends.length := by omega
      have f2' : qu < N.ends.length := by omega
      have g4' : pj < (gr N.ends pu).length := by omega
      have f4' : qj < (gr N.ends qu).length := by omega
      have hlen := linkTo_len N E k
      have eL : linkTo N E (k + 1) = setEnd (setEnd (linkTo N E k) pu pj ((qu : Int), (qj : Int))) qu qj ((pu : Int), (pj : Int)) := by
        rw [linkTo, linkNet, ge, ge, hpu, hpj, hqu, hqj]
        simp only [Int.toNat_natCast]
      have EL := Lib.hid eL
      have KB : ∀ i, wr.cell? ⟨b, i, none⟩ = w.cell? ⟨b, i, none⟩ := fun i => by
        have hlt := World.block_lt_of_cell? _ _ y1
        rw [World.cell?_of_block (w := w.alloc _) (Hr.out.1.block b (by have := HX.out.size; simp at hlt ⊢; omega) (HF.out b o m c rfl))]
        exact World.cell?_of_block (HX.out.block b hlt)
      have q1 : wr.cell? ⟨b, o + k * 4, none⟩ = some (.int .i64 pu) := by rw [KB, ← y1]; congr 2; omega
      have q2 : wr.cell? ⟨b, o + k * 4 + 1, none⟩ = some (.int .i64 pj) := by rw [KB, ← y2]; congr 2; omega
      have q3 : wr.cell? ⟨b, o + k * 4 + 2, none⟩ = some (.int .i64 qu) := by rw [KB, ← z1]; congr 2; omega
      have q4 : wr.cell? ⟨b, o + k * 4 + 3, none⟩ = some (.int .i64 qj) := by rw [KB, ← z2]; congr 2; omega
      have BX : Hid (wr.rowIs w.heap.size 43 3 (tri (.slice a0 N.ends.length c0) (.slice a1 N.ids.length c1) (.slice a2 N.inputs.length c2))) := HB.out.of_block (Hr.out.1.block _ HB.out.lt (fun hb => absurd (HLT.out _ hb) (by omega)))
      have hwsz : w.heap.size < wr.heap.size := BX.out.lt
      have hxe := (Ext.rfl' wr).alloc' (.cells #[.int .i64 (pu : Int), .int .i64 (pj : Int), .int .i64 (qu : Int), .int .i64 (qj : Int)] 124)
      obtain ⟨b0, c', r, d, hv, hrow, hr, htwo, hput⟩ := (Hr.out.2.ext hxe).putEnd HND.out (u := pu) (j := pj) (by omega) (by rw [linkTo_row]; exact g4')
      obtain ⟨rfl, rfl⟩ : a0 = some ⟨b0, 0, none⟩ ∧ c0 = c' := by simp at hv; exact ⟨hv.1, hv.2.2⟩
      rw [linkTo_row] at hrow
      have M1 := Lib.hid ((hput ((qu : Int), (qj : Int)) z3 z4).ext (Ext.rfl' _).drew')
      have hrw : r < w.heap.size := HLT.out r hr
      have C1 : Hid (Chg (w.alloc (.cells #[.slice (some ⟨b0, 0, none⟩) N.ends.length c0, .slice a1 N.ids.length c1, .slice a2 N.inputs.length c2] 43)) (set2 (wr.alloc (.cells #[.int .i64 (pu : Int), .int .i64 (pj : Int), .int .i64 (qu : Int), .int .i64 (qj : Int)] 124)) r pj ((qu : Int), (qj : Int))).drew bs) := ((Hr.out.1.trans' (Chg.of_ext hxe bs)).store (p := ⟨r, pj * 2, none⟩) hr _).store (p := ⟨r, pj * 2 + 1, none⟩) hr _ |>.trans' (Chg.of_ext (Ext.rfl' _).drew' bs)
      obtain ⟨p0, p1, p2, -, -, -⟩ := row3_facts (row_ext BX.out hxe)
      obtain ⟨t0, t1, t2, t3⟩ := htwo
      have e0 : (wr.alloc (.cells #[.int .i64 (pu : Int), .int .i64 (pj : Int), .int .i64 (qu : Int), .int .i64 (qj : Int)] 124)).cell? ⟨wr.heap.size, 0, none⟩ = some (.int .i64 pu) := by simp
      have e1 : (wr.alloc (.cells #[.int .i64 (pu : Int), .int .i64 (pj : Int), .int .i64 (qu : Int), .int .i64 (qj : Int)] 124)).cell? ⟨wr.heap.size, 1, none⟩ = some (.int .i64 pj) := by simp
      have e2 : (wr.alloc (.cells #[.int .i64 (pu : Int), .int .i64 (pj : Int), .int .i64 (qu : Int), .int .i64 (qj : Int)] 124)).cell? ⟨wr.heap.size, 2, none⟩ = some (.int .i64 qu) := by simp
      have e3 : (wr.alloc (.cells #[.int .i64 (pu : Int), .int .i64 (pj : Int), .int .i64 (qu : Int), .int .i64 (qj : Int)] 124)).cell? ⟨wr.heap.size, 3, none⟩ = some (.int .i64 qj) := by simp
      have far : ∀ i, (set2 (wr.alloc (.cells #[.int .i64 (pu : Int), .int .i64 (pj : Int), .int .i64 (qu : Int), .int .i64 (qj : Int)] 124)) r pj ((qu : Int), (qj : Int))).drew.cell? ⟨wr.heap.size, i, none⟩ = (wr.alloc (.cells #[.int .i64 (pu : Int), .int .i64 (pj : Int), .int .i64 (qu : Int), .int .i64 (qj : Int)] 124)).cell? ⟨wr.heap.size, i, none⟩ := fun i => by
        show (set2 (wr.alloc (.cells #[.int .i64 (pu : Int), .int .i64 (pj : Int), .int .i64 (qu : Int), .int .i64 (qj : Int)] 124)) r pj ((qu : Int), (qj : Int))).cell? ⟨wr.heap.size, i, none⟩ = _
        unfold set2
        rw [World.cell?_setCell_far _ _ _ _ (by show r ≠ wr.heap.size; omega), World.cell?_setCell_far _ _ _ _ (by show r ≠ wr.heap.size; omega)]
      have E0 := Lib.hid ((far 0).trans e0)
      have E1 := Lib.hid ((far 1).trans e1)
      have E2 := Lib.hid ((far 2).trans e2)
      have E3 := Lib.hid ((far 3).trans e3)
      have hBX2 : Hid ((set2 (wr.alloc (.cells #[.int .i64 (pu : Int), .int .i64 (pj : Int), .int .i64 (qu : Int), .int .i64 (qj : Int)] 124)) r pj ((qu : Int), (qj : Int))).drew.rowIs w.heap.size 43 3 (tri (.slice (some ⟨b0, 0, none⟩) N.ends.length c0) (.slice a1 N.ids.length c1) (.slice a2 N.inputs.length c2))) := (row_ext BX.out hxe).of_block (show (set2 _ r pj _).heap[w.heap.size]? = _ from set2_heap (by omega))
      have HZ := Lib.hid hwsz
      have HI := Lib.hid (And.intro y3 y4)
      clear KB hxe hv hput far y1 y2 y3 y4 z1 z2 z3 z4 g1 g3 f1 f3 hpu hpj hqu hqj eL
      go_upto_region 4 with fail
      go_region
      clear p0 p1 p2 t0 t1 t2 t3 e0 e1 e2 e3 q1 q2 q3 q4 hrow
      revert M1 C1 E0 E1 E2 E3 hBX2
      unfold set2
      generalize (((wr.alloc (.cells #[.int .i64 (pu : Int), .int .i64 (pj : Int), .int .i64 (qu : Int), .int .i64 (qj : Int)] 124)).setCell ⟨r, pj * 2, none⟩ (.int .i64 (qu : Int))).setCell ⟨r, pj * 2 + 1, none⟩ (.int .i64 (qj : Int))).drew = W2
      intro M1 C1 E0 E1 E2 E3 hBX2
      obtain ⟨b1, c'', r2, d2, hv, hrow, hr2, htwo, hput⟩ := M1.out.putEnd HND.out (u := qu) (j := qj) (by rw [setEnd_len]; omega) (by rw [setEnd_row, linkTo_row]; exact f4')
      obtain ⟨rfl, rfl⟩ : b0 = b1 ∧ c0 = c'' := by simp at hv; exact ⟨hv.1, hv.2.2⟩
      rw [setEnd_row, linkTo_row] at hrow
      have M2 : Hid (OwnNet ((W2.setCell ⟨r2, qj * 2, none⟩ (.int .i64 (pu : Int))).setCell ⟨r2, qj * 2 + 1, none⟩ (.int .i64 (pj : Int))).drew (.agg #[.slice (some ⟨b0, 0, none⟩) N.ends.length c0, .slice a1 N.ids.length c1, .slice a2 N.inputs.length c2]) (linkTo N E (k + 1)) bs) := by
        rw [EL.out]
        exact (hput ((pu : Int), (pj : Int)) HI.out.1 HI.out.2).ext (Ext.rfl' _).drew'
      have C2 := Lib.hid (((C1.out.store (p := ⟨r2, qj * 2, none⟩) hr2 (.int .i64 (pu : Int))).store (p := ⟨r2, qj * 2 + 1, none⟩) hr2 (.int .i64 (pj : Int))).trans' (Chg.of_ext (Ext.rfl' _).drew' bs))
      obtain ⟨p0, p1, p2, -, -, -⟩ := row3_facts hBX2.out
      obtain ⟨t0, t1, t2, t3⟩ := htwo
      have e0 := E0.out
      have e1 := E1.out
      have e2 := E2.out
      have e3 := E3.out
      clear hv hput
      go_upto_region 5 with fail
      go_region
      clear p0 p1 p2 t0 t1 t2 t3 e0 e1 e2 e3 hrow
      go_wp2
      go_roundg (m - (k + 1))
      case measure => omega
      case rel => exact ⟨k + 1, by omega, rfl, by go_num, C2.out, M2.out⟩
    · obtain rfl : k = m := by omega
      go_wp2
      refine bodyPost_end (results_none rfl _ _ _) rfl ?_
      exact ⟨rfl, ⟨Hr.out.1.os, Hr.out.1.tape, Hr.out.1.output, Nat.le_trans HX.out.size Hr.out.1.size, fun y hy hb => (Hr.out.1.block y (Nat.lt_of_lt_of_le hy HX.out.size) hb).trans (HX.out.block y hy)⟩, Hr.out.2⟩
end Go.Proofs.Ytdcgpodjoalokaa
