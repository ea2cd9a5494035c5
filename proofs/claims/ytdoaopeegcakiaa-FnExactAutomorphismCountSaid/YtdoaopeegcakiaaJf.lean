/- The contracts of the model's isCode and isFrom. -/
import Derived.Test.YtdoaopeegcakiaaJe
namespace Go.Proofs.Ytdoaopeegcakiaa
open Go.RowKit

/-- The places of the first k nodes of a list, by nodes. -/
def numS (L : List Int) (k : Nat) (i : Nat) : Value := .int .i64 (if (i : Int) ∈ L.take k then ixI L i else 0)
theorem take_succ_mem {L : List Int} {k : Nat} (hk : k < L.length) (x : Int) : x ∈ L.take (k + 1) ↔ x ∈ L.take k ∨ x = gi L k := by
  rw [List.take_add_one, List.mem_append]
  simp [gi, hk]
theorem numS_step {w : World} {b n k y : Nat} {L : List Int} (hn : L.Nodup) (hk : k < L.length) (hy : gi L k = (y : Int)) (h : w.rowIs b 3 n (numS L k)) : (w.setCell ⟨b, y, none⟩ (.int .i64 k)).rowIs b 3 n (numS L (k + 1)) :=
  (h.set y _).congr fun i _ => by
    by_cases e : i = y
    · subst e
      rw [if_pos rfl]
      have h1 : (i : Int) ∈ L.take (k + 1) := (take_succ_mem hk _).2 (.inr hy.symm)
      have h2 : ixI L (i : Int) = (k : Int) := by unfold ixI; rw [← hy, idx_gi hn hk]
      simp only [numS]; rw [if_pos h1, h2]
    · rw [if_neg e]
      have h1 : ((i : Int) ∈ L.take (k + 1)) ↔ (i : Int) ∈ L.take k := by
        rw [take_succ_mem hk]
        exact ⟨fun h => h.elim id fun h => absurd (h.trans hy) (by omega), .inl⟩
      simp only [numS, h1]
theorem numS_full {L : List Int} {y : Nat} (h : (y : Int) ∈ L) : numS L L.length y = .int .i64 (ixI L y) := by
  unfold numS; rw [List.take_length, if_pos h]

set_option maxHeartbeats 6400000 in
set_option maxRecDepth 100000 in
theorem isCode_any {w : World} {v vl : Value} {N : Net} {L : List Int} (h : NetAt w v N) (hl : IntSl w vl L) (hG : GoodW N) (hL : WkOK N L) :
    Calls Try.prog 79 #[v, vl] w fun e w' => ∃ v' bs, e = .returned v' ∧ Ext w w' ∧ OwnI w' v' (cd N L) bs ∧ Fresh w bs := by
  have HG := Lib.hid hG
  have HL := Lib.hid hL
  have h40 := hG.most
  have hil := hG.ilen
  have hll := hL.len
  have HI := Lib.hid hl
  clear hG hL
  obtain ⟨v0, v1, v2, rfl, hE, hI, hP⟩ := h
  obtain ⟨ea, eb, eo, ec, rfl, hea, hel, hem, hec⟩ := hE
  obtain ⟨da, db, dof, dc, rfl, hda, hdl, hdm, hdc⟩ := hI
  obtain ⟨pa, pb, po, pc, rfl, hpa, hpl, hpm, hpc⟩ := hP
  obtain ⟨la, lb, lo, lc, rfl, hla, hlcap, hlm, hlc⟩ := hl
  unfold maxLen at hem hdm hpm hlm
  obtain rfl := hea (by have := HG.out.one; omega)
  obtain rfl := hpa (by have := HG.out.one; omega)
  have HEC := Lib.hid hec
  have HDC := Lib.hid hdc
  have HDA := Lib.hid hda
  have HPC := Lib.hid hpc
  have HLC := Lib.hid hlc
  have HLA := Lib.hid hla
  clear hec hdc hda hpc hlc hla hea hpa
  obtain ⟨i0, hi, hz0, hz1, hz2⟩ := info_parts Try.info3
  have I0 := Lib.hid (And.intro hi (And.intro hz0 (And.intro hz1 hz2)))
  clear hi hz0 hz1 hz2
  obtain ⟨n, hnn⟩ : ∃ n, n = N.ends.length := ⟨_, rfl⟩
  have HNN := Lib.hid hnn
  rw [← hnn] at h40 hil hll hel ⊢
  clear hnn
  have HIL := Lib.hid hil
  clear hil
  obtain ⟨WB, hWB⟩ : ∃ WB, WB = w.alloc (.cells #[.slice (some ⟨eb, eo, none⟩) n ec, .slice da N.ids.length dc, .slice (some ⟨pb, po, none⟩) N.inputs.length pc] 31) := ⟨_, rfl⟩
  have EB := Lib.hid (show Ext w WB by rw [hWB]; exact boxed_ext _ _ _ _ _)
  have RB := Lib.hid (show WB.rowIs w.heap.size 31 3 (tri (.slice (some ⟨eb, eo, none⟩) n ec) (.slice da N.ids.length dc) (.slice (some ⟨pb, po, none⟩) N.inputs.length pc)) by rw [hWB]; exact boxed_row _ _ _ _ _)
  have ZB := Lib.hid (show WB.heap.size = w.heap.size + 1 by rw [hWB]; simp)
  obtain ⟨p0, p1, p2, -, -, -⟩ := row3_facts RB.out
  have hmk := run_make_row' (P := Try.prog) 23 3 (.int .i64 0) 8 Try.underlying23 Try.info3 rfl .i64 .i64 n (by omega) (by omega)
  obtain ⟨W0, hW0⟩ : ∃ W0, W0 = WB.alloc (.cells (madeCells #[.int .i64 0] n) 3) := ⟨_, rfl⟩
  have E0 := Lib.hid (show Ext WB W0 by rw [hW0]; exact (Ext.rfl' _).alloc' _)
  have R0 := Lib.hid (show W0.rowIs (w.heap.size + 1) 3 n (numS L 0) by
    have := World.rowIs_made WB (.int .i64 0) n 3
    rw [hW0, ← ZB.out]
    exact this.congr fun i _ => by simp [numS])
  go_enter Try.func79, Try.ntmps79
  go_wp2_with fail
  rw [← hWB, ← hW0]
  clear hmk p0 p1 p2 hWB hW0
  go_loopg [20] L.length (fun g i wr => ∃ k : Nat, k ≤ L.length ∧ g = L.length - k ∧ i = .int .i64 k ∧ Hid (Ext WB wr ∧ wr.rowIs (w.heap.size + 1) 3 n (numS L k)))
  case atStart => exact ⟨0, Nat.zero_le _, rfl, rfl, E0.out, R0.out⟩
  case round =>
    obtain ⟨k, hk, rfl, rfl, Hr⟩ := hrel
    by_cases hlt : k < L.length
    · obtain ⟨_, hc, rfl, _⟩ := HLC.out k hlt
      obtain rfl := HLA.out (by omega)
      have hrg := HL.out.range _ (gi_in hlt)
      obtain ⟨y, hy⟩ := Int.eq_ofNat_of_zero_le hrg.1
      have hyn : y < n := by have := HNN.out; omega
      rw [hy] at hc
      have HY := Lib.hid hy
      have q1 := (EB.out.trans' Hr.out.1).cell' hc
      have hcv := Hr.out.2.cell hyn
      have hfr := Hr.out.2.frozen y
      clear hrg hy hc
      go_wp2
      go_roundg (L.length - (k + 1))
      case measure => omega
      case rel => exact ⟨k + 1, by omega, rfl, by go_num, Hr.out.1.store (by have := ZB.out; simp; omega) _, numS_step HL.out.nodup hlt HY.out Hr.out.2⟩
    · obtain rfl : k = L.length := by omega
      have EW1 := Lib.hid Hr.out.1
      have N1 := Lib.hid Hr.out.2
      obtain ⟨W1, hw1⟩ : ∃ W1 : World, W1 = wr := ⟨_, rfl⟩
      subst hw1
      clear Hr
      go_wp2
      go_loopg [8, 32] L.length (fun g s i wx => ∃ k : Nat, k ≤ L.length ∧ g = L.length - k ∧ i = .int .i64 k ∧ Hid (Ext W1 wx ∧ GrowN W1.heap.size wx s (cdTo N L k)))
      case atStart => exact ⟨0, Nat.zero_le _, rfl, rfl, Ext.rfl' _, GrowN.nil _ _⟩
      case round =>
        obtain ⟨k, hk, rfl, rfl, Hr⟩ := hrel
        by_cases hlt : k < L.length
        · obtain ⟨_, hc, rfl, _⟩ := HLC.out k hlt
          obtain rfl := HLA.out (by omega)
          have hrg := HL.out.range _ (gi_in hlt)
          obtain ⟨y, hy⟩ := Int.eq_ofNat_of_zero_le hrg.1
          have hyn : y < n := by have := HNN.out; omega
          have hdeg := HG.out.deg y (by have := HNN.out; omega)
          have hcl := cdTo_len HG.out HL.out k hk
          rw [hy] at hc
          have EX := Lib.hid (EB.out.trans' (EW1.out.trans' Hr.out.1))
          have EX1 := Lib.hid (EB.out.trans' EW1.out)
          have HY := Lib.hid hy
          have q1 := EX.out.cell' hc
          obtain ⟨_, hey, hrow⟩ := HEC.out y (by have := HNN.out; omega)
          obtain ⟨ra, rb, ro, rc, rfl, hra, hrl, hrm, hrc⟩ := hrow
          have HRC := Lib.hid hrc
          have HRA := Lib.hid hra
          obtain ⟨_, hpy, rfl, _⟩ := HPC.out y (by have := HIL.out; omega)
          have hey := EX1.out.cell' hey
          have hpy := EX1.out.cell' hpy
          have hyp : y < N.inputs.length := by have := HIL.out; omega
          unfold maxLen at hrm
          clear hrg hc hy hra hrc
          by_cases hid : N.ids.length = 0
          · have hcb : decide (0 < N.ids.length) = false := decide_eq_false (by omega)
            have HH := Lib.hid (show headCd N (gi L k) = [((gr N.ends y).length : Int), gi N.inputs y, 0] by rw [HY.out]; unfold headCd rw' idOf; simp [hid])
            clear hid
            obtain ⟨e0, e1, e2, -, -, -⟩ := row3_facts (row_ext RB.out EW1.out)
            have mkS : ∀ w' : World, Ext W1 w' → w'.cell? ⟨w.heap.size, 0, none⟩ = some (.slice (some ⟨eb, eo, none⟩) n ec) ∧ w'.cell? ⟨w.heap.size, 2, none⟩ = some (.slice (some ⟨pb, po, none⟩) N.inputs.length pc) ∧ w'.cell? ⟨eb, eo + y, none⟩ = some (.slice ra (gr N.ends y).length rc) ∧ w'.cell? ⟨pb, po + y, none⟩ = some (.int .i64 (gi N.inputs y)) := fun w' h => ⟨h.cell' e0, h.cell' e2, h.cell' hey, h.cell' hpy⟩
            have q0 := Hr.out.1.cell' e1
            clear e0 e1 e2
            go_wp2_with fail
            clear q0
            go_region_held_law (fun w' => w'.cell? ⟨w.heap.size, 0, none⟩ = some (.slice (some ⟨eb, eo, none⟩) n ec) ∧ w'.cell? ⟨w.heap.size, 2, none⟩ = some (.slice (some ⟨pb, po, none⟩) N.inputs.length pc) ∧ w'.cell? ⟨eb, eo + y, none⟩ = some (.slice ra (gr N.ends y).length rc) ∧ w'.cell? ⟨pb, po + y, none⟩ = some (.int .i64 (gi N.inputs y)))
              (first | exact mkS _ Hr.out.1.drew' | exact mkS _ (Hr.out.1.alloc' _).drew' | exact mkS _ (Hr.out.1.drew'.alloc' _) | exact SDone | fail)
              (first
                | (refine step_app rfl (.tmp 45) (.tmp 58) 23 rfl W1.heap.size 3 i0 (.int .i64 0) 1 8 Try.underlying23 I0.out.1 I0.out.2.1 I0.out.2.2.1 I0.out.2.2.2 rfl (by decide) u8 (cdTo N L k).length (intCells (cdTo N L k)) rfl (by first | exact Hr.out.2.ext ((Ext.rfl' wr).drew'.alloc' _) | exact Hr.out.2.ext (((Ext.rfl' wr).alloc' _).drew')) (some ⟨wr.heap.size, 0, none⟩) 3 3 (intCells [((gr N.ends y).length : Int), gi N.inputs y, 0]) rfl (by first | exact src_lits wr [((gr N.ends y).length : Int), gi N.inputs y, 0] 3 rfl 3 | exact src_lits wr.drew [((gr N.ends y).length : Int), gi N.inputs y, 0] 3 rfl 3 | exact src_drew (src_lits wr [((gr N.ends y).length : Int), gi N.inputs y, 0] 3 rfl 3)) (by unfold maxLen; omega) (by omega) (by have := Hr.out.1.size; simp; omega) ?_
                   intro v' w3 hg
                   have xx : Ext wr ((wr.alloc (.cells #[.int .i64 (gr N.ends y).length, .int .i64 (gi N.inputs y), .int .i64 (0)] 3)).drew) := ((Ext.rfl' wr).alloc' _).drew'
                   have gx : Ext W1 w3 ∧ GrowN W1.heap.size w3 v' (cdTo N L k ++ [((gr N.ends y).length : Int), gi N.inputs y, 0]) := ⟨grown_ext (Hr.out.1.trans' xx) (Nat.le_refl _) (Hr.out.2.ext xx) hg.2.1, GrowN.step hg rfl⟩
                   have SDone := mkS _ gx.1
                   have FIN := Lib.hid gx
                   clear hg gx xx)
                | fail)
            clear mkS
            obtain ⟨f0, f1, f2, -, -, -⟩ := row3_facts (row_ext RB.out (EW1.out.trans' FIN.out.1))
            have f3 := FIN.out.1.cell' hey
            go_wp2
            clear f0 f1 f2 f3 SDone
            go_loopg [8, 66] (gr N.ends y).length (fun g s i wx => ∃ j : Nat, j ≤ (gr N.ends y).length ∧ g = (gr N.ends y).length - j ∧ i = .int .i64 j ∧ Hid (Ext W1 wx ∧ GrowN W1.heap.size wx s (cdTo N L k ++ headCd N (gi L k) ++ endCd L (gr N.ends y) j)))
            case atStart => exact ⟨0, Nat.zero_le _, rfl, rfl, FIN.out.1, by rw [HH.out]; simpa [endCd] using FIN.out.2⟩
            case round =>
              obtain ⟨j, hj, rfl, rfl, Hs⟩ := hrel
              by_cases hj2 : j < (gr N.ends y).length
              · obtain ⟨c1, c2, _⟩ := HRC.out j hj2
                obtain rfl := HRA.out (by omega)
                have hgr := HG.out.leads.node y (by have := HNN.out; omega) j hj2
                obtain ⟨z, hz⟩ := Int.eq_ofNat_of_zero_le hgr.1
                have hzn : z < n := by have := HNN.out; omega
                have hzL : (z : Int) ∈ L := by
                  have := HL.out.closed (y : Int) (by rw [← HY.out]; exact gi_in hlt) j (by unfold rw'; rw [Int.toNat_natCast]; exact hj2)
                  unfold rw' at this; rw [Int.toNat_natCast, hz] at this; exact this
                have HE := Lib.hid (show endCd L (gr N.ends y) (j + 1) = endCd L (gr N.ends y) j ++ [ixI L z, gp (gr N.ends y) j] by simp only [endCd]; rw [hz])
                have n1 := (row_ext N1.out Hs.out.1).cell hzn
                have NZ := Lib.hid (show some (numS L L.length z) = some (.int .i64 (ixI L z)) by rw [numS_full hzL])
                rw [numS_full hzL] at n1
                have q1 := (EX1.out.trans' Hs.out.1).cell' c1
                have q2 := (EX1.out.trans' Hs.out.1).cell' c2
                rw [hz] at q1
                have HEL := Lib.hid (show (cdTo N L k ++ headCd N (gi L k) ++ endCd L (gr N.ends y) j).length ≤ 700 by simp only [List.length_append, endCd_len, headCd, List.length_cons, List.length_nil]; omega)
                clear hgr hz hzL c1 c2
                obtain ⟨W2, hW2⟩ : ∃ W2, W2 = wr.alloc (.cells #[.int .i64 z, .int .i64 (gp (gr N.ends y) j)] 76) := ⟨_, rfl⟩
                have X2 := Lib.hid (show Ext wr W2 by rw [hW2]; exact (Ext.rfl' _).alloc' _)
                have R2 := Lib.hid (show W2.rowIs wr.heap.size 76 2 (duo (.int .i64 z) (.int .i64 (gp (gr N.ends y) j))) by rw [hW2]; exact duo_made _ _ _ _)
                have HLW := Lib.hid (show (some (⟨W2.heap.size, 0, none⟩ : Addr)) = some ⟨W2.heap.size, 0, none⟩ from rfl)
                go_wp2_with fail
                rw [← hW2]
                clear hW2 q1 q2
                obtain ⟨r0, r1, -, -⟩ := duo_facts R2.out
                have mkS : ∀ w' : World, Ext W2 w' → w'.cell? ⟨wr.heap.size, 0, none⟩ = some (.int .i64 z) ∧ w'.cell? ⟨wr.heap.size, 1, none⟩ = some (.int .i64 (gp (gr N.ends y) j)) ∧ w'.cell? ⟨w.heap.size + 1, z, none⟩ = some (.int .i64 (ixI L z)) := fun w' h => ⟨h.cell' r0, h.cell' r1, (X2.out.trans' h).cell' n1⟩
                clear r0 r1
                go_region_held_law (fun w' => w'.cell? ⟨wr.heap.size, 0, none⟩ = some (.int .i64 z) ∧ w'.cell? ⟨wr.heap.size, 1, none⟩ = some (.int .i64 (gp (gr N.ends y) j)) ∧ w'.cell? ⟨w.heap.size + 1, z, none⟩ = some (.int .i64 (ixI L z)))
                  (first | exact mkS _ (Ext.rfl' W2).drew' | exact mkS _ ((Ext.rfl' W2).alloc' _).drew' | exact mkS _ ((Ext.rfl' W2).drew'.alloc' _) | exact SDone | fail)
                  (first
                    | (refine step_app rfl (.tmp 70) (.tmp 78) 23 rfl W1.heap.size 3 i0 (.int .i64 0) 1 8 Try.underlying23 I0.out.1 I0.out.2.1 I0.out.2.2.1 I0.out.2.2.2 rfl (by decide) u8 (cdTo N L k ++ headCd N (gi L k) ++ endCd L (gr N.ends y) j).length (intCells (cdTo N L k ++ headCd N (gi L k) ++ endCd L (gr N.ends y) j)) rfl (by first | exact Hs.out.2.ext (X2.out.trans' ((Ext.rfl' W2).drew'.alloc' _)) | exact Hs.out.2.ext (X2.out.trans' (((Ext.rfl' W2).alloc' _).drew'))) (some ⟨W2.heap.size, 0, none⟩) 2 2 (intCells [ixI L z, gp (gr N.ends y) j]) rfl (by first | exact src_lits W2 [ixI L z, gp (gr N.ends y) j] 2 rfl 3 | exact src_lits W2.drew [ixI L z, gp (gr N.ends y) j] 2 rfl 3 | exact src_drew (src_lits W2 [ixI L z, gp (gr N.ends y) j] 2 rfl 3)) (by have := HEL.out; unfold maxLen; omega) (by have := HEL.out; omega) (by have := Hs.out.1.size; have := X2.out.size; simp; omega) ?_
                       intro v' w3 hg
                       have xx : Ext W2 ((W2.alloc (.cells #[.int .i64 (ixI L z), .int .i64 (gp (gr N.ends y) j)] 3)).drew) := ((Ext.rfl' W2).alloc' _).drew'
                       have oe := Hs.out.2.ext (X2.out.trans' xx)
                       have gx : Ext W1 w3 ∧ GrowN W1.heap.size w3 v' (cdTo N L k ++ headCd N (gi L k) ++ endCd L (gr N.ends y) j ++ [ixI L z, gp (gr N.ends y) j]) := ⟨grown_ext (Hs.out.1.trans' (X2.out.trans' xx)) (Nat.le_refl _) oe hg.2.1, GrowN.step hg rfl⟩
                       obtain ⟨r0, r1, -, -⟩ := duo_facts (row_grown (row_ext R2.out xx) oe hg.2.1 (by decide))
                       have n2 := (row_ext N1.out gx.1).cell hzn
                       have SDone : w3.cell? ⟨wr.heap.size, 0, none⟩ = some (.int .i64 z) ∧ w3.cell? ⟨wr.heap.size, 1, none⟩ = some (.int .i64 (gp (gr N.ends y) j)) ∧ w3.cell? ⟨w.heap.size + 1, z, none⟩ = some (.int .i64 (ixI L z)) := ⟨r0, r1, by rw [n2]; exact NZ.out⟩
                       have FIN := Lib.hid gx
                       clear hg gx xx oe r0 r1 n2)
                    | fail)
                clear mkS
                go_wp2
                go_roundg ((gr N.ends y).length - (j + 1))
                case measure => omega
                case rel => exact ⟨j + 1, by omega, rfl, by go_num, FIN.out.1, by rw [HE.out, ← List.append_assoc]; exact FIN.out.2⟩
              · go_wp2
                go_roundg (L.length - (k + 1))
                case measure => omega
                case rel =>
                  obtain rfl : j = (gr N.ends y).length := by omega
                  refine ⟨k + 1, by omega, rfl, by go_num, Hs.out.1, ?_⟩
                  have e : cdTo N L (k + 1) = cdTo N L k ++ headCd N (gi L k) ++ endCd L (gr N.ends y) (gr N.ends y).length := by
                    show cdTo N L k ++ nodeCd N L (gi L k) = _
                    unfold nodeCd rw'; rw [HY.out, Int.toNat_natCast, List.append_assoc]
                  rw [e]; exact Hs.out.2
          · have hcb : decide (0 < N.ids.length) = true := decide_eq_true (by omega)
            have HIDN := Lib.hid (HG.out.idl.resolve_left hid)
            obtain rfl := HDA.out (by omega)
            obtain ⟨_, hdy, rfl, _⟩ := HDC.out y (by have := HNN.out; have := HIDN.out; omega)
            have hdy := EX.out.cell' hdy
            have hyd : y < N.ids.length := by have := HNN.out; have := HIDN.out; omega
            have HH := Lib.hid (show headCd N (gi L k) = [((gr N.ends y).length : Int), gi N.inputs y, gi N.ids y] by rw [HY.out]; unfold headCd rw' idOf; simp [hid])
            clear hid
            obtain ⟨e0, e1, e2, -, -, -⟩ := row3_facts (row_ext RB.out EW1.out)
            have mkS : ∀ w' : World, Ext W1 w' → w'.cell? ⟨w.heap.size, 0, none⟩ = some (.slice (some ⟨eb, eo, none⟩) n ec) ∧ w'.cell? ⟨w.heap.size, 2, none⟩ = some (.slice (some ⟨pb, po, none⟩) N.inputs.length pc) ∧ w'.cell? ⟨eb, eo + y, none⟩ = some (.slice ra (gr N.ends y).length rc) ∧ w'.cell? ⟨pb, po + y, none⟩ = some (.int .i64 (gi N.inputs y)) := fun w' h => ⟨h.cell' e0, h.cell' e2, h.cell' hey, h.cell' hpy⟩
            have q0 := Hr.out.1.cell' e1
            clear e0 e1 e2
            go_wp2_with fail
            clear q0
            go_region_held_law (fun w' => w'.cell? ⟨w.heap.size, 0, none⟩ = some (.slice (some ⟨eb, eo, none⟩) n ec) ∧ w'.cell? ⟨w.heap.size, 2, none⟩ = some (.slice (some ⟨pb, po, none⟩) N.inputs.length pc) ∧ w'.cell? ⟨eb, eo + y, none⟩ = some (.slice ra (gr N.ends y).length rc) ∧ w'.cell? ⟨pb, po + y, none⟩ = some (.int .i64 (gi N.inputs y)))
              (first | exact mkS _ Hr.out.1.drew' | exact mkS _ (Hr.out.1.alloc' _).drew' | exact mkS _ (Hr.out.1.drew'.alloc' _) | exact SDone | fail)
              (first
                | (refine step_app rfl (.tmp 45) (.tmp 58) 23 rfl W1.heap.size 3 i0 (.int .i64 0) 1 8 Try.underlying23 I0.out.1 I0.out.2.1 I0.out.2.2.1 I0.out.2.2.2 rfl (by decide) u8 (cdTo N L k).length (intCells (cdTo N L k)) rfl (by first | exact Hr.out.2.ext ((Ext.rfl' wr).drew'.alloc' _) | exact Hr.out.2.ext (((Ext.rfl' wr).alloc' _).drew')) (some ⟨wr.heap.size, 0, none⟩) 3 3 (intCells [((gr N.ends y).length : Int), gi N.inputs y, gi N.ids y]) rfl (by first | exact src_lits wr [((gr N.ends y).length : Int), gi N.inputs y, gi N.ids y] 3 rfl 3 | exact src_lits wr.drew [((gr N.ends y).length : Int), gi N.inputs y, gi N.ids y] 3 rfl 3 | exact src_drew (src_lits wr [((gr N.ends y).length : Int), gi N.inputs y, gi N.ids y] 3 rfl 3)) (by unfold maxLen; omega) (by omega) (by have := Hr.out.1.size; simp; omega) ?_
                   intro v' w3 hg
                   have xx : Ext wr ((wr.alloc (.cells #[.int .i64 (gr N.ends y).length, .int .i64 (gi N.inputs y), .int .i64 (gi N.ids y)] 3)).drew) := ((Ext.rfl' wr).alloc' _).drew'
                   have gx : Ext W1 w3 ∧ GrowN W1.heap.size w3 v' (cdTo N L k ++ [((gr N.ends y).length : Int), gi N.inputs y, gi N.ids y]) := ⟨grown_ext (Hr.out.1.trans' xx) (Nat.le_refl _) (Hr.out.2.ext xx) hg.2.1, GrowN.step hg rfl⟩
                   have SDone := mkS _ gx.1
                   have FIN := Lib.hid gx
                   clear hg gx xx)
                | fail)
            clear mkS
            obtain ⟨f0, f1, f2, -, -, -⟩ := row3_facts (row_ext RB.out (EW1.out.trans' FIN.out.1))
            have f3 := FIN.out.1.cell' hey
            go_wp2
            clear f0 f1 f2 f3 SDone
            go_loopg [8, 66] (gr N.ends y).length (fun g s i wx => ∃ j : Nat, j ≤ (gr N.ends y).length ∧ g = (gr N.ends y).length - j ∧ i = .int .i64 j ∧ Hid (Ext W1 wx ∧ GrowN W1.heap.size wx s (cdTo N L k ++ headCd N (gi L k) ++ endCd L (gr N.ends y) j)))
            case atStart => exact ⟨0, Nat.zero_le _, rfl, rfl, FIN.out.1, by rw [HH.out]; simpa [endCd] using FIN.out.2⟩
            case round =>
              obtain ⟨j, hj, rfl, rfl, Hs⟩ := hrel
              by_cases hj2 : j < (gr N.ends y).length
              · obtain ⟨c1, c2, _⟩ := HRC.out j hj2
                obtain rfl := HRA.out (by omega)
                have hgr := HG.out.leads.node y (by have := HNN.out; omega) j hj2
                obtain ⟨z, hz⟩ := Int.eq_ofNat_of_zero_le hgr.1
                have hzn : z < n := by have := HNN.out; omega
                have hzL : (z : Int) ∈ L := by
                  have := HL.out.closed (y : Int) (by rw [← HY.out]; exact gi_in hlt) j (by unfold rw'; rw [Int.toNat_natCast]; exact hj2)
                  unfold rw' at this; rw [Int.toNat_natCast, hz] at this; exact this
                have HE := Lib.hid (show endCd L (gr N.ends y) (j + 1) = endCd L (gr N.ends y) j ++ [ixI L z, gp (gr N.ends y) j] by simp only [endCd]; rw [hz])
                have n1 := (row_ext N1.out Hs.out.1).cell hzn
                have NZ := Lib.hid (show some (numS L L.length z) = some (.int .i64 (ixI L z)) by rw [numS_full hzL])
                rw [numS_full hzL] at n1
                have q1 := (EX1.out.trans' Hs.out.1).cell' c1
                have q2 := (EX1.out.trans' Hs.out.1).cell' c2
                rw [hz] at q1
                have HEL := Lib.hid (show (cdTo N L k ++ headCd N (gi L k) ++ endCd L (gr N.ends y) j).length ≤ 700 by simp only [List.length_append, endCd_len, headCd, List.length_cons, List.length_nil]; omega)
                clear hgr hz hzL c1 c2
                obtain ⟨W2, hW2⟩ : ∃ W2, W2 = wr.alloc (.cells #[.int .i64 z, .int .i64 (gp (gr N.ends y) j)] 76) := ⟨_, rfl⟩
                have X2 := Lib.hid (show Ext wr W2 by rw [hW2]; exact (Ext.rfl' _).alloc' _)
                have R2 := Lib.hid (show W2.rowIs wr.heap.size 76 2 (duo (.int .i64 z) (.int .i64 (gp (gr N.ends y) j))) by rw [hW2]; exact duo_made _ _ _ _)
                have HLW := Lib.hid (show (some (⟨W2.heap.size, 0, none⟩ : Addr)) = some ⟨W2.heap.size, 0, none⟩ from rfl)
                go_wp2_with fail
                rw [← hW2]
                clear hW2 q1 q2
                obtain ⟨r0, r1, -, -⟩ := duo_facts R2.out
                have mkS : ∀ w' : World, Ext W2 w' → w'.cell? ⟨wr.heap.size, 0, none⟩ = some (.int .i64 z) ∧ w'.cell? ⟨wr.heap.size, 1, none⟩ = some (.int .i64 (gp (gr N.ends y) j)) ∧ w'.cell? ⟨w.heap.size + 1, z, none⟩ = some (.int .i64 (ixI L z)) := fun w' h => ⟨h.cell' r0, h.cell' r1, (X2.out.trans' h).cell' n1⟩
                clear r0 r1
                go_region_held_law (fun w' => w'.cell? ⟨wr.heap.size, 0, none⟩ = some (.int .i64 z) ∧ w'.cell? ⟨wr.heap.size, 1, none⟩ = some (.int .i64 (gp (gr N.ends y) j)) ∧ w'.cell? ⟨w.heap.size + 1, z, none⟩ = some (.int .i64 (ixI L z)))
                  (first | exact mkS _ (Ext.rfl' W2).drew' | exact mkS _ ((Ext.rfl' W2).alloc' _).drew' | exact mkS _ ((Ext.rfl' W2).drew'.alloc' _) | exact SDone | fail)
                  (first
                    | (refine step_app rfl (.tmp 70) (.tmp 78) 23 rfl W1.heap.size 3 i0 (.int .i64 0) 1 8 Try.underlying23 I0.out.1 I0.out.2.1 I0.out.2.2.1 I0.out.2.2.2 rfl (by decide) u8 (cdTo N L k ++ headCd N (gi L k) ++ endCd L (gr N.ends y) j).length (intCells (cdTo N L k ++ headCd N (gi L k) ++ endCd L (gr N.ends y) j)) rfl (by first | exact Hs.out.2.ext (X2.out.trans' ((Ext.rfl' W2).drew'.alloc' _)) | exact Hs.out.2.ext (X2.out.trans' (((Ext.rfl' W2).alloc' _).drew'))) (some ⟨W2.heap.size, 0, none⟩) 2 2 (intCells [ixI L z, gp (gr N.ends y) j]) rfl (by first | exact src_lits W2 [ixI L z, gp (gr N.ends y) j] 2 rfl 3 | exact src_lits W2.drew [ixI L z, gp (gr N.ends y) j] 2 rfl 3 | exact src_drew (src_lits W2 [ixI L z, gp (gr N.ends y) j] 2 rfl 3)) (by have := HEL.out; unfold maxLen; omega) (by have := HEL.out; omega) (by have := Hs.out.1.size; have := X2.out.size; simp; omega) ?_
                       intro v' w3 hg
                       have xx : Ext W2 ((W2.alloc (.cells #[.int .i64 (ixI L z), .int .i64 (gp (gr N.ends y) j)] 3)).drew) := ((Ext.rfl' W2).alloc' _).drew'
                       have oe := Hs.out.2.ext (X2.out.trans' xx)
                       have gx : Ext W1 w3 ∧ GrowN W1.heap.size w3 v' (cdTo N L k ++ headCd N (gi L k) ++ endCd L (gr N.ends y) j ++ [ixI L z, gp (gr N.ends y) j]) := ⟨grown_ext (Hs.out.1.trans' (X2.out.trans' xx)) (Nat.le_refl _) oe hg.2.1, GrowN.step hg rfl⟩
                       obtain ⟨r0, r1, -, -⟩ := duo_facts (row_grown (row_ext R2.out xx) oe hg.2.1 (by decide))
                       have n2 := (row_ext N1.out gx.1).cell hzn
                       have SDone : w3.cell? ⟨wr.heap.size, 0, none⟩ = some (.int .i64 z) ∧ w3.cell? ⟨wr.heap.size, 1, none⟩ = some (.int .i64 (gp (gr N.ends y) j)) ∧ w3.cell? ⟨w.heap.size + 1, z, none⟩ = some (.int .i64 (ixI L z)) := ⟨r0, r1, by rw [n2]; exact NZ.out⟩
                       have FIN := Lib.hid gx
                       clear hg gx xx oe r0 r1 n2)
                    | fail)
                clear mkS
                go_wp2
                go_roundg ((gr N.ends y).length - (j + 1))
                case measure => omega
                case rel => exact ⟨j + 1, by omega, rfl, by go_num, FIN.out.1, by rw [HE.out, ← List.append_assoc]; exact FIN.out.2⟩
              · go_wp2
                go_roundg (L.length - (k + 1))
                case measure => omega
                case rel =>
                  obtain rfl : j = (gr N.ends y).length := by omega
                  refine ⟨k + 1, by omega, rfl, by go_num, Hs.out.1, ?_⟩
                  have e : cdTo N L (k + 1) = cdTo N L k ++ headCd N (gi L k) ++ endCd L (gr N.ends y) (gr N.ends y).length := by
                    show cdTo N L k ++ nodeCd N L (gi L k) = _
                    unfold nodeCd rw'; rw [HY.out, Int.toNat_natCast, List.append_assoc]
                  rw [e]; exact Hs.out.2
        · obtain rfl : k = L.length := by omega
          go_wp2
          go_ret
          obtain ⟨bs, ho, hn, hb⟩ := Hr.out.2.own fun i hi => by have := cd_range HG.out HL.out i hi; unfold cd at this; unfold inI64; omega
          exact ⟨_, bs, rfl, EB.out.trans' (EW1.out.trans' Hr.out.1), ho, hn, fun b hb' => by have := hb b hb'; have := (EB.out.trans' EW1.out).size; omega⟩
end Go.Proofs.Ytdoaopeegcakiaa
