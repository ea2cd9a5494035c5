/- The program's round of a network. -/
import Derived.Test.YtbddjejpacaglaaGreatDoorVrb
import Derived.Test.YtbddjejpacaglaaGreatDoorVqe
import Derived.Test.YtbddjejpacaglaaGreatDoorKd
namespace Go.Proofs.YtbddjejpacaglaaGreatDoor
open Go.RowKit

/-- Cell i of the values behind a round, k of which are there. -/
noncomputable def nxc (l : List (Int × Int)) (N : Net) (r : Int) (s : List Int) (k i : Nat) : Value := if i < k then .int .i64 (evl (sgV N r s i) l) else .int .i64 0
def nrc (A : List Int) (j i : Nat) : Value := if i < j then .int .i64 (gi A i) else .int .i64 0
theorem nxc_step {w : World} {b n k : Nat} {l : List (Int × Int)} {N : Net} {r : Int} {s : List Int} (h : w.rowIs b 3 n (nxc l N r s k)) : (w.setCell ⟨b, k, none⟩ (.int .i64 (evl (sgV N r s k) l))).rowIs b 3 n (nxc l N r s (k + 1)) :=
  (h.set k _).congr fun i _ => by
    simp only [nxc]
    by_cases e : i = k
    · subst e; rw [if_pos rfl, if_pos (by omega)]
    · rw [if_neg e]
      by_cases hl : i < k
      · rw [if_pos hl, if_pos (by omega)]
      · rw [if_neg hl, if_neg (by omega)]
theorem nrc_step {w : World} {b n j : Nat} {A : List Int} (h : w.rowIs b 3 n (nrc A j)) : (w.setCell ⟨b, j, none⟩ (.int .i64 (gi A j))).rowIs b 3 n (nrc A (j + 1)) :=
  (h.set j _).congr fun i _ => by
    simp only [nrc]
    by_cases e : i = j
    · subst e; rw [if_pos rfl, if_pos (by omega)]
    · rw [if_neg e]
      by_cases hl : i < j
      · rw [if_pos hl, if_pos (by omega)]
      · rw [if_neg hl, if_neg (by omega)]
theorem zmade (w : World) (n : Nat) : (w.alloc (.cells (madeCells #[.int .i64 0] n) 3)).rowIs w.heap.size 3 n (fun _ => .int .i64 0) :=
  ⟨_, Go.Deep.blk_alloc_new _ _, size_madeCells _ _, fun i hi => by simp [madeCells, hi, Nat.mod_one]⟩
theorem nrc_read {w : World} {b : Nat} {A : List Int} (h : w.rowIs b 3 A.length (nrc A A.length)) (hA : A.length ≤ 40) (hr : ∀ i, i < A.length → inI64 (gi A i)) : IntSl w (.slice (some ⟨b, 0, none⟩) A.length A.length) A :=
  ⟨_, b, 0, A.length, rfl, fun _ => rfl, Nat.le_refl _, by unfold maxLen; omega, fun i hi => ⟨.int .i64 (gi A i), by have := h.cell hi; rw [Nat.zero_add, this]; simp [nrc, hi], rfl, hr i hi⟩⟩

set_option maxHeartbeats 12800000 in
set_option maxRecDepth 100000 in
theorem nextValues_any {w : World} {vn vs : Value} {l : List (Int × Int)} {N : Net} {s : List Int} {b B : Nat} (hR : RGrow B w b l.length l l.length) (hp : ProgOK l) (h : NetAt w vn N) (hs : IntSl w vs s) (hv : ValsOK N s) (r : Int) :
    Calls Tryz.prog 40 #[.slice (some ⟨b, 0, none⟩) l.length l.length, vn, .int .i64 r, vs] w fun e w' => ∃ v' bs, e = .returned v' ∧ Ext w w' ∧ OwnI w' v' (stepV l N r s) bs ∧ Fresh w bs := by
  have HN := Lib.hid h
  have HS := Lib.hid hs
  have HRR := Lib.hid hR
  have HP := Lib.hid hp
  have HV := Lib.hid hv
  have HGD := Lib.hid hv.1
  have hn40 := hv.1.1.2
  have hil := inp_len hv.1
  have hsl := hv.2.1
  obtain ⟨v0, v1, v2, rfl, hE, hI, hIn⟩ := h
  obtain ⟨ea, eb, eo, ec, rfl, hea, hel, hem, hec⟩ := hE
  obtain ⟨ia, _, _, ic, rfl, -, hidl, hidm, -⟩ := hI
  obtain ⟨na, nb, no, nc, rfl, hna, hnl, hnm, hnc⟩ := hIn
  obtain ⟨sa, sb, so, sc, rfl, hsa, hsl2, hsm, hsc⟩ := hs
  unfold maxLen at hem hidm hnm hsm
  have HEC := Lib.hid hec
  have HEA := Lib.hid hea
  have HNC := Lib.hid hnc
  have HNA := Lib.hid hna
  have HSC := Lib.hid hsc
  have HSA := Lib.hid hsa
  have HIL := Lib.hid hil
  have HSL := Lib.hid hsl
  have hs40 : s.length ≤ 40 := by omega
  obtain ⟨W1, hW1⟩ : ∃ W1 : World, W1 = w.alloc (.cells #[.slice ea N.ends.length ec, .slice ia N.ids.length ic, .slice na N.inputs.length nc] 35) := ⟨_, rfl⟩
  have R := row3_made w (.slice ea N.ends.length ec) (.slice ia N.ids.length ic) (.slice na N.inputs.length nc) 35
  rw [← hW1] at R
  have HR := Lib.hid R
  have HX1 := Lib.hid (show Ext w W1 by rw [hW1]; exact (Ext.rfl' w).alloc' _)
  have HW1 := Lib.hid hW1
  have HZ1 := Lib.hid (show W1.heap.size = w.heap.size + 1 by rw [hW1]; simp)
  obtain ⟨i0, hi, hz0, hz1, hz2⟩ := info_parts Tryz.info3
  have hmk : ∀ (n : Nat), n ≤ 40 → ∀ u : World, (Instr.makeSlice 24 (.int .i64 (n : Int)) (.int .i64 (n : Int))).run Tryz.prog u = .ok (.slice (some ⟨u.heap.size, 0, none⟩) n n) (u.alloc (.cells (madeCells #[.int .i64 0] n) 3)) := fun n hn u => by
    have h := run_make (P := Tryz.prog) u 24 3 i0 _ Tryz.underlying24 hi hz0 .i64 .i64 n n (by omega) (Int.le_refl _) (by rw [hz2]; omega) (by omega)
    simpa [hz1, Value.cells] using h
  have HMK := Lib.hid hmk
  have hm1 := hmk s.length hs40
  clear hi hz0 hz1 hz2 R hW1 hR hp hv hec hea hnc hna hsc hsa hil hsl hmk
  go_enter Tryz.func40, Tryz.ntmps40
  go_wp2_with fail
  clear hm1
  go_loopg [21] N.ends.length (fun g i wr => ∃ k : Nat, k ≤ N.ends.length ∧ g = N.ends.length - k ∧ i = .int .i64 (k : Int) ∧ Hid (Ext W1 wr ∧ w.heap.size + 2 ≤ wr.heap.size ∧ wr.rowIs (w.heap.size + 1) 3 s.length (nxc l N r s k)))
  case atStart =>
    refine ⟨0, Nat.zero_le _, rfl, rfl, by rw [HW1.out]; exact (Ext.rfl' _).alloc' _, by simp, ?_⟩
    have := zmade W1 s.length
    rw [HZ1.out, HW1.out] at this
    exact this.congr fun i _ => by simp [nxc]
  case round =>
    obtain ⟨k, hk, rfl, rfl, Hr⟩ := hrel
    by_cases hlt : k < N.ends.length
    · obtain ⟨wo, hwo⟩ : ∃ wo : World, wo = wr := ⟨_, rfl⟩
      subst hwo
      have hks : k < s.length := by have := HSL.out; omega
      have hkn : k < N.inputs.length := by have := HIL.out; omega
      obtain ⟨_, qs, rfl, -⟩ := HSC.out k hks
      obtain ⟨_, qn, rfl, -⟩ := HNC.out k hkn
      obtain rfl := HSA.out (by omega)
      obtain rfl := HNA.out (by omega)
      obtain rfl := HEA.out (by omega)
      obtain ⟨_, qe, hrow⟩ := HEC.out k hlt
      obtain ⟨ra, rb, ro, rc, rfl, hra, hrl, hrm, hrc⟩ := hrow
      unfold maxLen at hrm
      have HRC := Lib.hid hrc
      have HRA := Lib.hid hra
      have HIM := Lib.hid (near_im HV.out hlt)
      have hl6 := near_len HV.out hlt
      have hrs := thr_in HS.out HIM.out
      obtain ⟨A, hA⟩ : ∃ A, A = thr s (nears (gr N.ends k)) := ⟨_, rfl⟩
      have hAl : A.length = (gr N.ends k).length := by rw [hA, length_thr, length_nears]
      rw [← hA] at hrs
      have HRS := Lib.hid hrs
      have HAL := Lib.hid hAl
      have HA := Lib.hid hA
      have p1 := Hr.out.1.cell' (HX1.out.cell' qs)
      have p2 := Hr.out.1.cell' (HX1.out.cell' qn)
      have p3 := Hr.out.1.cell' (HX1.out.cell' qe)
      obtain ⟨e0, e1, e2, -, -, -⟩ := row3_facts (row_ext HR.out Hr.out.1)
      have hm2 := HMK.out (gr N.ends k).length (by omega)
      have HZR := Lib.hid (zmade wo (gr N.ends k).length)
      clear hrc hra hrs hA hAl qs qn qe
      go_wp2_with fail
      clear hm2 e0 e1 e2 p3
      go_loopg [31] (gr N.ends k).length (fun g i wx => ∃ j : Nat, j ≤ (gr N.ends k).length ∧ g = (gr N.ends k).length - j ∧ i = .int .i64 (j : Int) ∧ Hid (Ext wo wx ∧ wo.heap.size + 1 ≤ wx.heap.size ∧ wx.rowIs wo.heap.size 3 (gr N.ends k).length (nrc A j)))
      case atStart => exact ⟨0, Nat.zero_le _, rfl, rfl, (Ext.rfl' _).alloc' _, by simp, HZR.out.congr fun i _ => by simp [nrc]⟩
      case round =>
        obtain ⟨j, hj, rfl, rfl, Hs⟩ := hrel
        by_cases hlj : j < (gr N.ends k).length
        · obtain ⟨c1, c2, -, -⟩ := HRC.out j hlj
          obtain rfl := HRA.out (by omega)
          have hjn : j < (nears (gr N.ends k)).length := by rw [length_nears]; exact hlj
          obtain ⟨m0, m1⟩ := HIM.out j hjn
          rw [gi_nears _ _ hlj] at m0 m1
          obtain ⟨m, hm⟩ := Int.eq_ofNat_of_zero_le m0
          have hms : m < s.length := by omega
          obtain ⟨_, qm, rfl, -⟩ := HSC.out m hms
          have HGA := Lib.hid (show gi A j = gi s m by rw [HA.out, gi_thr _ _ _ hjn, gi_nears _ _ hlj, hm, Int.toNat_natCast])
          have d1 := Hs.out.1.cell' (Hr.out.1.cell' (HX1.out.cell' c1))
          have d2 := Hs.out.1.cell' (Hr.out.1.cell' (HX1.out.cell' c2))
          rw [hm] at d1
          have hu := (Ext.rfl' wr).alloc' (.cells #[.int .i64 (m : Int), .int .i64 (gp (gr N.ends k) j)] 97)
          have HU := Lib.hid hu
          have d3 := hu.cell' (Hs.out.1.cell' (Hr.out.1.cell' (HX1.out.cell' qm)))
          have hrw := row_ext Hs.out.2.2 hu
          have f1 := hrw.cell hlj
          have f2 := hrw.frozen j
          have HRW := Lib.hid hrw
          clear c1 c2 m0 m1 hm qm hrw hu
          go_wp2_with fail
          go_roundg ((gr N.ends k).length - (j + 1))
          case measure => omega
          case rel => exact ⟨j + 1, by omega, rfl, by go_num, (Hs.out.1.trans' HU.out).store (Nat.le_refl _) _, by have := Hs.out.2.1; have := HU.out.size; simp; omega, by have := nrc_step HRW.out; rw [HGA.out] at this; exact this⟩
        · obtain rfl : j = (gr N.ends k).length := by omega
          have hsz := Hs.out.2.1
          obtain ⟨wx, hwx⟩ : ∃ wx : World, wx = wr := ⟨_, rfl⟩
          subst hwx
          have XX := Lib.hid (Hr.out.1.trans' Hs.out.1)
          have hns : IntSl wx (.slice (some ⟨wo.heap.size, 0, none⟩) (gr N.ends k).length (gr N.ends k).length) A := by
            have h1 := Hs.out.2.2
            rw [← HAL.out] at h1 ⊢
            exact nrc_read h1 (by have := HAL.out; omega) HRS.out
          have HNS := Lib.hid hns
          have HSG := Lib.hid (show ∀ u : World, Ext wx u → SightAt u (.agg #[.int .i64 (gi s k), .int .i64 (idV N k), .int .i64 (gi N.inputs k), .int .i64 r, .slice (some ⟨wo.heap.size, 0, none⟩) (gr N.ends k).length (gr N.ends k).length]) (sgV N r s k) from fun u hu => by
            have hl : (gr N.ends k).length = (sgV N r s k).near.length := by show _ = (thr s (nears (gr N.ends k))).length; rw [length_thr, length_nears]
            refine ⟨some ⟨wo.heap.size, 0, none⟩, (gr N.ends k).length, by rw [← hl]; rfl, ?_⟩
            rw [← hl]
            have := HNS.out.ext hu
            rw [HA.out] at this
            exact this)
          obtain ⟨e0, e1, e2, -, -, -⟩ := row3_facts (row_ext HR.out XX.out)
          have p1 := Hs.out.1.cell' p1
          have p2 := Hs.out.1.cell' p2
          have HNX := Lib.hid (row_ext Hr.out.2.2 Hs.out.1)
          have HSK := Lib.hid (sgV_ok HV.out r hlt)
          clear hns
          have mkS : ∀ w' : World, Ext wx w' → w'.cell? ⟨w.heap.size, 0, none⟩ = some (.slice (some ⟨eb, eo, none⟩) N.ends.length ec) ∧ w'.cell? ⟨w.heap.size, 1, none⟩ = some (.slice ia N.ids.length ic) ∧ w'.cell? ⟨w.heap.size, 2, none⟩ = some (.slice (some ⟨nb, no, none⟩) N.inputs.length nc) ∧ w'.cell? ⟨sb, so + k, none⟩ = some (.int .i64 (gi s k)) ∧ w'.cell? ⟨nb, no + k, none⟩ = some (.int .i64 (gi N.inputs k)) := fun w' h => ⟨h.cell' e0, h.cell' e1, h.cell' e2, h.cell' p1, h.cell' p2⟩
          clear e0 e1 e2 p1 p2
          have HD := Lib.hid (Ext.rfl' wx).drew'
          go_wp2_with fail
          refine wp_region_gate (n := 20) (S := fun w' => w'.cell? ⟨w.heap.size, 0, none⟩ = some (.slice (some ⟨eb, eo, none⟩) N.ends.length ec) ∧ w'.cell? ⟨w.heap.size, 1, none⟩ = some (.slice ia N.ids.length ic) ∧ w'.cell? ⟨w.heap.size, 2, none⟩ = some (.slice (some ⟨nb, no, none⟩) N.inputs.length nc) ∧ w'.cell? ⟨sb, so + k, none⟩ = some (.int .i64 (gi s k)) ∧ w'.cell? ⟨nb, no + k, none⟩ = some (.int .i64 (gi N.inputs k))) (by kernel_rfl) (mkS _ (Ext.rfl' wx).drew') (fun hHeld => ?_)
          refine wpAnyG_take (i := 0) (v := ?_) rfl (by decide +kernel) (by kernel_rfl) (by decide) (by kernel_rfl) (by kernel_rfl) (fun _ _ _ h => h) (Or.inl ⟨by kernel_rfl, ?_⟩) hHeld ?_
          rotate_left 1
          · (intro w' hSw; (try dsimp only at hSw); go_simp) <;> with_reducible rfl
          simp only [Act.put]
          refine wpAnyG_take (i := 1) (v := ?_) rfl (by decide +kernel) (by kernel_rfl) (by decide) (by kernel_rfl) (by kernel_rfl) (fun _ _ _ h => h) (Or.inl ⟨by kernel_rfl, ?_⟩) hHeld ?_
          rotate_left 1
          · (intro w' hSw; (try dsimp only at hSw); go_simp) <;> with_reducible rfl
          simp only [Act.put]
          refine wpAnyG_take (i := 2) (v := ?_) rfl (by decide +kernel) (by kernel_rfl) (by decide) (by kernel_rfl) (by kernel_rfl) (fun _ _ _ h => h) (Or.inl ⟨by kernel_rfl, ?_⟩) hHeld ?_
          rotate_left 1
          · (intro w' hSw; (try dsimp only at hSw); go_simp) <;> with_reducible rfl
          simp only [Act.put]
          refine wpAnyG_take (i := 3) (v := ?_) rfl (by decide +kernel) (by kernel_rfl) (by decide) (by kernel_rfl) (by kernel_rfl) (fun _ _ _ h => h) (Or.inl ⟨by kernel_rfl, ?_⟩) hHeld ?_
          rotate_left 1
          · (intro w' hSw; (try dsimp only at hSw); go_simp) <;> with_reducible rfl
          simp only [Act.put]
          refine wpAnyG_take (i := 4) (v := ?_) rfl (by decide +kernel) (by kernel_rfl) (by decide) (by kernel_rfl) (by kernel_rfl) (fun _ _ _ h => h) (Or.inl ⟨by kernel_rfl, ?_⟩) hHeld ?_
          rotate_left 1
          · (intro w' hSw; (try dsimp only at hSw); go_simp) <;> with_reducible rfl
          simp only [Act.put]
          refine wpAnyG_take (i := 5) (v := ?_) rfl (by decide +kernel) (by kernel_rfl) (by decide) (by kernel_rfl) (by kernel_rfl) (fun _ _ _ h => h) (Or.inl ⟨by kernel_rfl, ?_⟩) hHeld ?_
          rotate_left 1
          · (intro w' hSw; (try dsimp only at hSw); go_simp) <;> with_reducible rfl
          simp only [Act.put]
          refine wpAnyG_take (i := 6) (v := ?_) rfl (by decide +kernel) (by kernel_rfl) (by decide) (by kernel_rfl) (by kernel_rfl) (fun _ _ _ h => h) (Or.inl ⟨by kernel_rfl, ?_⟩) hHeld ?_
          rotate_left 1
          · (intro w' hSw; (try dsimp only at hSw); go_simp) <;> with_reducible rfl
          simp only [Act.put]
          refine wpAnyG_take (i := 7) (v := ?_) rfl (by decide +kernel) (by kernel_rfl) (by decide) (by kernel_rfl) (by kernel_rfl) (fun _ _ _ h => h) (Or.inl ⟨by kernel_rfl, ?_⟩) hHeld ?_
          rotate_left 1
          · (intro w' hSw; (try dsimp only at hSw); go_simp) <;> with_reducible rfl
          simp only [Act.put]
          refine wpAnyG_take (i := 8) (v := ?_) rfl (by decide +kernel) (by kernel_rfl) (by decide) (by kernel_rfl) (by kernel_rfl) (fun _ _ _ h => h) (Or.inl ⟨by kernel_rfl, ?_⟩) hHeld ?_
          rotate_left 1
          · (intro w' hSw; (try dsimp only at hSw); go_simp) <;> with_reducible rfl
          simp only [Act.put]
          refine wpAnyG_take (i := 10) (v := ?_) rfl (by decide +kernel) (by kernel_rfl) (by decide) (by kernel_rfl) (by kernel_rfl) (fun _ _ _ h => h) (Or.inl ⟨by kernel_rfl, ?_⟩) hHeld ?_
          rotate_left 1
          · (intro w' hSw; (try dsimp only at hSw); go_simp) <;> with_reducible rfl
          simp only [Act.put]
          refine wpAnyG_take (i := 11) (v := ?_) rfl (by decide +kernel) (by kernel_rfl) (by decide) (by kernel_rfl) (by kernel_rfl) (fun _ _ _ h => h) (Or.inl ⟨by kernel_rfl, ?_⟩) hHeld ?_
          rotate_left 1
          · (intro w' hSw; (try dsimp only at hSw); go_simp) <;> with_reducible rfl
          simp only [Act.put]
          refine wpAnyG_take (i := 12) (v := ?_) rfl (by decide +kernel) (by kernel_rfl) (by decide) (by kernel_rfl) (by kernel_rfl) (fun _ _ _ h => h) (Or.inl ⟨by kernel_rfl, ?_⟩) hHeld ?_
          rotate_left 1
          · (intro w' hSw; (try dsimp only at hSw); go_simp) <;> with_reducible rfl
          simp only [Act.put]
          refine wpAnyG_take (i := 13) (v := ?_) rfl (by decide +kernel) (by kernel_rfl) (by decide) (by kernel_rfl) (by kernel_rfl) (fun _ _ _ h => h) (Or.inl ⟨by kernel_rfl, ?_⟩) hHeld ?_
          rotate_left 1
          · (intro w' hSw; (try dsimp only at hSw); go_simp) <;> with_reducible rfl
          simp only [Act.put]
          refine wpAnyG_take (i := 14) (v := ?_) rfl (by decide +kernel) (by kernel_rfl) (by decide) (by kernel_rfl) (by kernel_rfl) (fun _ _ _ h => h) (Or.inl ⟨by kernel_rfl, ?_⟩) hHeld ?_
          rotate_left 1
          · (intro w' hSw; (try dsimp only at hSw); go_simp) <;> with_reducible rfl
          simp only [Act.put]
          refine wpAnyG_take (i := 15) (v := ?_) rfl (by decide +kernel) (by kernel_rfl) (by decide) (by kernel_rfl) (by kernel_rfl) (fun _ _ _ h => h) (Or.inl ⟨by kernel_rfl, ?_⟩) hHeld ?_
          rotate_left 1
          · (intro w' hSw; (try dsimp only at hSw); go_simp) <;> with_reducible rfl
          simp only [Act.put]
          refine wpAnyG_take (i := 16) (v := ?_) rfl (by decide +kernel) (by kernel_rfl) (by decide) (by kernel_rfl) (by kernel_rfl) (fun _ _ _ h => h) (Or.inl ⟨by kernel_rfl, ?_⟩) hHeld ?_
          rotate_left 1
          · (intro w' hSw; (try dsimp only at hSw); go_simp) <;> with_reducible rfl
          simp only [Act.put]
          refine wpAnyG_one (i := 9) rfl (by kernel_rfl) rfl (fun K hK => ?_)
          go_simp
          (with_reducible refine (idOf_any (HN.out.ext ((HX1.out.trans' XX.out).trans' HD.out)) HGD.out k hlt).mono ?_)
          rintro e w3 ⟨rfl, hx⟩
          have X3 := Lib.hid (HD.out.trans' hx)
          clear hx
          clear hHeld
          refine hK.out _ _ (fun _ => mkS _ X3.out) (fun hHeld' => ?_)
          have hHeld := hHeld' (by decide)
          clear hK K hHeld'
          refine wpAnyG_take (i := 17) (v := ?_) rfl (by decide +kernel) (by kernel_rfl) (by decide) (by kernel_rfl) (by kernel_rfl) (fun _ _ _ h => h) (Or.inl ⟨by kernel_rfl, ?_⟩) hHeld ?_
          rotate_left 1
          · (intro w' hSw; (try dsimp only at hSw); go_simp) <;> with_reducible rfl
          simp only [Act.put]
          refine wpAnyG_one (i := 18) rfl (by kernel_rfl) rfl (fun K hK => ?_)
          go_simp
          (with_reducible refine (resultOf_any rfl (HRR.out.ext ((HX1.out.trans' XX.out).trans' X3.out)) HP.out (HSG.out _ X3.out) HSK.out).mono ?_)
          rintro e w4 ⟨rfl, hx⟩
          have X4 := Lib.hid (X3.out.trans' hx)
          have HN4 := Lib.hid (row_ext HNX.out X4.out)
          have g1 := HN4.out.cell hks
          have g2 := HN4.out.frozen k
          clear hx
          clear hHeld
          refine hK.out _ _ (fun _ => mkS _ X4.out) (fun hHeld' => ?_)
          have hHeld := hHeld' (by decide)
          clear hK K hHeld'
          refine wpAnyG_take (i := 19) (v := ?_) rfl (by decide +kernel) (by kernel_rfl) (by decide) (by kernel_rfl) (by kernel_rfl) (fun _ _ _ h => h) (Or.inl ⟨by kernel_rfl, ?_⟩) hHeld ?_
          rotate_left 1
          · (intro w' hSw; (try dsimp only at hSw); go_simp) <;> with_reducible rfl
          simp only [Act.put]
          refine wpAnyG_one (i := 20) rfl (by kernel_rfl) rfl (fun K hK => ?_)
          go_simp
          refine hK.out _ _ (fun h => absurd rfl h) (fun _ => ?_)
          clear hK K
          refine wpAnyG_done (by kernel_rfl) ?_ _
          clear mkS g1 g2
          have HX5 := Lib.hid (show Ext W1 (w4.setCell ⟨w.heap.size + 1, k, none⟩ (.int .i64 (evl (sgV N r s k) l))) from (XX.out.trans' X4.out).store (by rw [HZ1.out]; exact Nat.le_refl _) _)
          have HN5 := Lib.hid (nxc_step HN4.out)
          have HZ5 := Lib.hid (show w.heap.size + 2 ≤ (w4.setCell ⟨w.heap.size + 1, k, none⟩ (.int .i64 (evl (sgV N r s k) l))).heap.size by have := X4.out.size; have := Hs.out.1.size; have := Hr.out.2.1; simp; omega)
          go_wp2_with fail
          go_roundg (N.ends.length - (k + 1))
          case measure => omega
          case rel => exact ⟨k + 1, by omega, rfl, by go_num, HX5.out, HZ5.out, HN5.out⟩
    · obtain rfl : k = N.ends.length := by omega
      have HRG := Lib.hid (show ∀ i, i < (stepV l N r s).length → inI64 (gi (stepV l N r s) i) from fun i hi => by
        rw [length_stepV] at hi
        show inI64 (gi (stepTo l N r s N.ends.length) i)
        rw [gi_stepTo _ _ _ _ _ _ hi]
        have := evl_range (sgV N r s i) HP.out
        unfold inI64; omega)
      have HO := Lib.hid (show OwnI wr (.slice (some ⟨w.heap.size + 1, 0, none⟩) s.length s.length) (stepV l N r s) [w.heap.size + 1] from by
        have hl : (stepV l N r s).length = s.length := by rw [length_stepV]; exact HSL.out.symm
        refine ⟨?_, HRG.out⟩
        rw [hl]
        refine own_made (k := 1) (f := fun i => .int .i64 (gi (stepV l N r s) i)) (by have := Hr.out.2.2; simpa using this) (by unfold maxLen; omega) (fun i hi => ?_)
        have hi' : i < N.ends.length := by have := HSL.out; omega
        show nxc l N r s N.ends.length i = .int .i64 (gi (stepTo l N r s N.ends.length) i)
        rw [gi_stepTo _ _ _ _ _ _ hi']
        simp only [nxc]
        rw [if_pos hi'])
      go_wp2_with fail
      go_ret
      exact ⟨_, _, rfl, HX1.out.trans' Hr.out.1, HO.out, by simp, by simp⟩
end Go.Proofs.YtbddjejpacaglaaGreatDoor
