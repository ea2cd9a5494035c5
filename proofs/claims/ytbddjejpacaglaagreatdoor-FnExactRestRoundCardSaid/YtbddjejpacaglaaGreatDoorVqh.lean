/- The model's result of a program. -/
import Derived.Test.YtbddjejpacaglaaGreatDoorVqg
import Derived.Deep.RegionHeldLaw
namespace Go.Proofs.YtbddjejpacaglaaGreatDoor
open Go.RowKit

theorem grow_sl {B : Nat} {w : World} {v : Value} {L : List Int} (h : GrowN B w v L) : ∃ a c, v = .slice a L.length c := h.slice
/-- A number is put onto a stack that may be nil. -/
theorem stk_push2 {W w2 w3 : World} {v v' : Value} {r : Nat} {L : List Int} {x : Int} (hg : Grew w2 w3 W.heap.size 3 1 v v' (r + 1) (intCells (L.take r) ++ intCells [x])) (hr : r ≤ L.length) (hB : ∀ b, v.ownBlock = some b → W.heap.size ≤ b) (he : Ext W w2) :
    ∃ a c, v' = .slice a (r + 1) c ∧ Ext W w3 ∧ GrowN W.heap.size w3 (.slice a (r + 1) c) (L.take r ++ [x]) := by
  have hl : (L.take r).length = r := by simp; omega
  have hx := hg.ext he hB
  have hg' : Grew w2 w3 W.heap.size 3 1 v v' ((L.take r).length + 1) (intCells (L.take r) ++ intCells [x]) := by rw [hl]; exact hg
  have hG := GrowN.step hg' rfl
  obtain ⟨a, c, rfl⟩ := hG.slice
  have e : (L.take r ++ [x]).length = r + 1 := by simp; omega
  rw [e] at hG
  exact ⟨a, c, by rw [e], hx, hG⟩
theorem vaTwo_quiet (x a b : Int) (hx : 13 ≤ x ∧ x ≤ 18) (ha : -1000000 ≤ a ∧ a ≤ 1000000) (hb : -1000000 ≤ b ∧ b ≤ 1000000) {w : World} {n : Nat} :
    Calls Tryz.prog 76 #[.int .i64 x, .int .i64 a, .int .i64 b] (w.drewN n) fun e w'' => e = .returned (.int .i64 (twoV x a b)) ∧ ∃ m, w'' = w.drewN m :=
  Calls.quiet_of_same (vaTwo_any x a b hx ha hb _)

theorem args_at {w : World} {ay : Option Addr} {N cy : Nat} {A : List Int} (h : IntSl w (.slice ay N cy) A) (hl : A.length = N) (h0 : 0 < N) :
    ∃ b o, ay = some ⟨b, o, none⟩ ∧ ∀ i, i < N → w.cell? ⟨b, o + i, none⟩ = some (.int .i64 (gi A i)) := by
  obtain ⟨a, b, o, c, e, ha, -, -, hc⟩ := h
  simp only [Value.slice.injEq] at e
  obtain ⟨rfl, -, rfl⟩ := e
  refine ⟨b, o, ha (by omega), fun i hi => ?_⟩
  obtain ⟨x, hx, rfl, -⟩ := hc i (by omega)
  exact hx
set_option maxHeartbeats 12800000 in
set_option maxRecDepth 100000 in
theorem vaEval_any {w : World} {pv sv : Value} {l : List (Int × Int)} {S : Sg} (hpv : EndSl w pv l) (hp : ProgOK l) (hs : SightAt w sv S) (ho : SgOK S) :
    Calls Tryz.prog 58 #[pv, sv] w fun e w' => e = .returned (.int .i64 (evl S l)) ∧ Ext w w' := by
  obtain ⟨sa, sc, rfl, hn⟩ := hs
  obtain ⟨pa, pb, po, pc, rfl, hpa, hp3, hp4, hpc⟩ := hpv
  unfold maxLen at hp4
  have Hc := Lib.hid hpc
  have Ha := Lib.hid hpa
  have HP := Lib.hid hp
  have HO := Lib.hid ho
  obtain ⟨W1, hW1⟩ : ∃ W1 : World, W1 = w.alloc (.cells #[.int .i64 S.own, .int .i64 S.id, .int .i64 S.inp, .int .i64 S.rnd, .slice sa S.near.length sc] 86) := ⟨_, rfl⟩
  have hx1 : Ext w W1 := by rw [hW1]; exact (Ext.rfl' w).alloc' _
  have hb1 := row5_made w (.int .i64 S.own) (.int .i64 S.id) (.int .i64 S.inp) (.int .i64 S.rnd) (.slice sa S.near.length sc) 86
  rw [← hW1] at hb1
  have HB := Lib.hid hb1
  have HX1 := Lib.hid hx1
  have HN := Lib.hid (hn.ext hx1)
  have hlen : l.length ≤ 40 := by have := hp.1.2; omega
  obtain ⟨i0, hi, hz0, hz1, hz2⟩ := info_parts Tryz.info3
  have I0 := Lib.hid (And.intro hi (And.intro hz0 (And.intro hz1 hz2)))
  have HW1 := Lib.hid hW1
  clear hx1 hb1 hn hp ho hW1 hi hz0 hz1 hz2 hpa hpc
  go_enter Tryz.func58, Tryz.ntmps58
  go_wp2_with fail
  go_loopg [5, 13] l.length (fun g t5 i wr => ∃ (k : Nat) (ao : Option Addr) (c : Nat), k ≤ l.length ∧ g = l.length - k ∧ t5 = .slice ao (stk S l k).length c ∧ i = .int .i64 (k : Int) ∧ Hid (Ext W1 wr ∧ GrowN W1.heap.size wr (.slice ao (stk S l k).length c) (stk S l k)))
  case atStart => exact ⟨0, _, _, Nat.zero_le _, rfl, rfl, rfl, by rw [HW1.out]; exact Ext.rfl' _, GrowN.nil _ _⟩
  case round =>
    obtain ⟨k, ao, c, hk, rfl, rfl, rfl, Hr⟩ := hrel
    have hln : ((stk S l k).length : Int) = hg l k := stk_len S k fun j hj => HP.out.2.1 j (by omega)
    by_cases hlt : k < l.length
    · obtain ⟨hop, hnd⟩ := HP.out.2.1 k hlt
      have hkk := hg_hi l k
      have HLR := Lib.hid (stk_range S l k)
      have HST := Lib.hid (show stk S l (k + 1) = (stk S l k).take ((stk S l k).length - nd (gn l k)) ++ [clp (opv S (gn l k) (gp l k) ((stk S l k).drop ((stk S l k).length - nd (gn l k))))] from rfl)
      obtain ⟨q1, q2, -, -⟩ := Hc.out k hlt
      obtain rfl := Ha.out (by omega)
      have s1 := Hr.out.1.cell' (HX1.out.cell' q1)
      have s2 := Hr.out.1.cell' (HX1.out.cell' q2)
      clear q1 q2
      have hx19 := hop.1
      unfold InB at hx19
      generalize gn l k = x at *
      generalize gp l k = y at *
      generalize hL : stk S l k = L at *
      have hr : L.length - nd x + nd x = L.length := by omega
      generalize L.length - nd x = r at *
      obtain ⟨z, hzr⟩ : ∃ z : Int, z = (r : Int) := ⟨_, rfl⟩
      have hz : (L.length : Int) - (nd x : Int) = z := by omega
      obtain ⟨a2, c2, hs2, hI2⟩ := stk_low Hr.out.2 HLR.out r (by omega) z hzr
      obtain ⟨a3, c3, hs3, hG3, hb3⟩ := stk_hi Hr.out.2 r (by omega) z hzr
      have hLr : L.length - r = nd x := by omega
      rw [hLr] at hs2 hI2
      have hAl : (L.drop r).length = nd x := by rw [List.length_drop]; exact hLr
      have hl40 : L.length ≤ 40 := by omega
      have hrL := Lib.hid (show r ≤ L.length by omega)
      have HNL := Lib.hid hlt
      have HAR := Lib.hid (allIn_drop HLR.out r)
      have HG3 := Lib.hid hG3
      have HB3 := Lib.hid hb3
      have hu := (Ext.rfl' wr).alloc' (.cells #[.int .i64 x, .int .i64 y] 59)
      have HU := Lib.hid hu
      obtain ⟨b0, b1, b2, b3, b4⟩ := HB.out
      have HBU := Lib.hid (show _ ∧ _ ∧ _ ∧ _ ∧ _ from ⟨hu.cell' (Hr.out.1.cell' b0), hu.cell' (Hr.out.1.cell' b1), hu.cell' (Hr.out.1.cell' b2), hu.cell' (Hr.out.1.cell' b3), hu.cell' (Hr.out.1.cell' b4)⟩)
      have HOB := Lib.hid (val2_made wr (.int .i64 x) (.int .i64 y) 59)
      have HI2 := Lib.hid (hI2.ext hu)
      have hn3 := nd_le x
      clear hln hkk hnd hr hL hzr hLr hG3 hb3 hu b0 b1 b2 b3 b4 hI2 hop
      obtain ⟨A, hA⟩ : ∃ A, A = L.drop r := ⟨_, rfl⟩
      rw [← hA] at HST HI2 HAR hAl
      clear hA
      have HAL := Lib.hid hAl
      generalize hNx : nd x = N at *
      clear hAl
      go_wp2_with (go_at_call 71; (with_reducible refine (vaNeeds_any _ _).mono ?_); rintro e _ ⟨rfl, rfl⟩; rw [hNx])
      (with_reducible refine (l1Own_any HI2.out (by have := HAL.out; omega)).mono ?_)
      rintro e w2 ⟨ay, cy, by0, rfl, hx, ho, -⟩
      rw [HAL.out] at ho ⊢
      have HA2 := Lib.hid ho.read
      have HX2 := Lib.hid (HU.out.trans' hx)
      have HBV := Lib.hid (show _ ∧ _ ∧ _ ∧ _ ∧ _ from ⟨hx.cell' HBU.out.1, hx.cell' HBU.out.2.1, hx.cell' HBU.out.2.2.1, hx.cell' HBU.out.2.2.2.1, hx.cell' HBU.out.2.2.2.2⟩)
      have HOV := Lib.hid (show _ ∧ _ from ⟨hx.cell' HOB.out.1, hx.cell' HOB.out.2⟩)
      have HOW : Hid (∀ u : World, Ext wr u → u.ownsRow W1.heap.size 3 1 (.slice a3 r c3) r (intCells (L.take r))) := fun u hu => by
        have h1 := HG3.out u hu
        unfold GrowN at h1
        rw [show (L.take r).length = r by have := hrL.out; simp; omega] at h1
        exact h1
      have HSW := Lib.hid (show SightAt w2 (.agg #[.int .i64 S.own, .int .i64 S.id, .int .i64 S.inp, .int .i64 S.rnd, .slice sa S.near.length sc]) S from ⟨sa, sc, rfl, HN.out.ext (Hr.out.1.trans' HX2.out)⟩)
      clear hx ho s1 s2
      by_cases hx10 : x ≤ 10
      · obtain rfl : N = 0 := by rw [← hNx]; unfold nd; rw [if_neg (by omega), if_neg (by omega), if_neg (by omega)]
        have HAN := Lib.hid (show A = [] from List.eq_nil_of_length_eq_zero HAL.out)
        obtain ⟨b0, b1, b2, b3, b4⟩ := HBV.out
        obtain ⟨p0, p1⟩ := HOV.out
        go_wp2_with fail
        (with_reducible refine (vaLook_any HSW.out HO.out x y (by omega)).mono ?_)
        rintro e w3 ⟨rfl, hx3⟩
        rw [show opv S x y [] = opv S x y A by rw [HAN.out]]
        have HVW := Lib.hid (HX2.out.trans' hx3)
        clear hx3 b0 b1 b2 b3 b4 p0 p1
        generalize opv S x y A = zz at *
        go_wp2_with fail
        have XD := Lib.hid (Ext.rfl' w3).drew'
        have XE1 := Lib.hid (Hr.out.1.trans' (HVW.out.trans' XD.out))
        have XE2 := Lib.hid (XE1.out.alloc' (.cells #[.int .i64 (clp zz)] 3))
        have XE3 := Lib.hid ((Hr.out.1.trans' (HVW.out.alloc' (.cells #[.int .i64 (clp zz)] 3))).drew')
        go_region_held_law (fun w' => Hid (Ext W1 w')) (first | exact SDone | exact XE1 | exact XE2 | exact XE3 | fail)
          (first
            | (go_at_call 77; (with_reducible refine (vaClip_any _ _).mono ?_); rintro e _ ⟨rfl, rfl⟩)
            | (refine step_app rfl (.tmp 82) (.tmp 85) 24 rfl W1.heap.size 3 i0 (.int .i64 0) 1 8 Tryz.underlying24 I0.out.1 I0.out.2.1 I0.out.2.2.1 I0.out.2.2.2 rfl (by decide) (.slice a3 r c3) r (intCells (L.take r)) rfl (HOW.out _ (by first | exact HVW.out.trans' (XD.out.alloc' _) | exact (HVW.out.alloc' _).drew' | exact HVW.out.alloc' _)) (some ⟨w3.heap.size, 0, none⟩) 1 1 (intCells [clp zz]) rfl (by first | exact src_oneV w3.drew (clp zz) 3 | exact src_oneV w3 (clp zz) 3) (by have := hrL.out; unfold maxLen; omega) (by have := hrL.out; omega) (by first | exact Nat.le_trans Hr.out.1.size (HVW.out.trans' (XD.out.alloc' _)).size | exact Nat.le_trans Hr.out.1.size ((HVW.out.alloc' _).drew').size) ?_
               intro v' w4 hg
               obtain ⟨a4, c4, rfl, hx4, hG4⟩ := stk_push2 hg hrL.out HB3.out (by first | exact Hr.out.1.trans' (HVW.out.trans' (XD.out.alloc' _)) | exact Hr.out.1.trans' ((HVW.out.alloc' _).drew'))
               have H4 := Lib.hid (And.intro hx4 hG4)
               have SDone := Lib.hid hx4
               clear hg hx4 hG4)
            | fail)
        go_wp2_with fail
        have hl2 : (stk S l (k + 1)).length = r + 1 := by rw [HST.out]; have := hrL.out; simp; omega
        have hlt' := HNL.out
        go_roundg (l.length - (k + 1))
        case measure => omega
        case rel => exact ⟨k + 1, a4, c4, by omega, rfl, by rw [hl2], by go_num, H4.out.1, by rw [hl2, HST.out]; exact H4.out.2⟩
      · by_cases hx11 : x = 11
        · subst hx11
          obtain rfl : N = 1 := by rw [← hNx]; rfl
          obtain ⟨ab, ao', rfl, hcA⟩ := args_at HA2.out HAL.out (by omega)
          have t0 := hcA 0 (by omega)
          have r0 := HAR.out 0 (by have := HAL.out; omega)
          rw [Nat.add_zero] at t0
          clear hcA
          have HV := Lib.hid (show opv S 11 y A = (cbTo S.near (gi A 0) (gi A 0) S.near.length : Int) by simp [opv])
          obtain ⟨b0, b1, b2, b3, b4⟩ := HBV.out
          obtain ⟨p0, p1⟩ := HOV.out
          generalize gi A 0 = a0 at *
          have HD := Lib.hid (Ext.rfl' w2).drew'
          have hw1 : IntKind.i64.wrap (a0 + 1) = a0 + 1 := by rw [IntKind.wrap_i64]; omega
          go_wp2_with fail
          go_region_held3 (fun w' => w'.cell? ⟨w.heap.size, 0, none⟩ = some (.int .i64 S.own) ∧ w'.cell? ⟨w.heap.size, 1, none⟩ = some (.int .i64 S.id) ∧ w'.cell? ⟨w.heap.size, 2, none⟩ = some (.int .i64 S.inp) ∧ w'.cell? ⟨w.heap.size, 3, none⟩ = some (.int .i64 S.rnd) ∧ w'.cell? ⟨w.heap.size, 4, none⟩ = some (.slice sa S.near.length sc) ∧ w'.cell? ⟨ab, ao', none⟩ = some (.int .i64 a0) ∧ Hid (Ext w2 w')) (first | exact ⟨b0, b1, b2, b3, b4, t0, HD⟩ | exact ⟨hx.cell' ‹_›, hx.cell' ‹_›, hx.cell' ‹_›, hx.cell' ‹_›, hx.cell' ‹_›, hx.cell' ‹_›, Ext.trans' (Hid.out ‹_›) hx⟩) (first | (go_at_call 75; (with_reducible refine (vaCount_any (HSW.out.ext HD.out) HO.out _ _).mono ?_); rintro e w3 ⟨rfl, hx⟩))
          rename_i hh
          have HVW := Lib.hid (HX2.out.trans' (Hid.out hh.2.2.2.2.2.2))
          clear hh hx b0 b1 b2 b3 b4 p0 p1 t0 r0 hw1
          first | rw [show (a0 + 1 - 1 : Int) = a0 by omega] | skip
          generalize (cbTo S.near a0 a0 S.near.length : Int) = zz at *
          rw [HV.out] at HST
          go_wp2_with fail
          have XD := Lib.hid (Ext.rfl' w3).drew'
          have XE1 := Lib.hid (Hr.out.1.trans' (HVW.out.trans' XD.out))
          have XE2 := Lib.hid (XE1.out.alloc' (.cells #[.int .i64 (clp zz)] 3))
          have XE3 := Lib.hid ((Hr.out.1.trans' (HVW.out.alloc' (.cells #[.int .i64 (clp zz)] 3))).drew')
          go_region_held_law (fun w' => Hid (Ext W1 w')) (first | exact SDone | exact XE1 | exact XE2 | exact XE3 | fail)
            (first
              | (go_at_call 77; (with_reducible refine (vaClip_any _ _).mono ?_); rintro e _ ⟨rfl, rfl⟩)
              | (refine step_app rfl (.tmp 82) (.tmp 85) 24 rfl W1.heap.size 3 i0 (.int .i64 0) 1 8 Tryz.underlying24 I0.out.1 I0.out.2.1 I0.out.2.2.1 I0.out.2.2.2 rfl (by decide) (.slice a3 r c3) r (intCells (L.take r)) rfl (HOW.out _ (by first | exact HVW.out.trans' (XD.out.alloc' _) | exact (HVW.out.alloc' _).drew' | exact HVW.out.alloc' _)) (some ⟨w3.heap.size, 0, none⟩) 1 1 (intCells [clp zz]) rfl (by first | exact src_oneV w3.drew (clp zz) 3 | exact src_oneV w3 (clp zz) 3) (by have := hrL.out; unfold maxLen; omega) (by have := hrL.out; omega) (by first | exact Nat.le_trans Hr.out.1.size (HVW.out.trans' (XD.out.alloc' _)).size | exact Nat.le_trans Hr.out.1.size ((HVW.out.alloc' _).drew').size) ?_
                 intro v' w4 hg
                 obtain ⟨a4, c4, rfl, hx4, hG4⟩ := stk_push2 hg hrL.out HB3.out (by first | exact Hr.out.1.trans' (HVW.out.trans' (XD.out.alloc' _)) | exact Hr.out.1.trans' ((HVW.out.alloc' _).drew'))
                 have H4 := Lib.hid (And.intro hx4 hG4)
                 have SDone := Lib.hid hx4
                 clear hg hx4 hG4)
              | fail)
          go_wp2_with fail
          have hl2 : (stk S l (k + 1)).length = r + 1 := by rw [HST.out]; have := hrL.out; simp; omega
          have hlt' := HNL.out
          go_roundg (l.length - (k + 1))
          case measure => omega
          case rel => exact ⟨k + 1, a4, c4, by omega, rfl, by rw [hl2], by go_num, H4.out.1, by rw [hl2, HST.out]; exact H4.out.2⟩
        · by_cases hx12 : x = 12
          · subst hx12
            obtain rfl : N = 1 := by rw [← hNx]; rfl
            obtain ⟨ab, ao', rfl, hcA⟩ := args_at HA2.out HAL.out (by omega)
            have t0 := hcA 0 (by omega)
            have r0 := HAR.out 0 (by have := HAL.out; omega)
            rw [Nat.add_zero] at t0
            clear hcA
            have HV := Lib.hid (show opv S 12 y A = (cbTo S.near (-1000000) (gi A 0 - 1) S.near.length : Int) by simp [opv])
            obtain ⟨b0, b1, b2, b3, b4⟩ := HBV.out
            obtain ⟨p0, p1⟩ := HOV.out
            generalize gi A 0 = a0 at *
            have HD := Lib.hid (Ext.rfl' w2).drew'
            go_wp2_with fail
            go_region_held3 (fun w' => w'.cell? ⟨w.heap.size, 0, none⟩ = some (.int .i64 S.own) ∧ w'.cell? ⟨w.heap.size, 1, none⟩ = some (.int .i64 S.id) ∧ w'.cell? ⟨w.heap.size, 2, none⟩ = some (.int .i64 S.inp) ∧ w'.cell? ⟨w.heap.size, 3, none⟩ = some (.int .i64 S.rnd) ∧ w'.cell? ⟨w.heap.size, 4, none⟩ = some (.slice sa S.near.length sc) ∧ w'.cell? ⟨ab, ao', none⟩ = some (.int .i64 a0) ∧ Hid (Ext w2 w')) (first | exact ⟨b0, b1, b2, b3, b4, t0, HD⟩ | exact ⟨hx.cell' ‹_›, hx.cell' ‹_›, hx.cell' ‹_›, hx.cell' ‹_›, hx.cell' ‹_›, hx.cell' ‹_›, Ext.trans' (Hid.out ‹_›) hx⟩) (first | (go_at_call 75; (with_reducible refine (vaCount_any (HSW.out.ext HD.out) HO.out _ _).mono ?_); rintro e w3 ⟨rfl, hx⟩))
            rename_i hh
            have HVW := Lib.hid (HX2.out.trans' (Hid.out hh.2.2.2.2.2.2))
            clear hh hx b0 b1 b2 b3 b4 p0 p1 t0 r0
            generalize (cbTo S.near (-1000000) (a0 - 1) S.near.length : Int) = zz at *
            rw [HV.out] at HST
            go_wp2_with fail
            have XD := Lib.hid (Ext.rfl' w3).drew'
            have XE1 := Lib.hid (Hr.out.1.trans' (HVW.out.trans' XD.out))
            have XE2 := Lib.hid (XE1.out.alloc' (.cells #[.int .i64 (clp zz)] 3))
            have XE3 := Lib.hid ((Hr.out.1.trans' (HVW.out.alloc' (.cells #[.int .i64 (clp zz)] 3))).drew')
            go_region_held_law (fun w' => Hid (Ext W1 w')) (first | exact SDone | exact XE1 | exact XE2 | exact XE3 | fail)
              (first
                | (go_at_call 77; (with_reducible refine (vaClip_any _ _).mono ?_); rintro e _ ⟨rfl, rfl⟩)
                | (refine step_app rfl (.tmp 82) (.tmp 85) 24 rfl W1.heap.size 3 i0 (.int .i64 0) 1 8 Tryz.underlying24 I0.out.1 I0.out.2.1 I0.out.2.2.1 I0.out.2.2.2 rfl (by decide) (.slice a3 r c3) r (intCells (L.take r)) rfl (HOW.out _ (by first | exact HVW.out.trans' (XD.out.alloc' _) | exact (HVW.out.alloc' _).drew' | exact HVW.out.alloc' _)) (some ⟨w3.heap.size, 0, none⟩) 1 1 (intCells [clp zz]) rfl (by first | exact src_oneV w3.drew (clp zz) 3 | exact src_oneV w3 (clp zz) 3) (by have := hrL.out; unfold maxLen; omega) (by have := hrL.out; omega) (by first | exact Nat.le_trans Hr.out.1.size (HVW.out.trans' (XD.out.alloc' _)).size | exact Nat.le_trans Hr.out.1.size ((HVW.out.alloc' _).drew').size) ?_
                   intro v' w4 hg
                   obtain ⟨a4, c4, rfl, hx4, hG4⟩ := stk_push2 hg hrL.out HB3.out (by first | exact Hr.out.1.trans' (HVW.out.trans' (XD.out.alloc' _)) | exact Hr.out.1.trans' ((HVW.out.alloc' _).drew'))
                   have H4 := Lib.hid (And.intro hx4 hG4)
                   have SDone := Lib.hid hx4
                   clear hg hx4 hG4)
                | fail)
            go_wp2_with fail
            have hl2 : (stk S l (k + 1)).length = r + 1 := by rw [HST.out]; have := hrL.out; simp; omega
            have hlt' := HNL.out
            go_roundg (l.length - (k + 1))
            case measure => omega
            case rel => exact ⟨k + 1, a4, c4, by omega, rfl, by rw [hl2], by go_num, H4.out.1, by rw [hl2, HST.out]; exact H4.out.2⟩
          · have e11 : (x == 11) = false := beq_eq_false_iff_ne.2 hx11
            have e12 : (x == 12) = false := beq_eq_false_iff_ne.2 hx12
            by_cases hx19' : x = 19
            · subst hx19'
              obtain rfl : N = 3 := by rw [← hNx]; rfl
              obtain ⟨ab, ao', rfl, hcA⟩ := args_at HA2.out HAL.out (by omega)
              have t0 := hcA 0 (by omega)
              have r0 := HAR.out 0 (by have := HAL.out; omega)
              have t1 := hcA 1 (by omega)
              have r1 := HAR.out 1 (by have := HAL.out; omega)
              have t2 := hcA 2 (by omega)
              have r2 := HAR.out 2 (by have := HAL.out; omega)
              rw [Nat.add_zero] at t0
              clear hcA
              have HV := Lib.hid (show opv S 19 y A = if 0 < gi A 0 then gi A 1 else gi A 2 by simp [opv])
              obtain ⟨b0, b1, b2, b3, b4⟩ := HBV.out
              obtain ⟨p0, p1⟩ := HOV.out
              generalize gi A 0 = a0 at *
              generalize gi A 1 = a1 at *
              generalize gi A 2 = a2' at *
              by_cases h0 : 0 < a0
              · have d0 : decide (0 < a0) = true := by simpa using h0
                rw [show opv S 19 y A = a1 by rw [HV.out, if_pos h0]] at HST
                clear HV h0
                go_wp2_with fail
                have XD := Lib.hid (Ext.rfl' w2).drew'
                have XE1 := Lib.hid (Hr.out.1.trans' (HX2.out.trans' XD.out))
                have XE2 := Lib.hid (XE1.out.alloc' (.cells #[.int .i64 (clp a1)] 3))
                have XE3 := Lib.hid ((Hr.out.1.trans' (HX2.out.alloc' (.cells #[.int .i64 (clp a1)] 3))).drew')
                go_region_held_law (fun w' => Hid (Ext W1 w')) (first | exact SDone | exact XE1 | exact XE2 | exact XE3 | fail)
                  (first
                    | (go_at_call 77; (with_reducible refine (vaClip_any _ _).mono ?_); rintro e _ ⟨rfl, rfl⟩)
                    | (refine step_app rfl (.tmp 82) (.tmp 85) 24 rfl W1.heap.size 3 i0 (.int .i64 0) 1 8 Tryz.underlying24 I0.out.1 I0.out.2.1 I0.out.2.2.1 I0.out.2.2.2 rfl (by decide) (.slice a3 r c3) r (intCells (L.take r)) rfl (HOW.out _ (by first | exact HX2.out.trans' (XD.out.alloc' _) | exact (HX2.out.alloc' _).drew' | exact HX2.out.alloc' _)) (some ⟨w2.heap.size, 0, none⟩) 1 1 (intCells [clp a1]) rfl (by first | exact src_oneV w2.drew (clp a1) 3 | exact src_oneV w2 (clp a1) 3) (by have := hrL.out; unfold maxLen; omega) (by have := hrL.out; omega) (by first | exact Nat.le_trans Hr.out.1.size (HX2.out.trans' (XD.out.alloc' _)).size | exact Nat.le_trans Hr.out.1.size ((HX2.out.alloc' _).drew').size) ?_
                       intro v' w4 hg
                       obtain ⟨a4, c4, rfl, hx4, hG4⟩ := stk_push2 hg hrL.out HB3.out (by first | exact Hr.out.1.trans' (HX2.out.trans' (XD.out.alloc' _)) | exact Hr.out.1.trans' ((HX2.out.alloc' _).drew'))
                       have H4 := Lib.hid (And.intro hx4 hG4)
                       have SDone := Lib.hid hx4
                       clear hg hx4 hG4)
                    | fail)
                go_wp2_with fail
                have hl2 : (stk S l (k + 1)).length = r + 1 := by rw [HST.out]; have := hrL.out; simp; omega
                have hlt' := HNL.out
                go_roundg (l.length - (k + 1))
                case measure => omega
                case rel => exact ⟨k + 1, a4, c4, by omega, rfl, by rw [hl2], by go_num, H4.out.1, by rw [hl2, HST.out]; exact H4.out.2⟩
              · have d0 : decide (0 < a0) = false := by simpa using h0
                rw [show opv S 19 y A = a2' by rw [HV.out, if_neg h0]] at HST
                clear HV h0
                go_wp2_with fail
                have XD := Lib.hid (Ext.rfl' w2).drew'
                have XE1 := Lib.hid (Hr.out.1.trans' (HX2.out.trans' XD.out))
                have XE2 := Lib.hid (XE1.out.alloc' (.cells #[.int .i64 (clp a2')] 3))
                have XE3 := Lib.hid ((Hr.out.1.trans' (HX2.out.alloc' (.cells #[.int .i64 (clp a2')] 3))).drew')
                go_region_held_law (fun w' => Hid (Ext W1 w')) (first | exact SDone | exact XE1 | exact XE2 | exact XE3 | fail)
                  (first
                    | (go_at_call 77; (with_reducible refine (vaClip_any _ _).mono ?_); rintro e _ ⟨rfl, rfl⟩)
                    | (refine step_app rfl (.tmp 82) (.tmp 85) 24 rfl W1.heap.size 3 i0 (.int .i64 0) 1 8 Tryz.underlying24 I0.out.1 I0.out.2.1 I0.out.2.2.1 I0.out.2.2.2 rfl (by decide) (.slice a3 r c3) r (intCells (L.take r)) rfl (HOW.out _ (by first | exact HX2.out.trans' (XD.out.alloc' _) | exact (HX2.out.alloc' _).drew' | exact HX2.out.alloc' _)) (some ⟨w2.heap.size, 0, none⟩) 1 1 (intCells [clp a2']) rfl (by first | exact src_oneV w2.drew (clp a2') 3 | exact src_oneV w2 (clp a2') 3) (by have := hrL.out; unfold maxLen; omega) (by have := hrL.out; omega) (by first | exact Nat.le_trans Hr.out.1.size (HX2.out.trans' (XD.out.alloc' _)).size | exact Nat.le_trans Hr.out.1.size ((HX2.out.alloc' _).drew').size) ?_
                       intro v' w4 hg
                       obtain ⟨a4, c4, rfl, hx4, hG4⟩ := stk_push2 hg hrL.out HB3.out (by first | exact Hr.out.1.trans' (HX2.out.trans' (XD.out.alloc' _)) | exact Hr.out.1.trans' ((HX2.out.alloc' _).drew'))
                       have H4 := Lib.hid (And.intro hx4 hG4)
                       have SDone := Lib.hid hx4
                       clear hg hx4 hG4)
                    | fail)
                go_wp2_with fail
                have hl2 : (stk S l (k + 1)).length = r + 1 := by rw [HST.out]; have := hrL.out; simp; omega
                have hlt' := HNL.out
                go_roundg (l.length - (k + 1))
                case measure => omega
                case rel => exact ⟨k + 1, a4, c4, by omega, rfl, by rw [hl2], by go_num, H4.out.1, by rw [hl2, HST.out]; exact H4.out.2⟩
            · obtain rfl : N = 2 := by rw [← hNx]; unfold nd; rw [if_neg hx19', if_pos (by omega)]
              obtain ⟨ab, ao', rfl, hcA⟩ := args_at HA2.out HAL.out (by omega)
              have t0 := hcA 0 (by omega)
              have r0 := HAR.out 0 (by have := HAL.out; omega)
              have t1 := hcA 1 (by omega)
              have r1 := HAR.out 1 (by have := HAL.out; omega)
              rw [Nat.add_zero] at t0
              clear hcA
              rw [opv_two S y (gi A 0) (gi A 1) A rfl rfl x (by omega)] at HST
              obtain ⟨b0, b1, b2, b3, b4⟩ := HBV.out
              obtain ⟨p0, p1⟩ := HOV.out
              generalize gi A 0 = a0 at *
              generalize gi A 1 = a1 at *
              have HD := Lib.hid (Ext.rfl' w2).drew'
              go_wp2_with fail
              go_region_held3 (fun w' => w'.cell? ⟨wr.heap.size, 0, none⟩ = some (.int .i64 x) ∧ w'.cell? ⟨ab, ao', none⟩ = some (.int .i64 a0) ∧ w'.cell? ⟨ab, ao' + 1, none⟩ = some (.int .i64 a1) ∧ Hid (Ext w2 w')) (first | exact ⟨p0, t0, t1, HD⟩ | exact ⟨hx.cell' ‹_›, hx.cell' ‹_›, hx.cell' ‹_›, Ext.trans' (Hid.out ‹_›) hx⟩) (first | (go_at_call 76; (with_reducible refine (vaTwo_any x a0 a1 (by omega) r0 r1 _).mono ?_); rintro e _ ⟨rfl, rfl⟩))
              obtain ⟨w3, hw3⟩ : ∃ w3 : World, w3 = w2.drew := ⟨_, rfl⟩
              have HVW := Lib.hid (show Ext wr w3 by rw [hw3]; exact HX2.out.drew')
              rw [← hw3]
              clear hw3 b0 b1 b2 b3 b4 p0 p1 t0 t1 r0 r1
              generalize twoV x a0 a1 = zz at *
              go_wp2_with fail
              have XD := Lib.hid (Ext.rfl' w3).drew'
              have XE1 := Lib.hid (Hr.out.1.trans' (HVW.out.trans' XD.out))
              have XE2 := Lib.hid (XE1.out.alloc' (.cells #[.int .i64 (clp zz)] 3))
              have XE3 := Lib.hid ((Hr.out.1.trans' (HVW.out.alloc' (.cells #[.int .i64 (clp zz)] 3))).drew')
              go_region_held_law (fun w' => Hid (Ext W1 w')) (first | exact SDone | exact XE1 | exact XE2 | exact XE3 | fail)
                (first
                  | (go_at_call 77; (with_reducible refine (vaClip_any _ _).mono ?_); rintro e _ ⟨rfl, rfl⟩)
                  | (refine step_app rfl (.tmp 82) (.tmp 85) 24 rfl W1.heap.size 3 i0 (.int .i64 0) 1 8 Tryz.underlying24 I0.out.1 I0.out.2.1 I0.out.2.2.1 I0.out.2.2.2 rfl (by decide) (.slice a3 r c3) r (intCells (L.take r)) rfl (HOW.out _ (by first | exact HVW.out.trans' (XD.out.alloc' _) | exact (HVW.out.alloc' _).drew' | exact HVW.out.alloc' _)) (some ⟨w3.heap.size, 0, none⟩) 1 1 (intCells [clp zz]) rfl (by first | exact src_oneV w3.drew (clp zz) 3 | exact src_oneV w3 (clp zz) 3) (by have := hrL.out; unfold maxLen; omega) (by have := hrL.out; omega) (by first | exact Nat.le_trans Hr.out.1.size (HVW.out.trans' (XD.out.alloc' _)).size | exact Nat.le_trans Hr.out.1.size ((HVW.out.alloc' _).drew').size) ?_
                     intro v' w4 hg
                     obtain ⟨a4, c4, rfl, hx4, hG4⟩ := stk_push2 hg hrL.out HB3.out (by first | exact Hr.out.1.trans' (HVW.out.trans' (XD.out.alloc' _)) | exact Hr.out.1.trans' ((HVW.out.alloc' _).drew'))
                     have H4 := Lib.hid (And.intro hx4 hG4)
                     have SDone := Lib.hid hx4
                     clear hg hx4 hG4)
                  | fail)
              go_wp2_with fail
              have hl2 : (stk S l (k + 1)).length = r + 1 := by rw [HST.out]; have := hrL.out; simp; omega
              have hlt' := HNL.out
              go_roundg (l.length - (k + 1))
              case measure => omega
              case rel => exact ⟨k + 1, a4, c4, by omega, rfl, by rw [hl2], by go_num, H4.out.1, by rw [hl2, HST.out]; exact H4.out.2⟩
    · obtain rfl : k = l.length := by omega
      have hl1 : (stk S l l.length).length = 1 := by have := HP.out.2.2; omega
      rw [hl1] at Hr ⊢
      obtain ⟨g, cap, e, -, -, -, -, hcl⟩ := GrowN.form (l := stk S l l.length) (by have := Hr.out.2; rw [← hl1] at this; exact this) (by omega)
      have hc0 := hcl 0 (by omega)
      rw [hl1] at e
      cases e
      have HE := Lib.hid (show gi (stk S l l.length) 0 = evl S l from rfl)
      clear hcl hln hl1
      go_wp2_with fail
      go_ret
      exact ⟨by rw [← HE.out]; rfl, HX1.out.trans' Hr.out.1⟩
end Go.Proofs.YtbddjejpacaglaaGreatDoor
