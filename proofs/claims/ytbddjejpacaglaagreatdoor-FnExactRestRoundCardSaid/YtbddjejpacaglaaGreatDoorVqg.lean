/- What an operation without needs finds, in the model. -/
import Derived.Test.YtbddjejpacaglaaGreatDoorVqf
namespace Go.Proofs.YtbddjejpacaglaaGreatDoor
open Go.RowKit

theorem opv_look (S : Sg) (y : Int) (A : List Int) : opv S 7 y A = leV S S.near.length ∧ opv S 8 y A = grV S S.near.length := by
  constructor <;> simp [opv, leV_end, grV_end]
set_option maxHeartbeats 3200000 in
set_option maxRecDepth 100000 in
theorem vaLook_any {w : World} {sv : Value} {S : Sg} (hs : SightAt w sv S) (ho : SgOK S) (x y : Int) (hx : 1 ≤ x ∧ x ≤ 10) :
    Calls Tryz.prog 74 #[sv, .agg #[.int .i64 x, .int .i64 y]] w fun e w' => e = .returned (.int .i64 (opv S x y [])) ∧ Ext w w' := by
  obtain ⟨a, c, rfl, hn⟩ := hs
  have HX := Lib.hid (((Ext.rfl' w).alloc' (.cells #[.int .i64 S.own, .int .i64 S.id, .int .i64 S.inp, .int .i64 S.rnd, .slice a S.near.length c] 86)).alloc' (.cells #[.int .i64 x, .int .i64 y] 59))
  have hb5 := row5_made w (.int .i64 S.own) (.int .i64 S.id) (.int .i64 S.inp) (.int .i64 S.rnd) (.slice a S.near.length c) 86
  have hb2 := val2_made (w.alloc (.cells #[.int .i64 S.own, .int .i64 S.id, .int .i64 S.inp, .int .i64 S.rnd, .slice a S.near.length c] 86)) (.int .i64 x) (.int .i64 y) 59
  rw [show (w.alloc (.cells #[.int .i64 S.own, .int .i64 S.id, .int .i64 S.inp, .int .i64 S.rnd, .slice a S.near.length c] 86)).heap.size = w.heap.size + 1 by simp] at hb2
  have hu := (Ext.rfl' (w.alloc (.cells #[.int .i64 S.own, .int .i64 S.id, .int .i64 S.inp, .int .i64 S.rnd, .slice a S.near.length c] 86))).alloc' (.cells #[.int .i64 x, .int .i64 y] 59)
  have HB2 := Lib.hid hb2
  have HB5 := Lib.hid (show _ ∧ _ ∧ _ ∧ _ ∧ _ from ⟨hu.cell' hb5.1, hu.cell' hb5.2.1, hu.cell' hb5.2.2.1, hu.cell' hb5.2.2.2.1, hu.cell' hb5.2.2.2.2⟩)
  have HNI := Lib.hid (hn.ext HX.out)
  have HAV := Lib.hid ho.2.2
  have hln := ho.2.1
  obtain ⟨_, b, o, _, e, ha, hl, hm, hc⟩ := hn
  cases e
  unfold maxLen at hm
  have Hc := Lib.hid hc
  have Ha := Lib.hid ha
  have HO := Lib.hid ho.1
  clear hc ha ho hb5 hb2 hu
  obtain ⟨q0, q1, q2, q3, q4⟩ := HB5.out
  obtain ⟨p0, p1⟩ := HB2.out
  obtain ⟨W2, hW2⟩ : ∃ W2 : World, W2 = (w.alloc (.cells #[.int .i64 S.own, .int .i64 S.id, .int .i64 S.inp, .int .i64 S.rnd, .slice a S.near.length c] 86)).alloc (.cells #[.int .i64 x, .int .i64 y] 59) := ⟨_, rfl⟩
  have HW2 := Lib.hid hW2
  rw [← hW2] at HX HNI HB2 HB5
  clear hW2
  go_enter Tryz.func74, Tryz.ntmps74
  go_wp2
  go_quiet (fail)
  go_wp2
  clear q0 q1 q2 q3 q4 p0 p1
  go_loopg [5, 6, 7, 18] S.near.length (fun g t5 t6 t7 i wr => ∃ k : Nat, k ≤ S.near.length ∧ g = S.near.length - k ∧ t5 = .int .i64 (leV S k) ∧ t6 = .int .i64 (grV S k) ∧ t7 = .int .i64 (smTo S.near k) ∧ i = .int .i64 (k : Int) ∧ Hid (Ext W2 wr))
  case atStart => exact ⟨0, Nat.zero_le _, rfl, rfl, rfl, rfl, rfl, by rw [HW2.out]; exact (Ext.rfl' _).drewN' _⟩
  case round =>
    obtain ⟨k, hk, rfl, rfl, rfl, rfl, rfl, HR⟩ := hrel
    by_cases hlt : k < S.near.length
    · obtain ⟨z, hz, rfl, _⟩ := Hc.out k hlt
      obtain rfl := Ha.out (by omega)
      have hz' := HR.out.cell' (HX.out.cell' hz)
      clear hz
      have r1 := smTo_range HAV.out k (by omega)
      have r2 := HAV.out k hlt
      have HS := Lib.hid (show smTo S.near (k + 1) = smTo S.near k + gi S.near k from rfl)
      by_cases hk0 : k = 0
      · have b0 : ((k : Int) == 0) = true := beq_iff_eq.2 (by omega)
        have HL := Lib.hid (leV_yes (S := S) (.inl hk0))
        have HG := Lib.hid (grV_yes (S := S) (.inl hk0))
        clear hk0
        generalize gi S.near k = z at *
        generalize smTo S.near k = sm at *
        generalize leV S k = lv at *
        generalize grV S k = gv at *
        go_wp2
        go_roundg (S.near.length - (k + 1))
        case measure => omega
        case rel => exact ⟨k + 1, by omega, rfl, by rw [HL.out], by rw [HG.out], by rw [HS.out], by go_num, HR.out⟩
      · have b0 : ((k : Int) == 0) = false := beq_eq_false_iff_ne.2 (by omega)
        by_cases h5 : gi S.near k < leV S k
        · have d5 : decide (gi S.near k < leV S k) = true := by simpa using h5
          have HL := Lib.hid (leV_yes (S := S) (.inr h5))
          by_cases h6 : grV S k < gi S.near k
          · have d6 : decide (grV S k < gi S.near k) = true := by simpa using h6
            have HG := Lib.hid (grV_yes (S := S) (.inr h6))
            clear hk0 h5 h6
            generalize gi S.near k = z at *
            generalize smTo S.near k = sm at *
            generalize leV S k = lv at *
            generalize grV S k = gv at *
            go_wp2
            go_roundg (S.near.length - (k + 1))
            case measure => omega
            case rel => exact ⟨k + 1, by omega, rfl, by rw [HL.out], by rw [HG.out], by rw [HS.out], by go_num, HR.out⟩
          · have d6 : decide (grV S k < gi S.near k) = false := by simpa using h6
            have HG := Lib.hid (grV_no hk0 h6)
            clear hk0 h5 h6
            generalize gi S.near k = z at *
            generalize smTo S.near k = sm at *
            generalize leV S k = lv at *
            generalize grV S k = gv at *
            go_wp2
            go_roundg (S.near.length - (k + 1))
            case measure => omega
            case rel => exact ⟨k + 1, by omega, rfl, by rw [HL.out], by rw [HG.out], by rw [HS.out], by go_num, HR.out⟩
        · have d5 : decide (gi S.near k < leV S k) = false := by simpa using h5
          have HL := Lib.hid (leV_no hk0 h5)
          by_cases h6 : grV S k < gi S.near k
          · have d6 : decide (grV S k < gi S.near k) = true := by simpa using h6
            have HG := Lib.hid (grV_yes (S := S) (.inr h6))
            clear hk0 h5 h6
            generalize gi S.near k = z at *
            generalize smTo S.near k = sm at *
            generalize leV S k = lv at *
            generalize grV S k = gv at *
            go_wp2
            go_roundg (S.near.length - (k + 1))
            case measure => omega
            case rel => exact ⟨k + 1, by omega, rfl, by rw [HL.out], by rw [HG.out], by rw [HS.out], by go_num, HR.out⟩
          · have d6 : decide (grV S k < gi S.near k) = false := by simpa using h6
            have HG := Lib.hid (grV_no hk0 h6)
            clear hk0 h5 h6
            generalize gi S.near k = z at *
            generalize smTo S.near k = sm at *
            generalize leV S k = lv at *
            generalize grV S k = gv at *
            go_wp2
            go_roundg (S.near.length - (k + 1))
            case measure => omega
            case rel => exact ⟨k + 1, by omega, rfl, by rw [HL.out], by rw [HG.out], by rw [HS.out], by go_num, HR.out⟩
    · obtain rfl : k = S.near.length := by omega
      obtain ⟨q0, q1, q2, q3, q4⟩ := HB5.out
      obtain ⟨p0, p1⟩ := HB2.out
      have q0 := HR.out.cell' q0
      have q1 := HR.out.cell' q1
      have q2 := HR.out.cell' q2
      have q3 := HR.out.cell' q3
      have q4 := HR.out.cell' q4
      have p0 := HR.out.cell' p0
      have p1 := HR.out.cell' p1
      have HF := Lib.hid (HX.out.trans' HR.out)
      have hxx : x = 1 ∨ x = 2 ∨ x = 3 ∨ x = 4 ∨ x = 5 ∨ x = 6 ∨ x = 7 ∨ x = 8 ∨ x = 9 ∨ x = 10 := by omega
      clear hx
      rcases hxx with rfl | rfl | rfl | rfl | rfl | rfl | rfl | rfl | rfl | rfl
      · have HV := Lib.hid (show y = opv S 1 y [] from by simp [opv])
        go_wp2
        go_ret
        exact ⟨ret_i64 HV.out, HF.out⟩
      · have HV := Lib.hid (show S.own = opv S 2 y [] from by simp [opv])
        go_wp2
        go_ret
        exact ⟨ret_i64 HV.out, HF.out⟩
      · have HV := Lib.hid (show S.id = opv S 3 y [] from by simp [opv])
        go_wp2
        go_ret
        exact ⟨ret_i64 HV.out, HF.out⟩
      · have HV := Lib.hid (show (S.near.length : Int) = opv S 4 y [] from by simp [opv])
        go_wp2
        go_ret
        exact ⟨ret_i64 HV.out, HF.out⟩
      · have HV := Lib.hid (show S.inp = opv S 5 y [] from by simp [opv])
        go_wp2
        go_ret
        exact ⟨ret_i64 HV.out, HF.out⟩
      · have HV := Lib.hid (show S.rnd = opv S 6 y [] from by simp [opv])
        go_wp2
        go_ret
        exact ⟨ret_i64 HV.out, HF.out⟩
      · have HV := Lib.hid (show leV S S.near.length = opv S 7 y [] from ((opv_look S y []).1).symm)
        go_wp2
        go_ret
        exact ⟨ret_i64 HV.out, HF.out⟩
      · have HV := Lib.hid (show grV S S.near.length = opv S 8 y [] from ((opv_look S y []).2).symm)
        go_wp2
        go_ret
        exact ⟨ret_i64 HV.out, HF.out⟩
      · have HV := Lib.hid (show smTo S.near S.near.length = opv S 9 y [] from by simp [opv])
        go_wp2
        go_ret
        exact ⟨ret_i64 HV.out, HF.out⟩
      · have HV := Lib.hid (show (fre S.near : Int) = opv S 10 y [] from by simp [opv])
        have HNJ := Lib.hid (HNI.out.ext HR.out)
        go_wp2
        go_loopg [10] 1000001 (fun g i wx => ∃ j : Nat, j ≤ 1000001 ∧ g = 1000001 - j ∧ i = .int .i64 (j : Int) ∧ wr = wx ∧ Hid (∀ m : Nat, m < j → Has S.near m))
        case atStart => exact ⟨0, Nat.zero_le _, rfl, rfl, rfl, fun m hm => absurd hm (by omega)⟩
        case round =>
          obtain ⟨j, hj, rfl, rfl, rfl, HK⟩ := hrel
          by_cases hh : Has S.near j
          · have E := Lib.hid (dec_true hh)
            have hlt : j < 1000001 := by
              obtain ⟨i, hi, e⟩ := hh
              have := HAV.out i hi
              omega
            have HH := Lib.hid hh
            clear hh
            go_wp2_with (go_at_call 87; (with_reducible refine (l1Has_any _ HNJ.out).mono ?_); rintro e _ ⟨rfl, rfl⟩; rw [E.out])
            go_roundg (1000001 - (j + 1))
            case measure => omega
            case rel =>
              refine ⟨j + 1, by omega, rfl, by go_num, rfl, fun m hm => ?_⟩
              by_cases e : m = j
              · subst e; exact HH.out
              · exact HK.out m (by omega)
          · have E := Lib.hid (dec_false hh)
            have F := Lib.hid (fre_eq ⟨hh, HK.out⟩)
            clear hh
            go_wp2_with (go_at_call 87; (with_reducible refine (l1Has_any _ HNJ.out).mono ?_); rintro e _ ⟨rfl, rfl⟩; rw [E.out])
            go_ret
            exact ⟨ret_i64 (by rw [← HV.out, F.out]), HF.out⟩
end Go.Proofs.YtbddjejpacaglaaGreatDoor
