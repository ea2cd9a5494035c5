/- RestRound: the model. -/
import Derived.Test.YtbddjejpacaglaaGreatDoorVrk
import Derived.Test.YtbddjejpacaglaaGreatDoorSme
namespace Go.Proofs.YtbddjejpacaglaaGreatDoor
open Go.RowKit

/-- The run rests at k, and not before. -/
def RestAt (l : List (Int × Int)) (N : Net) (s : List Int) (k : Nat) : Prop := runV l N s (k + 1) = runV l N s k ∧ ∀ j, j < k → runV l N s (j + 1) ≠ runV l N s j
theorem RestAt.eq {l : List (Int × Int)} {N : Net} {s : List Int} {k k' : Nat} (h : RestAt l N s k) (h' : RestAt l N s k') : k = k' := by
  rcases Nat.lt_trichotomy k k' with e | e | e
  · exact absurd h.1 (h'.2 k e)
  · exact e
  · exact absurd h'.1 (h.2 k' e)
def RestB (l : List (Int × Int)) (N : Net) (s : List Int) (r : Int) : Prop := LongV l N s r ∧ ∃ k, k ≤ r.toNat ∧ RestAt l N s k
open Classical in
noncomputable def rrAns (l : List (Int × Int)) (N : Net) (s : List Int) (r : Int) : Int := if h : RestB l N s r then ((Classical.choose h.2 : Nat) : Int) else 0
theorem rrAns_t {l : List (Int × Int)} {N : Net} {s : List Int} {r : Int} {k : Nat} (h : LongV l N s r) (hk : k ≤ r.toNat) (ha : RestAt l N s k) : RestB l N s r ∧ rrAns l N s r = (k : Int) := by
  have hB : RestB l N s r := ⟨h, k, hk, ha⟩
  refine ⟨hB, ?_⟩
  unfold rrAns
  rw [dif_pos hB, (Classical.choose_spec hB.2).2.eq ha]
theorem rrAns_f {l : List (Int × Int)} {N : Net} {s : List Int} {r : Int} (h : ¬ RestB l N s r) : rrAns l N s r = 0 := by
  unfold rrAns
  rw [dif_neg h]

set_option maxHeartbeats 3200000 in
set_option maxRecDepth 100000 in
theorem specRestRound_any {w : World} {pv vn vs : Value} {l : List (Int × Int)} {N : Net} {s : List Int} (r : Int) (h0 : EndSl w pv l) (h : NetAt w vn N) (hs : IntSl w vs s) :
    Calls Tryz.prog 28 #[pv, vn, vs, .int .i64 r] w fun e w' => e = .returned (.tuple #[.int .i64 (rrAns l N s r), .bool (dec (RestB l N s r))]) ∧ Ext w w' := by
  have HPV := Lib.hid h0
  have HN := Lib.hid h
  have HS := Lib.hid hs
  obtain ⟨v0, v1, v2, rfl, -, -, -⟩ := h
  have HX := Lib.hid ((Ext.rfl' w).alloc' (.cells #[v0, v1, v2] 35))
  have R := Lib.hid (row3_made w v0 v1 v2 35)
  obtain ⟨e0, e1, e2, -, -, -⟩ := row3_facts R.out
  by_cases ha : AskB l N s
  · have A := Lib.hid (dec_true ha)
    by_cases hi : InB r 0 2000
    · have I := Lib.hid (dec_true hi)
      have HL := Lib.hid (show LongV l N s r from ⟨ha, hi⟩)
      have HP := Lib.hid ha.1
      have HV := Lib.hid ha.2
      have hl40 : s.length ≤ 1048576 := by have := ha.2.2.1; have := ha.2.1.1.2; omega
      obtain ⟨m, rfl⟩ := Int.eq_ofNat_of_zero_le hi.1
      have hm : m ≤ 2000 := by have := hi.2; omega
      clear ha hi h0 hs
      go_enter Tryz.func28, Tryz.ntmps28
      go_wp2_with (first | (go_at_call 32; (with_reducible refine (vaAsked_any (HPV.out.ext HX.out) (HN.out.ext HX.out) (HS.out.ext HX.out)).mono ?_); rintro e w1 ⟨rfl, hx⟩; rw [A.out]; have K1 := Lib.hid (HX.out.trans' hx); have R1 := Lib.hid (row_ext R.out hx); clear hx e0 e1 e2) | (go_at_call 47; (with_reducible refine (maLongV_any _ _).mono ?_); rintro e _ ⟨rfl, rfl⟩; rw [I.out]))
      (with_reducible refine (l1Own_any (HS.out.ext K1.out) hl40).mono ?_)
      rintro e w2 ⟨a1, c1, bs1, rfl, hx, ho, hf⟩
      rw [HV.out.2.1] at ho ⊢
      have K2 := Lib.hid (K1.out.trans' hx)
      have R2 := Lib.hid (row_ext R1.out hx)
      have O2 := Lib.hid ho
      clear hx ho hf
      go_wp2
      go_loopg [10, 11] (m + 1) (fun g d i wr => ∃ (k : Nat) (sa : Option Addr) (sq : Nat) (bs : List Nat), k ≤ m + 1 ∧ g = m + 1 - k ∧ i = .int .i64 (k : Int) ∧ d = .slice sa N.ends.length sq ∧ Hid (Ext w2 wr ∧ OwnI wr (.slice sa N.ends.length sq) (runV l N s k) bs ∧ ∀ j, j < k → runV l N s (j + 1) ≠ runV l N s j))
      case atStart => exact ⟨0, a1, c1, bs1, Nat.zero_le _, rfl, rfl, rfl, (Ext.rfl' _), O2.out, fun j hj => absurd hj (by omega)⟩
      case round =>
        obtain ⟨k, sa, sq, bs, hk, rfl, rfl, rfl, Hr⟩ := hrel
        by_cases hlt : k ≤ m
        · have KR := Lib.hid (K2.out.trans' Hr.out.1)
          obtain ⟨t0, t1, t2, -, -, -⟩ := row3_facts (row_ext R2.out Hr.out.1)
          have hle : decide ((k : Int) ≤ (m : Int)) = true := decide_eq_true (by omega)
          go_wp2_with fail
          (with_reducible refine (vaStep_any (HPV.out.ext KR.out) HP.out (HN.out.ext KR.out) Hr.out.2.1.read (runV_ok HP.out HV.out k) _).mono ?_)
          rintro e w4 ⟨v4, bs4, rfl, hx, ho, hf⟩
          obtain ⟨sa4, -, -, sq4, rfl, -⟩ := ho.read
          rw [length_stepV] at ho ⊢
          have X4 := Lib.hid hx
          have O4 := Lib.hid (show OwnI w4 (.slice sa4 N.ends.length sq4) (runV l N s (k + 1)) bs4 from ho)
          clear hx ho hf t0 t1 t2
          go_wp2_with fail
          (with_reducible refine (l1Same_any O4.out.read (Hr.out.2.1.ext X4.out).read).mono ?_)
          rintro e w5 ⟨rfl, hx⟩
          have X5 := Lib.hid (X4.out.trans' hx)
          have HX5 := Lib.hid hx
          clear hx
          by_cases he : runV l N s (k + 1) = runV l N s k
          · have E := Lib.hid (rrAns_t (r := (m : Int)) HL.out (by omega) ⟨he, Hr.out.2.2⟩)
            have Dd := Lib.hid (decide_eq_true he)
            rw [Dd.out]
            clear he
            go_wp2
            go_ret2
            exact ⟨by rw [dec_true E.out.1, E.out.2]; rfl, KR.out.trans' X5.out⟩
          · have NE := Lib.hid he
            have Dd := Lib.hid (decide_eq_false he)
            rw [Dd.out]
            clear he
            go_wp2
            go_roundg (m + 1 - (k + 1))
            case measure => omega
            case rel => exact ⟨k + 1, sa4, sq4, bs4, by omega, rfl, by go_num, rfl, Hr.out.1.trans' X5.out, O4.out.ext HX5.out, fun j hj => by
              rcases Nat.lt_or_ge j k with h | h
              · exact Hr.out.2.2 j h
              · obtain rfl : j = k := by omega
                exact NE.out⟩
        · obtain rfl : k = m + 1 := by omega
          have hle : decide (((m + 1 : Nat) : Int) ≤ (m : Int)) = false := decide_eq_false (by omega)
          have D := Lib.hid (show ¬ RestB l N s (m : Int) from fun ⟨_, k, hk, h⟩ => Hr.out.2.2 k (by omega) h.1)
          go_wp2
          go_ret2
          exact ⟨by rw [dec_false D.out, rrAns_f D.out]; rfl, K2.out.trans' Hr.out.1⟩
    · have I := Lib.hid (dec_false hi)
      have D := Lib.hid (show ¬ RestB l N s r from fun h => hi h.1.2)
      clear ha hi
      go_enter Tryz.func28, Tryz.ntmps28
      go_wp2_with (first | (go_at_call 32; (with_reducible refine (vaAsked_any (HPV.out.ext HX.out) (HN.out.ext HX.out) (HS.out.ext HX.out)).mono ?_); rintro e w1 ⟨rfl, hx⟩; rw [A.out]; have K1 := Lib.hid (HX.out.trans' hx); clear hx e0 e1 e2) | (go_at_call 47; (with_reducible refine (maLongV_any _ _).mono ?_); rintro e _ ⟨rfl, rfl⟩; rw [I.out]))
      go_ret2
      exact ⟨by rw [dec_false D.out, rrAns_f D.out]; rfl, K1.out⟩
  · have A := Lib.hid (dec_false ha)
    have D := Lib.hid (show ¬ RestB l N s r from fun h => ha h.1.1)
    clear ha
    go_enter Tryz.func28, Tryz.ntmps28
    go_wp2_with (first | (go_at_call 32; (with_reducible refine (vaAsked_any (HPV.out.ext HX.out) (HN.out.ext HX.out) (HS.out.ext HX.out)).mono ?_); rintro e w1 ⟨rfl, hx⟩; rw [A.out]; have K1 := Lib.hid (HX.out.trans' hx); clear hx e0 e1 e2))
    go_ret2
    exact ⟨by rw [dec_false D.out, rrAns_f D.out]; rfl, K1.out⟩
end Go.Proofs.YtbddjejpacaglaaGreatDoor
