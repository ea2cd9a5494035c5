/- The values behind some rounds: the model's contracts of ValuesAfter. -/
import Derived.Test.YtbddjejpacaglaaGreatDoorVre
namespace Go.Proofs.YtbddjejpacaglaaGreatDoor
open Go.RowKit

/-- The values after k rounds. -/
noncomputable def runV (l : List (Int × Int)) (N : Net) (s : List Int) : Nat → List Int
  | 0 => s
  | k + 1 => stepV l N ((k : Int) + 1) (runV l N s k)
theorem runV_ok {l : List (Int × Int)} {N : Net} {s : List Int} (hp : ProgOK l) (h : ValsOK N s) : ∀ k, ValsOK N (runV l N s k)
  | 0 => h
  | k + 1 => stepV_ok hp (runV_ok hp h k)
theorem length_runV {l : List (Int × Int)} {N : Net} {s : List Int} (hp : ProgOK l) (h : ValsOK N s) (k : Nat) : (runV l N s k).length = N.ends.length := (runV_ok hp h k).2.1
def LongV (l : List (Int × Int)) (N : Net) (s : List Int) (r : Int) : Prop := AskB l N s ∧ InB r 0 2000
noncomputable def avAns (l : List (Int × Int)) (N : Net) (s : List Int) (r : Int) : List Int := if dec (LongV l N s r) = true then runV l N s r.toNat else []
theorem avAns_t {l : List (Int × Int)} {N : Net} {s : List Int} {r : Int} (h : LongV l N s r) : avAns l N s r = runV l N s r.toNat := by unfold avAns; rw [if_pos (dec_true h)]
theorem avAns_f {l : List (Int × Int)} {N : Net} {s : List Int} {r : Int} (h : ¬ LongV l N s r) : avAns l N s r = [] := by unfold avAns; rw [dec_false h]; rfl
theorem avAns_small (l : List (Int × Int)) (N : Net) (s : List Int) (r : Int) : (avAns l N s r).length ≤ 1048576 := by
  by_cases h : LongV l N s r
  · rw [avAns_t h, length_runV h.1.1 h.1.2]; have := h.1.2.1.1.2; omega
  · rw [avAns_f h]; simp

set_option maxRecDepth 100000 in
theorem maLongV_any (r : Int) (w : World) : Calls Tryz.prog 47 #[.int .i64 r] w fun e w' => e = .returned (.bool (dec (InB r 0 2000))) ∧ w = w' := by
  go_enter Tryz.func47, Tryz.ntmps47
  go_wp2_with (go_at_call 33; (with_reducible refine (l1In_any _ _ _ _).mono ?_); rintro e w' ⟨rfl, rfl⟩)
  go_ret
  exact ⟨rfl, rfl⟩

set_option maxHeartbeats 3200000 in
set_option maxRecDepth 100000 in
theorem vaAfter_any {w : World} {pv vn vs : Value} {l : List (Int × Int)} {N : Net} {s : List Int} (hpv : EndSl w pv l) (hp : ProgOK l) (h : NetAt w vn N) (hs : IntSl w vs s) (hv : ValsOK N s) (m : Nat) (hm : m ≤ 2000) :
    Calls Tryz.prog 48 #[pv, vn, vs, .int .i64 (m : Int)] w fun e w' => ∃ v' bs, e = .returned v' ∧ Ext w w' ∧ OwnI w' v' (runV l N s m) bs ∧ Fresh w bs := by
  have HN := Lib.hid h
  have HS := Lib.hid hs
  have HPV := Lib.hid hpv
  have HP := Lib.hid hp
  have HV := Lib.hid hv
  have hl40 : s.length ≤ 1048576 := by have := hv.2.1; have := hv.1.1.2; omega
  obtain ⟨v0, v1, v2, rfl, -, -, -⟩ := h
  have HX := Lib.hid ((Ext.rfl' w).alloc' (.cells #[v0, v1, v2] 35))
  have R := Lib.hid (row3_made w v0 v1 v2 35)
  clear hpv hp hs hv
  go_enter Tryz.func48, Tryz.ntmps48
  go_wp2_with fail
  (with_reducible refine (l1Own_any (HS.out.ext HX.out) hl40).mono ?_)
  rintro e w1 ⟨a1, c1, bs1, rfl, hx, ho, hf⟩
  rw [HV.out.2.1] at ho ⊢
  have K1 := Lib.hid (HX.out.trans' hx)
  have R1 := Lib.hid (row_ext R.out hx)
  have O1 := Lib.hid ho
  have F1 := Lib.hid (Fresh.of hf HX.out.size)
  clear hx ho hf
  go_wp2
  go_loopg [9, 10] (m + 1) (fun g d i wr => ∃ (k : Nat) (sa : Option Addr) (sq : Nat) (bs : List Nat), k ≤ m ∧ g = m + 1 - k ∧ i = .int .i64 ((k : Int) + 1) ∧ d = .slice sa N.ends.length sq ∧ Hid (Ext w1 wr ∧ OwnI wr (.slice sa N.ends.length sq) (runV l N s k) bs ∧ Fresh w bs))
  case atStart => exact ⟨0, a1, c1, bs1, Nat.zero_le _, rfl, rfl, rfl, (Ext.rfl' _), O1.out, F1.out⟩
  case round =>
    obtain ⟨k, sa, sq, bs, hk, rfl, rfl, rfl, Hr⟩ := hrel
    by_cases hlt : k < m
    · have KR := Lib.hid (K1.out.trans' Hr.out.1)
      obtain ⟨t0, t1, t2, -, -, -⟩ := row3_facts (row_ext R1.out Hr.out.1)
      have hle : decide (((k : Int) + 1) ≤ (m : Int)) = true := decide_eq_true (by omega)
      go_wp2_with fail
      (with_reducible refine (vaStep_any (HPV.out.ext KR.out) HP.out (HN.out.ext KR.out) Hr.out.2.1.read (runV_ok HP.out HV.out k) _).mono ?_)
      rintro e w4 ⟨v4, bs4, rfl, hx, ho, hf⟩
      obtain ⟨sa4, -, -, sq4, rfl, -⟩ := ho.read
      rw [length_stepV] at ho ⊢
      have X4 := Lib.hid hx
      have O4 := Lib.hid ho
      have F4 := Lib.hid (Fresh.of hf (show w.heap.size ≤ wr.heap.size from KR.out.size))
      clear hx ho hf t0 t1 t2
      go_wp2
      go_roundg (m + 1 - (k + 1))
      case measure => omega
      case rel => exact ⟨k + 1, sa4, sq4, bs4, by omega, rfl, by go_num, rfl, Hr.out.1.trans' X4.out, O4.out, F4.out⟩
    · obtain rfl : k = m := by omega
      have hle : decide (((k : Int) + 1) ≤ (k : Int)) = false := decide_eq_false (by omega)
      go_wp2
      go_ret
      exact ⟨_, bs, rfl, K1.out.trans' Hr.out.1, Hr.out.2.1, Hr.out.2.2⟩
end Go.Proofs.YtbddjejpacaglaaGreatDoor
