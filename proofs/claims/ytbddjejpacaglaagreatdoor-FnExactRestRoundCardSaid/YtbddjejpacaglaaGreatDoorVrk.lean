/- ValuesAfter: what the program and the model answer. -/
import Derived.Test.YtbddjejpacaglaaGreatDoorVrj
namespace Go.Proofs.YtbddjejpacaglaaGreatDoor
open Go.RowKit

set_option maxHeartbeats 1600000 in
set_option maxRecDepth 100000 in
theorem specValuesAfter_any {w : World} {pv vn vs : Value} {l : List (Int × Int)} {N : Net} {s : List Int} (r : Int) (h0 : EndSl w pv l) (h : NetAt w vn N) (hs : IntSl w vs s) :
    Calls Tryz.prog 26 #[pv, vn, vs, .int .i64 r] w fun e w' => ∃ v' bs, e = .returned (.tuple #[v', .bool (dec (LongV l N s r))]) ∧ Ext w w' ∧ OwnI w' v' (avAns l N s r) bs ∧ Fresh w bs := by
  have HPV := Lib.hid h0
  have HN := Lib.hid h
  have HS := Lib.hid hs
  obtain ⟨v0, v1, v2, rfl, -, -, -⟩ := h
  have HX := Lib.hid ((Ext.rfl' w).alloc' (.cells #[v0, v1, v2] 35))
  have R := Lib.hid (row3_made w v0 v1 v2 35)
  obtain ⟨e0, e1, e2, -, -, -⟩ := row3_facts R.out
  by_cases ha : AskB l N s
  · have A := Lib.hid (dec_true ha)
    by_cases hi : InB r 0 2000
    · have I := Lib.hid (dec_true hi)
      have D := Lib.hid (show LongV l N s r from ⟨ha, hi⟩)
      have HP := Lib.hid ha.1
      have HVL := Lib.hid ha.2
      obtain ⟨m, rfl⟩ := Int.eq_ofNat_of_zero_le hi.1
      have hm : m ≤ 2000 := by have := hi.2; omega
      clear ha hi
      go_enter Tryz.func26, Tryz.ntmps26
      go_wp2_with (first | (go_at_call 32; (with_reducible refine (vaAsked_any (HPV.out.ext HX.out) (HN.out.ext HX.out) (HS.out.ext HX.out)).mono ?_); rintro e w1 ⟨rfl, hx⟩; rw [A.out]; have K1 := Lib.hid (HX.out.trans' hx); have f0 := hx.cell' e0; have f1 := hx.cell' e1; have f2 := hx.cell' e2; clear hx e0 e1 e2) | (go_at_call 47; (with_reducible refine (maLongV_any _ _).mono ?_); rintro e _ ⟨rfl, rfl⟩; rw [I.out]) | (go_at_call 48; (with_reducible refine (vaAfter_any (HPV.out.ext K1.out) HP.out (HN.out.ext K1.out) (HS.out.ext K1.out) HVL.out m hm).mono ?_); rintro e w2 ⟨v', bs, rfl, hx, ho, hf⟩; have K2 := Lib.hid (K1.out.trans' hx); have O2 := Lib.hid ho; have F2 := Lib.hid (Fresh.of hf K1.out.size); clear hx ho hf))
      go_ret2
      exact ⟨_, bs, by rw [dec_true D.out]; rfl, K2.out, by rw [avAns_t D.out, Int.toNat_natCast]; exact O2.out, F2.out⟩
    · have I := Lib.hid (dec_false hi)
      have D := Lib.hid (show ¬ LongV l N s r from fun h => hi h.2)
      clear ha hi
      go_enter Tryz.func26, Tryz.ntmps26
      go_wp2_with (first | (go_at_call 32; (with_reducible refine (vaAsked_any (HPV.out.ext HX.out) (HN.out.ext HX.out) (HS.out.ext HX.out)).mono ?_); rintro e w1 ⟨rfl, hx⟩; rw [A.out]; have K1 := Lib.hid (HX.out.trans' hx); have f0 := hx.cell' e0; have f1 := hx.cell' e1; have f2 := hx.cell' e2; clear hx e0 e1 e2) | (go_at_call 47; (with_reducible refine (maLongV_any _ _).mono ?_); rintro e _ ⟨rfl, rfl⟩; rw [I.out]))
      go_ret2
      exact ⟨_, [], by rw [dec_false D.out]; rfl, K1.out, by rw [avAns_f D.out]; exact own_nilV _, Fresh.nil _⟩
  · have A := Lib.hid (dec_false ha)
    have D := Lib.hid (show ¬ LongV l N s r from fun h => ha h.1)
    clear ha
    go_enter Tryz.func26, Tryz.ntmps26
    go_wp2_with (first | (go_at_call 32; (with_reducible refine (vaAsked_any (HPV.out.ext HX.out) (HN.out.ext HX.out) (HS.out.ext HX.out)).mono ?_); rintro e w1 ⟨rfl, hx⟩; rw [A.out]; have K1 := Lib.hid (HX.out.trans' hx); have f0 := hx.cell' e0; have f1 := hx.cell' e1; have f2 := hx.cell' e2; clear hx e0 e1 e2))
    go_ret2
    exact ⟨_, [], by rw [dec_false D.out]; rfl, K1.out, by rw [avAns_f D.out]; exact own_nilV _, Fresh.nil _⟩

set_option maxHeartbeats 1600000 in
set_option maxRecDepth 100000 in
theorem implValuesAfter_any {w : World} {pv vn vs : Value} {l : List (Int × Int)} {N : Net} {s : List Int} (r : Int) (h0 : EndSl w pv l) (h : NetAt w vn N) (hs : IntSl w vs s) (hP : Pw w) :
    Calls Tryz.prog 27 #[pv, vn, vs, .int .i64 r] w fun e w' => ∃ v' bs, e = .returned (.tuple #[v', .bool (dec (LongV l N s r))]) ∧ Ext w w' ∧ OwnI w' v' (avAns l N s r) bs ∧ Fresh w bs := by
  have HPV := Lib.hid h0
  have HN := Lib.hid h
  have HS := Lib.hid hs
  obtain ⟨v0, v1, v2, rfl, -, -, -⟩ := h
  have HX := Lib.hid ((Ext.rfl' w).alloc' (.cells #[v0, v1, v2] 35))
  have R := Lib.hid (row3_made w v0 v1 v2 35)
  obtain ⟨e0, e1, e2, -, -, -⟩ := row3_facts R.out
  have HPW := Lib.hid hP
  by_cases hi : InB r 0 2000
  · have I := Lib.hid (dec_true hi)
    have HI := Lib.hid hi
    obtain ⟨m, rfl⟩ := Int.eq_ofNat_of_zero_le hi.1
    have hm : m ≤ 2000 := by have := hi.2; omega
    clear hi
    go_enter Tryz.func27, Tryz.ntmps27
    go_wp2_with (go_at_call 39; (with_reducible refine (isBetweenK_any _ _ _ _).mono ?_); rintro e _ ⟨rfl, rfl⟩; rw [I.out])
    (with_reducible refine (valueRunOf_any m (by omega) (HPV.out.ext HX.out) (HN.out.ext HX.out) (HS.out.ext HX.out) (HPW.out.ext HX.out)).mono ?_)
    rintro e w1 ⟨gf, lb, F0, rfl, hx, hr⟩
    have K1 := Lib.hid (HX.out.trans' hx)
    obtain ⟨hr1, hr2, hr3⟩ := hr
    have HR1 := Lib.hid hr1
    have HR2 := Lib.hid hr2
    have HR3 := Lib.hid hr3
    have S0 := Lib.hid (HX.out.size)
    clear hx hr1 hr2 hr3 e0 e1 e2
    go_wp2_with fail
    (with_reducible refine (lastOf_any (c := cntV l N s m) (N := N.ends.length) (F0 := F0) (L := runV l N s) HR1.out (fun W1 hw hz => HR3.out 4 W1 _ (by omega) hw (fun b hb => by simp at hb; omega)) (fun b hb => (HR2.out b hb).2)).mono ?_)
    rintro e w2 ⟨v', bs, rfl, hx, hn, hy⟩
    have K2 := Lib.hid (K1.out.trans' hx)
    have HNn := Lib.hid hn
    have HYy := Lib.hid hy
    clear hx hn hy
    go_wp2_with fail
    go_ret2
    by_cases ha : AskB l N s
    · have hc := cntV_t (m := m) ha
      have D : LongV l N s (m : Int) := ⟨ha, HI.out⟩
      rw [hc] at HYy ⊢
      obtain ⟨ho, hb⟩ := HYy.out (by omega)
      exact ⟨_, bs, by rw [dec_true D, decide_eq_true (show 0 < m + 1 by omega)]; rfl, K2.out, by rw [avAns_t D, Int.toNat_natCast]; exact ho, ho.1.nodup, fun b hm => (hb b hm).elim (fun h => Nat.le_trans S0.out (HR2.out b h).1) (fun h => Nat.le_trans K1.out.size h)⟩
    · have hc := cntV_f (m := m) ha
      have D : ¬ LongV l N s (m : Int) := fun h => ha h.1
      rw [hc] at HNn ⊢
      obtain rfl := HNn.out rfl
      exact ⟨_, [], by rw [dec_false D, decide_eq_false (show ¬ 0 < 0 by omega)]; rfl, K2.out, by rw [avAns_f D]; exact own_nilV _, Fresh.nil _⟩
  · have I := Lib.hid (dec_false hi)
    have D := Lib.hid (show ¬ LongV l N s r from fun h => hi h.2)
    clear hi
    go_enter Tryz.func27, Tryz.ntmps27
    go_wp2_with (go_at_call 39; (with_reducible refine (isBetweenK_any _ _ _ _).mono ?_); rintro e _ ⟨rfl, rfl⟩; rw [I.out])
    go_ret2
    exact ⟨_, [], by rw [dec_false D.out]; rfl, HX.out, by rw [avAns_f D.out]; exact own_nilV _, Fresh.nil _⟩

theorem specAfterV {w : World} {pv vn vs : Value} {l : List (Int × Int)} {N : Net} {s : List Int} (r : Int) (h0 : EndSl w pv l) (h : NetAt w vn N) (hs : IntSl w vs s) (_ : s.length ≤ 1048576) :
    Calls Tryz.prog 26 #[pv, vn, vs, .int .i64 r] w fun e w' => ∃ v' bs, e = .returned (.tuple #[v', .bool (dec (LongV l N s r))]) ∧ Ext w w' ∧ OwnI w' v' (avAns l N s r) bs ∧ Fresh w bs := specValuesAfter_any r h0 h hs
theorem implAfterV {w : World} {pv vn vs : Value} {l : List (Int × Int)} {N : Net} {s : List Int} (r : Int) (h0 : EndSl w pv l) (h : NetAt w vn N) (hs : IntSl w vs s) (_ : s.length ≤ 1048576) (hP : Pw w) :
    Calls Tryz.prog 27 #[pv, vn, vs, .int .i64 r] w fun e w' => ∃ v' bs, e = .returned (.tuple #[v', .bool (dec (LongV l N s r))]) ∧ Ext w w' ∧ OwnI w' v' (avAns l N s r) bs ∧ Fresh w bs := implValuesAfter_any r h0 h hs hP
end Go.Proofs.YtbddjejpacaglaaGreatDoor
