/- The program's LiftOf, whole. -/
import Derived.Test.YtdcgpodjoalokaaLfc
namespace Go.Proofs.Ytdcgpodjoalokaa
open Go.RowKit

theorem lift_nat {N : Net} {k : Int} {P : List (List Int)} (h : LiftOK N k P) : ∃ kk : Nat, k = kk ∧ 1 ≤ kk ∧ kk ≤ 40 := by
  obtain ⟨⟨⟨-, h1, h2⟩, -⟩, -⟩ := h
  exact ⟨k.toNat, by omega, by omega, by omega⟩
theorem lift_dec {N : Net} {kk : Nat} {P : List (List Int)} (h1 : 1 ≤ kk) (h40 : kk ≤ 40) (hG : Good N) (hS : SheetsOK (edgesTo N N.ends.length) P kk) :
    dec (Good (liftNet N kk P)) = dec (LiftOK N kk P) ∧ goodOr (liftNet N kk P) = liftAns N kk P := by
  have hl : (liftNet N kk P).ends.length = N.ends.length * kk := by unfold liftNet; rw [linkTo_len, liftB_len]
  by_cases hn : N.ends.length * kk ≤ 40
  · have hb : LiftOK N kk P := ⟨⟨⟨hG, by omega, by omega⟩, by rw [← Int.natCast_mul]; omega⟩, by rw [Int.toNat_natCast]; exact hS⟩
    have hg := lift_good hG h1 hn hS
    rw [dec_true hb, dec_true hg, goodOr_t hg, liftAns_t hb, Int.toNat_natCast]
    exact ⟨rfl, rfl⟩
  · have hb : ¬ LiftOK N kk P := fun h => hn (by have := h.1.2; rw [← Int.natCast_mul] at this; omega)
    have hg : ¬ Good (liftNet N kk P) := fun h => hn (by rw [← hl]; exact h.1.2)
    rw [dec_false hb, dec_false hg, goodOr_f hg, liftAns_f hb]
    exact ⟨rfl, rfl⟩

set_option maxHeartbeats 3200000 in
set_option maxRecDepth 100000 in
theorem liftOf_any {w : World} {v vp : Value} {N : Net} {P : List (List Int)} (k : Int) (h : NetAt w v N) (hp : IntSS w vp P) :
    Calls Try.prog 63 #[v, .int .i64 k, vp] w fun e w' => ∃ v' bs, e = .returned (.tuple #[v', .bool (dec (LiftOK N k P))]) ∧ Ext w w' ∧ OwnNet w' v' (liftAns N k P) bs ∧ Fresh w bs := by
  have HN := Lib.hid h
  have HP := Lib.hid hp
  obtain ⟨v0, v1, v2, rfl, hE, -, -⟩ := h
  clear hE hp
  obtain ⟨W0, hW0⟩ : ∃ W0, W0 = (w.alloc (.cells #[v0, v1, v2] 43)).alloc (.cells #[.slice none 0 0, .slice none 0 0, .slice none 0 0] 43) := ⟨_, rfl⟩
  have EW := Lib.hid (show Ext w W0 by rw [hW0]; exact ((Ext.rfl' w).alloc' _).alloc' _)
  have RN := Lib.hid (show W0.rowIs w.heap.size 43 3 (tri v0 v1 v2) by rw [hW0]; exact row_ext (row3_made w _ _ _ _) ((Ext.rfl' _).alloc' _))
  have RQ := Lib.hid (show W0.rowIs (w.heap.size + 1) 43 3 (tri (.slice none 0 0) (.slice none 0 0) (.slice none 0 0)) by rw [hW0]; simpa using row3_made (w.alloc (.cells #[v0, v1, v2] 43)) (.slice none 0 0) (.slice none 0 0) (.slice none 0 0) 43)
  obtain ⟨p0, p1, p2, -, -, -⟩ := row3_facts RN.out
  rw [hW0] at p0 p1 p2
  by_cases hg : Good N
  case neg =>
    have G := Lib.hid (dec_false hg)
    have D := Lib.hid (dec_false (show ¬ LiftOK N k P from fun h => hg h.1.1.1))
    have A := Lib.hid (liftAns_f (show ¬ LiftOK N k P from fun h => hg h.1.1.1))
    clear hg
    go_enter Try.func63, Try.ntmps63
    go_wp2_with fail
    rw [← hW0]
    clear hW0 p0 p1 p2
    (with_reducible refine (edgesOf_any (HN.out.ext EW.out)).mono ?_)
    rintro e w1 ⟨ve, es, rfl, hw, -, -⟩
    rw [G.out]
    have X1 := Lib.hid hw
    obtain ⟨q0, q1, q2, t0, t1, t2⟩ := row3_facts (row_ext RQ.out hw)
    clear hw
    go_wp2
    refine bodyPost_ret (v := .tuple #[znet, .bool false]) (by simp [results, Try.results63, go_sem, q0, q1, q2, znet]) rfl ⟨_, [], ret_net D.out.symm, store3_ext (EW.out.trans' X1.out) (by omega) _ _ _, by rw [A.out]; exact own_zero _, Fresh.nil _⟩
  have G := Lib.hid (dec_true hg)
  have GN := Lib.hid hg
  clear hg
  by_cases hk : InB k 1 40
  case neg =>
    have G2 := Lib.hid (dec_false hk)
    have D := Lib.hid (dec_false (show ¬ LiftOK N k P from fun h => hk h.1.1.2))
    have A := Lib.hid (liftAns_f (show ¬ LiftOK N k P from fun h => hk h.1.1.2))
    clear hk
    go_enter Try.func63, Try.ntmps63
    go_wp2_with fail
    rw [← hW0]
    clear hW0 p0 p1 p2
    (with_reducible refine (edgesOf_any (HN.out.ext EW.out)).mono ?_)
    rintro e w1 ⟨ve, es, rfl, hw, -, -⟩
    rw [G.out]
    have X1 := Lib.hid hw
    obtain ⟨q0, q1, q2, t0, t1, t2⟩ := row3_facts (row_ext RQ.out hw)
    clear hw
    go_wp2_with (first | (go_at_call 73; (with_reducible refine (isBetween_any _ _ _ _).mono ?_); rintro e _ ⟨rfl, rfl⟩; rw [G2.out]) | fail)
    refine bodyPost_ret (v := .tuple #[znet, .bool false]) (by simp [results, Try.results63, go_sem, q0, q1, q2, znet]) rfl ⟨_, [], ret_net D.out.symm, store3_ext (EW.out.trans' X1.out) (by omega) _ _ _, by rw [A.out]; exact own_zero _, Fresh.nil _⟩
  obtain ⟨kk, rfl, hk1, hk40⟩ : ∃ kk : Nat, k = kk ∧ 1 ≤ kk ∧ kk ≤ 40 := ⟨k.toNat, by have := hk.1; omega, by have := hk.1; omega, by have := hk.2; omega⟩
  by_cases hS : SheetsOK (edgesTo N N.ends.length) P kk
  case neg =>
    have G2 := Lib.hid (dec_true hk)
    have D := Lib.hid (dec_false (show ¬ LiftOK N kk P from fun h => hS (by have := h.2; rwa [Int.toNat_natCast] at this)))
    have A := Lib.hid (liftAns_f (show ¬ LiftOK N kk P from fun h => hS (by have := h.2; rwa [Int.toNat_natCast] at this)))
    have HS := Lib.hid (dec_false hS)
    clear hk hS
    go_enter Try.func63, Try.ntmps63
    go_wp2_with fail
    rw [← hW0]
    clear hW0 p0 p1 p2
    (with_reducible refine (edgesOf_any (HN.out.ext EW.out)).mono ?_)
    rintro e w1 ⟨ve, es, rfl, hw, ho, -⟩
    rw [G.out]
    rw [edAns_t GN.out] at ho
    have X1 := Lib.hid hw
    have HO := Lib.hid ho.read
    have HR4 := Lib.hid (show ∀ t, t < (edgesTo N N.ends.length).length → (gr (edgesTo N N.ends.length) t).length = 4 from fun t ht => by
      obtain ⟨v, i, x, j, -, -, e⟩ := edgeL_at GN.out ht
      rw [e]; rfl)
    clear hw ho
    go_wp2_with fail
    (with_reducible refine (isBetween_any _ _ _ _).mono ?_)
    rintro e _ ⟨rfl, rfl⟩
    rw [G2.out]
    go_wp2_with fail
    (with_reducible refine (areSheetChanges_any kk hk40 (HP.out.ext (EW.out.trans' X1.out)) HO.out HR4.out).mono ?_)
    rintro e w2 ⟨rfl, hw⟩
    rw [HS.out]
    have X2 := Lib.hid (X1.out.trans' hw)
    obtain ⟨q0, q1, q2, t0, t1, t2⟩ := row3_facts (row_ext RQ.out X2.out)
    clear hw
    go_wp2
    refine bodyPost_ret (v := .tuple #[znet, .bool false]) (by simp [results, Try.results63, go_sem, q0, q1, q2, znet]) rfl ⟨_, [], ret_net D.out.symm, store3_ext (EW.out.trans' X2.out) (by omega) _ _ _, by rw [A.out]; exact own_zero _, Fresh.nil _⟩
  obtain ⟨e1, e2⟩ := lift_dec hk1 hk40 GN.out hS
  refine (liftX_any kk hk1 hk40 HN.out GN.out HP.out hS).mono ?_
  rintro e w' ⟨v', bs, rfl, hx, ho, hf⟩
  rw [e1]
  rw [e2] at ho
  exact ⟨v', bs, rfl, hx, ho, hf⟩
end Go.Proofs.Ytdcgpodjoalokaa
