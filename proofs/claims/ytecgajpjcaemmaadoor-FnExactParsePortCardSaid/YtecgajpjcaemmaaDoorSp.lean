/- ParsePort: the model and the program read an end alike. -/
import Derived.Test.YtecgajpjcaemmaaDoorSd
import Derived.Deep.RegionHeld3
namespace Go.Proofs.YtecgajpjcaemmaaDoor
open Go.RowKit

/-- What stands before and behind the first byte c. -/
def cutA (c : UInt8) (l : Bs) : Bs := (Go.Lib.cut l [c]).1
def cutB (c : UInt8) (l : Bs) : Bs := (Go.Lib.cut l [c]).2.1
def cutF (c : UInt8) (l : Bs) : Bool := (Go.Lib.cut l [c]).2.2
/-- An end's text: its two numbers. -/
def PortTx (l : Bs) : Prop := NumOK (cutA 46 l) ∧ NumOK (cutB 46 l)
theorem num_noC {l : Bs} (h : NumOK l) : NoC 46 l l.length := fun j _ e => by
  have := h.2.2 46 (List.mem_of_getElem? e)
  unfold isDig at this
  have h46 : (46 : UInt8).toNat = 46 := rfl
  omega
theorem not_num_nil : ¬ NumOK [] := fun h => by have := h.1.1; simp at this
/-- Two pieces, both numbers, or not. -/
theorem spl_port (l : Bs) : (PortTx l ∧ spl 46 l = [cutA 46 l, cutB 46 l]) ∨ (¬ PortTx l ∧ ((spl 46 l).length ≠ 2 ∨ ∃ a b, spl 46 l = [a, b] ∧ ¬ (NumOK a ∧ NumOK b))) := by
  rcases first_of 46 l with h | ⟨k, hk, h, hn⟩
  · right
    have hc := cut_no h
    refine ⟨fun ⟨_, h2⟩ => ?_, .inl (by rw [spl_no h]; simp)⟩
    unfold cutB at h2; rw [hc] at h2
    exact not_num_nil h2
  · have hc := cut_at h hn
    have e1 : cutA 46 l = l.take k := by unfold cutA; rw [hc]
    have e2 : cutB 46 l = l.drop (k + 1) := by unfold cutB; rw [hc]
    rcases first_of 46 (l.drop (k + 1)) with h2 | ⟨k2, hk2, h2, hn2⟩
    · have hs : spl 46 l = [l.take k, l.drop (k + 1)] := by rw [spl_at h hn, spl_no h2]
      rcases Classical.em (PortTx l) with hp | hp
      · exact .inl ⟨hp, by rw [hs, e1, e2]⟩
      · right
        refine ⟨hp, .inr ⟨_, _, hs, fun hh => hp ?_⟩⟩
        unfold PortTx; rw [e1, e2]; exact hh
    · right
      refine ⟨fun ⟨_, hb⟩ => ?_, .inl ?_⟩
      · rw [e2] at hb
        exact num_noC hb k2 hk2 h2
      · rw [spl_at h hn, spl_at h2 hn2]
        have := spl_pos 46 ((l.drop (k + 1)).drop (k2 + 1))
        simp only [List.length_cons]; omega
theorem cutA_len (c : UInt8) (l : Bs) : (cutA c l).length ≤ l.length := by
  rcases first_of c l with h | ⟨k, hk, h, hn⟩
  · unfold cutA; rw [cut_no h]; exact Nat.le_refl _
  · unfold cutA; rw [cut_at h hn, List.length_take]; omega
theorem cutB_len (c : UInt8) (l : Bs) : (cutB c l).length ≤ l.length := by
  rcases first_of c l with h | ⟨k, hk, h, hn⟩
  · unfold cutB; rw [cut_no h]; simp
  · unfold cutB; rw [cut_at h hn, List.length_drop]; omega

noncomputable def ppAns (l : Bs) : Ending := if dec (PortTx l) then .returned (.tuple #[.agg #[.int .i64 (rdI (cutA 46 l)), .int .i64 (rdI (cutB 46 l))], .bool true]) else .returned (.tuple #[.agg #[.int .i64 0, .int .i64 0], .bool false])
theorem ppAns_t {l : Bs} (h : PortTx l) : ppAns l = .returned (.tuple #[.agg #[.int .i64 (rdI (cutA 46 l)), .int .i64 (rdI (cutB 46 l))], .bool true]) := by unfold ppAns; rw [dec_true h]; rfl
theorem ppAns_f {l : Bs} (h : ¬ PortTx l) : ppAns l = .returned (.tuple #[.agg #[.int .i64 0, .int .i64 0], .bool false]) := by unfold ppAns; rw [dec_false h]; rfl

theorem cut_any (l : Bs) (c : UInt8) (hl : l.length ≤ 1048576) (w : World) (h : Lb w) :
    Calls Tryd.prog 44 #[.string (bs l), .string (bs [c])] w fun e w' => e = .returned (.tuple #[.string (bs (cutA c l)), .string (bs (cutB c l)), .bool (cutF c l)]) ∧ Ext w w' := by
  obtain ⟨m, hm⟩ := h.ml
  have := Tryd.strings_Cut (bs l) (bs [c]) m w (by rw [bs_size]; omega) hm
  rw [bs_data, bs_data] at this
  exact this.mono fun e w' ⟨he, n, hw⟩ => ⟨he, by rw [hw]; exact (Ext.rfl' w).drewN' n⟩

def PnRes (l : Bs) (e : Ending) : Prop := (∃ n : Nat, rd l = some n ∧ n ≤ 999999 ∧ e = .returned (.tuple #[.int .i64 n, .bool true])) ∨ (rd l = none ∧ e = .returned (.tuple #[.int .i64 0, .bool false]))
theorem pn_e1 {l : Bs} {e : Ending} (h : NumOK l) (hc : PnRes l e) : e = .returned (.tuple #[.int .i64 (rdI l), .bool true]) := by
  rcases hc with ⟨n, hn, _, he⟩ | ⟨hn, _⟩
  · rw [rd_some h] at hn
    rw [he, rdI_ok h, ← Option.some.inj hn]
  · rw [rd_some h] at hn; cases hn
theorem pn_e2 {l : Bs} {e : Ending} (h : ¬ NumOK l) (hc : PnRes l e) : e = .returned (.tuple #[.int .i64 0, .bool false]) := by
  rcases hc with ⟨n, hn, _, he⟩ | ⟨_, he⟩
  · rw [rd_none h] at hn; cases hn
  · exact he
theorem pn_t {l : Bs} (h : NumOK l) (hl : l.length ≤ 1048576) (w : World) (hL : Lb w) : Calls Tryd.prog 45 #[.string (bs l)] w fun e w' => e = .returned (.tuple #[.int .i64 (rdI l), .bool true]) ∧ Ext w w' :=
  (parseNumber_any l hl w hL).mono fun _ _ ⟨hx, hc⟩ => ⟨pn_e1 h hc, hx⟩
theorem pn_f {l : Bs} (h : ¬ NumOK l) (hl : l.length ≤ 1048576) (w : World) (hL : Lb w) : Calls Tryd.prog 45 #[.string (bs l)] w fun e w' => e = .returned (.tuple #[.int .i64 0, .bool false]) ∧ Ext w w' :=
  (parseNumber_any l hl w hL).mono fun _ _ ⟨hx, hc⟩ => ⟨pn_e2 h hc, hx⟩
theorem two_row (w : World) : (w.alloc (.cells #[.int .i64 0, .int .i64 0] 26)).rowIs w.heap.size 26 2 (fun _ => .int .i64 0) :=
  World.rowIs_alloc w #[.int .i64 0, .int .i64 0] 26 (fun _ => .int .i64 0) (fun i hi => by
    have h : i < 2 := hi
    match i, h with
    | 0, _ => rfl
    | 1, _ => rfl)

set_option maxHeartbeats 400000 in
set_option maxRecDepth 100000 in
theorem implParse_any (l : Bs) (hl : l.length ≤ 1048576) (w : World) (hL : Lb w) :
    Calls Tryd.prog 15 #[.string (bs l)] w fun e w' => e = ppAns l ∧ Ext w w' := by
  have H := Lib.hid hL
  have hA := cutA_len 46 l
  have hB := cutB_len 46 l
  have HX := Lib.hid ((Ext.rfl' w).alloc' (.cells #[.int .i64 0, .int .i64 0] 26))
  have HB := Lib.hid (two_row w)
  have HC := Lib.hid (fun (w' : World) (h : Ext w w') => cut_any l 46 hl w' (hL.ext h))
  clear hL
  by_cases h1 : NumOK (cutA 46 l)
  · by_cases h2 : NumOK (cutB 46 l)
    · have Ha := Lib.hid (ppAns_t (l := l) ⟨h1, h2⟩)
      go_enter Tryd.func15, Tryd.ntmps15
      go_wp2_with (go_at_call 44; refine (HC.out _ HX.out).mono ?_; rintro e w1 ⟨rfl, hx⟩; have K1 := Lib.hid (HX.out.trans' hx); have B1 := Lib.hid (row_ext HB.out hx); clear hx)
      go_wp2_with (go_at_call 45; (with_reducible refine (pn_t h1 (by omega) _ (H.out.ext K1.out)).mono ?_); rintro e w2 ⟨rfl, hx⟩; have K2 := Lib.hid (K1.out.trans' hx); have B2 := Lib.hid (row_ext B1.out hx); clear hx)
      go_wp2_with (go_at_call 45; (with_reducible refine (pn_t h2 (by omega) _ (H.out.ext K2.out)).mono ?_); rintro e w3 ⟨rfl, hx⟩; have K3 := Lib.hid (K2.out.trans' hx); have KB := Lib.hid (row_ext B2.out hx); clear hx; obtain ⟨f1, f2, f3, f4⟩ := row_two KB.out (i := 0) (by omega); simp only [Nat.zero_add] at f3 f4; have f5 := KB.out.cell (i := 1) (by omega); have f6 := KB.out.frozen 1)
      refine bodyPost_ret (v := .tuple #[.agg #[.int .i64 (rdI (cutA 46 l)), .int .i64 (rdI (cutB 46 l))], .bool true]) (by simp [results, Tryd.results15, go_sem, f1, f5]) rfl ⟨Ha.out.symm, ?_⟩
      exact (K3.out.store (Nat.le_refl _) _).store (Nat.le_refl _) _
    · have Ha := Lib.hid (ppAns_f (l := l) (fun h => h2 h.2))
      go_enter Tryd.func15, Tryd.ntmps15
      go_wp2_with (go_at_call 44; refine (HC.out _ HX.out).mono ?_; rintro e w1 ⟨rfl, hx⟩; have K1 := Lib.hid (HX.out.trans' hx); have B1 := Lib.hid (row_ext HB.out hx); clear hx)
      go_wp2_with (go_at_call 45; (with_reducible refine (pn_t h1 (by omega) _ (H.out.ext K1.out)).mono ?_); rintro e w2 ⟨rfl, hx⟩; have K2 := Lib.hid (K1.out.trans' hx); have B2 := Lib.hid (row_ext B1.out hx); clear hx)
      go_wp2_with (go_at_call 45; (with_reducible refine (pn_f h2 (by omega) _ (H.out.ext K2.out)).mono ?_); rintro e w3 ⟨rfl, hx⟩; have K3 := Lib.hid (K2.out.trans' hx); have KB := Lib.hid (row_ext B2.out hx); clear hx; obtain ⟨f1, f2, f3, f4⟩ := row_two KB.out (i := 0) (by omega); simp only [Nat.zero_add] at f3 f4; have f5 := KB.out.cell (i := 1) (by omega); have f6 := KB.out.frozen 1)
      refine bodyPost_ret (v := .tuple #[.agg #[.int .i64 0, .int .i64 0], .bool false]) (by simp [results, Tryd.results15, go_sem, f1, f5]) rfl ⟨Ha.out.symm, ?_⟩
      exact (K3.out.store (Nat.le_refl _) _).store (Nat.le_refl _) _
  · by_cases h2 : NumOK (cutB 46 l)
    · have Ha := Lib.hid (ppAns_f (l := l) (fun h => h1 h.1))
      go_enter Tryd.func15, Tryd.ntmps15
      go_wp2_with (go_at_call 44; refine (HC.out _ HX.out).mono ?_; rintro e w1 ⟨rfl, hx⟩; have K1 := Lib.hid (HX.out.trans' hx); have B1 := Lib.hid (row_ext HB.out hx); clear hx)
      go_wp2_with (go_at_call 45; (with_reducible refine (pn_f h1 (by omega) _ (H.out.ext K1.out)).mono ?_); rintro e w2 ⟨rfl, hx⟩; have K2 := Lib.hid (K1.out.trans' hx); have B2 := Lib.hid (row_ext B1.out hx); clear hx)
      go_wp2_with (go_at_call 45; (with_reducible refine (pn_t h2 (by omega) _ (H.out.ext K2.out)).mono ?_); rintro e w3 ⟨rfl, hx⟩; have K3 := Lib.hid (K2.out.trans' hx); have KB := Lib.hid (row_ext B2.out hx); clear hx; obtain ⟨f1, f2, f3, f4⟩ := row_two KB.out (i := 0) (by omega); simp only [Nat.zero_add] at f3 f4; have f5 := KB.out.cell (i := 1) (by omega); have f6 := KB.out.frozen 1)
      refine bodyPost_ret (v := .tuple #[.agg #[.int .i64 0, .int .i64 0], .bool false]) (by simp [results, Tryd.results15, go_sem, f1, f5]) rfl ⟨Ha.out.symm, ?_⟩
      exact (K3.out.store (Nat.le_refl _) _).store (Nat.le_refl _) _
    · have Ha := Lib.hid (ppAns_f (l := l) (fun h => h1 h.1))
      go_enter Tryd.func15, Tryd.ntmps15
      go_wp2_with (go_at_call 44; refine (HC.out _ HX.out).mono ?_; rintro e w1 ⟨rfl, hx⟩; have K1 := Lib.hid (HX.out.trans' hx); have B1 := Lib.hid (row_ext HB.out hx); clear hx)
      go_wp2_with (go_at_call 45; (with_reducible refine (pn_f h1 (by omega) _ (H.out.ext K1.out)).mono ?_); rintro e w2 ⟨rfl, hx⟩; have K2 := Lib.hid (K1.out.trans' hx); have B2 := Lib.hid (row_ext B1.out hx); clear hx)
      go_wp2_with (go_at_call 45; (with_reducible refine (pn_f h2 (by omega) _ (H.out.ext K2.out)).mono ?_); rintro e w3 ⟨rfl, hx⟩; have K3 := Lib.hid (K2.out.trans' hx); have KB := Lib.hid (row_ext B2.out hx); clear hx; obtain ⟨f1, f2, f3, f4⟩ := row_two KB.out (i := 0) (by omega); simp only [Nat.zero_add] at f3 f4; have f5 := KB.out.cell (i := 1) (by omega); have f6 := KB.out.frozen 1)
      refine bodyPost_ret (v := .tuple #[.agg #[.int .i64 0, .int .i64 0], .bool false]) (by simp [results, Tryd.results15, go_sem, f1, f5]) rfl ⟨Ha.out.symm, ?_⟩
      exact (K3.out.store (Nat.le_refl _) _).store (Nat.le_refl _) _
theorem StrSl.two {w : World} {v : Value} {x y : Bs} (h : StrSl w v [x, y]) : ∃ b o c, v = .slice (some ⟨b, o, none⟩) 2 c ∧ 2 ≤ c ∧ c ≤ maxLen ∧ w.cell? ⟨b, o, none⟩ = some (.string (bs x)) ∧ w.cell? ⟨b, o + 1, none⟩ = some (.string (bs y)) := by
  obtain ⟨a, b, o, c, h1, h2, h3, h4, h5⟩ := h
  obtain ⟨z0, hz0, rfl⟩ := h5 0 (by simp)
  obtain ⟨z1, hz1, rfl⟩ := h5 1 (by simp)
  exact ⟨b, o, c, by rw [h1, h2 (by simp)]; rfl, h3, h4, hz0, hz1⟩
set_option maxHeartbeats 800000 in
set_option maxRecDepth 100000 in
theorem txPort_t (l A B : Bs) (a b : Int) (h0 : 0 ≤ a) (h1 : 0 ≤ b) (hS : ∀ w' : World, Calls Tryd.prog 61 #[.string (bs l), .int .u8 46] w' fun e w'' => ∃ v', e = .returned v' ∧ Ext w' w'' ∧ StrSl w'' v' [A, B])
    (hA : ∀ w' : World, Calls Tryd.prog 62 #[.string (bs A)] w' fun e w'' => e = .returned (.int .i64 a) ∧ w' = w'') (hB : ∀ w' : World, Calls Tryd.prog 62 #[.string (bs B)] w' fun e w'' => e = .returned (.int .i64 b) ∧ w' = w'') (w : World) :
    Calls Tryd.prog 43 #[.string (bs l)] w fun e w' => e = .returned (.tuple #[.agg #[.int .i64 a, .int .i64 b], .bool true]) ∧ Ext w w' := by
  have HX := Lib.hid ((Ext.rfl' w).alloc' (.cells #[.int .i64 0, .int .i64 0] 26))
  have HB := Lib.hid (two_row w)
  have RA := Lib.hid hA
  have RB := Lib.hid hB
  have HS := Lib.hid hS
  clear hA hB hS
  go_enter Tryd.func43, Tryd.ntmps43
  go_wp2_with (go_at_call 61; (with_reducible refine (HS.out _).mono ?_); rintro e w1 ⟨v', rfl, hx, hsl⟩; have K1 := Lib.hid (HX.out.trans' hx); have B1 := Lib.hid (row_ext HB.out hx); obtain ⟨p, o, c, rfl, hc2, hcm, c0, c1⟩ := hsl.two; unfold maxLen at hcm; clear hx hsl)
  have mkS : ∀ w', Ext w1 w' → w'.cell? ⟨p, o, none⟩ = some (.string (bs A)) ∧ w'.cell? ⟨p, o + 1, none⟩ = some (.string (bs B)) := fun w' h => ⟨h.cell' c0, h.cell' c1⟩
  go_region_held3 (fun w' => w'.cell? ⟨p, o, none⟩ = some (.string (bs A)) ∧ w'.cell? ⟨p, o + 1, none⟩ = some (.string (bs B)))
    (first | assumption | exact mkS _ (by repeat (first | exact Ext.rfl' _ | refine Ext.alloc' ?_ _ | refine Ext.drew' ?_ | refine Ext.store ?_ (by simp) _)))
    (first | (go_at_call 62; (with_reducible refine (RA.out _).mono ?_); rintro e w' ⟨rfl, rfl⟩) | (go_at_call 62; (with_reducible refine (RB.out _).mono ?_); rintro e w' ⟨rfl, rfl⟩))
  all_goals (have E1 := Lib.hid (((Ext.rfl' w1).alloc' (.cells #[.int .i64 a, .int .i64 b] 26)).drew'))
  all_goals (have KB := Lib.hid (row_ext B1.out ((Ext.rfl' w1).alloc' (.cells #[.int .i64 a, .int .i64 b] 26))))
  all_goals (obtain ⟨f1, f2, f3, f4⟩ := row_two KB.out (i := 0) (by omega); simp only [Nat.zero_add] at f3 f4)
  all_goals (have f5 := KB.out.cell (i := 1) (by omega); have f6 := KB.out.frozen 1)
  all_goals go_wp2
  all_goals (refine bodyPost_ret (v := .tuple #[.agg #[.int .i64 a, .int .i64 b], .bool true]) (by simp [results, Tryd.results43, go_sem, f1, f5]) rfl ⟨rfl, ?_⟩)
  all_goals (exact ((K1.out.trans' E1.out).store (Nat.le_refl _) _).store (Nat.le_refl _) _)
set_option maxHeartbeats 800000 in
set_option maxRecDepth 100000 in
theorem txPort_fa (l A B : Bs) (a b : Int) (h0 : a < 0) (hS : ∀ w' : World, Calls Tryd.prog 61 #[.string (bs l), .int .u8 46] w' fun e w'' => ∃ v', e = .returned v' ∧ Ext w' w'' ∧ StrSl w'' v' [A, B])
    (hA : ∀ w' : World, Calls Tryd.prog 62 #[.string (bs A)] w' fun e w'' => e = .returned (.int .i64 a) ∧ w' = w'') (hB : ∀ w' : World, Calls Tryd.prog 62 #[.string (bs B)] w' fun e w'' => e = .returned (.int .i64 b) ∧ w' = w'') (w : World) :
    Calls Tryd.prog 43 #[.string (bs l)] w fun e w' => e = .returned (.tuple #[.agg #[.int .i64 0, .int .i64 0], .bool false]) ∧ Ext w w' := by
  have HX := Lib.hid ((Ext.rfl' w).alloc' (.cells #[.int .i64 0, .int .i64 0] 26))
  have HB := Lib.hid (two_row w)
  have RA := Lib.hid hA
  have RB := Lib.hid hB
  have HS := Lib.hid hS
  clear hA hB hS
  go_enter Tryd.func43, Tryd.ntmps43
  go_wp2_with (go_at_call 61; (with_reducible refine (HS.out _).mono ?_); rintro e w1 ⟨v', rfl, hx, hsl⟩; have K1 := Lib.hid (HX.out.trans' hx); have B1 := Lib.hid (row_ext HB.out hx); obtain ⟨p, o, c, rfl, hc2, hcm, c0, c1⟩ := hsl.two; unfold maxLen at hcm; clear hx hsl)
  have mkS : ∀ w', Ext w1 w' → w'.cell? ⟨p, o, none⟩ = some (.string (bs A)) ∧ w'.cell? ⟨p, o + 1, none⟩ = some (.string (bs B)) := fun w' h => ⟨h.cell' c0, h.cell' c1⟩
  go_region_held3 (fun w' => w'.cell? ⟨p, o, none⟩ = some (.string (bs A)) ∧ w'.cell? ⟨p, o + 1, none⟩ = some (.string (bs B)))
    (first | assumption | exact mkS _ (by repeat (first | exact Ext.rfl' _ | refine Ext.alloc' ?_ _ | refine Ext.drew' ?_ | refine Ext.store ?_ (by simp) _)))
    (first | (go_at_call 62; (with_reducible refine (RA.out _).mono ?_); rintro e w' ⟨rfl, rfl⟩) | (go_at_call 62; (with_reducible refine (RB.out _).mono ?_); rintro e w' ⟨rfl, rfl⟩))
  all_goals (have E1 := Lib.hid (((Ext.rfl' w1).alloc' (.cells #[.int .i64 a, .int .i64 b] 26)).drew'))
  all_goals (have KB := Lib.hid (row_ext B1.out ((Ext.rfl' w1).alloc' (.cells #[.int .i64 a, .int .i64 b] 26))))
  all_goals (obtain ⟨f1, f2, f3, f4⟩ := row_two KB.out (i := 0) (by omega); simp only [Nat.zero_add] at f3 f4)
  all_goals (have f5 := KB.out.cell (i := 1) (by omega); have f6 := KB.out.frozen 1)
  all_goals go_wp2
  all_goals (refine bodyPost_ret (v := .tuple #[.agg #[.int .i64 0, .int .i64 0], .bool false]) (by simp [results, Tryd.results43, go_sem, f1, f5]) rfl ⟨rfl, ?_⟩)
  all_goals (exact ((K1.out.trans' E1.out).store (Nat.le_refl _) _).store (Nat.le_refl _) _)
set_option maxHeartbeats 800000 in
set_option maxRecDepth 100000 in
theorem txPort_fb (l A B : Bs) (a b : Int) (h0 : 0 ≤ a) (h1 : b < 0) (hS : ∀ w' : World, Calls Tryd.prog 61 #[.string (bs l), .int .u8 46] w' fun e w'' => ∃ v', e = .returned v' ∧ Ext w' w'' ∧ StrSl w'' v' [A, B])
    (hA : ∀ w' : World, Calls Tryd.prog 62 #[.string (bs A)] w' fun e w'' => e = .returned (.int .i64 a) ∧ w' = w'') (hB : ∀ w' : World, Calls Tryd.prog 62 #[.string (bs B)] w' fun e w'' => e = .returned (.int .i64 b) ∧ w' = w'') (w : World) :
    Calls Tryd.prog 43 #[.string (bs l)] w fun e w' => e = .returned (.tuple #[.agg #[.int .i64 0, .int .i64 0], .bool false]) ∧ Ext w w' := by
  have HX := Lib.hid ((Ext.rfl' w).alloc' (.cells #[.int .i64 0, .int .i64 0] 26))
  have HB := Lib.hid (two_row w)
  have RA := Lib.hid hA
  have RB := Lib.hid hB
  have HS := Lib.hid hS
  clear hA hB hS
  go_enter Tryd.func43, Tryd.ntmps43
  go_wp2_with (go_at_call 61; (with_reducible refine (HS.out _).mono ?_); rintro e w1 ⟨v', rfl, hx, hsl⟩; have K1 := Lib.hid (HX.out.trans' hx); have B1 := Lib.hid (row_ext HB.out hx); obtain ⟨p, o, c, rfl, hc2, hcm, c0, c1⟩ := hsl.two; unfold maxLen at hcm; clear hx hsl)
  have mkS : ∀ w', Ext w1 w' → w'.cell? ⟨p, o, none⟩ = some (.string (bs A)) ∧ w'.cell? ⟨p, o + 1, none⟩ = some (.string (bs B)) := fun w' h => ⟨h.cell' c0, h.cell' c1⟩
  go_region_held3 (fun w' => w'.cell? ⟨p, o, none⟩ = some (.string (bs A)) ∧ w'.cell? ⟨p, o + 1, none⟩ = some (.string (bs B)))
    (first | assumption | exact mkS _ (by repeat (first | exact Ext.rfl' _ | refine Ext.alloc' ?_ _ | refine Ext.drew' ?_ | refine Ext.store ?_ (by simp) _)))
    (first | (go_at_call 62; (with_reducible refine (RA.out _).mono ?_); rintro e w' ⟨rfl, rfl⟩) | (go_at_call 62; (with_reducible refine (RB.out _).mono ?_); rintro e w' ⟨rfl, rfl⟩))
  all_goals (have E1 := Lib.hid (((Ext.rfl' w1).alloc' (.cells #[.int .i64 a, .int .i64 b] 26)).drew'))
  all_goals (have KB := Lib.hid (row_ext B1.out ((Ext.rfl' w1).alloc' (.cells #[.int .i64 a, .int .i64 b] 26))))
  all_goals (obtain ⟨f1, f2, f3, f4⟩ := row_two KB.out (i := 0) (by omega); simp only [Nat.zero_add] at f3 f4)
  all_goals (have f5 := KB.out.cell (i := 1) (by omega); have f6 := KB.out.frozen 1)
  all_goals go_wp2
  all_goals (refine bodyPost_ret (v := .tuple #[.agg #[.int .i64 0, .int .i64 0], .bool false]) (by simp [results, Tryd.results43, go_sem, f1, f5]) rfl ⟨rfl, ?_⟩)
  all_goals (exact ((K1.out.trans' E1.out).store (Nat.le_refl _) _).store (Nat.le_refl _) _)
set_option maxHeartbeats 800000 in
set_option maxRecDepth 100000 in
theorem txPort_len (l : Bs) (n : Nat) (P : List Bs) (hP : P.length = n) (hn : n ≠ 2) (hS : ∀ w' : World, Calls Tryd.prog 61 #[.string (bs l), .int .u8 46] w' fun e w'' => ∃ v', e = .returned v' ∧ Ext w' w'' ∧ StrSl w'' v' P) (w : World) :
    Calls Tryd.prog 43 #[.string (bs l)] w fun e w' => e = .returned (.tuple #[.agg #[.int .i64 0, .int .i64 0], .bool false]) ∧ Ext w w' := by
  have HX := Lib.hid ((Ext.rfl' w).alloc' (.cells #[.int .i64 0, .int .i64 0] 26))
  have HB := Lib.hid (two_row w)
  have HS := Lib.hid hS
  have hne : ¬ ((n : Int) = 2) := by omega
  clear hS
  go_enter Tryd.func43, Tryd.ntmps43
  go_wp2_with (go_at_call 61; (with_reducible refine (HS.out _).mono ?_); rintro e w1 ⟨v', rfl, hx, hsl⟩; have K1 := Lib.hid (HX.out.trans' hx); have KB := Lib.hid (row_ext HB.out hx); obtain ⟨a, p, o, c, rfl, _⟩ := hsl; rw [hP]; obtain ⟨f1, f2, f3, f4⟩ := row_two KB.out (i := 0) (by omega); simp only [Nat.zero_add] at f3 f4; have f5 := KB.out.cell (i := 1) (by omega); have f6 := KB.out.frozen 1; clear hx)
  refine bodyPost_ret (v := .tuple #[.agg #[.int .i64 0, .int .i64 0], .bool false]) (by simp [results, Tryd.results43, go_sem, f1, f5]) rfl ⟨rfl, ?_⟩
  exact (K1.out.store (Nat.le_refl _) _).store (Nat.le_refl _) _

/-- No piece is longer than the text. -/
theorem spl_len_aux (c : UInt8) (n : Nat) : ∀ l : Bs, l.length ≤ n → ∀ x ∈ spl c l, x.length ≤ l.length := by
  induction n with
  | zero =>
    intro l hl x hx
    rcases first_of c l with h | ⟨k, hk, _, _⟩
    · rw [spl_no h] at hx; rw [List.mem_singleton.1 hx]; exact Nat.le_refl _
    · omega
  | succ n ih =>
    intro l hl x hx
    rcases first_of c l with h | ⟨k, hk, h, hn⟩
    · rw [spl_no h] at hx; rw [List.mem_singleton.1 hx]; exact Nat.le_refl _
    · rw [spl_at h hn] at hx
      rcases List.mem_cons.1 hx with rfl | hx
      · rw [List.length_take]; omega
      · have := ih (l.drop (k + 1)) (by rw [List.length_drop]; omega) x hx
        rw [List.length_drop] at this; omega
theorem spl_len (c : UInt8) (l : Bs) : ∀ x ∈ spl c l, x.length ≤ l.length := spl_len_aux c l.length l (Nat.le_refl _)
theorem txPort_any (l : Bs) (hl : l.length ≤ 1048576) (w : World) : Calls Tryd.prog 43 #[.string (bs l)] w fun e w' => e = ppAns l ∧ Ext w w' := by
  have HS : ∀ w' : World, Calls Tryd.prog 61 #[.string (bs l), .int .u8 46] w' fun e w'' => ∃ v', e = .returned v' ∧ Ext w' w'' ∧ StrSl w'' v' (spl 46 l) := fun w' => l1Split_any l 46 w' hl
  have hsum := spl_len 46 l
  rcases spl_port l with ⟨hp, hs⟩ | ⟨hp, hlen | ⟨x, y, hs, hxy⟩⟩
  · rw [hs] at HS
    rw [ppAns_t hp]
    have hA := cutA_len 46 l
    have hB := cutB_len 46 l
    exact txPort_t l _ _ _ _ (rdI_nn.2 hp.1) (rdI_nn.2 hp.2) HS (fun w' => l1Read_any _ w' (by omega)) (fun w' => l1Read_any _ w' (by omega)) w
  · rw [ppAns_f hp]
    exact txPort_len l _ _ rfl hlen HS w
  · rw [hs] at HS
    rw [ppAns_f hp]
    have hx := hsum x (by rw [hs]; simp)
    have hy := hsum y (by rw [hs]; simp)
    by_cases h1 : NumOK x
    · exact txPort_fb l _ _ _ _ (rdI_nn.2 h1) (by have := rdI_no (fun h2 => hxy ⟨h1, h2⟩); omega) HS (fun w' => l1Read_any _ w' (by omega)) (fun w' => l1Read_any _ w' (by omega)) w
    · exact txPort_fa l _ _ _ (rdI y) (by have := rdI_no h1; omega) HS (fun w' => l1Read_any _ w' (by omega)) (fun w' => l1Read_any _ w' (by omega)) w
end Go.Proofs.YtecgajpjcaemmaaDoor
