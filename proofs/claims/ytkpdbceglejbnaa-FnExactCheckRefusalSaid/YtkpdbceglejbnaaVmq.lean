/- The contracts of both sides' ViewClasses, StableDepth, TwinClasses and IsSymmetric. -/
import Derived.Test.YtkpdbceglejbnaaVl
namespace Go.Proofs.Ytkpdbceglejbnaa
open Go.RowKit

set_option maxRecDepth 100000 in
theorem isBetween_anyV (n lo hi : Int) (w : World) : Calls Try.prog 140 #[.int .i64 n, .int .i64 lo, .int .i64 hi] w fun e w' => e = .returned (.bool (dec (InB n lo hi))) ∧ w = w' := by
  by_cases h1 : lo ≤ n
  · have d1 : decide (lo ≤ n) = true := by simpa using h1
    by_cases h2 : n ≤ hi
    · have e := Lib.hid (dec_true (p := InB n lo hi) ⟨h1, h2⟩)
      have d2 : decide (n ≤ hi) = true := by simpa using h2
      go_enter Try.func140, Try.ntmps140
      go_wp2
      go_ret
      exact ⟨ret_bool e.out.symm, rfl⟩
    · have e := Lib.hid (dec_false (p := InB n lo hi) (fun h => h2 h.2))
      have d2 : decide (n ≤ hi) = false := by simpa using h2
      go_enter Try.func140, Try.ntmps140
      go_wp2
      go_ret
      exact ⟨ret_bool e.out.symm, rfl⟩
  · have e := Lib.hid (dec_false (p := InB n lo hi) (fun h => h1 h.1))
    have d1 : decide (lo ≤ n) = false := by simpa using h1
    go_enter Try.func140, Try.ntmps140
    go_wp2
    go_ret
    exact ⟨ret_bool e.out.symm, rfl⟩
def NodeOKV (N : Net) (x : Int) : Prop := 0 ≤ x ∧ x < N.ends.length
def NodeAnsV (N : Net) (x : Int) : Prop := Good N ∧ NodeOKV N x

set_option maxRecDepth 100000 in
theorem hasNode_anyV {w : World} {v : Value} {N : Net} (x : Int) (h : NetAt w v N) :
    Calls Try.prog 84 #[v, .int .i64 x] w fun e w' => e = .returned (.bool (dec (NodeOKV N x))) ∧ Ext w w' := by
  obtain ⟨v0, v1, v2, rfl, hE, hI, hP⟩ := h
  clear hI hP
  obtain ⟨a, b, o, c, rfl, ha, hl, hm, hc⟩ := hE
  unfold maxLen at hm
  clear ha hc
  have HX := Lib.hid (boxed_ext w (.slice a N.ends.length c) v1 v2 34)
  by_cases h1 : 0 ≤ x
  · by_cases h2 : x < N.ends.length
    · have HF := Lib.hid (show NodeOKV N x from ⟨h1, h2⟩)
      go_enter Try.func84, Try.ntmps84
      go_wp2
      go_ret
      exact ⟨ret_t HF.out, HX.out⟩
    · have HF := Lib.hid (show ¬ NodeOKV N x from fun h => h2 h.2)
      go_enter Try.func84, Try.ntmps84
      go_wp2
      go_ret
      exact ⟨ret_f HF.out, HX.out⟩
  · have HF := Lib.hid (show ¬ NodeOKV N x from fun h => h1 h.1)
    go_enter Try.func84, Try.ntmps84
    go_wp2
    go_ret
    exact ⟨ret_f HF.out, HX.out⟩


theorem good_nodes {N : Net} (h : Good N) : NodesIn N := by
  obtain ⟨h1, h2, _, h4⟩ := h
  exact ⟨by have := h4.1; omega, fun v hv i hi => by have := ((h2 v hv).2 i hi).1; exact ⟨this.1, this.2.1⟩⟩

set_option maxRecDepth 100000 in
theorem viewDepth_any (t : Int) (w : World) : Calls Try.prog 116 #[.int .i64 t] w fun e w' => e = .returned (.bool (dec (InB t 0 80))) ∧ w = w' := by
  go_enter Try.func116, Try.ntmps116
  go_wp2_with (go_at_call 140; (with_reducible refine (isBetween_anyV t _ _ _).mono ?_); rintro e w' ⟨rfl, rfl⟩)
  go_ret
  exact ⟨rfl, rfl⟩
set_option maxRecDepth 100000 in
theorem viDepth_any (t : Int) (w : World) : Calls Try.prog 63 #[.int .i64 t] w fun e w' => e = .returned (.bool (dec (InB t 0 80))) ∧ w = w' := by
  go_enter Try.func63, Try.ntmps63
  go_wp2_with (go_at_call 103; (with_reducible refine (l1In_any t _ _ _).mono ?_); rintro e w' ⟨rfl, rfl⟩)
  go_ret
  exact ⟨rfl, rfl⟩

/-- The rows of a list that has grown. -/
theorem GrowI.rows {B : Nat} {w : World} {v : Value} {l : List (List Int)} (h : GrowI B w v l l.length) (hl : 0 < l.length) :
    ∃ b c, v = .slice (some ⟨b, 0, none⟩) l.length c ∧ l.length ≤ c ∧ c ≤ maxLen ∧ ∀ i, i < l.length → ∃ x bs, w.cell? ⟨b, i, none⟩ = some x ∧ OwnI w x (gr l i) bs ∧ ∀ b ∈ bs, B ≤ b := by
  obtain ⟨bs, ⟨R, b0, T, ⟨c, h1, h2, h3⟩, h4, rfl⟩, hnd, hB⟩ := h.done
  rcases h3 with ⟨hn, _⟩ | ⟨b, m, g, rfl, rfl, hm, hr, hf⟩
  · omega
  · refine ⟨b, c, rfl, h1, h2, fun i hi => ⟨R i, T i, ?_, h4 i hi, fun x hx => hB x ?_⟩⟩
    · rw [hr.cell (by omega), hf i (by omega)]
    · exact List.mem_append.2 (.inr (List.mem_flatMap.2 ⟨i, List.mem_range.2 hi, hx⟩))

def VOK (N : Net) (t : Int) : Prop := Good N ∧ InB t 0 80
noncomputable def vcAns (N : Net) (t : Int) : List Int := if dec (VOK N t) = true then seqC N t.toNat else []
theorem vcAns_t {N : Net} {t : Int} (h : VOK N t) : vcAns N t = seqC N t.toNat := by simp [vcAns, dec_true h]
theorem vcAns_f {N : Net} {t : Int} (h : ¬ VOK N t) : vcAns N t = [] := by simp [vcAns, dec_false h]
theorem vcAns_len (N : Net) (t : Int) : (vcAns N t).length ≤ 1048576 := by
  by_cases h : VOK N t
  · rw [vcAns_t h, seqC_len]; have := h.1.1.2; omega
  · rw [vcAns_f h]; simp
theorem ret_l {v : Value} {b c : Bool} (h : b = c) : Ending.returned (.tuple #[v, .bool b]) = .returned (.tuple #[v, .bool c]) := by rw [h]
theorem own_nil0 (w : World) : OwnI w (.slice none 0 0) [] [] := ⟨⟨0, Nat.le_refl _, by unfold maxLen; omega, .inl ⟨rfl, rfl, none, ⟨rfl, rfl⟩, rfl⟩⟩, fun i hi => absurd hi (by simp)⟩

set_option maxHeartbeats 1600000 in
set_option maxRecDepth 100000 in
theorem viewClasses_any {w : World} {v : Value} {N : Net} (t : Int) (h : NetAt w v N) :
    Calls Try.prog 66 #[v, .int .i64 t] w fun e w' => ∃ v' bs, e = .returned (.tuple #[v', .bool (dec (VOK N t))]) ∧ Ext w w' ∧ OwnI w' v' (vcAns N t) bs ∧ Fresh w bs := by
  have HN := Lib.hid h
  obtain ⟨v0, v1, v2, rfl, hE, hI, hP⟩ := h
  clear hE hI hP
  have HX := Lib.hid (boxed_ext w v0 v1 v2 34)
  have HR := Lib.hid (row3_made w v0 v1 v2 34)
  obtain ⟨p0, p1, p2, -, -, -⟩ := row3_facts HR.out
  by_cases hg : Good N
  case neg =>
    have G := Lib.hid (dec_false hg)
    have D := Lib.hid (dec_false (p := VOK N t) fun h => hg h.1)
    have A := Lib.hid (vcAns_f (t := t) fun h => hg h.1)
    clear hg
    go_enter Try.func66, Try.ntmps66
    go_wp2_with (first | (go_at_call 73; (with_reducible refine (isNetwork_any (HN.out.ext HX.out)).mono ?_); rintro e w1 ⟨rfl, hw⟩; rw [G.out]; have K1 := Lib.hid (HX.out.trans' hw); clear hw))
    go_ret2
    exact ⟨_, [], ret_l D.out.symm, K1.out, by rw [A.out]; exact own_nil0 _, Fresh.nil _⟩
  have G := Lib.hid (dec_true hg)
  by_cases ht : InB t 0 80
  case neg =>
    have T := Lib.hid (dec_false ht)
    have D := Lib.hid (dec_false (p := VOK N t) fun h => ht h.2)
    have A := Lib.hid (vcAns_f (N := N) (t := t) fun h => ht h.2)
    clear hg ht
    go_enter Try.func66, Try.ntmps66
    go_wp2_with (first | (go_at_call 73; (with_reducible refine (isNetwork_any (HN.out.ext HX.out)).mono ?_); rintro e w1 ⟨rfl, hw⟩; rw [G.out]; have K1 := Lib.hid (HX.out.trans' hw); clear hw) | (go_at_call 116; (with_reducible refine (viewDepth_any _ _).mono ?_); rintro e w1 ⟨rfl, rfl⟩; rw [T.out]))
    go_ret2
    exact ⟨_, [], ret_l D.out.symm, K1.out, by rw [A.out]; exact own_nil0 _, Fresh.nil _⟩
  have T := Lib.hid (dec_true ht)
  have D := Lib.hid (dec_true (p := VOK N t) ⟨hg, ht⟩)
  have A := Lib.hid (vcAns_t (N := N) (t := t) ⟨hg, ht⟩)
  have NI := Lib.hid (good_nodes hg)
  have hn : 0 < N.ends.length := hg.1.1
  have h40 : N.ends.length ≤ 40 := hg.1.2
  have hst := stOf_lt NI.out hn
  have LATE := Lib.hid (fun (t : Nat) (h : stOf N ≤ t) => seq_late NI.out hn h)
  obtain ⟨m, rfl⟩ := Int.eq_ofNat_of_zero_le ht.1
  have hm80 : m ≤ 80 := by have := ht.2; omega
  clear hg ht
  go_enter Try.func66, Try.ntmps66
  go_wp2_with fail
  (with_reducible refine (isNetwork_any (HN.out.ext HX.out)).mono ?_)
  rintro e w1 ⟨rfl, hw⟩
  rw [G.out]
  have K1 := Lib.hid (HX.out.trans' hw)
  obtain ⟨q0, q1, q2, -, -, -⟩ := row3_facts (row_ext HR.out hw)
  clear hw p0 p1 p2
  go_wp2_with (first | (go_at_call 116; (with_reducible refine (viewDepth_any _ _).mono ?_); rintro e w2 ⟨rfl, rfl⟩; rw [T.out]) | fail)
  (with_reducible refine (classesByDepth_any (HN.out.ext K1.out) NI.out hn (by omega)).mono ?_)
  rintro e w2 ⟨v', rfl, hx, hgr⟩
  have K2 := Lib.hid (K1.out.trans' hx)
  have hB := K1.out.size
  obtain ⟨b, c, rfl, hc1, hc2, hrows⟩ := hgr.rows (by rw [clsTo_len]; omega)
  rw [clsTo_len] at hc1 hrows ⊢
  have HRW := Lib.hid hrows
  unfold maxLen at hc2
  clear hgr hrows hx q0 q1 q2
  by_cases hmt : m ≤ stOf N
  · obtain ⟨x, bs, hx, ho, hbs⟩ := HRW.out m (by omega)
    rw [gr_clsTo (by omega)] at ho
    have O := Lib.hid ho
    have OB := Lib.hid hbs
    clear ho hbs
    go_wp2
    go_ret2
    exact ⟨_, bs, ret_l D.out.symm, K2.out, by rw [A.out, Int.toNat_natCast]; exact O.out, O.out.1.nodup, fun b hb => by have := OB.out b hb; omega⟩
  · obtain ⟨x, bs, hx, ho, hbs⟩ := HRW.out (stOf N) (by omega)
    rw [gr_clsTo (by omega), ← LATE.out m (by omega)] at ho
    have O := Lib.hid ho
    have OB := Lib.hid hbs
    clear ho hbs
    go_wp2
    go_ret2
    exact ⟨_, bs, ret_l D.out.symm, K2.out, by rw [A.out, Int.toNat_natCast]; exact O.out, O.out.1.nodup, fun b hb => by have := OB.out b hb; omega⟩

/-- The stable depth, where there is one. -/
noncomputable def sdAns (N : Net) : Int := if dec (Good N) = true then (stOf N : Int) else 0
theorem sdAns_t {N : Net} (h : Good N) : sdAns N = (stOf N : Int) := by simp [sdAns, dec_true h]
theorem sdAns_f {N : Net} (h : ¬ Good N) : sdAns N = 0 := by simp [sdAns, dec_false h]
theorem ret_iV {x y : Int} {b c : Bool} (h0 : x = y) (h : b = c) : Ending.returned (.tuple #[.int .i64 x, .bool b]) = .returned (.tuple #[.int .i64 y, .bool c]) := by rw [h0, h]
theorem ret_bbV {x y b c : Bool} (h0 : x = y) (h : b = c) : Ending.returned (.tuple #[.bool x, .bool b]) = .returned (.tuple #[.bool y, .bool c]) := by rw [h0, h]

set_option maxHeartbeats 1600000 in
set_option maxRecDepth 100000 in
theorem stableDepth_any {w : World} {v : Value} {N : Net} (h : NetAt w v N) :
    Calls Try.prog 118 #[v] w fun e w' => e = .returned (.tuple #[.int .i64 (sdAns N), .bool (dec (Good N))]) ∧ Ext w w' := by
  have HN := Lib.hid h
  obtain ⟨v0, v1, v2, rfl, hE, hI, hP⟩ := h
  clear hE hI hP
  have HX := Lib.hid (boxed_ext w v0 v1 v2 34)
  have HR := Lib.hid (row3_made w v0 v1 v2 34)
  obtain ⟨p0, p1, p2, -, -, -⟩ := row3_facts HR.out
  by_cases hg : Good N
  case neg =>
    have G := Lib.hid (dec_false hg)
    have A := Lib.hid (sdAns_f hg)
    clear hg
    go_enter Try.func118, Try.ntmps118
    go_wp2_with (first | (go_at_call 73; (with_reducible refine (isNetwork_any (HN.out.ext HX.out)).mono ?_); rintro e w1 ⟨rfl, hw⟩; rw [G.out]; have K1 := Lib.hid (HX.out.trans' hw); clear hw))
    go_ret2
    exact ⟨ret_iV A.out.symm G.out.symm, K1.out⟩
  have G := Lib.hid (dec_true hg)
  have A := Lib.hid (sdAns_t hg)
  have NI := Lib.hid (good_nodes hg)
  have hn : 0 < N.ends.length := hg.1.1
  have h40 : N.ends.length ≤ 40 := hg.1.2
  have hst := stOf_lt NI.out hn
  clear hg
  go_enter Try.func118, Try.ntmps118
  go_wp2_with fail
  (with_reducible refine (isNetwork_any (HN.out.ext HX.out)).mono ?_)
  rintro e w1 ⟨rfl, hw⟩
  rw [G.out]
  have K1 := Lib.hid (HX.out.trans' hw)
  obtain ⟨q0, q1, q2, -, -, -⟩ := row3_facts (row_ext HR.out hw)
  clear hw p0 p1 p2
  go_wp2_with fail
  (with_reducible refine (classesByDepth_any (HN.out.ext K1.out) NI.out hn (by omega)).mono ?_)
  rintro e w2 ⟨v', rfl, hx, hgr⟩
  have K2 := Lib.hid (K1.out.trans' hx)
  obtain ⟨b, c, rfl, -, -, -⟩ := hgr.rows (by rw [clsTo_len]; omega)
  rw [clsTo_len]
  clear hgr hx q0 q1 q2
  go_wp2
  go_ret2
  exact ⟨ret_iV A.out.symm G.out.symm, K2.out⟩

end Go.Proofs.Ytkpdbceglejbnaa
