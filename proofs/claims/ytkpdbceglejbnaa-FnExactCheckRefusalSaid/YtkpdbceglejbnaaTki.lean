/- The model: whether outputs meet a task, whether it can be met, and the outputs that meet it. -/
import Derived.Test.YtkpdbceglejbnaaTkh
import Derived.Test.YtkpdbceglejbnaaTkf
namespace Go.Proofs.Ytkpdbceglejbnaa
open Go.RowKit

set_option maxHeartbeats 1600000 in
set_option maxRecDepth 100000 in
theorem imMeets_2 {w : World} {v vc : Value} {N : Net} {c : List Int} (h : NetAt w v N) (k : IntSl w vc c) (h6 : c.length ≤ 1048576) (hl : c.length = N.ends.length) (hG : Good N) :
    Calls Try.prog 58 #[v, .int .i64 2, vc] w fun e w' => e = .returned (.bool (dec (Meets N 2 c))) ∧ Ext w w' := by
  have HN := Lib.hid h
  have HC := Lib.hid k
  obtain ⟨v0, v1, v2, rfl, -, -, -⟩ := h
  have KX := Lib.hid (boxed_ext w v0 v1 v2 34)
  have HB := Lib.hid (row3_made w v0 v1 v2 34)
  obtain ⟨p0, p1, p2, -, -, -⟩ := row3_facts HB.out
  have D := Lib.hid (not_dec (meets_2 (N := N) (l := c)))
  go_enter Try.func58, Try.ntmps58
  go_wp2_with (go_at_call 80; (with_reducible refine (imEdge_any (HN.out.ext KX.out) (HC.out.ext KX.out) h6 hl hG).mono ?_); rintro e w1 ⟨rfl, hx⟩; have K1 := Lib.hid (KX.out.trans' hx); clear hx)
  go_ret
  exact ⟨ret_bool D.out, K1.out⟩
set_option maxHeartbeats 1600000 in
set_option maxRecDepth 100000 in
theorem imCan_2 {w : World} {v vc : Value} {N : Net} {c : List Int} (h : NetAt w v N) (k : IntSl w vc c) (h6 : c.length ≤ 1048576) (hl : c.length = N.ends.length) (hG : Good N) :
    Calls Try.prog 64 #[v, .int .i64 2, vc] w fun e w' => e = .returned (.bool (dec (Can N 2 c))) ∧ Ext w w' := by
  have HN := Lib.hid h
  have HC := Lib.hid k
  obtain ⟨v0, v1, v2, rfl, -, -, -⟩ := h
  have KX := Lib.hid (boxed_ext w v0 v1 v2 34)
  have HB := Lib.hid (row3_made w v0 v1 v2 34)
  obtain ⟨p0, p1, p2, -, -, -⟩ := row3_facts HB.out
  have D := Lib.hid (show dec (Meets N 2 c) = dec (Can N 2 c) from dec_congr meets_2.symm)
  go_enter Try.func64, Try.ntmps64
  go_wp2_with (go_at_call 58; (with_reducible refine (imMeets_2 (HN.out.ext KX.out) (HC.out.ext KX.out) h6 hl hG).mono ?_); rintro e w1 ⟨rfl, hx⟩; have K1 := Lib.hid (KX.out.trans' hx); clear hx)
  go_ret
  exact ⟨ret_bool D.out, K1.out⟩

set_option maxHeartbeats 1600000 in
set_option maxRecDepth 100000 in
theorem imMeets_3 {w : World} {v vc : Value} {N : Net} {c : List Int} (h : NetAt w v N) (k : IntSl w vc c) (h6 : c.length ≤ 1048576) :
    Calls Try.prog 58 #[v, .int .i64 3, vc] w fun e w' => e = .returned (.bool (dec (Meets N 3 c))) ∧ Ext w w' := by
  have HN := Lib.hid h
  have HC := Lib.hid k
  obtain ⟨v0, v1, v2, rfl, -, -, -⟩ := h
  have KX := Lib.hid (boxed_ext w v0 v1 v2 34)
  have HB := Lib.hid (row3_made w v0 v1 v2 34)
  obtain ⟨p0, p1, p2, -, -, -⟩ := row3_facts HB.out
  have D := Lib.hid (not_dec (meets_3 (N := N) (l := c)))
  go_enter Try.func58, Try.ntmps58
  go_wp2_with (go_at_call 81; (with_reducible refine (imPair_any (N := N) (HC.out.ext KX.out) h6).mono ?_); rintro e w1 ⟨rfl, hx⟩; have K1 := Lib.hid (KX.out.trans' hx); clear hx)
  go_ret
  exact ⟨ret_bool D.out, K1.out⟩
set_option maxHeartbeats 1600000 in
set_option maxRecDepth 100000 in
theorem imCan_3 {w : World} {v vc : Value} {N : Net} {c : List Int} (h : NetAt w v N) (k : IntSl w vc c) (h6 : c.length ≤ 1048576) :
    Calls Try.prog 64 #[v, .int .i64 3, vc] w fun e w' => e = .returned (.bool (dec (Can N 3 c))) ∧ Ext w w' := by
  have HN := Lib.hid h
  have HC := Lib.hid k
  obtain ⟨v0, v1, v2, rfl, -, -, -⟩ := h
  have KX := Lib.hid (boxed_ext w v0 v1 v2 34)
  have HB := Lib.hid (row3_made w v0 v1 v2 34)
  obtain ⟨p0, p1, p2, -, -, -⟩ := row3_facts HB.out
  have D := Lib.hid (show dec (Meets N 3 c) = dec (Can N 3 c) from dec_congr meets_3.symm)
  go_enter Try.func64, Try.ntmps64
  go_wp2_with (go_at_call 58; (with_reducible refine (imMeets_3 (HN.out.ext KX.out) (HC.out.ext KX.out) h6).mono ?_); rintro e w1 ⟨rfl, hx⟩; have K1 := Lib.hid (KX.out.trans' hx); clear hx)
  go_ret
  exact ⟨ret_bool D.out, K1.out⟩

set_option maxHeartbeats 1600000 in
set_option maxRecDepth 100000 in
theorem imCan_1 {w : World} {v vc : Value} {N : Net} {c : List Int} (h : NetAt w v N) (k : IntSl w vc c) (h6 : c.length ≤ 1048576) (hp : 0 < c.length) (hr : ∀ i, i < c.length → 0 ≤ gi c i ∧ inI64 (gi c i)) :
    Calls Try.prog 64 #[v, .int .i64 1, vc] w fun e w' => e = .returned (.bool (dec (Can N 1 c))) ∧ Ext w w' := by
  have HC := Lib.hid k
  obtain ⟨v0, v1, v2, rfl, -, -, -⟩ := h
  have KX := Lib.hid (boxed_ext w v0 v1 v2 34)
  have D := Lib.hid (show decide (oncT c c.length ≥ 0) = dec (Can N 1 c) from by
    rw [Bool.eq_iff_iff, decide_eq_true_iff, dec_iff, can_1 hp, ← oncT_has fun i hi => (hr i hi).1])
  have HR := Lib.hid hr
  clear hr
  go_enter Try.func64, Try.ntmps64
  go_wp2_with (go_at_call 114; (with_reducible refine (imOnce_any (HC.out.ext KX.out) h6 HR.out).mono ?_); rintro e _ ⟨rfl, rfl⟩)
  go_ret
  exact ⟨ret_bool D.out, KX.out⟩

set_option maxHeartbeats 1600000 in
set_option maxRecDepth 100000 in
theorem imMeets_1 {w : World} {v vc : Value} {N : Net} {c : List Int} (h : NetAt w v N) (k : IntSl w vc c) (h6 : c.length ≤ 1048576) (hr : AllIn c 0 99) :
    Calls Try.prog 58 #[v, .int .i64 1, vc] w fun e w' => e = .returned (.bool (dec (Meets N 1 c))) ∧ Ext w w' := by
  have HC := Lib.hid k
  obtain ⟨v0, v1, v2, rfl, -, -, -⟩ := h
  obtain ⟨a, b, o, d, rfl, ha, hl, hm, hc⟩ := k
  unfold maxLen at hm
  have Hc := Lib.hid hc
  have Ha := Lib.hid ha
  have Hr := Lib.hid hr
  clear hc ha hr
  have HM := Lib.hid (show Meets N 1 c ↔ _ from (show Meets N 1 c ↔ LeadOK c by unfold Meets; rw [if_pos rfl]).trans lead_spec)
  have KX := Lib.hid (boxed_ext w v0 v1 v2 34)
  obtain ⟨n, hn⟩ : ∃ n, n = c.length := ⟨_, rfl⟩
  have HN := Lib.hid hn
  rw [← hn] at hl h6 HC ⊢
  rw [← hn] at HM
  clear hn
  go_enter Try.func58, Try.ntmps58
  go_wp2
  go_loopg [7, 21] n (fun g m i wr => ∃ k : Nat, k ≤ n ∧ g = n - k ∧ m = .int .i64 (smT c k) ∧ i = .int .i64 (k : Int) ∧ boxed w v0 v1 v2 34 = wr)
  case atStart => exact ⟨0, Nat.zero_le _, rfl, rfl, rfl, rfl⟩
  case round =>
    obtain ⟨k, hk, rfl, rfl, rfl, rfl⟩ := hrel
    by_cases hlt : k < n
    · obtain ⟨x, hx, rfl, _⟩ := Hc.out k (by have := HN.out; omega)
      obtain rfl := Ha.out (by have := HN.out; omega)
      have hx' := KX.out.cell' hx
      have r1 := smT_range Hr.out k (by have := HN.out; omega)
      have r2 := Hr.out k (by have := HN.out; omega)
      have HS := Lib.hid (show smT c (k + 1) = smT c k + gi c k from rfl)
      generalize gi c k = x at *
      generalize smT c k = s at *
      clear hx
      go_wp2
      go_roundg (n - (k + 1))
      case measure => omega
      case rel => exact ⟨k + 1, by omega, rfl, by rw [HS.out], by go_num, rfl⟩
    · obtain rfl : k = n := by omega
      obtain ⟨s, hs⟩ : ∃ s, s = smT c k := ⟨_, rfl⟩
      rw [← hs] at HM ⊢
      clear hs
      by_cases e1 : AllIn c 0 1
      · have D1 := Lib.hid (dec_true e1)
        have D := Lib.hid (show (s == 1) = dec (Meets N 1 c) from by
          rw [Bool.eq_iff_iff, dec_iff, HM.out, beq_iff_eq]
          exact ⟨fun h => ⟨e1, h⟩, fun h => h.2⟩)
        clear e1
        go_wp2_with (go_at_call 109; (with_reducible refine (l1All_any _ _ (HC.out.ext KX.out)).mono ?_); rintro e _ ⟨rfl, rfl⟩; rw [D1.out])
        go_ret
        exact ⟨ret_bool D.out, KX.out⟩
      · have D1 := Lib.hid (dec_false e1)
        have D := Lib.hid (dec_false (p := Meets N 1 c) fun h => e1 (HM.out.1 h).1)
        clear e1
        go_wp2_with (go_at_call 109; (with_reducible refine (l1All_any _ _ (HC.out.ext KX.out)).mono ?_); rintro e _ ⟨rfl, rfl⟩; rw [D1.out])
        go_ret
        exact ⟨ret_bool D.out.symm, KX.out⟩

/-- The first cells of a list. -/
def preC (l : List Int) (k : Nat) : List Value := (List.range k).map fun j => .int .i64 (gi l j)
theorem preC_succ (l : List Int) (k : Nat) : preC l k ++ [.int .i64 (gi l k)] = preC l (k + 1) := by simp [preC, List.range_succ]
theorem preC_get (l : List Int) (i n : Nat) (h : i < n) : (preC l n)[i]? = some (.int .i64 (gi l i)) := by simp [preC, h]

set_option maxHeartbeats 1600000 in
set_option maxRecDepth 100000 in
theorem imMeet_1 {w : World} {vc : Value} {c : List Int} (k : IntSl w vc c) (h6 : c.length ≤ 1048576) (hr : ∀ i, i < c.length → 0 ≤ gi c i ∧ inI64 (gi c i)) (hri : RisA c) (hA : HasA c) :
    Calls Try.prog 69 #[.int .i64 1, vc] w fun e w' => ∃ v' bs, e = .returned v' ∧ Ext w w' ∧ OwnI w' v' (ldr c) bs ∧ Fresh w bs := by
  have HC := Lib.hid k
  obtain ⟨a, b, o, d, rfl, ha, hl, hm, hc⟩ := k
  unfold maxLen at hm
  have Hc := Lib.hid hc
  have Ha := Lib.hid ha
  have HR := Lib.hid hr
  obtain ⟨x, hx⟩ : ∃ x, x = oncT c c.length := ⟨_, rfl⟩
  have HI := Lib.hid (show ∀ v, v < c.length → (gi c v = x ↔ (v : Int) = alV c) from fun v hv => by rw [hx]; exact once_is (fun i hi => (hr i hi).1) hri hA hv)
  have HX := Lib.hid hx
  obtain ⟨i0, hi, hz0, hz1', hz2⟩ := info_parts Try.info3
  have I0 := Lib.hid (And.intro hi (And.intro hz0 (And.intro hz1' hz2)))
  clear hc ha hr hx hi hz0 hz1' hz2
  obtain ⟨n, hn⟩ : ∃ n, n = c.length := ⟨_, rfl⟩
  have HN := Lib.hid hn
  rw [← hn] at hl h6 HC ⊢
  clear hn
  go_enter Try.func69, Try.ntmps69
  go_wp2_with (go_at_call 114; (with_reducible refine (imOnce_any HC.out (by have := HN.out; omega) HR.out).mono ?_); rintro e _ ⟨rfl, rfl⟩; rw [← HX.out])
  go_loopg [6, 16] n (fun g s i wr => ∃ k : Nat, k ≤ n ∧ g = n - k ∧ i = .int .i64 (k : Int) ∧ Hid (Ext w wr ∧ wr.ownsRow w.heap.size 3 1 s k (preC (ldr c) k)))
  case atStart => exact ⟨0, Nat.zero_le _, rfl, rfl, Ext.rfl' _, World.ownsRow_nil _ _ _ _⟩
  case round =>
    obtain ⟨k, hk, rfl, rfl, Hr⟩ := hrel
    have hB := Hr.out.1.size
    by_cases hlt : k < n
    · obtain ⟨y, hy, rfl, _⟩ := Hc.out k (by have := HN.out; omega)
      obtain rfl := Ha.out (by have := HN.out; omega)
      have hy' := Hr.out.1.cell' hy
      clear hy
      by_cases e : gi c k = x
      · have b1 : (gi c k == x) = true := by simp [e]
        have HG := Lib.hid (show gi (ldr c) k = 1 from by rw [ldr_at (by have := HN.out; omega), if_pos ((HI.out k (by have := HN.out; omega)).1 e)])
        clear e
        go_wp2_with (at_builtin; refine wpList_append_own _ rfl _ _ 26 rfl w.heap.size 3 i0 (.int .i64 0) 1 8 Try.underlying26 I0.out.1 I0.out.2.1 I0.out.2.2.1 I0.out.2.2.2 rfl (by decide) _ _ _ rfl (Hr.out.2.alloc _) ⟨wr.heap.size, 0, none⟩ 1 1 [.int .i64 1] rfl rfl ?c1 ?c2 ?c3 ?c4 ?c5 ?_)
        case c2 => simp [Value.oneCell']
        case c3 => unfold maxLen; omega
        case c4 => omega
        case c5 => first | omega | (simp; omega)
        intro v' w1 hown' hgrow _
        have Hn : Hid (Ext w w1 ∧ w1.ownsRow w.heap.size 3 1 v' (k + 1) (preC (ldr c) (k + 1))) := by
          refine ⟨grown_ext (Hr.out.1.alloc' _) (by simp) (Hr.out.2.alloc _) hgrow, ?_⟩
          rw [← preC_succ, HG.out]
          exact hown'
        clear hown' hgrow
        go_wp2
        go_roundg (n - (k + 1))
        case measure => omega
        case rel => exact ⟨k + 1, by omega, rfl, by go_num, Hn⟩
      · have b1 : (gi c k == x) = false := by simp [e]
        have HG := Lib.hid (show gi (ldr c) k = 0 from by rw [ldr_at (by have := HN.out; omega), if_neg fun h => e ((HI.out k (by have := HN.out; omega)).2 h)])
        clear e
        go_wp2_with (at_builtin; refine wpList_append_own _ rfl _ _ 26 rfl w.heap.size 3 i0 (.int .i64 0) 1 8 Try.underlying26 I0.out.1 I0.out.2.1 I0.out.2.2.1 I0.out.2.2.2 rfl (by decide) _ _ _ rfl (Hr.out.2.alloc _) ⟨wr.heap.size, 0, none⟩ 1 1 [.int .i64 0] rfl rfl ?e1 ?e2 ?e3 ?e4 ?e5 ?_)
        case e2 => simp [Value.oneCell']
        case e3 => unfold maxLen; omega
        case e4 => omega
        case e5 => first | omega | (simp; omega)
        intro v' w1 hown' hgrow _
        have Hn : Hid (Ext w w1 ∧ w1.ownsRow w.heap.size 3 1 v' (k + 1) (preC (ldr c) (k + 1))) := by
          refine ⟨grown_ext (Hr.out.1.alloc' _) (by simp) (Hr.out.2.alloc _) hgrow, ?_⟩
          rw [← preC_succ, HG.out]
          exact hown'
        clear hown' hgrow
        go_wp2
        go_roundg (n - (k + 1))
        case measure => omega
        case rel => exact ⟨k + 1, by omega, rfl, by go_num, Hn⟩
    · obtain rfl : k = n := by omega
      go_wp2
      go_ret
      have hdl := ldr_len c
      obtain ⟨bs, ho, hnd, hge⟩ := own_of_row (l := ldr c) (by rw [hdl, ← HN.out]; exact Hr.out.2) (fun i hi => by rw [← HN.out] at *; exact preC_get _ _ _ (by rw [hdl, ← HN.out] at hi; exact hi))
        (fun i hi => ldr_in c i (by rw [hdl] at hi; exact hi))
      exact ⟨_, bs, rfl, Hr.out.1, ho, hnd, fun b hb => hge b hb⟩

set_option maxRecDepth 100000 in
theorem imMeet_o {w : World} {vc : Value} (t : Int) (ht : t ≠ 1) : Calls Try.prog 69 #[.int .i64 t, vc] w fun e w' => e = .returned vc ∧ w = w' := by
  go_enter Try.func69, Try.ntmps69
  go_wp2
  go_ret
  exact ⟨rfl, rfl⟩
end Go.Proofs.Ytkpdbceglejbnaa
