/- Contracts of the functions that compare: ends, lists of ends, networks. -/
import Derived.Test.YtndgbildkeglfaaEq
namespace Go.Proofs.Ytndgbildkeglfaa
open Go.RowKit

set_option maxHeartbeats 800000 in
set_option maxRecDepth 100000 in
theorem eqEndS_any {w : World} {v1 v2 : Value} {l1 l2 : List (Int × Int)} (h1 : EndSl w v1 l1) (h2 : EndSl w v2 l2) :
    Calls Try.prog 108 #[v1, v2] w fun e w' => e = .returned (.bool (decide (l1 = l2))) ∧ Ext w w' := by
  obtain ⟨a1, b1, o1, c1, rfl, ha1, hl1, hm1, hc1⟩ := h1
  obtain ⟨a2, b2, o2, c2, rfl, ha2, hl2, hm2, hc2⟩ := h2
  unfold maxLen at hm1 hm2
  have Hc1 := Lib.hid hc1
  have Ha1 := Lib.hid ha1
  have Hc2 := Lib.hid hc2
  have Ha2 := Lib.hid ha2
  clear hc1 ha1 hc2 ha2
  by_cases hn : l1.length = l2.length
  · have Hn := Lib.hid hn
    have hnb : ((l1.length : Int) != (l2.length : Int)) = false := by simp; omega
    clear hn
    go_enter Try.func108, Try.ntmps108
    go_wp2
    go_loopg [5] l1.length (fun g i wr => ∃ k : Nat, k ≤ l1.length ∧ g = l1.length - k ∧ i = .int .i64 k ∧ Hid (Ext w wr ∧ ∀ j, j < k → gn l1 j = gn l2 j ∧ gp l1 j = gp l2 j))
    case atStart => exact ⟨0, Nat.zero_le _, rfl, rfl, Ext.rfl' w, fun j hj => absurd hj (by omega)⟩
    case round =>
      obtain ⟨k, hk, rfl, rfl, Hr⟩ := hrel
      by_cases hlt : k < l1.length
      · have hlt2 : k < l2.length := by have := Hn.out; omega
        obtain ⟨hc1, hd1, _⟩ := Hc1.out k hlt
        obtain ⟨hc2, hd2, _⟩ := Hc2.out k hlt2
        obtain rfl := Ha1.out (by omega)
        obtain rfl := Ha2.out (by omega)
        have q1 := Hr.out.1.cell' hc1
        have q2 := Hr.out.1.cell' hc2
        have q3 := Hr.out.1.cell' hd1
        have q4 := Hr.out.1.cell' hd2
        clear hc1 hc2 hd1 hd2
        have Hx := Lib.hid Hr.out.1.drew'
        by_cases he : gn l1 k = gn l2 k ∧ gp l1 k = gp l2 k
        · have heb : decide (gn l1 k = gn l2 k ∧ gp l1 k = gp l2 k) = true := by simp [he]
          have He := Lib.hid he
          have Heb := Lib.hid heb
          clear he heb
          go_wp2
          go_region_held3 (fun w' => w'.cell? ⟨b1, o1 + k * 2, none⟩ = some (.int .i64 (gn l1 k)) ∧ w'.cell? ⟨b2, o2 + k * 2, none⟩ = some (.int .i64 (gn l2 k)) ∧ w'.cell? ⟨b1, o1 + k * 2 + 1, none⟩ = some (.int .i64 (gp l1 k)) ∧ w'.cell? ⟨b2, o2 + k * 2 + 1, none⟩ = some (.int .i64 (gp l2 k)) ∧ Hid (Ext w w')) (first | exact ⟨q1, q2, q3, q4, Hx⟩ | exact ⟨hx.cell' ‹_›, hx.cell' ‹_›, hx.cell' ‹_›, hx.cell' ‹_›, Ext.trans' (Hid.out ‹_›) hx⟩) (first | (go_at_call 36; (with_reducible refine (eqEnd_any _ _ _ _ _).mono ?_); rintro e w' ⟨rfl, hx⟩; rw [Heb.out]))
          rename_i hh
          have HX := hh.2.2.2.2
          clear hh hx Hx
          go_wp2
          go_roundg (l1.length - (k + 1))
          case measure => omega
          case rel =>
            refine ⟨k + 1, by omega, rfl, by go_num, HX.out, fun j hj => ?_⟩
            by_cases e : j = k
            · subst e; exact He.out
            · exact Hr.out.2 j (by omega)
        · have Heb := Lib.hid (show decide (gn l1 k = gn l2 k ∧ gp l1 k = gp l2 k) = false by simpa using he)
          have He := Lib.hid he
          clear he
          go_wp2
          go_region_held3 (fun w' => w'.cell? ⟨b1, o1 + k * 2, none⟩ = some (.int .i64 (gn l1 k)) ∧ w'.cell? ⟨b2, o2 + k * 2, none⟩ = some (.int .i64 (gn l2 k)) ∧ w'.cell? ⟨b1, o1 + k * 2 + 1, none⟩ = some (.int .i64 (gp l1 k)) ∧ w'.cell? ⟨b2, o2 + k * 2 + 1, none⟩ = some (.int .i64 (gp l2 k)) ∧ Hid (Ext w w')) (first | exact ⟨q1, q2, q3, q4, Hx⟩ | exact ⟨hx.cell' ‹_›, hx.cell' ‹_›, hx.cell' ‹_›, hx.cell' ‹_›, Ext.trans' (Hid.out ‹_›) hx⟩) (first | (go_at_call 36; (with_reducible refine (eqEnd_any _ _ _ _ _).mono ?_); rintro e w' ⟨rfl, hx⟩; rw [Heb.out]))
          rename_i hh
          have HX := hh.2.2.2.2
          clear hh hx Hx
          go_wp2
          go_ret
          exact ⟨ret_bool (by rw [eq_comm, decide_eq_false_iff_not]; intro e; exact He.out (by rw [e]; exact ⟨rfl, rfl⟩)), HX.out⟩
      · go_wp2
        go_ret
        obtain rfl : k = l1.length := by omega
        exact ⟨ret_bool (by rw [eq_comm, decide_eq_true_iff]; exact ends_eq Hn.out Hr.out.2), Hr.out.1⟩
  · have hnb : ((l1.length : Int) != (l2.length : Int)) = true := by simp; omega
    go_enter Try.func108, Try.ntmps108
    go_wp2
    go_ret
    exact ⟨ret_bool (by rw [eq_comm, decide_eq_false_iff_not]; intro e; exact hn (by rw [e])), Ext.rfl' w⟩

set_option maxHeartbeats 800000 in
set_option maxRecDepth 100000 in
theorem eqEndSS_any {w : World} {v1 v2 : Value} {l1 l2 : List (List (Int × Int))} (h1 : EndSS w v1 l1) (h2 : EndSS w v2 l2) :
    Calls Try.prog 71 #[v1, v2] w fun e w' => e = .returned (.bool (decide (l1 = l2))) ∧ Ext w w' := by
  obtain ⟨a1, b1, o1, c1, rfl, ha1, hl1, hm1, hc1⟩ := h1
  obtain ⟨a2, b2, o2, c2, rfl, ha2, hl2, hm2, hc2⟩ := h2
  unfold maxLen at hm1 hm2
  have Hc1 := Lib.hid hc1
  have Ha1 := Lib.hid ha1
  have Hc2 := Lib.hid hc2
  have Ha2 := Lib.hid ha2
  clear hc1 ha1 hc2 ha2
  by_cases hn : l1.length = l2.length
  · have Hn := Lib.hid hn
    have hnb : ((l1.length : Int) != (l2.length : Int)) = false := by simp; omega
    clear hn
    go_enter Try.func71, Try.ntmps71
    go_wp2
    go_loopg [5] l1.length (fun g i wr => ∃ k : Nat, k ≤ l1.length ∧ g = l1.length - k ∧ i = .int .i64 k ∧ Hid (Ext w wr ∧ ∀ j, j < k → gr l1 j = gr l2 j))
    case atStart => exact ⟨0, Nat.zero_le _, rfl, rfl, Ext.rfl' w, fun j hj => absurd hj (by omega)⟩
    case round =>
      obtain ⟨k, hk, rfl, rfl, Hr⟩ := hrel
      by_cases hlt : k < l1.length
      · have hlt2 : k < l2.length := by have := Hn.out; omega
        obtain ⟨x1, hc1, hx1⟩ := Hc1.out k hlt
        obtain ⟨x2, hc2, hx2⟩ := Hc2.out k hlt2
        obtain rfl := Ha1.out (by omega)
        obtain rfl := Ha2.out (by omega)
        have q1 := Hr.out.1.cell' hc1
        have q2 := Hr.out.1.cell' hc2
        have HX1 := Lib.hid hx1
        have HX2 := Lib.hid hx2
        clear hc1 hc2 hx1 hx2
        have Hx := Lib.hid Hr.out.1.drew'
        by_cases he : gr l1 k = gr l2 k
        · have Heb := Lib.hid (show decide (gr l1 k = gr l2 k) = true by simpa using he)
          have He := Lib.hid he
          clear he
          go_wp2
          go_region_held3 (fun w' => w'.cell? ⟨b1, o1 + k, none⟩ = some x1 ∧ w'.cell? ⟨b2, o2 + k, none⟩ = some x2 ∧ Hid (Ext w w')) (first | exact ⟨q1, q2, Hx⟩ | exact ⟨hx.cell' ‹_›, hx.cell' ‹_›, Ext.trans' (Hid.out ‹_›) hx⟩) (first | (go_at_call 108; (with_reducible refine (eqEndS_any (HX1.out.ext (Hid.out ‹Hid (Ext w _)›)) (HX2.out.ext (Hid.out ‹Hid (Ext w _)›))).mono ?_); rintro e w' ⟨rfl, hx⟩; rw [Heb.out]))
          rename_i hh
          have HX := hh.2.2
          clear hh hx Hx
          go_wp2
          go_roundg (l1.length - (k + 1))
          case measure => omega
          case rel =>
            refine ⟨k + 1, by omega, rfl, by go_num, HX.out, fun j hj => ?_⟩
            by_cases e : j = k
            · subst e; exact He.out
            · exact Hr.out.2 j (by omega)
        · have Heb := Lib.hid (show decide (gr l1 k = gr l2 k) = false by simpa using he)
          have He := Lib.hid he
          clear he
          go_wp2
          go_region_held3 (fun w' => w'.cell? ⟨b1, o1 + k, none⟩ = some x1 ∧ w'.cell? ⟨b2, o2 + k, none⟩ = some x2 ∧ Hid (Ext w w')) (first | exact ⟨q1, q2, Hx⟩ | exact ⟨hx.cell' ‹_›, hx.cell' ‹_›, Ext.trans' (Hid.out ‹_›) hx⟩) (first | (go_at_call 108; (with_reducible refine (eqEndS_any (HX1.out.ext (Hid.out ‹Hid (Ext w _)›)) (HX2.out.ext (Hid.out ‹Hid (Ext w _)›))).mono ?_); rintro e w' ⟨rfl, hx⟩; rw [Heb.out]))
          rename_i hh
          have HX := hh.2.2
          clear hh hx Hx
          go_wp2
          go_ret
          exact ⟨ret_bool (by rw [eq_comm, decide_eq_false_iff_not]; intro e; exact He.out (by rw [e])), HX.out⟩
      · go_wp2
        go_ret
        obtain rfl : k = l1.length := by omega
        exact ⟨ret_bool (by rw [eq_comm, decide_eq_true_iff]; exact rows_eq Hn.out Hr.out.2), Hr.out.1⟩
  · have hnb : ((l1.length : Int) != (l2.length : Int)) = true := by simp; omega
    go_enter Try.func71, Try.ntmps71
    go_wp2
    go_ret
    exact ⟨ret_bool (by rw [eq_comm, decide_eq_false_iff_not]; intro e; exact hn (by rw [e])), Ext.rfl' w⟩
end Go.Proofs.Ytndgbildkeglfaa
