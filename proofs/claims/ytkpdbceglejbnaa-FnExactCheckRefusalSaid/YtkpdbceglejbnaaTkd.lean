/- Whether two nodes refuse a task: the program's three methods. -/
import Derived.Test.YtkpdbceglejbnaaTkc
import Derived.Test.YtkpdbceglejbnaaTkk
import Derived.BigQuiet
namespace Go.Proofs.Ytkpdbceglejbnaa
open Go.RowKit

/-- One of the ports leads to x. -/
def LdT (l : List (Int × Int)) (x : Int) : Prop := ∃ i, i < l.length ∧ gn l i = x

set_option maxHeartbeats 1600000 in
set_option maxRecDepth 100000 in
theorem leadsTo_any {w : World} {v : Value} {l : List (Int × Int)} (h : EndSl w v l) (hs : l.length ≤ 1048576) (x : Int) :
    Calls Try.prog 236 #[v, .int .i64 x] w fun e w' => e = .returned (.bool (dec (LdT l x))) ∧ Ext w w' := by
  obtain ⟨a, b, o, c, rfl, ha, hl, hm, hc⟩ := h
  unfold maxLen at hm
  have Hc := Lib.hid hc
  have Ha := Lib.hid ha
  clear hc ha
  obtain ⟨n, hn⟩ : ∃ n, n = l.length := ⟨_, rfl⟩
  have HN := Lib.hid hn
  rw [← hn] at hl hs ⊢
  clear hn
  go_enter Try.func236, Try.ntmps236
  go_wp2
  go_loopg [9] n (fun g i wr => ∃ k : Nat, k ≤ n ∧ g = n - k ∧ i = .int .i64 (k : Int) ∧ Hid (Ext w wr ∧ ∀ j, j < k → gn l j ≠ x))
  case atStart => exact ⟨0, Nat.zero_le _, rfl, rfl, Ext.rfl' _, fun j hj => absurd hj (by omega)⟩
  case round =>
    obtain ⟨k, hk, rfl, rfl, Hr⟩ := hrel
    by_cases hlt : k < n
    · obtain ⟨q1, q2, -⟩ := Hc.out k (by have := HN.out; omega)
      obtain rfl := Ha.out (by have := HN.out; omega)
      have s1 := Hr.out.1.cell' q1
      have s2 := Hr.out.1.cell' q2
      clear q1 q2
      by_cases e : gn l k = x
      · have D := Lib.hid (dec_true (p := LdT l x) ⟨k, by have := HN.out; omega, e⟩)
        have b1 : (gn l k == x) = true := by simp [e]
        clear e
        go_wp2
        go_ret
        exact ⟨ret_bool D.out.symm, Hr.out.1.alloc' _⟩
      · have S := Lib.hid e
        have b1 : (gn l k == x) = false := by simp [e]
        clear e
        go_wp2
        go_roundg (n - (k + 1))
        case measure => omega
        case rel =>
          refine ⟨k + 1, by omega, rfl, by go_num, Hr.out.1.alloc' _, fun j hj => ?_⟩
          by_cases e : j = k
          · subst e; exact S.out
          · exact Hr.out.2 j (by omega)
    · obtain rfl : k = n := by omega
      have D := Lib.hid (dec_false (p := LdT l x) fun ⟨i, hi, e⟩ => Hr.out.2 i (by have := HN.out; omega) e)
      go_wp2
      go_ret
      exact ⟨ret_bool D.out.symm, Hr.out.1⟩

theorem rf_iff1 {N : Net} {c : List Int} {u v : Nat} (hu : u < c.length) (hv : v < c.length) : Rf N 1 c u v ↔ u = 0 ∧ v = 0 ∧ ¬ HasA c := by
  unfold Rf
  exact ⟨fun ⟨_, _, h⟩ => by rcases h with ⟨_, h⟩ | ⟨e, _⟩ | ⟨e, _⟩; exact h; omega; omega, fun h => ⟨hu, hv, .inl ⟨rfl, h⟩⟩⟩
theorem rf_iff2 {N : Net} {c : List Int} {u v : Nat} (hu : u < c.length) (hv : v < c.length) : Rf N 2 c u v ↔ u ≤ v ∧ gi c u = gi c v ∧ NrT N u v := by
  unfold Rf
  exact ⟨fun ⟨_, _, h⟩ => by rcases h with ⟨e, _⟩ | ⟨_, h⟩ | ⟨e, _⟩; omega; exact h; omega, fun h => ⟨hu, hv, .inr (.inl ⟨rfl, h⟩)⟩⟩
theorem rf_iff3 {N : Net} {c : List Int} {u v : Nat} (hu : u < c.length) (hv : v < c.length) : Rf N 3 c u v ↔ u < v ∧ gi c u = gi c v := by
  unfold Rf
  exact ⟨fun ⟨_, _, h⟩ => by rcases h with ⟨e, _⟩ | ⟨e, _⟩ | ⟨_, h⟩; omega; omega; exact h, fun h => ⟨hu, hv, .inr (.inr ⟨rfl, h⟩)⟩⟩

set_option maxHeartbeats 1600000 in
set_option maxRecDepth 100000 in
theorem refused_1 {w : World} {v vc : Value} {N : Net} {c : List Int} (h : NetAt w v N) (k : IntSl w vc c) (h6 : c.length ≤ 1048576) (x y : Nat) (hx : x < c.length) (hy : y < c.length) :
    Calls Try.prog 230 #[.agg #[], v, vc, .int .i64 x, .int .i64 y] w fun e w' => e = .returned (.bool (dec (Rf N 1 c x y))) ∧ Ext w w' := by
  have HC := Lib.hid k
  obtain ⟨v0, v1, v2, rfl, -, -, -⟩ := h
  clear k
  have HR := Lib.hid (rf_iff1 (N := N) hx hy)
  have hal := al_range c
  have KX := Lib.hid (((Ext.rfl' w).alloc' (.cells #[] 122)).trans' (boxed_ext (w.alloc (.cells #[] 122)) v0 v1 v2 34))
  by_cases e1 : x = 0
  · have b1 : ((x : Int) == 0) = true := by simp [e1]
    by_cases e2 : y = 0
    · have b2 : ((y : Int) == 0) = true := by simp [e2]
      have D := Lib.hid (show decide (alV c < 0) = dec (Rf N 1 c x y) from by
        rw [Bool.eq_iff_iff, decide_eq_true_iff, dec_iff, HR.out, ← hal.2.2]
        exact ⟨fun h => ⟨e1, e2, by omega⟩, fun h => by have := h.2.2; omega⟩)
      clear e1 e2 hal
      go_enter Try.func230, Try.ntmps230
      go_wp2_with (go_at_call 119; (with_reducible refine (firstAlone_any (HC.out.ext KX.out) h6).mono ?_); rintro e w1 ⟨rfl, hx⟩; have K := Lib.hid (KX.out.trans' hx); clear hx)
      go_ret
      exact ⟨ret_bool D.out, K.out⟩
    · have b2 : ((y : Int) == 0) = false := by simp [e2]
      have D := Lib.hid (dec_false (p := Rf N 1 c x y) fun h => e2 (HR.out.1 h).2.1)
      clear e1 e2 hal
      go_enter Try.func230, Try.ntmps230
      go_wp2
      go_ret
      exact ⟨ret_bool D.out.symm, KX.out⟩
  · have b1 : ((x : Int) == 0) = false := by simp [e1]
    have D := Lib.hid (dec_false (p := Rf N 1 c x y) fun h => e1 (HR.out.1 h).1)
    clear e1 hal
    go_enter Try.func230, Try.ntmps230
    go_wp2
    go_ret
    exact ⟨ret_bool D.out.symm, KX.out⟩

set_option maxHeartbeats 1600000 in
set_option maxRecDepth 100000 in
theorem refused_2 {w : World} {v vc : Value} {N : Net} {c : List Int} (h : NetAt w v N) (k : IntSl w vc c) (h6 : c.length ≤ 1048576) (hl : c.length = N.ends.length) (hG : Good N) (x y : Nat) (hx : x < c.length) (hy : y < c.length) :
    Calls Try.prog 233 #[.agg #[], v, vc, .int .i64 x, .int .i64 y] w fun e w' => e = .returned (.bool (dec (Rf N 2 c x y))) ∧ Ext w w' := by
  have HC := Lib.hid k
  have HN := Lib.hid h
  obtain ⟨v0, v1, v2, rfl, hE, -, -⟩ := h
  obtain ⟨ea, eb, eo, ec, rfl, hea, hel, hem, hec⟩ := hE
  obtain ⟨ca, cb, co, cc, rfl, hca, hcl, hcm, hcc⟩ := k
  unfold maxLen at hem hcm
  obtain rfl := hea (by omega)
  obtain rfl := hca (by omega)
  obtain ⟨n, hn⟩ : ∃ n, n = N.ends.length := ⟨_, rfl⟩
  have HNL := Lib.hid hn
  obtain ⟨W1, hW1⟩ : ∃ W1, W1 = (w.alloc (.cells #[] 123)).alloc (.cells #[.slice (some ⟨eb, eo, none⟩) N.ends.length ec, v1, v2] 34) := ⟨_, rfl⟩
  have KX := Lib.hid (show Ext w W1 by rw [hW1]; exact ((Ext.rfl' w).alloc' _).alloc' _)
  have HB := Lib.hid (show W1.rowIs (w.heap.size + 1) 34 3 (tri (.slice (some ⟨eb, eo, none⟩) N.ends.length ec) v1 v2) by rw [hW1]; simpa using row3_made (w.alloc (.cells #[] 123)) (.slice (some ⟨eb, eo, none⟩) N.ends.length ec) v1 v2 34)
  obtain ⟨p0, p1, p2, -, -, -⟩ := row3_facts HB.out
  obtain ⟨_, q1, rfl, -⟩ := hcc x hx
  obtain ⟨_, q2, rfl, -⟩ := hcc y hy
  obtain ⟨gx, hgx⟩ : ∃ d, d = gi c x := ⟨_, rfl⟩
  obtain ⟨gy, hgy⟩ : ∃ d, d = gi c y := ⟨_, rfl⟩
  rw [← hgx] at q1
  rw [← hgy] at q2
  have HR := Lib.hid (rf_iff2 (N := N) hx hy)
  rw [← hgx, ← hgy] at HR
  obtain ⟨z, hz, hrow⟩ := hec x (by omega)
  have hdeg := ((hG.2.1 x (by omega)).1)
  have HRW := Lib.hid (hrow.ext KX.out)
  have HLE := Lib.hid (show LdT (gr N.ends x) (y : Int) ↔ NrT N x y from Iff.rfl)
  have P0 : ∀ x' : Wx W1, x'.w.cell? ⟨w.heap.size + 1, 0, none⟩ = some (.slice (some ⟨eb, eo, none⟩) N.ends.length ec) := fun x' => x'.ok.cell' p0
  have P3 : ∀ x' : Wx W1, x'.w.cell? ⟨cb, co + x, none⟩ = some (.int .i64 gx) := fun x' => x'.ok.cell' (KX.out.cell' q1)
  have P4 : ∀ x' : Wx W1, x'.w.cell? ⟨cb, co + y, none⟩ = some (.int .i64 gy) := fun x' => x'.ok.cell' (KX.out.cell' q2)
  have P5 : ∀ x' : Wx W1, x'.w.cell? ⟨eb, eo + x, none⟩ = some z := fun x' => x'.ok.cell' (KX.out.cell' hz)
  have hxe : x < N.ends.length := by omega
  clear hea hec hca hcc p0 p1 p2 q1 q2 hgx hgy hz hrow hG
  by_cases e1 : x ≤ y
  · have b1 : decide (x ≤ y) = true := by simp [e1]
    by_cases e2 : gx = gy
    · have b2 : (gx == gy) = true := by simp [e2]
      have HL := Lib.hid (show dec (LdT (gr N.ends x) (y : Int)) = dec (Rf N 2 c x y) from dec_congr ⟨fun h => HR.out.2 ⟨e1, e2, h⟩, fun h => (HR.out.1 h).2.2⟩)
      clear e1 e2
      go_enter Try.func233, Try.ntmps233
      go_wp2_with fail
      rw [← hW1]
      clear hW1
      refine wp_region_ext (by kernel_rfl) (by kernel_rfl) ?_
      repeat (go_big_quiet_step ((go_at_call 236; exact in_ext_bool (leadsTo_any (HRW.out.ext (Wx.ok _)) (by omega) _) HL.out)))
      refine wpQuiet_nil ?_
      rintro wq ⟨⟨_, hz2⟩, rfl⟩
      have E2 := Lib.hid (KX.out.trans' hz2)
      clear hz2 P0 P3 P4 P5
      go_wp2
      go_ret
      exact ⟨rfl, E2.out⟩
    · have b2 : (gx == gy) = false := by simp [e2]
      have D := Lib.hid (dec_false (p := Rf N 2 c x y) fun h => e2 (HR.out.1 h).2.1)
      clear e1 e2
      go_enter Try.func233, Try.ntmps233
      go_wp2_with fail
      rw [← hW1]
      clear hW1
      refine wp_region_ext (by kernel_rfl) (by kernel_rfl) ?_
      repeat (go_big_quiet_step (fail))
      refine wpQuiet_nil ?_
      rintro wq ⟨⟨_, hz2⟩, rfl⟩
      have E2 := Lib.hid (KX.out.trans' hz2)
      clear hz2 P0 P3 P4 P5
      go_wp2
      go_ret
      exact ⟨ret_bool D.out.symm, E2.out⟩
  · have b1 : decide (x ≤ y) = false := by simp; omega
    have D := Lib.hid (dec_false (p := Rf N 2 c x y) fun h => e1 (HR.out.1 h).1)
    clear e1
    go_enter Try.func233, Try.ntmps233
    go_wp2_with fail
    rw [← hW1]
    clear hW1
    refine wp_region_ext (by kernel_rfl) (by kernel_rfl) ?_
    repeat (go_big_quiet_step (fail))
    refine wpQuiet_nil ?_
    rintro wq ⟨⟨_, hz2⟩, rfl⟩
    have E2 := Lib.hid (KX.out.trans' hz2)
    clear hz2 P0 P3 P4 P5
    go_wp2
    go_ret
    exact ⟨ret_bool D.out.symm, E2.out⟩

set_option maxHeartbeats 1600000 in
set_option maxRecDepth 100000 in
theorem refused_3 {w : World} {v vc : Value} {N : Net} {c : List Int} (h : NetAt w v N) (k : IntSl w vc c) (h6 : c.length ≤ 1048576) (hl : c.length = N.ends.length) (x y : Nat) (hx : x < c.length) (hy : y < c.length) :
    Calls Try.prog 238 #[.agg #[], v, vc, .int .i64 x, .int .i64 y] w fun e w' => e = .returned (.bool (dec (Rf N 3 c x y))) ∧ Ext w w' := by
  have HC := Lib.hid k
  have HN := Lib.hid h
  obtain ⟨v0, v1, v2, rfl, hE, -, -⟩ := h
  obtain ⟨ea, eb, eo, ec, rfl, hea, hel, hem, hec⟩ := hE
  obtain ⟨ca, cb, co, cc, rfl, hca, hcl, hcm, hcc⟩ := k
  unfold maxLen at hem hcm
  obtain rfl := hea (by omega)
  obtain rfl := hca (by omega)
  obtain ⟨n, hn⟩ : ∃ n, n = N.ends.length := ⟨_, rfl⟩
  have HNL := Lib.hid hn
  obtain ⟨W1, hW1⟩ : ∃ W1, W1 = (w.alloc (.cells #[] 124)).alloc (.cells #[.slice (some ⟨eb, eo, none⟩) N.ends.length ec, v1, v2] 34) := ⟨_, rfl⟩
  have KX := Lib.hid (show Ext w W1 by rw [hW1]; exact ((Ext.rfl' w).alloc' _).alloc' _)
  obtain ⟨_, q1, rfl, -⟩ := hcc x hx
  obtain ⟨_, q2, rfl, -⟩ := hcc y hy
  obtain ⟨gx, hgx⟩ : ∃ d, d = gi c x := ⟨_, rfl⟩
  obtain ⟨gy, hgy⟩ : ∃ d, d = gi c y := ⟨_, rfl⟩
  rw [← hgx] at q1
  rw [← hgy] at q2
  have HR := Lib.hid (rf_iff3 (N := N) hx hy)
  rw [← hgx, ← hgy] at HR
  have r1 := KX.out.cell' q1
  have r2 := KX.out.cell' q2
  rw [hW1] at r1 r2 KX
  clear hea hec hca hcc q1 q2 hgx hgy hW1 W1
  by_cases e1 : x < y
  · have b1 : decide (x < y) = true := by simp [e1]
    by_cases e2 : gx = gy
    · have b2 : (gx == gy) = true := by simp [e2]
      have D := Lib.hid (dec_true (p := Rf N 3 c x y) (HR.out.2 ⟨e1, e2⟩))
      clear e1 e2
      go_enter Try.func238, Try.ntmps238
      go_wp2
      go_quiet (fail)
      go_wp2
      go_ret
      exact ⟨ret_bool D.out.symm, KX.out.drewN' _⟩
    · have b2 : (gx == gy) = false := by simp [e2]
      have D := Lib.hid (dec_false (p := Rf N 3 c x y) fun h => e2 (HR.out.1 h).2)
      clear e1 e2
      go_enter Try.func238, Try.ntmps238
      go_wp2
      go_quiet (fail)
      go_wp2
      go_ret
      exact ⟨ret_bool D.out.symm, KX.out.drewN' _⟩
  · have b1 : decide (x < y) = false := by simp; omega
    have D := Lib.hid (dec_false (p := Rf N 3 c x y) fun h => e1 (HR.out.1 h).1)
    clear e1
    go_enter Try.func238, Try.ntmps238
    go_wp2
    go_quiet (fail)
    go_wp2
    go_ret
    exact ⟨ret_bool D.out.symm, KX.out.drewN' _⟩
end Go.Proofs.Ytkpdbceglejbnaa
