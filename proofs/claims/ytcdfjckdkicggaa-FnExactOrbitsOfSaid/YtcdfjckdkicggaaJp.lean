/- The contracts of the program's OrbitsOf and FixedNodes. -/
import Derived.Test.YtcdfjckdkicggaaJx
namespace Go.Proofs.Ytcdfjckdkicggaa
open Go.RowKit

noncomputable def orbAns (N : Net) : List Int := if dec (Good N) = true then orbL N else []
theorem orbAns_t {N : Net} (h : Good N) : orbAns N = orbL N := by simp [orbAns, dec_true h]
theorem orbAns_f {N : Net} (h : ¬ Good N) : orbAns N = [] := by simp [orbAns, dec_false h]
theorem orbAns_len (N : Net) : (orbAns N).length ≤ 1048576 := by
  by_cases h : Good N
  · rw [orbAns_t h, orbL_len]; have := (good_w h).most; omega
  · rw [orbAns_f h]; simp
noncomputable def fixAns (N : Net) : List Int := if dec (Good N) = true then fixTo N N.ends.length else []
theorem fixAns_t {N : Net} (h : Good N) : fixAns N = fixTo N N.ends.length := by simp [fixAns, dec_true h]
theorem fixAns_f {N : Net} (h : ¬ Good N) : fixAns N = [] := by simp [fixAns, dec_false h]
theorem fixAns_len (N : Net) : (fixAns N).length ≤ 1048576 := by
  by_cases h : Good N
  · rw [fixAns_t h]; have := (good_w h).most; have := fixTo_len N N.ends.length; omega
  · rw [fixAns_f h]; simp
theorem orbL_range {N : Net} (i : Nat) (hi : i < (orbL N).length) : 0 ≤ gi (orbL N) i ∧ gi (orbL N) i < (N.ends.length : Int) := by
  rw [orbL_len] at hi
  rw [gi_orbL hi]
  obtain ⟨w, h1, h2, _⟩ := orb_spec hi
  omega
theorem row_ints {w : World} {b : Nat} {l : List Int} {n : Nat} (h : w.rowIs b 3 n (copied l n)) (hl : l.length = n) (hn : n ≤ 40) (hr : ∀ i, i < l.length → inI64 (gi l i)) : OwnI w (.slice (some ⟨b, 0, none⟩) n n) l [b] := by
  subst hl
  exact ⟨⟨l.length, Nat.le_refl _, by unfold maxLen; omega, .inr ⟨b, l.length, copied l l.length, rfl, rfl, by omega, h, fun i hi => by simp [copied]; omega⟩⟩, hr⟩

set_option maxHeartbeats 3200000 in
set_option maxRecDepth 100000 in
theorem orbitsOf_any {w : World} {v : Value} {N : Net} (h : NetAt w v N) :
    Calls Try.prog 32 #[v] w fun e w' => ∃ v' bs, e = .returned (.tuple #[v', .bool (dec (Good N))]) ∧ Ext w w' ∧ OwnI w' v' (orbAns N) bs ∧ Fresh w bs := by
  have HN := Lib.hid h
  obtain ⟨v0, v1, v2, rfl, -, -, -⟩ := h
  have HX := Lib.hid (boxed_ext w v0 v1 v2 31)
  have HR := Lib.hid (row3_made w v0 v1 v2 31)
  obtain ⟨p0, p1, p2, -, -, -⟩ := row3_facts HR.out
  by_cases hg : Good N
  case neg =>
    have G := Lib.hid (dec_false hg)
    have AN := Lib.hid (orbAns_f hg)
    clear hg
    go_enter Try.func32, Try.ntmps32
    go_wp2_with (first | (go_at_call 41; (with_reducible refine (isNetwork_any (HN.out.ext HX.out)).mono ?_); rintro e w1 ⟨rfl, hw⟩; rw [G.out]; have K1 := Lib.hid (HX.out.trans' hw); clear hw) | fail)
    go_ret2
    exact ⟨_, [], ret_lb G.out.symm, K1.out, by rw [AN.out]; exact own_nilI _, Fresh.nil _⟩
  have G := Lib.hid (dec_true hg)
  have AN := Lib.hid (orbAns_t hg)
  have HG := Lib.hid (good_w hg)
  have h40 := HG.out.most
  clear hg
  have hmk := run_make_row' (P := Try.prog) 23 3 (.int .i64 0) 8 Try.underlying23 Try.info3 rfl .i64 .i64 N.ends.length (by omega) (by omega)
  go_enter Try.func32, Try.ntmps32
  go_wp2_with fail
  (with_reducible refine (isNetwork_any (HN.out.ext HX.out)).mono ?_)
  rintro e w1 ⟨rfl, hw⟩
  rw [G.out]
  have K1 := Lib.hid (HX.out.trans' hw)
  obtain ⟨q0, q1, q2, -, -, -⟩ := row3_facts (row_ext HR.out hw)
  clear hw p0 p1 p2
  go_wp2_with fail
  (with_reducible refine (walksOf_any (HN.out.ext K1.out) HG.out).mono ?_)
  rintro e w2 ⟨b, rfl, hx2, hw2, -⟩
  have K2 := Lib.hid (K1.out.trans' hx2)
  have WA := Lib.hid hw2
  clear hx2 hw2 q0 q1 q2
  obtain ⟨W3, hW3⟩ : ∃ W3, W3 = w2.alloc (.cells (madeCells #[.int .i64 0] N.ends.length) 3) := ⟨_, rfl⟩
  have E3 := Lib.hid (show Ext w2 W3 by rw [hW3]; exact (Ext.rfl' _).alloc' _)
  have R3 := Lib.hid (show W3.rowIs w2.heap.size 3 N.ends.length (copied (orbL N) 0) by
    rw [hW3]; exact (World.rowIs_made w2 (.int .i64 0) N.ends.length 3).congr fun i _ => by simp [copied])
  go_wp2
  rw [← hW3]
  clear hmk hW3
  go_loopg [18] N.ends.length (fun g i wr => ∃ k : Nat, k ≤ N.ends.length ∧ g = N.ends.length - k ∧ i = .int .i64 k ∧ Hid (Ext w2 wr ∧ wr.rowIs w2.heap.size 3 N.ends.length (copied (orbL N) k)))
  case atStart => exact ⟨0, Nat.zero_le _, rfl, rfl, E3.out, R3.out⟩
  case round =>
    obtain ⟨k, hk, rfl, rfl, Hr⟩ := hrel
    by_cases hlt : k < N.ends.length
    · obtain ⟨na, nc, ca, cc, bn, bc, c1, c2, -, oc⟩ := (WA.out.ext Hr.out.1).at hlt hlt
      have OC := Lib.hid (oc.ext ((Ext.rfl' wr).alloc' (.cells #[.slice na (wk N k).length nc, .slice ca (code N k).length cc] 59)))
      have XA := Lib.hid (Hr.out.1.alloc' (.cells #[.slice na (wk N k).length nc, .slice ca (code N k).length cc] 59))
      have HO := Lib.hid (gi_orbL hlt)
      obtain ⟨x, hx1, hx2, -, hx4⟩ := orb_spec hlt
      clear oc
      go_wp2_with (first | (go_at_call 61; (with_reducible refine (nodesWithCode_any (WA.out.ext XA.out) OC.out.read h40).mono ?_); rintro e w4 ⟨vl, bl, rfl, hx, ol, -⟩; have X4 := Lib.hid (Ext.trans' ((Ext.rfl' wr).alloc' (.cells #[.slice na (wk N k).length nc, .slice ca (code N k).length cc] 59)) hx); obtain ⟨pa, pb, po, pc, rfl, hpa, hpl, hpm, hpc⟩ := ol.read; obtain rfl := hpa hx4; obtain ⟨_, e0, rfl, _⟩ := hpc 0 hx4; rw [Nat.add_zero] at e0; have hcv := (row_ext Hr.out.2 X4.out).cell hlt; have hfr := (row_ext Hr.out.2 X4.out).frozen k; unfold maxLen at hpm; clear hx ol hpc) | fail)
      go_roundg (N.ends.length - (k + 1))
      case measure => omega
      case rel =>
        refine ⟨k + 1, by omega, rfl, by go_num, (Hr.out.1.trans' X4.out).store (Nat.le_refl _) _, ?_⟩
        have := copied_step (row_ext Hr.out.2 X4.out)
        rw [HO.out] at this; exact this
    · obtain rfl : k = N.ends.length := by omega
      go_wp2
      go_ret2
      exact ⟨_, [w2.heap.size], ret_lb G.out.symm, K2.out.trans' Hr.out.1, by rw [AN.out]; exact row_ints Hr.out.2 (orbL_len N) h40 (fun i hi => by have := orbL_range i hi; unfold inI64; omega), by simp, fun b hb => by obtain rfl := List.mem_singleton.1 hb; exact K2.out.size⟩

set_option maxHeartbeats 3200000 in
set_option maxRecDepth 100000 in
theorem fixedNodes_any {w : World} {v : Value} {N : Net} (h : NetAt w v N) :
    Calls Try.prog 34 #[v] w fun e w' => ∃ v' bs, e = .returned (.tuple #[v', .bool (dec (Good N))]) ∧ Ext w w' ∧ OwnI w' v' (fixAns N) bs ∧ Fresh w bs := by
  have HN := Lib.hid h
  obtain ⟨v0, v1, v2, rfl, -, -, -⟩ := h
  have HX := Lib.hid (boxed_ext w v0 v1 v2 31)
  have HR := Lib.hid (row3_made w v0 v1 v2 31)
  obtain ⟨p0, p1, p2, -, -, -⟩ := row3_facts HR.out
  by_cases hg : Good N
  case neg =>
    have G := Lib.hid (dec_false hg)
    have AN := Lib.hid (fixAns_f hg)
    clear hg
    go_enter Try.func34, Try.ntmps34
    go_wp2_with (first | (go_at_call 41; (with_reducible refine (isNetwork_any (HN.out.ext HX.out)).mono ?_); rintro e w1 ⟨rfl, hw⟩; rw [G.out]; have K1 := Lib.hid (HX.out.trans' hw); clear hw) | fail)
    go_ret2
    exact ⟨_, [], ret_lb G.out.symm, K1.out, by rw [AN.out]; exact own_nilI _, Fresh.nil _⟩
  have G := Lib.hid (dec_true hg)
  have AN := Lib.hid (fixAns_t hg)
  have HG := Lib.hid (good_w hg)
  have h40 := HG.out.most
  clear hg
  obtain ⟨i0, hi, hz0, hz1, hz2⟩ := info_parts Try.info3
  have I0 := Lib.hid (And.intro hi (And.intro hz0 (And.intro hz1 hz2)))
  clear hi hz0 hz1 hz2
  go_enter Try.func34, Try.ntmps34
  go_wp2_with fail
  (with_reducible refine (isNetwork_any (HN.out.ext HX.out)).mono ?_)
  rintro e w1 ⟨rfl, hw⟩
  rw [G.out]
  have K1 := Lib.hid (HX.out.trans' hw)
  obtain ⟨q0, q1, q2, -, -, -⟩ := row3_facts (row_ext HR.out hw)
  clear hw p0 p1 p2
  go_wp2_with fail
  (with_reducible refine (walksOf_any (HN.out.ext K1.out) HG.out).mono ?_)
  rintro e w2 ⟨b, rfl, hx2, hw2, -⟩
  have K2 := Lib.hid (K1.out.trans' hx2)
  have WA := Lib.hid hw2
  clear hx2 hw2 q0 q1 q2
  have G0 := Lib.hid (show GrowN w2.heap.size (w2.alloc (.cells #[] 3)) (.slice (some ⟨w2.heap.size, 0, none⟩) 0 0) (fixTo N 0) from World.ownsRow_lit (base := w2.heap.size) (e := 3) (size := 1) w2 #[] 0 (Nat.le_refl _) (by decide) (by simp))
  go_wp2
  go_loopg [5, 16] N.ends.length (fun g s i wr => ∃ k : Nat, k ≤ N.ends.length ∧ g = N.ends.length - k ∧ i = .int .i64 k ∧ Hid (Ext w2 wr ∧ GrowN w2.heap.size wr s (fixTo N k)))
  case atStart => exact ⟨0, Nat.zero_le _, rfl, rfl, (Ext.rfl' _).alloc' _, G0.out⟩
  case round =>
    obtain ⟨k, hk, rfl, rfl, Hr⟩ := hrel
    by_cases hlt : k < N.ends.length
    · obtain ⟨na, nc, ca, cc, bn, bc, c1, c2, -, oc⟩ := (WA.out.ext Hr.out.1).at hlt hlt
      have OC := Lib.hid (oc.ext ((Ext.rfl' wr).alloc' (.cells #[.slice na (wk N k).length nc, .slice ca (code N k).length cc] 59)))
      have XA := Lib.hid (Hr.out.1.alloc' (.cells #[.slice na (wk N k).length nc, .slice ca (code N k).length cc] 59))
      have hcl := fixTo_len N k
      have SZ := Lib.hid Hr.out.1.size
      clear oc
      by_cases he : (withC N (code N (k : Int))).length = 1
      · have heb : (((withC N (code N (k : Int))).length : Int) == 1) = true := by simp [he]
        have HA := Lib.hid (show fixTo N (k + 1) = fixTo N k ++ [(k : Int)] by simp only [fixTo]; rw [if_pos he])
        clear he
        go_wp2_with (first | (go_at_call 61; (with_reducible refine (nodesWithCode_any (WA.out.ext XA.out) OC.out.read h40).mono ?_); rintro e w4 ⟨vl, bl, rfl, hx, ol, -⟩; have X4 := Lib.hid (Ext.trans' ((Ext.rfl' wr).alloc' (.cells #[.slice na (wk N k).length nc, .slice ca (code N k).length cc] 59)) hx); obtain ⟨pa, pc, rfl⟩ := ol.1.slice; clear hx ol) | (at_builtin; refine wpList_app2 rfl (.tmp 27) (.tmp 29) 23 rfl w2.heap.size 3 i0 (.int .i64 0) 1 8 Try.underlying23 I0.out.1 I0.out.2.1 I0.out.2.2.1 I0.out.2.2.2 rfl (by decide) _ (fixTo N k).length (intCells (fixTo N k)) rfl (Hr.out.2.ext (X4.out.alloc' _)) (some ⟨w4.heap.size, 0, none⟩) 1 1 (intCells [(k : Int)]) rfl (src_lits w4 [(k : Int)] 1 rfl 3) (by unfold maxLen; omega) (by omega) (by have := X4.out.size; have := SZ.out; simp; omega) ?_))
        intro v' w7 hg
        have FI := Lib.hid (show Ext w2 w7 ∧ GrowN w2.heap.size w7 v' (fixTo N k ++ [(k : Int)]) from ⟨grown_ext (Hr.out.1.trans' (X4.out.alloc' _)) (Nat.le_refl _) (Hr.out.2.ext (X4.out.alloc' _)) hg.1.2.1, GrowN.step hg.1 rfl⟩)
        clear hg
        go_wp2
        go_roundg (N.ends.length - (k + 1))
        case measure => omega
        case rel => exact ⟨k + 1, by omega, rfl, by go_num, FI.out.1, by rw [HA.out]; exact FI.out.2⟩
      · have heb : (((withC N (code N (k : Int))).length : Int) == 1) = false := by simp; omega
        have HA := Lib.hid (show fixTo N (k + 1) = fixTo N k by simp only [fixTo]; rw [if_neg he])
        clear he
        go_wp2_with (first | (go_at_call 61; (with_reducible refine (nodesWithCode_any (WA.out.ext XA.out) OC.out.read h40).mono ?_); rintro e w4 ⟨vl, bl, rfl, hx, ol, -⟩; have X4 := Lib.hid (Ext.trans' ((Ext.rfl' wr).alloc' (.cells #[.slice na (wk N k).length nc, .slice ca (code N k).length cc] 59)) hx); obtain ⟨pa, pc, rfl⟩ := ol.1.slice; clear hx ol) | fail)
        go_roundg (N.ends.length - (k + 1))
        case measure => omega
        case rel => exact ⟨k + 1, by omega, rfl, by go_num, Hr.out.1.trans' X4.out, by rw [HA.out]; exact Hr.out.2.ext X4.out⟩
    · obtain rfl : k = N.ends.length := by omega
      go_wp2
      go_ret2
      obtain ⟨bs, ho, hn, hb⟩ := Hr.out.2.own fun i hi => by have := fixTo_mem N _ _ (gi_in hi); unfold inI64; omega
      exact ⟨_, bs, ret_lb G.out.symm, K2.out.trans' Hr.out.1, by rw [AN.out]; exact ho, hn, fun b hb' => by have := hb b hb'; have := K2.out.size; omega⟩
end Go.Proofs.Ytcdfjckdkicggaa
