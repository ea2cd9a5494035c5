/- The first pair that refuses a task; whether outputs meet it; outputs by classes. -/
import Derived.Test.YtkpdbceglejbnaaTkd
namespace Go.Proofs.Ytkpdbceglejbnaa
open Go.RowKit

theorem not_dec {p q : Prop} (h : ¬ p ↔ q) : (!dec p) = dec q := by
  by_cases e : p
  · rw [dec_true e, dec_false (fun k => (h.2 k) e)]; rfl
  · rw [dec_false e, dec_true (h.1 e)]; rfl

set_option maxHeartbeats 1600000 in
set_option maxRecDepth 100000 in
theorem refPair_1 {w : World} {v vc : Value} {N : Net} {c : List Int} (h : NetAt w v N) (k : IntSl w vc c) (h6 : c.length ≤ 1048576) (hl : c.length = N.ends.length) (hG : Good N) :
    Calls Try.prog 82 #[kL, v, vc] w fun e w' => e = .returned (.tuple #[.int .i64 (fpU (Rf N 1 c)), .int .i64 (fpV (Rf N 1 c)), .bool (dec (HasP (Rf N 1 c)))]) ∧ Ext w w' := by
  have HN := Lib.hid h
  have HC := Lib.hid k
  have HL := Lib.hid hl
  have HG := Lib.hid hG
  obtain ⟨v0, v1, v2, rfl, -, -, -⟩ := h
  obtain ⟨ca, cb, co, cc, rfl, -, hcl, hcm, -⟩ := k
  unfold maxLen at hcm
  have KX := Lib.hid (boxed_ext w v0 v1 v2 34)
  have HB := Lib.hid (row3_made w v0 v1 v2 34)
  obtain ⟨n, hn⟩ : ∃ n, n = c.length := ⟨_, rfl⟩
  have HN' := Lib.hid hn
  rw [← hn] at h6 hcl HC ⊢
  clear hn hl hG
  go_enter Try.func82, Try.ntmps82
  go_wp2
  go_loopg [13] n (fun g i wr => ∃ k : Nat, k ≤ n ∧ g = n - k ∧ i = .int .i64 (k : Int) ∧ Hid (Ext (boxed w v0 v1 v2 34) wr ∧ ∀ x y, x < k → ¬ Rf N 1 c x y))
  case atStart => exact ⟨0, Nat.zero_le _, rfl, rfl, Ext.rfl' _, fun x y hx => absurd hx (by omega)⟩
  case round =>
    obtain ⟨k, hk, rfl, rfl, Hr⟩ := hrel
    by_cases hlt : k < n
    · go_wp2
      go_loopg [18] n (fun g i wx => ∃ j : Nat, j ≤ n ∧ g = n - j ∧ i = .int .i64 (j : Int) ∧ Hid (Ext (boxed w v0 v1 v2 34) wx ∧ ∀ y, y < j → ¬ Rf N 1 c k y))
      case atStart => exact ⟨0, Nat.zero_le _, rfl, rfl, Hr.out.1, fun y hy => absurd hy (by omega)⟩
      case round =>
        obtain ⟨j, hj, rfl, rfl, Hs⟩ := hrel
        by_cases hjt : j < n
        · obtain ⟨p0, p1, p2, -, -, -⟩ := row3_facts (row_ext HB.out Hs.out.1)
          have KS := Lib.hid (KX.out.trans' Hs.out.1)
          by_cases e : Rf N 1 c k j
          · have D := Lib.hid (dec_true e)
            have A := Lib.hid (fp_t (P := Rf N 1 c) (u := k) (v := j) ⟨e, Hs.out.2, Hr.out.2⟩)
            clear e
            go_wp2_with (go_at_call 230; (with_reducible refine (refused_1 (HN.out.ext KS.out) (HC.out.ext KS.out) (by have := HN'.out; omega) k j (by have := HN'.out; omega) (by have := HN'.out; omega)).mono ?_); rintro e w1 ⟨rfl, hx⟩; rw [D.out]; have K1 := Lib.hid (KS.out.trans' hx); clear hx)
            go_ret3
            exact ⟨ret_iib A.out.1.symm A.out.2.1.symm (dec_true A.out.2.2).symm, K1.out⟩
          · have D := Lib.hid (dec_false e)
            have E := Lib.hid e
            clear e
            go_wp2_with (go_at_call 230; (with_reducible refine (refused_1 (HN.out.ext KS.out) (HC.out.ext KS.out) (by have := HN'.out; omega) k j (by have := HN'.out; omega) (by have := HN'.out; omega)).mono ?_); rintro e w1 ⟨rfl, hx⟩; rw [D.out]; have K1 := Lib.hid (Hs.out.1.trans' hx); clear hx)
            clear p0 p1 p2
            go_roundg (n - (j + 1))
            case measure => omega
            case rel =>
              refine ⟨j + 1, by omega, rfl, by go_num, K1.out, fun y hy => ?_⟩
              by_cases e : y = j
              · subst e; exact E.out
              · exact Hs.out.2 y (by omega)
        · obtain rfl : j = n := by omega
          go_wp2
          go_roundg (j - (k + 1))
          case measure => omega
          case rel =>
            refine ⟨k + 1, hlt, rfl, by go_num, Hs.out.1, fun x y hx => ?_⟩
            by_cases e : x = k
            · subst e; exact fun h => Hs.out.2 y (by have := h.2.1; have := HN'.out; omega) h
            · exact Hr.out.2 x y (by omega)
    · obtain rfl : k = n := by omega
      have A := Lib.hid (fp_f (P := Rf N 1 c) fun x y h => Hr.out.2 x y (by have := h.1; have := HN'.out; omega) h)
      go_wp2
      go_ret3
      exact ⟨ret_iib A.out.1.symm A.out.2.1.symm (dec_false A.out.2.2).symm, KX.out.trans' Hr.out.1⟩

set_option maxHeartbeats 1600000 in
set_option maxRecDepth 100000 in
theorem refPair_2 {w : World} {v vc : Value} {N : Net} {c : List Int} (h : NetAt w v N) (k : IntSl w vc c) (h6 : c.length ≤ 1048576) (hl : c.length = N.ends.length) (hG : Good N) :
    Calls Try.prog 82 #[kC, v, vc] w fun e w' => e = .returned (.tuple #[.int .i64 (fpU (Rf N 2 c)), .int .i64 (fpV (Rf N 2 c)), .bool (dec (HasP (Rf N 2 c)))]) ∧ Ext w w' := by
  have HN := Lib.hid h
  have HC := Lib.hid k
  have HL := Lib.hid hl
  have HG := Lib.hid hG
  obtain ⟨v0, v1, v2, rfl, -, -, -⟩ := h
  obtain ⟨ca, cb, co, cc, rfl, -, hcl, hcm, -⟩ := k
  unfold maxLen at hcm
  have KX := Lib.hid (boxed_ext w v0 v1 v2 34)
  have HB := Lib.hid (row3_made w v0 v1 v2 34)
  obtain ⟨n, hn⟩ : ∃ n, n = c.length := ⟨_, rfl⟩
  have HN' := Lib.hid hn
  rw [← hn] at h6 hcl HC ⊢
  clear hn hl hG
  go_enter Try.func82, Try.ntmps82
  go_wp2
  go_loopg [13] n (fun g i wr => ∃ k : Nat, k ≤ n ∧ g = n - k ∧ i = .int .i64 (k : Int) ∧ Hid (Ext (boxed w v0 v1 v2 34) wr ∧ ∀ x y, x < k → ¬ Rf N 2 c x y))
  case atStart => exact ⟨0, Nat.zero_le _, rfl, rfl, Ext.rfl' _, fun x y hx => absurd hx (by omega)⟩
  case round =>
    obtain ⟨k, hk, rfl, rfl, Hr⟩ := hrel
    by_cases hlt : k < n
    · go_wp2
      go_loopg [18] n (fun g i wx => ∃ j : Nat, j ≤ n ∧ g = n - j ∧ i = .int .i64 (j : Int) ∧ Hid (Ext (boxed w v0 v1 v2 34) wx ∧ ∀ y, y < j → ¬ Rf N 2 c k y))
      case atStart => exact ⟨0, Nat.zero_le _, rfl, rfl, Hr.out.1, fun y hy => absurd hy (by omega)⟩
      case round =>
        obtain ⟨j, hj, rfl, rfl, Hs⟩ := hrel
        by_cases hjt : j < n
        · obtain ⟨p0, p1, p2, -, -, -⟩ := row3_facts (row_ext HB.out Hs.out.1)
          have KS := Lib.hid (KX.out.trans' Hs.out.1)
          by_cases e : Rf N 2 c k j
          · have D := Lib.hid (dec_true e)
            have A := Lib.hid (fp_t (P := Rf N 2 c) (u := k) (v := j) ⟨e, Hs.out.2, Hr.out.2⟩)
            clear e
            go_wp2_with (go_at_call 233; (with_reducible refine (refused_2 (HN.out.ext KS.out) (HC.out.ext KS.out) (by have := HN'.out; omega) HL.out HG.out k j (by have := HN'.out; omega) (by have := HN'.out; omega)).mono ?_); rintro e w1 ⟨rfl, hx⟩; rw [D.out]; have K1 := Lib.hid (KS.out.trans' hx); clear hx)
            go_ret3
            exact ⟨ret_iib A.out.1.symm A.out.2.1.symm (dec_true A.out.2.2).symm, K1.out⟩
          · have D := Lib.hid (dec_false e)
            have E := Lib.hid e
            clear e
            go_wp2_with (go_at_call 233; (with_reducible refine (refused_2 (HN.out.ext KS.out) (HC.out.ext KS.out) (by have := HN'.out; omega) HL.out HG.out k j (by have := HN'.out; omega) (by have := HN'.out; omega)).mono ?_); rintro e w1 ⟨rfl, hx⟩; rw [D.out]; have K1 := Lib.hid (Hs.out.1.trans' hx); clear hx)
            clear p0 p1 p2
            go_roundg (n - (j + 1))
            case measure => omega
            case rel =>
              refine ⟨j + 1, by omega, rfl, by go_num, K1.out, fun y hy => ?_⟩
              by_cases e : y = j
              · subst e; exact E.out
              · exact Hs.out.2 y (by omega)
        · obtain rfl : j = n := by omega
          go_wp2
          go_roundg (j - (k + 1))
          case measure => omega
          case rel =>
            refine ⟨k + 1, hlt, rfl, by go_num, Hs.out.1, fun x y hx => ?_⟩
            by_cases e : x = k
            · subst e; exact fun h => Hs.out.2 y (by have := h.2.1; have := HN'.out; omega) h
            · exact Hr.out.2 x y (by omega)
    · obtain rfl : k = n := by omega
      have A := Lib.hid (fp_f (P := Rf N 2 c) fun x y h => Hr.out.2 x y (by have := h.1; have := HN'.out; omega) h)
      go_wp2
      go_ret3
      exact ⟨ret_iib A.out.1.symm A.out.2.1.symm (dec_false A.out.2.2).symm, KX.out.trans' Hr.out.1⟩

set_option maxHeartbeats 1600000 in
set_option maxRecDepth 100000 in
theorem refPair_3 {w : World} {v vc : Value} {N : Net} {c : List Int} (h : NetAt w v N) (k : IntSl w vc c) (h6 : c.length ≤ 1048576) (hl : c.length = N.ends.length) (hG : Good N) :
    Calls Try.prog 82 #[kN, v, vc] w fun e w' => e = .returned (.tuple #[.int .i64 (fpU (Rf N 3 c)), .int .i64 (fpV (Rf N 3 c)), .bool (dec (HasP (Rf N 3 c)))]) ∧ Ext w w' := by
  have HN := Lib.hid h
  have HC := Lib.hid k
  have HL := Lib.hid hl
  have HG := Lib.hid hG
  obtain ⟨v0, v1, v2, rfl, -, -, -⟩ := h
  obtain ⟨ca, cb, co, cc, rfl, -, hcl, hcm, -⟩ := k
  unfold maxLen at hcm
  have KX := Lib.hid (boxed_ext w v0 v1 v2 34)
  have HB := Lib.hid (row3_made w v0 v1 v2 34)
  obtain ⟨n, hn⟩ : ∃ n, n = c.length := ⟨_, rfl⟩
  have HN' := Lib.hid hn
  rw [← hn] at h6 hcl HC ⊢
  clear hn hl hG
  go_enter Try.func82, Try.ntmps82
  go_wp2
  go_loopg [13] n (fun g i wr => ∃ k : Nat, k ≤ n ∧ g = n - k ∧ i = .int .i64 (k : Int) ∧ Hid (Ext (boxed w v0 v1 v2 34) wr ∧ ∀ x y, x < k → ¬ Rf N 3 c x y))
  case atStart => exact ⟨0, Nat.zero_le _, rfl, rfl, Ext.rfl' _, fun x y hx => absurd hx (by omega)⟩
  case round =>
    obtain ⟨k, hk, rfl, rfl, Hr⟩ := hrel
    by_cases hlt : k < n
    · go_wp2
      go_loopg [18] n (fun g i wx => ∃ j : Nat, j ≤ n ∧ g = n - j ∧ i = .int .i64 (j : Int) ∧ Hid (Ext (boxed w v0 v1 v2 34) wx ∧ ∀ y, y < j → ¬ Rf N 3 c k y))
      case atStart => exact ⟨0, Nat.zero_le _, rfl, rfl, Hr.out.1, fun y hy => absurd hy (by omega)⟩
      case round =>
        obtain ⟨j, hj, rfl, rfl, Hs⟩ := hrel
        by_cases hjt : j < n
        · obtain ⟨p0, p1, p2, -, -, -⟩ := row3_facts (row_ext HB.out Hs.out.1)
          have KS := Lib.hid (KX.out.trans' Hs.out.1)
          by_cases e : Rf N 3 c k j
          · have D := Lib.hid (dec_true e)
            have A := Lib.hid (fp_t (P := Rf N 3 c) (u := k) (v := j) ⟨e, Hs.out.2, Hr.out.2⟩)
            clear e
            go_wp2_with (go_at_call 238; (with_reducible refine (refused_3 (HN.out.ext KS.out) (HC.out.ext KS.out) (by have := HN'.out; omega) HL.out k j (by have := HN'.out; omega) (by have := HN'.out; omega)).mono ?_); rintro e w1 ⟨rfl, hx⟩; rw [D.out]; have K1 := Lib.hid (KS.out.trans' hx); clear hx)
            go_ret3
            exact ⟨ret_iib A.out.1.symm A.out.2.1.symm (dec_true A.out.2.2).symm, K1.out⟩
          · have D := Lib.hid (dec_false e)
            have E := Lib.hid e
            clear e
            go_wp2_with (go_at_call 238; (with_reducible refine (refused_3 (HN.out.ext KS.out) (HC.out.ext KS.out) (by have := HN'.out; omega) HL.out k j (by have := HN'.out; omega) (by have := HN'.out; omega)).mono ?_); rintro e w1 ⟨rfl, hx⟩; rw [D.out]; have K1 := Lib.hid (Hs.out.1.trans' hx); clear hx)
            clear p0 p1 p2
            go_roundg (n - (j + 1))
            case measure => omega
            case rel =>
              refine ⟨j + 1, by omega, rfl, by go_num, K1.out, fun y hy => ?_⟩
              by_cases e : y = j
              · subst e; exact E.out
              · exact Hs.out.2 y (by omega)
        · obtain rfl : j = n := by omega
          go_wp2
          go_roundg (j - (k + 1))
          case measure => omega
          case rel =>
            refine ⟨k + 1, hlt, rfl, by go_num, Hs.out.1, fun x y hx => ?_⟩
            by_cases e : x = k
            · subst e; exact fun h => Hs.out.2 y (by have := h.2.1; have := HN'.out; omega) h
            · exact Hr.out.2 x y (by omega)
    · obtain rfl : k = n := by omega
      have A := Lib.hid (fp_f (P := Rf N 3 c) fun x y h => Hr.out.2 x y (by have := h.1; have := HN'.out; omega) h)
      go_wp2
      go_ret3
      exact ⟨ret_iib A.out.1.symm A.out.2.1.symm (dec_false A.out.2.2).symm, KX.out.trans' Hr.out.1⟩

theorem meets_2 {N : Net} {l : List Int} : ¬ HasP (Rf N 2 l) ↔ Meets N 2 l := by unfold Meets; rw [if_neg (by omega)]
set_option maxHeartbeats 1600000 in
set_option maxRecDepth 100000 in
theorem metIfNot_2 {w : World} {v vl : Value} {N : Net} {l : List Int} (h : NetAt w v N) (k : IntSl w vl l) (h6 : l.length ≤ 1048576) (hl : l.length = N.ends.length) (hG : Good N) :
    Calls Try.prog 235 #[kC, v, vl] w fun e w' => e = .returned (.bool (dec (Meets N 2 l))) ∧ Ext w w' := by
  have HN := Lib.hid h
  have HC := Lib.hid k
  obtain ⟨v0, v1, v2, rfl, -, -, -⟩ := h
  have KX := Lib.hid (boxed_ext w v0 v1 v2 34)
  have HB := Lib.hid (row3_made w v0 v1 v2 34)
  obtain ⟨p0, p1, p2, -, -, -⟩ := row3_facts HB.out
  have D := Lib.hid (not_dec (meets_2 (N := N) (l := l)))
  go_enter Try.func235, Try.ntmps235
  go_wp2_with (go_at_call 82; (with_reducible refine (refPair_2 (HN.out.ext KX.out) (HC.out.ext KX.out) h6 hl hG).mono ?_); rintro e w1 ⟨rfl, hx⟩; have K1 := Lib.hid (KX.out.trans' hx); clear hx)
  go_ret
  exact ⟨ret_bool D.out, K1.out⟩
set_option maxHeartbeats 1600000 in
set_option maxRecDepth 100000 in
theorem met_2 {w : World} {v vl : Value} {N : Net} {l : List Int} (h : NetAt w v N) (k : IntSl w vl l) (h6 : l.length ≤ 1048576) (hl : l.length = N.ends.length) (hG : Good N) :
    Calls Try.prog 232 #[.agg #[], v, vl] w fun e w' => e = .returned (.bool (dec (Meets N 2 l))) ∧ Ext w w' := by
  have HN := Lib.hid h
  have HC := Lib.hid k
  obtain ⟨v0, v1, v2, rfl, -, -, -⟩ := h
  have KX := Lib.hid (((Ext.rfl' w).alloc' (.cells #[] 123)).trans' (boxed_ext (w.alloc (.cells #[] 123)) v0 v1 v2 34))
  have HB := Lib.hid (row3_made (w.alloc (.cells #[] 123)) v0 v1 v2 34)
  obtain ⟨p0, p1, p2, -, -, -⟩ := row3_facts HB.out
  go_enter Try.func232, Try.ntmps232
  go_wp2_with (go_at_call 235; (with_reducible refine (metIfNot_2 (HN.out.ext KX.out) (HC.out.ext KX.out) h6 hl hG).mono ?_); rintro e w1 ⟨rfl, hx⟩; have K1 := Lib.hid (KX.out.trans' hx); clear hx)
  go_ret
  exact ⟨rfl, K1.out⟩

theorem meets_3 {N : Net} {l : List Int} : ¬ HasP (Rf N 3 l) ↔ Meets N 3 l := by unfold Meets; rw [if_neg (by omega)]
set_option maxHeartbeats 1600000 in
set_option maxRecDepth 100000 in
theorem metIfNot_3 {w : World} {v vl : Value} {N : Net} {l : List Int} (h : NetAt w v N) (k : IntSl w vl l) (h6 : l.length ≤ 1048576) (hl : l.length = N.ends.length) (hG : Good N) :
    Calls Try.prog 235 #[kN, v, vl] w fun e w' => e = .returned (.bool (dec (Meets N 3 l))) ∧ Ext w w' := by
  have HN := Lib.hid h
  have HC := Lib.hid k
  obtain ⟨v0, v1, v2, rfl, -, -, -⟩ := h
  have KX := Lib.hid (boxed_ext w v0 v1 v2 34)
  have HB := Lib.hid (row3_made w v0 v1 v2 34)
  obtain ⟨p0, p1, p2, -, -, -⟩ := row3_facts HB.out
  have D := Lib.hid (not_dec (meets_3 (N := N) (l := l)))
  go_enter Try.func235, Try.ntmps235
  go_wp2_with (go_at_call 82; (with_reducible refine (refPair_3 (HN.out.ext KX.out) (HC.out.ext KX.out) h6 hl hG).mono ?_); rintro e w1 ⟨rfl, hx⟩; have K1 := Lib.hid (KX.out.trans' hx); clear hx)
  go_ret
  exact ⟨ret_bool D.out, K1.out⟩
set_option maxHeartbeats 1600000 in
set_option maxRecDepth 100000 in
theorem met_3 {w : World} {v vl : Value} {N : Net} {l : List Int} (h : NetAt w v N) (k : IntSl w vl l) (h6 : l.length ≤ 1048576) (hl : l.length = N.ends.length) (hG : Good N) :
    Calls Try.prog 237 #[.agg #[], v, vl] w fun e w' => e = .returned (.bool (dec (Meets N 3 l))) ∧ Ext w w' := by
  have HN := Lib.hid h
  have HC := Lib.hid k
  obtain ⟨v0, v1, v2, rfl, -, -, -⟩ := h
  have KX := Lib.hid (((Ext.rfl' w).alloc' (.cells #[] 124)).trans' (boxed_ext (w.alloc (.cells #[] 124)) v0 v1 v2 34))
  have HB := Lib.hid (row3_made (w.alloc (.cells #[] 124)) v0 v1 v2 34)
  obtain ⟨p0, p1, p2, -, -, -⟩ := row3_facts HB.out
  go_enter Try.func237, Try.ntmps237
  go_wp2_with (go_at_call 235; (with_reducible refine (metIfNot_3 (HN.out.ext KX.out) (HC.out.ext KX.out) h6 hl hG).mono ?_); rintro e w1 ⟨rfl, hx⟩; have K1 := Lib.hid (KX.out.trans' hx); clear hx)
  go_ret
  exact ⟨rfl, K1.out⟩

set_option maxHeartbeats 1600000 in
set_option maxRecDepth 100000 in
theorem met_1 {w : World} {v vl : Value} {N : Net} {l : List Int} (h : NetAt w v N) (k : IntSl w vl l) (h6 : l.length ≤ 1048576) :
    Calls Try.prog 229 #[.agg #[], v, vl] w fun e w' => e = .returned (.bool (dec (Meets N 1 l))) ∧ Ext w w' := by
  have HC := Lib.hid k
  obtain ⟨v0, v1, v2, rfl, -, -, -⟩ := h
  obtain ⟨ca, cb, co, cc, rfl, -, hcl, hcm, -⟩ := k
  unfold maxLen at hcm
  have KX := Lib.hid (((Ext.rfl' w).alloc' (.cells #[] 122)).trans' (boxed_ext (w.alloc (.cells #[] 122)) v0 v1 v2 34))
  have HM := Lib.hid (show Meets N 1 l ↔ _ from (show Meets N 1 l ↔ LeadOK l by unfold Meets; rw [if_pos rfl]).trans lead_impl)
  obtain ⟨a, ha⟩ : ∃ a, a = cbT l 1 1 l.length := ⟨_, rfl⟩
  obtain ⟨b, hb⟩ : ∃ b, b = cbT l 0 0 l.length := ⟨_, rfl⟩
  have ha6 := cbT_le l 1 1 l.length
  have hb6 := cbT_le l 0 0 l.length
  rw [← ha] at ha6
  rw [← hb] at hb6
  rw [← ha, ← hb] at HM
  have HA := Lib.hid ha
  have HB := Lib.hid hb
  clear ha hb
  by_cases e1 : a = 1
  · have b1 : ((a : Int) == 1) = true := by simp [e1]
    have D := Lib.hid (show ((b : Int) == (l.length : Int) - 1) = dec (Meets N 1 l) from by
      rw [Bool.eq_iff_iff, dec_iff, HM.out, beq_iff_eq]
      exact ⟨fun h => ⟨e1, h⟩, fun h => h.2⟩)
    clear e1
    go_enter Try.func229, Try.ntmps229
    go_wp2_with (first | (go_at_call_of 165 (Value.int .i64 1); (with_reducible refine (cntBetween_any (HC.out.ext KX.out) h6 _ _).mono ?_); rintro e _ ⟨rfl, rfl⟩; rw [← HA.out]) | (go_at_call_of 165 (Value.int .i64 0); (with_reducible refine (cntBetween_any (HC.out.ext KX.out) h6 _ _).mono ?_); rintro e _ ⟨rfl, rfl⟩; rw [← HB.out]))
    go_ret
    exact ⟨ret_bool D.out, KX.out⟩
  · have b1 : ((a : Int) == 1) = false := by simp; omega
    have D := Lib.hid (dec_false (p := Meets N 1 l) fun h => e1 (HM.out.1 h).1)
    clear e1
    go_enter Try.func229, Try.ntmps229
    go_wp2_with (go_at_call 165; (with_reducible refine (cntBetween_any (HC.out.ext KX.out) h6 _ _).mono ?_); rintro e _ ⟨rfl, rfl⟩; rw [← HA.out])
    go_ret
    exact ⟨ret_bool D.out.symm, KX.out⟩

theorem assert_1 (w : World) : (Instr.typeAssert kL 72 122 true).run Try.prog w = .ok (.tuple #[.agg #[], .bool true]) w := by kernel_rfl
theorem assert_2 (w : World) : (Instr.typeAssert kC 72 122 true).run Try.prog w = .ok (.tuple #[.agg #[], .bool false]) w := by kernel_rfl
theorem assert_3 (w : World) : (Instr.typeAssert kN 72 122 true).run Try.prog w = .ok (.tuple #[.agg #[], .bool false]) w := by kernel_rfl
set_option maxHeartbeats 1600000 in
set_option maxRecDepth 100000 in
theorem outputs_2 {w : World} {vc : Value} : Calls Try.prog 71 #[kC, vc] w fun e w' => e = .returned vc ∧ w = w' := by
  have q := assert_2
  go_enter Try.func71, Try.ntmps71
  go_wp2
  go_ret
  exact ⟨rfl, rfl⟩
set_option maxHeartbeats 1600000 in
set_option maxRecDepth 100000 in
theorem outputs_3 {w : World} {vc : Value} : Calls Try.prog 71 #[kN, vc] w fun e w' => e = .returned vc ∧ w = w' := by
  have q := assert_3
  go_enter Try.func71, Try.ntmps71
  go_wp2
  go_ret
  exact ⟨rfl, rfl⟩
end Go.Proofs.Ytkpdbceglejbnaa
