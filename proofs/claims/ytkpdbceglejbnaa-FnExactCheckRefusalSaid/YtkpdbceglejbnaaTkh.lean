/- The model's first pairs: two nodes with one number; an edge whose ends have one number. -/
import Derived.Test.YtkpdbceglejbnaaTkd
import Derived.Test.YtkpdbceglejbnaaTkg
import Derived.Test.YtkpdbceglejbnaaJd
namespace Go.Proofs.Ytkpdbceglejbnaa
open Go.RowKit

set_option maxHeartbeats 1600000 in
set_option maxRecDepth 100000 in
theorem imPair_any {w : World} {vc : Value} {N : Net} {c : List Int} (k : IntSl w vc c) (h6 : c.length ≤ 1048576) :
    Calls Try.prog 81 #[vc] w fun e w' => e = .returned (.tuple #[.int .i64 (fpU (Rf N 3 c)), .int .i64 (fpV (Rf N 3 c)), .bool (dec (HasP (Rf N 3 c)))]) ∧ Ext w w' := by
  obtain ⟨a, b, o, d, rfl, ha, hl, hm, hc⟩ := k
  unfold maxLen at hm
  have Hc := Lib.hid hc
  have Ha := Lib.hid ha
  clear hc ha
  obtain ⟨n, hn⟩ : ∃ n, n = c.length := ⟨_, rfl⟩
  have HN := Lib.hid hn
  rw [← hn] at hl h6 ⊢
  clear hn
  go_enter Try.func81, Try.ntmps81
  go_wp2
  go_loopg [9] n (fun g i wr => ∃ k : Nat, k ≤ n ∧ g = n - k ∧ i = .int .i64 (k : Int) ∧ Hid (Ext w wr ∧ ∀ x y, x < k → ¬ Rf N 3 c x y))
  case atStart => exact ⟨0, Nat.zero_le _, rfl, rfl, Ext.rfl' _, fun x y hx => absurd hx (by omega)⟩
  case round =>
    obtain ⟨k, hk, rfl, rfl, Hr⟩ := hrel
    by_cases hlt : k < n
    · go_wp2
      go_loopg [6] (n - (k + 1)) (fun g i wx => ∃ j : Nat, k + 1 ≤ j ∧ j ≤ n ∧ g = n - j ∧ i = .int .i64 (j : Int) ∧ Hid (Ext w wx ∧ ∀ y, y < j → ¬ Rf N 3 c k y))
      case atStart => exact ⟨k + 1, Nat.le_refl _, hlt, rfl, by go_num, Hr.out.1, fun y hy h => by have := (rf_iff3 h.1 h.2.1).1 h; omega⟩
      case round =>
        obtain ⟨j, hj1, hj2, rfl, rfl, Hs⟩ := hrel
        by_cases hjt : j < n
        · obtain ⟨_, q1, rfl, _⟩ := Hc.out k (by have := HN.out; omega)
          obtain ⟨_, q2, rfl, _⟩ := Hc.out j (by have := HN.out; omega)
          obtain rfl := Ha.out (by have := HN.out; omega)
          have r1 := Hs.out.1.cell' q1
          have r2 := Hs.out.1.cell' q2
          clear q1 q2
          have HR := Lib.hid (rf_iff3 (N := N) (c := c) (u := k) (v := j) (by have := HN.out; omega) (by have := HN.out; omega))
          by_cases e : gi c k = gi c j
          · have b1 : (gi c k == gi c j) = true := by simp [e]
            have A := Lib.hid (fp_t (P := Rf N 3 c) (u := k) (v := j) ⟨HR.out.2 ⟨by omega, e⟩, Hs.out.2, Hr.out.2⟩)
            clear e
            go_wp2
            go_quiet (fail)
            go_wp2
            go_ret3
            exact ⟨ret_iib A.out.1.symm A.out.2.1.symm (dec_true A.out.2.2).symm, Hs.out.1.drewN' _⟩
          · have b1 : (gi c k == gi c j) = false := by simp [e]
            have E := Lib.hid (show ¬ Rf N 3 c k j from fun h => e (HR.out.1 h).2)
            clear e
            go_wp2
            go_quiet (fail)
            go_wp2
            go_roundg (n - (j + 1))
            case measure => omega
            case rel =>
              refine ⟨j + 1, by omega, by omega, rfl, by go_num, Hs.out.1.drewN' _, fun y hy => ?_⟩
              by_cases e : y = j
              · subst e; exact E.out
              · exact Hs.out.2 y (by omega)
        · obtain rfl : j = n := by omega
          go_wp2
          go_roundg (j - (k + 1))
          case measure => omega
          case rel =>
            refine ⟨k + 1, hlt, rfl, by go_num, Hs.out.1, fun x y hx => ?_⟩
            by_cases e : x = k
            · subst e; exact fun h => Hs.out.2 y (by have := h.2.1; have := HN.out; omega) h
            · exact Hr.out.2 x y (by omega)
    · obtain rfl : k = n := by omega
      have A := Lib.hid (fp_f (P := Rf N 3 c) fun x y h => Hr.out.2 x y (by have := h.1; have := HN.out; omega) h)
      go_wp2
      go_ret3
      exact ⟨ret_iib A.out.1.symm A.out.2.1.symm (dec_false A.out.2.2).symm, Hr.out.1⟩

theorem has_nears {N : Net} {u v : Nat} : Has (nears (gr N.ends u)) (v : Int) ↔ NrT N u v := by
  unfold Has NrT
  rw [length_nears]
  exact ⟨fun ⟨j, hj, e⟩ => ⟨j, hj, by rw [← gi_nears _ j hj]; exact e⟩, fun ⟨j, hj, e⟩ => ⟨j, hj, by rw [gi_nears _ j hj]; exact e⟩⟩

set_option maxHeartbeats 1600000 in
set_option maxRecDepth 100000 in
theorem imEdge_any {w : World} {v vc : Value} {N : Net} {c : List Int} (h : NetAt w v N) (k : IntSl w vc c) (h6 : c.length ≤ 1048576) (hl : c.length = N.ends.length) (hG : Good N) :
    Calls Try.prog 80 #[v, vc] w fun e w' => e = .returned (.tuple #[.int .i64 (fpU (Rf N 2 c)), .int .i64 (fpV (Rf N 2 c)), .bool (dec (HasP (Rf N 2 c)))]) ∧ Ext w w' := by
  have HN := Lib.hid h
  have HG := Lib.hid hG
  obtain ⟨v0, v1, v2, rfl, hE, -, -⟩ := h
  obtain ⟨ea, eb, eo, ec, rfl, -, hel, hem, -⟩ := hE
  obtain ⟨a, b, o, d, rfl, ha, hcl, hm, hc⟩ := k
  unfold maxLen at hm hem
  have Hc := Lib.hid hc
  have Ha := Lib.hid ha
  clear hc ha
  obtain ⟨n, hn⟩ : ∃ n, n = N.ends.length := ⟨_, rfl⟩
  have HL := Lib.hid hn
  have KX := Lib.hid (boxed_ext w (.slice ea N.ends.length ec) v1 v2 34)
  have HB := Lib.hid (row3_made w (.slice ea N.ends.length ec) v1 v2 34)
  have HCL := Lib.hid hl
  rw [hl] at hcl h6 ⊢
  rw [← hn] at hcl h6 hel KX HB HCL HN ⊢
  obtain ⟨p0, p1, p2, -, -, -⟩ := row3_facts HB.out
  clear hn hl hG
  go_enter Try.func80, Try.ntmps80
  go_wp2
  clear p0 p1 p2
  go_loopg [13] n (fun g i wr => ∃ k : Nat, k ≤ n ∧ g = n - k ∧ i = .int .i64 (k : Int) ∧ Hid (Ext (boxed w (.slice ea n ec) v1 v2 34) wr ∧ ∀ x y, x < k → ¬ Rf N 2 c x y))
  case atStart => exact ⟨0, Nat.zero_le _, rfl, rfl, Ext.rfl' _, fun x y hx => absurd hx (by omega)⟩
  case round =>
    obtain ⟨k, hk, rfl, rfl, Hr⟩ := hrel
    by_cases hlt : k < n
    · obtain ⟨p0, p1, p2, -, -, -⟩ := row3_facts (row_ext HB.out Hr.out.1)
      have hdeg := (HG.out.2.1 k (by have := HL.out; omega)).1
      go_wp2_with fail
      (with_reducible refine (neNear_any k (by have := HL.out; omega) (HN.out.ext (KX.out.trans' Hr.out.1)) (by omega)).mono ?_)
      rintro e w1 ⟨vn, bs, rfl, hx, hO, -⟩
      have K1 := Lib.hid (Hr.out.1.trans' hx)
      have NS := Lib.hid hO.read
      clear hx hO p0 p1 p2 hdeg
      go_wp2_with fail
      go_loopg [9] (n - k) (fun g i wx => ∃ j : Nat, k ≤ j ∧ j ≤ n ∧ g = n - j ∧ i = .int .i64 (j : Int) ∧ Hid (Ext w1 wx ∧ ∀ y, y < j → ¬ Rf N 2 c k y))
      case atStart => exact ⟨k, Nat.le_refl _, hk, rfl, rfl, Ext.rfl' _, fun y hy h => by have := ((rf_iff2 h.1 h.2.1).1 h).1; omega⟩
      case round =>
        obtain ⟨j, hj1, hj2, rfl, rfl, Hs⟩ := hrel
        have K2 := Lib.hid (K1.out.trans' Hs.out.1)
        obtain ⟨p0, p1, p2, -, -, -⟩ := row3_facts (row_ext HB.out K2.out)
        by_cases hjt : j < n
        · obtain ⟨_, q1, rfl, _⟩ := Hc.out k (by have := HCL.out; omega)
          obtain ⟨_, q2, rfl, _⟩ := Hc.out j (by have := HCL.out; omega)
          obtain rfl := Ha.out (by have := HCL.out; omega)
          have r1 := (KX.out.trans' K2.out).cell' q1
          have r2 := (KX.out.trans' K2.out).cell' q2
          clear q1 q2
          have HR := Lib.hid (rf_iff2 (N := N) (c := c) (u := k) (v := j) (by have := HCL.out; omega) (by have := HCL.out; omega))
          have NX := Lib.hid (NS.out.ext Hs.out.1)
          by_cases e : Rf N 2 c k j
          · have A := Lib.hid (fp_t (P := Rf N 2 c) (u := k) (v := j) ⟨e, Hs.out.2, Hr.out.2⟩)
            have D1 := Lib.hid (dec_true (has_nears.2 (HR.out.1 e).2.2))
            have b1 : (gi c k == gi c j) = true := by simp [(HR.out.1 e).2.1]
            clear e
            have X1 : ∀ x' : Wx wr, x'.w.cell? ⟨b, o + k, none⟩ = some (.int .i64 (gi c k)) := fun x' => x'.ok.cell' r1
            have X2 : ∀ x' : Wx wr, x'.w.cell? ⟨b, o + j, none⟩ = some (.int .i64 (gi c j)) := fun x' => x'.ok.cell' r2
            clear r1 r2
            go_wp2_with fail
            refine wp_region_ext (by kernel_rfl) (by kernel_rfl) ?_
            repeat (go_big_quiet_step ((go_at_call 130; exact in_same_bool (l1Has_any _ (NX.out.ext (Wx.ok _))) D1.out)))
            refine wpQuiet_nil ?_
            rintro wq ⟨⟨_, hq⟩, rfl⟩
            have YQ := Lib.hid hq
            clear hq X1 X2 p0 p1 p2
            go_wp2
            go_ret3
            exact ⟨ret_iib A.out.1.symm A.out.2.1.symm (dec_true A.out.2.2).symm, KX.out.trans' (K1.out.trans' (Hs.out.1.trans' YQ.out))⟩
          · have E := Lib.hid e
            by_cases e1 : NrT N k j
            · have D1 := Lib.hid (dec_true (has_nears.2 e1))
              have b1 : (gi c k == gi c j) = false := by simp; exact fun x => e (HR.out.2 ⟨hj1, x, e1⟩)
              clear e e1
              have X1 : ∀ x' : Wx wr, x'.w.cell? ⟨b, o + k, none⟩ = some (.int .i64 (gi c k)) := fun x' => x'.ok.cell' r1
              have X2 : ∀ x' : Wx wr, x'.w.cell? ⟨b, o + j, none⟩ = some (.int .i64 (gi c j)) := fun x' => x'.ok.cell' r2
              clear r1 r2
              go_wp2_with fail
              refine wp_region_ext (by kernel_rfl) (by kernel_rfl) ?_
              repeat (go_big_quiet_step ((go_at_call 130; exact in_same_bool (l1Has_any _ (NX.out.ext (Wx.ok _))) D1.out)))
              refine wpQuiet_nil ?_
              rintro wq ⟨⟨_, hq⟩, rfl⟩
              have YQ := Lib.hid hq
              clear hq X1 X2 p0 p1 p2
              go_wp2
              go_roundg (n - (j + 1))
              case measure => omega
              case rel =>
                refine ⟨j + 1, by omega, by omega, rfl, by go_num, Hs.out.1.trans' YQ.out, fun y hy => ?_⟩
                by_cases e : y = j
                · subst e; exact E.out
                · exact Hs.out.2 y (by omega)
            · have D1 := Lib.hid (dec_false fun x => e1 (has_nears.1 x))
              clear e e1
              have X1 : ∀ x' : Wx wr, x'.w.cell? ⟨b, o + k, none⟩ = some (.int .i64 (gi c k)) := fun x' => x'.ok.cell' r1
              have X2 : ∀ x' : Wx wr, x'.w.cell? ⟨b, o + j, none⟩ = some (.int .i64 (gi c j)) := fun x' => x'.ok.cell' r2
              clear r1 r2
              go_wp2_with fail
              refine wp_region_ext (by kernel_rfl) (by kernel_rfl) ?_
              repeat (go_big_quiet_step ((go_at_call 130; exact in_same_bool (l1Has_any _ (NX.out.ext (Wx.ok _))) D1.out)))
              refine wpQuiet_nil ?_
              rintro wq ⟨⟨_, hq⟩, rfl⟩
              have YQ := Lib.hid hq
              clear hq X1 X2 p0 p1 p2
              go_wp2
              go_roundg (n - (j + 1))
              case measure => omega
              case rel =>
                refine ⟨j + 1, by omega, by omega, rfl, by go_num, Hs.out.1.trans' YQ.out, fun y hy => ?_⟩
                by_cases e : y = j
                · subst e; exact E.out
                · exact Hs.out.2 y (by omega)
        · obtain rfl : j = n := by omega
          go_wp2
          go_roundg (j - (k + 1))
          case measure => omega
          case rel =>
            refine ⟨k + 1, hlt, rfl, by go_num, K2.out, fun x y hx => ?_⟩
            by_cases e : x = k
            · subst e; exact fun h => Hs.out.2 y (by have := h.2.1; have := HCL.out; omega) h
            · exact Hr.out.2 x y (by omega)
    · obtain rfl : k = n := by omega
      have A := Lib.hid (fp_f (P := Rf N 2 c) fun x y h => Hr.out.2 x y (by have := h.1; have := HCL.out; omega) h)
      go_wp2
      go_ret3
      exact ⟨ret_iib A.out.1.symm A.out.2.1.symm (dec_false A.out.2.2).symm, KX.out.trans' Hr.out.1⟩
end Go.Proofs.Ytkpdbceglejbnaa
