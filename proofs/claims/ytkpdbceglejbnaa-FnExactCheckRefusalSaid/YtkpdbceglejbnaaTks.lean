/- Consistent lists of classes: the model. -/
import Derived.Test.YtkpdbceglejbnaaTkg
import Derived.Test.YtkpdbceglejbnaaVi
namespace Go.Proofs.Ytkpdbceglejbnaa
open Go.RowKit

set_option maxHeartbeats 3200000 in
set_option maxRecDepth 100000 in
theorem imAlike_any {w : World} {v vc : Value} {N : Net} {c : List Int} (h : NetAt w v N) (hC : IntSl w vc c) (hN : NodesIn N) (hcl : c.length = N.ends.length) (x y : Nat) (hx : x < N.ends.length) (hy : y < N.ends.length) :
    Calls Try.prog 128 #[v, vc, .int .i64 x, .int .i64 y] w fun e w' => e = .returned (.bool (dec (Alike N c x y))) ∧ Ext w w' := by
  obtain ⟨v0, v1, v2, rfl, hE, hI, hP⟩ := h
  clear hI
  obtain ⟨a, b1, o, d, rfl, ha, hn, hm, hc⟩ := hE
  obtain ⟨a2, b2, o2, d2, rfl, ha2, hn2, hm2, hc2⟩ := hP
  obtain ⟨a3, b3, o3, d3, rfl, ha3, hn3, hm3, hc3⟩ := hC
  unfold maxLen at hm hm2 hm3
  obtain ⟨L, hL⟩ : ∃ L, L = c.length := ⟨_, rfl⟩
  rw [← hL] at hn3 ha3 hc3 hcl ⊢
  have HLc := Lib.hid hL
  clear hL
  have hl := hN.len
  obtain rfl := ha (by omega)
  obtain rfl := ha2 (by omega)
  obtain ⟨zx, hzx, hrx⟩ := hc x hx
  obtain ⟨ax, bx, ox, cx, rfl, hax, hnx, hmx, hcx⟩ := hrx
  obtain ⟨zy, hzy, hry⟩ := hc y hy
  obtain ⟨ay, bby, oy, cy, rfl, hay, hny, hmy, hcy⟩ := hry
  obtain ⟨_, hix, rfl, _⟩ := hc2 x (by omega)
  obtain ⟨_, hiy, rfl, _⟩ := hc2 y (by omega)
  unfold maxLen at hmx hmy
  have hx2 : x < N.inputs.length := by omega
  have hy2 : y < N.inputs.length := by omega
  clear hl
  have HX := Lib.hid ((Ext.rfl' w).alloc' (.cells #[.slice (some ⟨b1, o, none⟩) N.ends.length d, v1, .slice (some ⟨b2, o2, none⟩) N.inputs.length d2] 34))
  have HR := Lib.hid (row3_made w (.slice (some ⟨b1, o, none⟩) N.ends.length d) v1 (.slice (some ⟨b2, o2, none⟩) N.inputs.length d2) 34)
  obtain ⟨p0, _, p2, _⟩ := row3_facts HR.out
  have z1 := HX.out.cell' hzx
  have z2 := HX.out.cell' hzy
  have i1 := HX.out.cell' hix
  have i2 := HX.out.cell' hiy
  have HCX := Lib.hid hcx
  have HCY := Lib.hid hcy
  have HAX := Lib.hid hax
  have HAY := Lib.hid hay
  have HC3 := Lib.hid hc3
  have HA3 := Lib.hid ha3
  have HZ := Lib.hid (And.intro hzx hzy)
  clear hc hc2 ha ha2 hzx hzy hix hiy hcx hcy hax hay hc3 ha3
  by_cases h1 : (gr N.ends x).length = (gr N.ends y).length
  · have d1 : (((gr N.ends x).length : Int) != ((gr N.ends y).length : Int)) = false := by simp [h1]
    by_cases h2 : gi N.inputs x = gi N.inputs y
    · have d2' : (gi N.inputs x != gi N.inputs y) = false := by simp [h2]
      have H0 := Lib.hid (show Like0 N x y from ⟨h1, h2⟩)
      have HL := Lib.hid h1
      clear h1 h2
      go_enter Try.func128, Try.ntmps128
      go_wp2
      go_quiet (fail)
      go_wp2
      go_loopg [44] (gr N.ends x).length (fun g i wr => ∃ k : Nat, k ≤ (gr N.ends x).length ∧ g = (gr N.ends x).length - k ∧ i = .int .i64 k ∧ Hid (Ext w wr ∧ wr.rowIs w.heap.size 34 3 (tri (.slice (some ⟨b1, o, none⟩) N.ends.length d) v1 (.slice (some ⟨b2, o2, none⟩) N.inputs.length d2)) ∧ (0 < L → ∀ j, j < k → SameEnd c (gn (gr N.ends x) j) (gp (gr N.ends x) j) (gn (gr N.ends y) j) (gp (gr N.ends y) j))))
      case atStart => exact ⟨0, Nat.zero_le _, rfl, rfl, HX.out.drewN' _, row_ext HR.out ((Ext.rfl' _).drewN' _), fun _ j hj => absurd hj (by omega)⟩
      case round =>
        obtain ⟨k, hk, rfl, rfl, Hr⟩ := hrel
        by_cases hlt : k < (gr N.ends x).length
        · have hlt2 : k < (gr N.ends y).length := by have := HL.out; omega
          obtain ⟨q1, q2, _, _⟩ := HCX.out k hlt
          obtain ⟨r1, r2, _, _⟩ := HCY.out k hlt2
          obtain rfl := HAX.out (by omega)
          obtain rfl := HAY.out (by omega)
          have q1' := Hr.out.1.cell' q1
          have q2' := Hr.out.1.cell' q2
          have X1 := Lib.hid ((Ext.rfl' wr).alloc' (.cells #[.int .i64 (gn (gr N.ends x) k), .int .i64 (gp (gr N.ends x) k)] 95))
          obtain ⟨s0, _, s2, _⟩ := row3_facts (row_ext Hr.out.2.1 X1.out)
          have t2 := X1.out.cell' (Hr.out.1.cell' HZ.out.2)
          have r1' := X1.out.cell' (Hr.out.1.cell' r1)
          have r2' := X1.out.cell' (Hr.out.1.cell' r2)
          have X2 := Lib.hid (X1.out.alloc' (.cells #[.int .i64 (gn (gr N.ends y) k), .int .i64 (gp (gr N.ends y) k)] 95))
          have n1 := hN.node x hx k hlt
          have n2 := hN.node y hy k hlt2
          obtain ⟨m1, e1⟩ := Int.eq_ofNat_of_zero_le n1.1
          obtain ⟨m2, e2⟩ := Int.eq_ofNat_of_zero_le n2.1
          have E1 := Lib.hid e1
          have E2 := Lib.hid e2
          rw [e1] at q1' n1 X1 X2 s0 s2 t2 r1' r2'
          rw [e2] at r1' n2 X2
          have hm1 : m1 < N.ends.length := by omega
          have hm2' : m2 < N.ends.length := by omega
          clear q1 q2 r1 r2 e1 e2 n1 n2
          by_cases hc0 : L = 0
          · exact absurd hc0 (by omega)
          · have hlc : L = N.ends.length := by omega
            obtain rfl := HA3.out (by omega)
            obtain ⟨_, k1, rfl, _⟩ := HC3.out m1 (by omega)
            obtain ⟨_, k2, rfl, _⟩ := HC3.out m2 (by omega)
            have k1' := X2.out.cell' (Hr.out.1.cell' k1)
            have k2' := X2.out.cell' (Hr.out.1.cell' k2)
            have hc1 : m1 < L := by omega
            have hc2 : m2 < L := by omega
            have HC0 := Lib.hid (show 0 < c.length by have := HLc.out; omega)
            clear hc0 k1 k2 hcl hlc
            by_cases f1 : gp (gr N.ends x) k = gp (gr N.ends y) k
            · have g1 : (gp (gr N.ends x) k != gp (gr N.ends y) k) = false := by simp [f1]
              by_cases f2 : gi c m1 = gi c m2
              · have g2 : (gi c m1 != gi c m2) = false := by simp [f2]
                have S := Lib.hid (show SameEnd c (gn (gr N.ends x) k) (gp (gr N.ends x) k) (gn (gr N.ends y) k) (gp (gr N.ends y) k) by rw [E1.out, E2.out]; exact ⟨f1, f2⟩)
                clear f1 f2
                go_wp2
                go_quiet (fail)
                go_wp2
                go_roundg ((gr N.ends x).length - (k + 1))
                case measure => omega
                case rel =>
                  refine ⟨k + 1, by omega, rfl, by go_num, (Hr.out.1.trans' X2.out).drewN' _, row_ext Hr.out.2.1 (X2.out.drewN' _), fun h j hj => ?_⟩
                  by_cases e : j = k
                  · subst e; exact S.out
                  · exact Hr.out.2.2 h j (by omega)
              · have g2 : (gi c m1 != gi c m2) = true := by simp [f2]
                have Hn := Lib.hid (dec_false (p := Alike N c x y) fun h => by have := (h.2 HC0.out k hlt).2; rw [E1.out, E2.out] at this; exact f2 this)
                clear f1 f2
                go_wp2
                go_quiet (fail)
                go_wp2
                go_ret
                exact ⟨bool_of Hn.out.symm, (Hr.out.1.trans' X2.out).drewN' _⟩
            · have g1 : (gp (gr N.ends x) k != gp (gr N.ends y) k) = true := by simp [f1]
              have Hn := Lib.hid (dec_false (p := Alike N c x y) fun h => f1 (h.2 HC0.out k hlt).1)
              clear f1
              go_wp2
              go_quiet (fail)
              go_wp2
              go_ret
              exact ⟨bool_of Hn.out.symm, (Hr.out.1.trans' X2.out).drewN' _⟩
        · go_wp2
          go_ret
          obtain rfl : k = (gr N.ends x).length := by omega
          exact ⟨bool_of (dec_true (p := Alike N c x y) ⟨H0.out, fun h i hi => Hr.out.2.2 (by have := HLc.out; omega) i hi⟩).symm, Hr.out.1⟩
    · have d2' : (gi N.inputs x != gi N.inputs y) = true := by simp [h2]
      have Hn := Lib.hid (dec_false (p := Alike N c x y) fun h => h2 h.1.2)
      clear h1 h2
      go_enter Try.func128, Try.ntmps128
      go_wp2
      go_quiet (fail)
      go_wp2
      go_ret
      exact ⟨bool_of Hn.out.symm, HX.out.drewN' _⟩
  · have d1 : (((gr N.ends x).length : Int) != ((gr N.ends y).length : Int)) = true := by simp; omega
    have Hn := Lib.hid (dec_false (p := Alike N c x y) fun h => h1 h.1.1)
    clear h1
    go_enter Try.func128, Try.ntmps128
    go_wp2
    go_quiet (fail)
    go_wp2
    go_ret
    exact ⟨bool_of Hn.out.symm, HX.out.drewN' _⟩

/-- What holds of the first k nodes. -/
def CnsTo (N : Net) (c : List Int) (k : Nat) : Prop := (∀ x, x < k → 0 ≤ gi c x) ∧ ∀ x y, x < k → y < x → gi c x = gi c y → likeS N c x y = true
theorem cns_end {N : Net} {c : List Int} (hl : c.length = N.ends.length) (h : CnsTo N c c.length) : ConsOK N c := ⟨hl, h.1, fun u v hu hv => h.2 u v hu hv⟩

set_option maxHeartbeats 1600000 in
set_option maxRecDepth 100000 in
theorem imConsistent_any {w : World} {v vc : Value} {N : Net} {c : List Int} (h : NetAt w v N) (k : IntSl w vc c) (hG : Good N) :
    Calls Try.prog 75 #[v, vc] w fun e w' => e = .returned (.bool (dec (ConsOK N c))) ∧ Ext w w' := by
  have HN := Lib.hid h
  have HC := Lib.hid k
  have NI := Lib.hid (good_nodes hG)
  have h40 := hG.1.2
  obtain ⟨v0, v1, v2, rfl, hE, -, -⟩ := h
  obtain ⟨ea, eb, eo, ec, rfl, -, hel, hem, -⟩ := hE
  obtain ⟨a, b, o, d, rfl, ha, hcl, hm, hc⟩ := k
  unfold maxLen at hm hem
  have Hc := Lib.hid hc
  have Ha := Lib.hid ha
  have KX := Lib.hid (boxed_ext w (.slice ea N.ends.length ec) v1 v2 34)
  have HB := Lib.hid (row3_made w (.slice ea N.ends.length ec) v1 v2 34)
  obtain ⟨p0, p1, p2, -, -, -⟩ := row3_facts HB.out
  clear hc ha hG
  by_cases hl : c.length = N.ends.length
  case neg =>
    have b0 : ((c.length : Int) != (N.ends.length : Int)) = true := by simp; omega
    have D := Lib.hid (dec_false (p := ConsOK N c) fun h => hl h.1)
    clear hl
    go_enter Try.func75, Try.ntmps75
    go_wp2
    go_ret
    exact ⟨ret_bool D.out.symm, KX.out⟩
  have b0 : ((c.length : Int) != (N.ends.length : Int)) = false := by simp; omega
  have HL := Lib.hid hl
  obtain ⟨n, hn⟩ : ∃ n, n = c.length := ⟨_, rfl⟩
  have HCL := Lib.hid hn
  rw [← hn] at b0 hcl HC ⊢
  have h6 : n ≤ 40 := by omega
  clear hn hl
  go_enter Try.func75, Try.ntmps75
  go_wp2
  clear p0 p1 p2
  go_loopg [15] n (fun g i wr => ∃ k : Nat, k ≤ n ∧ g = n - k ∧ i = .int .i64 (k : Int) ∧ Hid (Ext (boxed w (.slice ea N.ends.length ec) v1 v2 34) wr ∧ CnsTo N c k))
  case atStart => exact ⟨0, Nat.zero_le _, rfl, rfl, Ext.rfl' _, fun x hx => absurd hx (by omega), fun x y hx => absurd hx (by omega)⟩
  case round =>
    obtain ⟨k, hk, rfl, rfl, Hr⟩ := hrel
    by_cases hlt : k < n
    · obtain ⟨_, q1, rfl, _⟩ := Hc.out k (by have := HCL.out; omega)
      obtain rfl := Ha.out (by have := HCL.out; omega)
      have r1 := (KX.out.trans' Hr.out.1).cell' q1
      by_cases e0 : gi c k < 0
      · have b1 : decide (gi c k < 0) = true := by simpa using e0
        have D := Lib.hid (dec_false (p := ConsOK N c) fun h => by have := h.2.1 k (by have := HCL.out; omega); omega)
        clear e0
        go_wp2
        go_ret
        exact ⟨ret_bool D.out.symm, KX.out.trans' Hr.out.1⟩
      · have b1 : decide (gi c k < 0) = false := by simpa using e0
        have E0 := Lib.hid (show 0 ≤ gi c k by omega)
        clear e0
        go_wp2
        clear r1
        go_loopg [27] k (fun g i wx => ∃ j : Nat, j ≤ k ∧ g = k - j ∧ i = .int .i64 (j : Int) ∧ Hid (Ext (boxed w (.slice ea N.ends.length ec) v1 v2 34) wx ∧ ∀ y, y < j → gi c k = gi c y → likeS N c k y = true))
        case atStart => exact ⟨0, Nat.zero_le _, rfl, rfl, Hr.out.1, fun y hy => absurd hy (by omega)⟩
        case round =>
          obtain ⟨j, hj, rfl, rfl, Hs⟩ := hrel
          by_cases hjt : j < k
          · obtain ⟨_, q2, rfl, _⟩ := Hc.out j (by have := HCL.out; omega)
            have KS := Lib.hid (KX.out.trans' Hs.out.1)
            obtain ⟨p0, p1, p2, -, -, -⟩ := row3_facts (row_ext HB.out Hs.out.1)
            have r1 := KS.out.cell' q1
            have r2 := KS.out.cell' q2
            have X0 : ∀ x' : Wx wr, x'.w.cell? ⟨w.heap.size, 0, none⟩ = some (.slice ea N.ends.length ec) := fun x' => x'.ok.cell' p0
            have X1 : ∀ x' : Wx wr, x'.w.cell? ⟨b, o + k, none⟩ = some (.int .i64 (gi c k)) := fun x' => x'.ok.cell' r1
            have X2 : ∀ x' : Wx wr, x'.w.cell? ⟨b, o + j, none⟩ = some (.int .i64 (gi c j)) := fun x' => x'.ok.cell' r2
            have X3 : ∀ x' : Wx wr, x'.w.cell? ⟨w.heap.size, 1, none⟩ = some v1 := fun x' => x'.ok.cell' p1
            have X4 : ∀ x' : Wx wr, x'.w.cell? ⟨w.heap.size, 2, none⟩ = some v2 := fun x' => x'.ok.cell' p2
            have AL := Lib.hid (alike_some (N := N) (c := c) (u := k) (v := j) (by have := HCL.out; omega))
            clear p0 p1 p2 r1 r2
            by_cases e1 : gi c k = gi c j
            · have b2 : (gi c k == gi c j) = true := by simp [e1]
              by_cases e2 : likeS N c k j = true
              · have D2 := Lib.hid (show dec (Alike N c k j) = true by rw [AL.out]; exact e2)
                have E2 := Lib.hid e2
                clear e1 e2
                go_wp2_with fail
                refine wp_region_ext (by kernel_rfl) (by kernel_rfl) ?_
                repeat (go_big_quiet_step ((go_at_call 128; exact in_ext_bool (imAlike_any (HN.out.ext (KS.out.trans' (Wx.ok _))) (HC.out.ext (KS.out.trans' (Wx.ok _))) NI.out HL.out k j (by have := HL.out; have := HCL.out; omega) (by have := HL.out; have := HCL.out; omega)) D2.out)))
                refine wpQuiet_nil ?_
                rintro wq ⟨⟨_, hq⟩, rfl⟩
                have YQ := Lib.hid hq
                clear hq X0 X1 X2 X3 X4
                go_wp2
                go_roundg (k - (j + 1))
                case measure => omega
                case rel =>
                  refine ⟨j + 1, by omega, rfl, by go_num, Hs.out.1.trans' YQ.out, fun y hy => ?_⟩
                  by_cases e : y = j
                  · subst e; exact fun _ => E2.out
                  · exact Hs.out.2 y (by omega)
              · have D2 := Lib.hid (show dec (Alike N c k j) = false by rw [AL.out]; simpa using e2)
                have D := Lib.hid (dec_false (p := ConsOK N c) fun h => e2 (h.2.2 k j (by have := HCL.out; omega) hjt e1))
                clear e1 e2
                go_wp2_with fail
                refine wp_region_ext (by kernel_rfl) (by kernel_rfl) ?_
                repeat (go_big_quiet_step ((go_at_call 128; exact in_ext_bool (imAlike_any (HN.out.ext (KS.out.trans' (Wx.ok _))) (HC.out.ext (KS.out.trans' (Wx.ok _))) NI.out HL.out k j (by have := HL.out; have := HCL.out; omega) (by have := HL.out; have := HCL.out; omega)) D2.out)))
                refine wpQuiet_nil ?_
                rintro wq ⟨⟨_, hq⟩, rfl⟩
                have YQ := Lib.hid hq
                clear hq X0 X1 X2 X3 X4
                go_wp2
                go_ret
                exact ⟨ret_bool D.out.symm, KS.out.trans' YQ.out⟩
            · have b2 : (gi c k == gi c j) = false := by simp [e1]
              have E1 := Lib.hid e1
              clear e1
              go_wp2_with fail
              refine wp_region_ext (by kernel_rfl) (by kernel_rfl) ?_
              repeat (go_big_quiet_step (fail))
              refine wpQuiet_nil ?_
              rintro wq ⟨⟨_, hq⟩, rfl⟩
              have YQ := Lib.hid hq
              clear hq X0 X1 X2 X3 X4
              go_wp2
              go_roundg (k - (j + 1))
              case measure => omega
              case rel =>
                refine ⟨j + 1, by omega, rfl, by go_num, Hs.out.1.trans' YQ.out, fun y hy => ?_⟩
                by_cases e : y = j
                · subst e; exact fun h => absurd h E1.out
                · exact Hs.out.2 y (by omega)
          · obtain rfl : j = k := by omega
            go_wp2
            go_roundg (n - (j + 1))
            case measure => omega
            case rel =>
              refine ⟨j + 1, hlt, rfl, by go_num, Hs.out.1, fun x hx => ?_, fun x y hx hy => ?_⟩
              · by_cases e : x = j
                · subst e; exact E0.out
                · exact Hr.out.2.1 x (by omega)
              · by_cases e : x = j
                · subst e; exact Hs.out.2 y hy
                · exact Hr.out.2.2 x y (by omega) hy
    · obtain rfl : k = n := by omega
      have D := Lib.hid (dec_true (p := ConsOK N c) (cns_end HL.out (by rw [← HCL.out]; exact Hr.out.2)))
      go_wp2
      go_ret
      exact ⟨ret_bool D.out.symm, KX.out.trans' Hr.out.1⟩

end Go.Proofs.Ytkpdbceglejbnaa
