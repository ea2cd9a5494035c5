/- The contracts of conflictWithin, of the model's taConflict, of hasOutputs and taOuts. -/
import Derived.Test.YtdoaopeegcakiaaCfa
import Derived.Test.YtdoaopeegcakiaaVm
namespace Go.Proofs.Ytdoaopeegcakiaa
open Go.RowKit

theorem ret_iib {x y x' y' : Int} {b c : Bool} (h : x = x') (h' : y = y') (k : b = c) : Ending.returned (.tuple #[.int .i64 x, .int .i64 y, .bool b]) = .returned (.tuple #[.int .i64 x', .int .i64 y', .bool c]) := by rw [h, h', k]

set_option maxHeartbeats 3200000 in
set_option maxRecDepth 100000 in
theorem conflictWithin_any {w : World} {vc vl : Value} {c l : List Int} (h : IntSl w vc c) (k : IntSl w vl l) (hl : l.length = c.length) (hs : c.length ≤ 1048576) :
    Calls Try.prog 41 #[vc, vl] w fun e w' => e = .returned (.tuple #[.int .i64 (cfU c l), .int .i64 (cfV c l), .bool (dec (HasCf c l))]) ∧ Ext w w' := by
  obtain ⟨a, b, o, d, rfl, ha, hn, hm, hc⟩ := h
  obtain ⟨a2, b2, o2, d2, rfl, ha2, hn2, hm2, hc2⟩ := k
  unfold maxLen at hm hm2
  rw [hl] at hn2 ha2 hc2 ⊢
  have Hc := Lib.hid hc
  have Hc2 := Lib.hid hc2
  have Ha := Lib.hid ha
  have Ha2 := Lib.hid ha2
  clear hc hc2 ha ha2 hl
  go_enter Try.func41, Try.ntmps41
  go_wp2
  go_loopg [11] c.length (fun g i wr => ∃ k : Nat, k ≤ c.length ∧ g = c.length - k ∧ i = .int .i64 k ∧ Hid (Ext w wr ∧ ∀ u v, u < k → ¬ CfAt c l u v))
  case atStart => exact ⟨0, Nat.zero_le _, rfl, rfl, Ext.rfl' _, fun u v hu => absurd hu (by omega)⟩
  case round =>
    obtain ⟨k, hk, rfl, rfl, Hr⟩ := hrel
    by_cases hlt : k < c.length
    · go_wp2
      go_loopg [8] (c.length - (k + 1)) (fun g i wx => ∃ j : Nat, k + 1 ≤ j ∧ j ≤ c.length ∧ g = c.length - j ∧ i = .int .i64 j ∧ Hid (Ext w wx ∧ ∀ v, v < j → ¬ CfAt c l k v))
      case atStart => exact ⟨k + 1, Nat.le_refl _, hlt, rfl, by go_num, Hr.out.1, fun v hv h => absurd h.1 (by omega)⟩
      case round =>
        obtain ⟨j, hj1, hj2, rfl, rfl, Hs⟩ := hrel
        by_cases hjt : j < c.length
        · obtain ⟨_, r1, rfl, _⟩ := Hc.out k hlt
          obtain ⟨_, r2, rfl, _⟩ := Hc.out j hjt
          obtain ⟨_, r3, rfl, _⟩ := Hc2.out k hlt
          obtain ⟨_, r4, rfl, _⟩ := Hc2.out j hjt
          obtain rfl := Ha.out (by omega)
          obtain rfl := Ha2.out (by omega)
          have r1' := Hs.out.1.cell' r1
          have r2' := Hs.out.1.cell' r2
          have r3' := Hs.out.1.cell' r3
          have r4' := Hs.out.1.cell' r4
          clear r1 r2 r3 r4
          by_cases e1 : gi c k = gi c j
          · have b1 : (gi c k == gi c j) = true := by simp [e1]
            by_cases e2 : gi l k = gi l j
            · have b2 : (gi l k != gi l j) = false := by simp [e2]
              have S := Lib.hid (show ¬ CfAt c l k j from fun h => h.2.2.2 e2)
              clear e1 e2
              go_wp2
              go_quiet (fail)
              go_wp2
              go_roundg (c.length - (j + 1))
              case measure => omega
              case rel =>
                refine ⟨j + 1, by omega, by omega, rfl, by go_num, Hs.out.1.drewN' _, fun v hv => ?_⟩
                by_cases e : v = j
                · subst e; exact S.out
                · exact Hs.out.2 v (by omega)
            · have b2 : (gi l k != gi l j) = true := by simp [e2]
              have S := Lib.hid (cf_t (c := c) (l := l) (u := k) (v := j) ⟨⟨by omega, hjt, e1, e2⟩, Hs.out.2, fun u v hu => Hr.out.2 u v hu⟩)
              clear e1 e2
              go_wp2
              go_quiet (fail)
              go_wp2
              go_ret3
              exact ⟨ret_iib S.out.1.symm S.out.2.1.symm (dec_true S.out.2.2).symm, Hs.out.1.drewN' _⟩
          · have b1 : (gi c k == gi c j) = false := by simp [e1]
            have S := Lib.hid (show ¬ CfAt c l k j from fun h => e1 h.2.2.1)
            clear e1
            go_wp2
            go_quiet (fail)
            go_wp2
            go_roundg (c.length - (j + 1))
            case measure => omega
            case rel =>
              refine ⟨j + 1, by omega, by omega, rfl, by go_num, Hs.out.1.drewN' _, fun v hv => ?_⟩
              by_cases e : v = j
              · subst e; exact S.out
              · exact Hs.out.2 v (by omega)
        · have e : j = c.length := by omega
          subst e
          go_wp2
          go_roundg (c.length - (k + 1))
          case measure => omega
          case rel =>
            refine ⟨k + 1, hlt, rfl, by go_num, Hs.out.1, fun u v hu => ?_⟩
            by_cases e : u = k
            · subst e; exact fun h => Hs.out.2 v h.2.1 h
            · exact Hr.out.2 u v (by omega)
    · have S := Lib.hid (cf_f (c := c) (l := l) fun u v h => Hr.out.2 u v (by have := h.1; have := h.2.1; omega) h)
      go_wp2
      go_ret3
      exact ⟨ret_iib S.out.1.symm S.out.2.1.symm (dec_false S.out.2.2).symm, Hr.out.1⟩

/-- The cells of a list in one block of its own. -/
theorem own_row_of {w : World} {b n c : Nat} {l : List Int} (h : OwnI w (.slice (some ⟨b, 0, none⟩) n c) l [b]) (hl : l.length = n) : n ≤ c ∧ c ≤ maxLen ∧ ∀ i, i < n → w.cell? ⟨b, i, none⟩ = some (.int .i64 (gi l i)) := by
  obtain ⟨⟨c', h1, h2, h3⟩, h4⟩ := h
  rcases h3 with ⟨_, hb, _⟩ | ⟨b', m, g, hb, hv, hm, hr, hf⟩
  · exact absurd hb (by simp)
  · obtain rfl : b = b' := by simpa using hb
    obtain ⟨_, rfl⟩ : n = l.length ∧ c = c' := by simpa using hv
    exact ⟨by omega, h2, fun i hi => by rw [hr.cell (by omega), hf i (by omega)]⟩

set_option maxHeartbeats 3200000 in
set_option maxRecDepth 100000 in
theorem taConflict_any {w : World} {v vl : Value} {N : Net} {l : List Int} (t : Nat) (ht : t ≤ 80) (h : NetAt w v N) (k : IntSl w vl l) (hG : Good N) (hl : l.length = N.ends.length) :
    Calls Try.prog 37 #[v, .int .i64 t, vl] w fun e w' => e = .returned (.tuple #[.int .i64 (cfU (seqC N t) l), .int .i64 (cfV (seqC N t) l), .bool (dec (HasCf (seqC N t) l))]) ∧ Ext w w' := by
  have HN := Lib.hid h
  obtain ⟨v0, v1, v2, rfl, -, -, -⟩ := h
  obtain ⟨a2, b2, o2, d2, rfl, ha2, hn2, hm2, hc2⟩ := k
  unfold maxLen at hm2
  rw [hl] at hn2 ha2 hc2 ⊢
  have HX := Lib.hid (boxed_ext w v0 v1 v2 31)
  have HR := Lib.hid (row3_made w v0 v1 v2 31)
  obtain ⟨p0, p1, p2, -, -, -⟩ := row3_facts HR.out
  have NI := Lib.hid (good_nodes hG)
  have hn0 : 0 < N.ends.length := hG.1.1
  have h40 : N.ends.length ≤ 40 := hG.1.2
  obtain ⟨n, hnn⟩ : ∃ n, n = N.ends.length := ⟨_, rfl⟩
  have SL := Lib.hid (seqC_len N t)
  have Hc2 := Lib.hid hc2
  have Ha2 := Lib.hid ha2
  clear hc2 ha2 hl hG
  go_enter Try.func37, Try.ntmps37
  go_wp2_with fail
  (with_reducible refine (viClasses_any t (by omega) (HN.out.ext HX.out) NI.out hn0 (by omega)).mono ?_)
  rintro e w1 ⟨b, rfl, hx, ho, hb⟩
  have K1 := Lib.hid (HX.out.trans' hx)
  have Hc := Lib.hid (own_row_of ho SL.out).2.2
  clear hx ho hb p0 p1 p2
  rw [← hnn] at hn2 Ha2 Hc2 hn0 h40 Hc SL ⊢
  clear hnn
  go_wp2
  go_loopg [17] n (fun g i wr => ∃ k : Nat, k ≤ n ∧ g = n - k ∧ i = .int .i64 k ∧ Hid (Ext w1 wr ∧ ∀ u v, u < k → ¬ CfAt (seqC N t) l u v))
  case atStart => exact ⟨0, Nat.zero_le _, rfl, rfl, Ext.rfl' _, fun u v hu => absurd hu (by omega)⟩
  case round =>
    obtain ⟨k, hk, rfl, rfl, Hr⟩ := hrel
    by_cases hlt : k < n
    · go_wp2
      go_loopg [11] (n - (k + 1)) (fun g i wx => ∃ j : Nat, k + 1 ≤ j ∧ j ≤ n ∧ g = n - j ∧ i = .int .i64 j ∧ Hid (Ext w1 wx ∧ ∀ v, v < j → ¬ CfAt (seqC N t) l k v))
      case atStart => exact ⟨k + 1, Nat.le_refl _, hlt, rfl, by go_num, Hr.out.1, fun v hv h => absurd h.1 (by omega)⟩
      case round =>
        obtain ⟨j, hj1, hj2, rfl, rfl, Hs⟩ := hrel
        by_cases hjt : j < n
        · have r1 := Hs.out.1.cell' (Hc.out k hlt)
          have r2 := Hs.out.1.cell' (Hc.out j hjt)
          obtain ⟨_, r3, rfl, _⟩ := Hc2.out k hlt
          obtain ⟨_, r4, rfl, _⟩ := Hc2.out j hjt
          obtain rfl := Ha2.out (by omega)
          have r3' := Hs.out.1.cell' (K1.out.cell' r3)
          have r4' := Hs.out.1.cell' (K1.out.cell' r4)
          clear r3 r4
          by_cases e1 : gi (seqC N t) k = gi (seqC N t) j
          · have b1 : (gi (seqC N t) k == gi (seqC N t) j) = true := by simp [e1]
            by_cases e2 : gi l k = gi l j
            · have b2 : (gi l k != gi l j) = false := by simp [e2]
              have S := Lib.hid (show ¬ CfAt (seqC N t) l k j from fun h => h.2.2.2 e2)
              clear e1 e2
              go_wp2
              go_quiet (fail)
              go_wp2
              go_roundg (n - (j + 1))
              case measure => omega
              case rel =>
                refine ⟨j + 1, by omega, by omega, rfl, by go_num, Hs.out.1.drewN' _, fun v hv => ?_⟩
                by_cases e : v = j
                · subst e; exact S.out
                · exact Hs.out.2 v (by omega)
            · have b2 : (gi l k != gi l j) = true := by simp [e2]
              have S := Lib.hid (cf_t (c := seqC N t) (l := l) (u := k) (v := j) ⟨⟨by omega, by rw [SL.out]; exact hjt, e1, e2⟩, Hs.out.2, fun u v hu => Hr.out.2 u v hu⟩)
              clear e1 e2
              go_wp2
              go_quiet (fail)
              go_wp2
              go_ret3
              exact ⟨ret_iib S.out.1.symm S.out.2.1.symm (dec_true S.out.2.2).symm, K1.out.trans' (Hs.out.1.drewN' _)⟩
          · have b1 : (gi (seqC N t) k == gi (seqC N t) j) = false := by simp [e1]
            have S := Lib.hid (show ¬ CfAt (seqC N t) l k j from fun h => e1 h.2.2.1)
            clear e1
            go_wp2
            go_quiet (fail)
            go_wp2
            go_roundg (n - (j + 1))
            case measure => omega
            case rel =>
              refine ⟨j + 1, by omega, by omega, rfl, by go_num, Hs.out.1.drewN' _, fun v hv => ?_⟩
              by_cases e : v = j
              · subst e; exact S.out
              · exact Hs.out.2 v (by omega)
        · have e : j = n := by omega
          subst e
          go_wp2
          go_roundg (j - (k + 1))
          case measure => omega
          case rel =>
            refine ⟨k + 1, hlt, rfl, by go_num, Hs.out.1, fun u v hu => ?_⟩
            by_cases e : u = k
            · subst e; exact fun h => Hs.out.2 v (by have := h.2.1; rw [SL.out] at this; exact this) h
            · exact Hr.out.2 u v (by omega)
    · have S := Lib.hid (cf_f (c := seqC N t) (l := l) fun u v h => Hr.out.2 u v (by have := h.1; have h2 := h.2.1; rw [SL.out] at h2; omega) h)
      go_wp2
      go_ret3
      exact ⟨ret_iib S.out.1.symm S.out.2.1.symm (dec_false S.out.2.2).symm, K1.out.trans' Hr.out.1⟩

theorem bool_ret {b c : Bool} (h : b = c) : Ending.returned (.bool b) = .returned (.bool c) := by rw [h]

set_option maxHeartbeats 1600000 in
set_option maxRecDepth 100000 in
theorem hasOutputs_any {w : World} {v vl : Value} {N : Net} {l : List Int} (h : NetAt w v N) (k : IntSl w vl l) :
    Calls Try.prog 40 #[v, vl] w fun e w' => e = .returned (.bool (dec (OutsOK N l))) ∧ Ext w w' := by
  have HN := Lib.hid h
  have HL := Lib.hid k
  obtain ⟨v0, v1, v2, rfl, hE, -, -⟩ := h
  obtain ⟨a0, _, _, c0, rfl, -, -, hm0, -⟩ := hE
  obtain ⟨a2, b2, o2, d2, rfl, -, -, hm2, -⟩ := k
  unfold maxLen at hm2 hm0
  have HX := Lib.hid (boxed_ext w (.slice a0 N.ends.length c0) v1 v2 31)
  have HR := Lib.hid (row3_made w (.slice a0 N.ends.length c0) v1 v2 31)
  obtain ⟨p0, p1, p2, -, -, -⟩ := row3_facts HR.out
  by_cases hg : Good N
  case neg =>
    have G := Lib.hid (dec_false hg)
    have D := Lib.hid (dec_false (p := OutsOK N l) fun h => hg h.1)
    clear hg
    go_enter Try.func40, Try.ntmps40
    go_wp2_with (first | (go_at_call 47; (with_reducible refine (isNetwork_any (HN.out.ext HX.out)).mono ?_); rintro e w1 ⟨rfl, hw⟩; rw [G.out]; have K1 := Lib.hid (HX.out.trans' hw); clear hw))
    go_ret
    exact ⟨bool_ret D.out.symm, K1.out⟩
  have G := Lib.hid (dec_true hg)
  by_cases hl : l.length = N.ends.length
  case neg =>
    have D := Lib.hid (dec_false (p := OutsOK N l) fun h => hl h.2.1)
    have b1 : ((l.length : Int) == (N.ends.length : Int)) = false := by simp; omega
    clear hg hl
    go_enter Try.func40, Try.ntmps40
    go_wp2_with fail
    (with_reducible refine (isNetwork_any (HN.out.ext HX.out)).mono ?_)
    rintro e w1 ⟨rfl, hw⟩
    rw [G.out]
    have K1 := Lib.hid (HX.out.trans' hw)
    obtain ⟨q0, q1, q2, -, -, -⟩ := row3_facts (row_ext HR.out hw)
    clear hw p0 p1 p2
    go_wp2
    go_ret
    exact ⟨bool_ret D.out.symm, K1.out⟩
  have b1 : ((l.length : Int) == (N.ends.length : Int)) = true := by simp [hl]
  have D := Lib.hid (show dec (AllIn l 0 99) = dec (OutsOK N l) from dec_congr ⟨fun h => ⟨hg, hl, h⟩, fun h => h.2.2⟩)
  clear hg hl
  go_enter Try.func40, Try.ntmps40
  go_wp2_with fail
  (with_reducible refine (isNetwork_any (HN.out.ext HX.out)).mono ?_)
  rintro e w1 ⟨rfl, hw⟩
  rw [G.out]
  have K1 := Lib.hid (HX.out.trans' hw)
  obtain ⟨q0, q1, q2, -, -, -⟩ := row3_facts (row_ext HR.out hw)
  clear hw p0 p1 p2
  go_wp2_with (first | (go_at_call 69; (with_reducible refine (areBetween_any _ _ (HL.out.ext K1.out)).mono ?_); rintro e w2 ⟨rfl, rfl⟩; rw [D.out]))
  go_ret
  exact ⟨rfl, K1.out⟩

set_option maxHeartbeats 1600000 in
set_option maxRecDepth 100000 in
theorem taOuts_any {w : World} {v vl : Value} {N : Net} {l : List Int} (h : NetAt w v N) (k : IntSl w vl l) :
    Calls Try.prog 35 #[v, vl] w fun e w' => e = .returned (.bool (dec (OutsOK N l))) ∧ Ext w w' := by
  have HN := Lib.hid h
  have HL := Lib.hid k
  obtain ⟨v0, v1, v2, rfl, hE, -, -⟩ := h
  obtain ⟨a0, _, _, c0, rfl, -, -, hm0, -⟩ := hE
  obtain ⟨a2, b2, o2, d2, rfl, -, -, hm2, -⟩ := k
  unfold maxLen at hm2 hm0
  have HX := Lib.hid (boxed_ext w (.slice a0 N.ends.length c0) v1 v2 31)
  have HR := Lib.hid (row3_made w (.slice a0 N.ends.length c0) v1 v2 31)
  obtain ⟨p0, p1, p2, -, -, -⟩ := row3_facts HR.out
  by_cases hg : Good N
  case neg =>
    have G := Lib.hid (dec_false hg)
    have D := Lib.hid (dec_false (p := OutsOK N l) fun h => hg h.1)
    clear hg
    go_enter Try.func35, Try.ntmps35
    go_wp2_with (first | (go_at_call 44; (with_reducible refine (neGood_any (HN.out.ext HX.out)).mono ?_); rintro e w1 ⟨rfl, hw⟩; rw [G.out]; have K1 := Lib.hid (HX.out.trans' hw); clear hw))
    go_ret
    exact ⟨bool_ret D.out.symm, K1.out⟩
  have G := Lib.hid (dec_true hg)
  by_cases hl : l.length = N.ends.length
  case neg =>
    have D := Lib.hid (dec_false (p := OutsOK N l) fun h => hl h.2.1)
    have b1 : ((l.length : Int) == (N.ends.length : Int)) = false := by simp; omega
    clear hg hl
    go_enter Try.func35, Try.ntmps35
    go_wp2_with fail
    (with_reducible refine (neGood_any (HN.out.ext HX.out)).mono ?_)
    rintro e w1 ⟨rfl, hw⟩
    rw [G.out]
    have K1 := Lib.hid (HX.out.trans' hw)
    obtain ⟨q0, q1, q2, -, -, -⟩ := row3_facts (row_ext HR.out hw)
    clear hw p0 p1 p2
    go_wp2
    go_ret
    exact ⟨bool_ret D.out.symm, K1.out⟩
  have b1 : ((l.length : Int) == (N.ends.length : Int)) = true := by simp [hl]
  have D := Lib.hid (show dec (AllIn l 0 99) = dec (OutsOK N l) from dec_congr ⟨fun h => ⟨hg, hl, h⟩, fun h => h.2.2⟩)
  clear hg hl
  go_enter Try.func35, Try.ntmps35
  go_wp2_with fail
  (with_reducible refine (neGood_any (HN.out.ext HX.out)).mono ?_)
  rintro e w1 ⟨rfl, hw⟩
  rw [G.out]
  have K1 := Lib.hid (HX.out.trans' hw)
  obtain ⟨q0, q1, q2, -, -, -⟩ := row3_facts (row_ext HR.out hw)
  clear hw p0 p1 p2
  go_wp2_with (first | (go_at_call 65; (with_reducible refine (l1All_any _ _ (HL.out.ext K1.out)).mono ?_); rintro e w2 ⟨rfl, rfl⟩; rw [D.out]))
  go_ret
  exact ⟨rfl, K1.out⟩
end Go.Proofs.Ytdoaopeegcakiaa
