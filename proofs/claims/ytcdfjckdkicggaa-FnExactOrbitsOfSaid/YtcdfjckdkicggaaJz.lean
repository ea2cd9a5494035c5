/- The contracts of the model's OrbitsOf and FixedNodes. -/
import Derived.Test.YtcdfjckdkicggaaJy
namespace Go.Proofs.Ytcdfjckdkicggaa
open Go.RowKit

set_option maxHeartbeats 1600000 in
set_option maxRecDepth 100000 in
theorem specOrbitsOf_any {w : World} {v : Value} {N : Net} (h : NetAt w v N) :
    Calls Try.prog 31 #[v] w fun e w' => ∃ v' bs, e = .returned (.tuple #[v', .bool (dec (Good N))]) ∧ Ext w w' ∧ OwnI w' v' (orbAns N) bs ∧ Fresh w bs := by
  have HN := Lib.hid h
  obtain ⟨v0, v1, v2, rfl, -, -, -⟩ := h
  have HX := Lib.hid (boxed_ext w v0 v1 v2 31)
  have HR := Lib.hid (row3_made w v0 v1 v2 31)
  obtain ⟨p0, p1, p2, -, -, -⟩ := row3_facts HR.out
  by_cases hg : Good N
  case neg =>
    have G := Lib.hid (dec_false hg)
    have AN := Lib.hid (orbAns_f hg)
    clear hg
    go_enter Try.func31, Try.ntmps31
    go_wp2_with (first | (go_at_call 49; (with_reducible refine (neGood_any (HN.out.ext HX.out)).mono ?_); rintro e w1 ⟨rfl, hw⟩; rw [G.out]; have K1 := Lib.hid (HX.out.trans' hw); clear hw) | fail)
    go_ret2
    exact ⟨_, [], ret_lb G.out.symm, K1.out, by rw [AN.out]; exact own_nilI _, Fresh.nil _⟩
  have G := Lib.hid (dec_true hg)
  have AN := Lib.hid (orbAns_t hg)
  have HG := Lib.hid (good_w hg)
  clear hg
  go_enter Try.func31, Try.ntmps31
  go_wp2_with fail
  (with_reducible refine (neGood_any (HN.out.ext HX.out)).mono ?_)
  rintro e w1 ⟨rfl, hw⟩
  rw [G.out]
  have K1 := Lib.hid (HX.out.trans' hw)
  obtain ⟨q0, q1, q2, -, -, -⟩ := row3_facts (row_ext HR.out hw)
  clear hw p0 p1 p2
  go_wp2_with (first | (go_at_call 62; (with_reducible refine (isOrbits_any (HN.out.ext K1.out) HG.out).mono ?_); rintro e w2 ⟨b, rfl, hx2, ho, hb⟩; have K2 := Lib.hid (K1.out.trans' hx2); have OO := Lib.hid ho; have HB := Lib.hid (Nat.le_trans K1.out.size hb); clear hx2 ho hb) | fail)
  go_ret2
  exact ⟨_, [b], ret_lb G.out.symm, K2.out, by rw [AN.out]; exact OO.out, by simp, fun c hc => by obtain rfl := List.mem_singleton.1 hc; exact HB.out⟩

/-- The node is the least of its orbit, and none of the first t others is in it. -/
def AloneTo (N : Net) (k t : Nat) : Prop := orb N k = (k : Int) ∧ ∀ u : Nat, u < t → u ≠ k → orb N u ≠ orb N k

set_option maxHeartbeats 6400000 in
set_option maxRecDepth 100000 in
theorem specFixedNodes_any {w : World} {v : Value} {N : Net} (h : NetAt w v N) :
    Calls Try.prog 33 #[v] w fun e w' => ∃ v' bs, e = .returned (.tuple #[v', .bool (dec (Good N))]) ∧ Ext w w' ∧ OwnI w' v' (fixAns N) bs ∧ Fresh w bs := by
  have HN := Lib.hid h
  obtain ⟨v0, v1, v2, rfl, -, -, -⟩ := h
  have HX := Lib.hid (boxed_ext w v0 v1 v2 31)
  have HR := Lib.hid (row3_made w v0 v1 v2 31)
  obtain ⟨p0, p1, p2, -, -, -⟩ := row3_facts HR.out
  by_cases hg : Good N
  case neg =>
    have G := Lib.hid (dec_false hg)
    have AN := Lib.hid (fixAns_f hg)
    clear hg
    go_enter Try.func33, Try.ntmps33
    go_wp2_with (first | (go_at_call 49; (with_reducible refine (neGood_any (HN.out.ext HX.out)).mono ?_); rintro e w1 ⟨rfl, hw⟩; rw [G.out]; have K1 := Lib.hid (HX.out.trans' hw); clear hw) | fail)
    go_ret2
    exact ⟨_, [], ret_lb G.out.symm, K1.out, by rw [AN.out]; exact own_nilI _, Fresh.nil _⟩
  have G := Lib.hid (dec_true hg)
  have AN := Lib.hid (fixAns_t hg)
  have HG := Lib.hid (good_w hg)
  have h40 := HG.out.most
  have hone := HG.out.one
  clear hg
  obtain ⟨i0, hi, hz0, hz1, hz2⟩ := info_parts Try.info3
  have I0 := Lib.hid (And.intro hi (And.intro hz0 (And.intro hz1 hz2)))
  clear hi hz0 hz1 hz2
  go_enter Try.func33, Try.ntmps33
  go_wp2_with fail
  (with_reducible refine (neGood_any (HN.out.ext HX.out)).mono ?_)
  rintro e w1 ⟨rfl, hw⟩
  rw [G.out]
  have K1 := Lib.hid (HX.out.trans' hw)
  obtain ⟨q0, q1, q2, -, -, -⟩ := row3_facts (row_ext HR.out hw)
  clear hw p0 p1 p2
  go_wp2_with fail
  (with_reducible refine (isOrbits_any (HN.out.ext K1.out) HG.out).mono ?_)
  rintro e w2 ⟨b, rfl, hx2, ho, -⟩
  have K2 := Lib.hid (K1.out.trans' hx2)
  have CE : ∀ i, i < N.ends.length → w2.cell? ⟨b, i, none⟩ = some (.int .i64 (orb N i)) := fun i hi => by
    obtain ⟨a', b', o', c', e, ha, hl, hm, hc⟩ := ho.read
    simp only [Value.slice.injEq] at e
    obtain ⟨rfl, -, rfl⟩ := e
    have e2 := ha (by rw [orbL_len]; omega)
    simp only [Option.some.injEq, Addr.mk.injEq, and_true] at e2
    obtain ⟨rfl, rfl⟩ := e2
    obtain ⟨_, h1, rfl, _⟩ := hc i (by rw [orbL_len]; exact hi)
    rw [gi_orbL hi, Nat.zero_add] at h1
    exact h1
  have HC := Lib.hid CE
  clear hx2 ho q0 q1 q2 CE
  go_wp2
  go_loopg [5, 18] N.ends.length (fun g s i wr => ∃ k : Nat, k ≤ N.ends.length ∧ g = N.ends.length - k ∧ i = .int .i64 k ∧ Hid (Ext w2 wr ∧ GrowN w2.heap.size wr s (fixTo N k)))
  case atStart => exact ⟨0, Nat.zero_le _, rfl, rfl, Ext.rfl' _, GrowN.nil _ _⟩
  case round =>
    obtain ⟨k, hk, rfl, rfl, Hr⟩ := hrel
    by_cases hlt : k < N.ends.length
    · have hck := Hr.out.1.cell' (HC.out k hlt)
      have hcl := fixTo_len N k
      obtain ⟨o, -, hok, -, -⟩ := orb_spec hlt
      have HOK := Lib.hid hok
      rw [hok] at hck
      obtain ⟨bb, hbb⟩ : ∃ bb, bb = ((o : Int) == (k : Int)) := ⟨_, rfl⟩
      have HBB := Lib.hid hbb
      clear hok
      go_wp2_with fail
      rw [← hbb]
      clear hbb hck
      obtain ⟨wo, hwo⟩ : ∃ wo : World, wo = wr := ⟨_, rfl⟩
      subst hwo
      go_loopg [8, 28] N.ends.length (fun g al i wx => ∃ (t : Nat) (c : Bool), t ≤ N.ends.length ∧ g = N.ends.length - t ∧ i = .int .i64 t ∧ al = .bool c ∧ Hid (wx = wo ∧ (c = true ↔ AloneTo N k t)))
      case atStart => exact ⟨0, bb, Nat.zero_le _, rfl, rfl, rfl, rfl, by rw [HBB.out, beq_iff_eq]; exact ⟨fun e => ⟨by rw [HOK.out, e], fun u hu => absurd hu (by omega)⟩, fun h => by have := h.1; rw [HOK.out] at this; exact this⟩⟩
      case round =>
        obtain ⟨t, c, ht, rfl, rfl, rfl, Hs⟩ := hrel
        by_cases htl : t < N.ends.length
        · have hct := Hr.out.1.cell' (HC.out t htl)
          obtain ⟨p, -, hop, -, -⟩ := orb_spec htl
          have HOP := Lib.hid hop
          rw [hop, ← Hs.out.1] at hct
          clear hop
          cases c with
          | false =>
            have HNA := Lib.hid (show ¬ AloneTo N k (t + 1) from fun h => by
              have := Hs.out.2.2 ⟨h.1, fun u hu => h.2 u (by omega)⟩; simp at this)
            go_wp2
            go_roundg (N.ends.length - (t + 1))
            case measure => omega
            case rel => exact ⟨t + 1, false, by omega, rfl, by go_num, rfl, Hs.out.1, ⟨fun h => by simp at h, fun h => absurd h HNA.out⟩⟩
          | true =>
            have HAT := Lib.hid (Hs.out.2.1 rfl)
            by_cases htk : t = k
            · have hb1 : ((t : Int) == (k : Int)) = true := by simp [htk]
              have HA := Lib.hid (show AloneTo N k (t + 1) from ⟨HAT.out.1, fun u hu hne => HAT.out.2 u (by omega) hne⟩)
              clear htk
              go_wp2
              go_roundg (N.ends.length - (t + 1))
              case measure => omega
              case rel => exact ⟨t + 1, true, by omega, rfl, by go_num, rfl, Hs.out.1, ⟨fun _ => HA.out, fun _ => rfl⟩⟩
            · have hb1 : ((t : Int) == (k : Int)) = false := by simp; omega
              by_cases hop : p = o
              · have hb2 : ((p : Int) != (o : Int)) = false := by simp [hop]
                have HNA := Lib.hid (show ¬ AloneTo N k (t + 1) from fun h => h.2 t (by omega) htk (by rw [HOP.out, HOK.out, hop]))
                clear htk hop
                go_wp2
                go_roundg (N.ends.length - (t + 1))
                case measure => omega
                case rel => exact ⟨t + 1, false, by omega, rfl, by go_num, rfl, Hs.out.1, ⟨fun h => by simp at h, fun h => absurd h HNA.out⟩⟩
              · have hb2 : ((p : Int) != (o : Int)) = true := by simp; omega
                have HA := Lib.hid (show AloneTo N k (t + 1) from ⟨HAT.out.1, fun u hu hne => by
                  by_cases e : u = t
                  · subst e; rw [HOP.out, HOK.out]; omega
                  · exact HAT.out.2 u (by omega) hne⟩)
                clear htk hop
                go_wp2
                go_roundg (N.ends.length - (t + 1))
                case measure => omega
                case rel => exact ⟨t + 1, true, by omega, rfl, by go_num, rfl, Hs.out.1, ⟨fun _ => HA.out, fun _ => rfl⟩⟩
        · obtain rfl : t = N.ends.length := by omega
          obtain ⟨hw0, hc0⟩ := Hs.out
          subst hw0
          have SZ := Lib.hid Hr.out.1.size
          cases c with
          | false =>
            have HA := Lib.hid (show fixTo N (k + 1) = fixTo N k by
              simp only [fixTo]; rw [if_neg fun h => by have := hc0.2 ((alone_iff hlt).1 h); simp at this])
            clear hc0
            go_wp2
            go_roundg (N.ends.length - (k + 1))
            case measure => omega
            case rel => exact ⟨k + 1, by omega, rfl, by go_num, Hr.out.1, by rw [HA.out]; exact Hr.out.2⟩
          | true =>
            have HA := Lib.hid (show fixTo N (k + 1) = fixTo N k ++ [(k : Int)] by
              simp only [fixTo]; rw [if_pos (show (withC N (code N (k : Int))).length = 1 from (alone_iff hlt).2 (hc0.1 rfl))])
            clear hc0
            go_wp2_with (at_builtin; refine wpList_app2 rfl (.tmp 46) (.tmp 48) 23 rfl w2.heap.size 3 i0 (.int .i64 0) 1 8 Try.underlying23 I0.out.1 I0.out.2.1 I0.out.2.2.1 I0.out.2.2.2 rfl (by decide) _ (fixTo N k).length (intCells (fixTo N k)) rfl (Hr.out.2.ext ((Ext.rfl' _).alloc' _)) (some ⟨wr.heap.size, 0, none⟩) 1 1 (intCells [(k : Int)]) rfl (src_lits wr [(k : Int)] 1 rfl 3) (by unfold maxLen; omega) (by omega) (by have := SZ.out; simp; omega) ?_)
            intro v' w7 hg
            have FI := Lib.hid (show Ext w2 w7 ∧ GrowN w2.heap.size w7 v' (fixTo N k ++ [(k : Int)]) from ⟨grown_ext (Hr.out.1.alloc' _) (Nat.le_refl _) (Hr.out.2.ext ((Ext.rfl' _).alloc' _)) hg.1.2.1, GrowN.step hg.1 rfl⟩)
            clear hg
            go_wp2
            go_roundg (N.ends.length - (k + 1))
            case measure => omega
            case rel => exact ⟨k + 1, by omega, rfl, by go_num, FI.out.1, by rw [HA.out]; exact FI.out.2⟩
    · obtain rfl : k = N.ends.length := by omega
      go_wp2
      go_ret2
      obtain ⟨bs, ho, hn, hb⟩ := Hr.out.2.own fun i hi => by have := fixTo_mem N _ _ (gi_in hi); unfold inI64; omega
      exact ⟨_, bs, ret_lb G.out.symm, K2.out.trans' Hr.out.1, by rw [AN.out]; exact ho, hn, fun b' hb' => by have := hb b' hb'; have := K2.out.size; omega⟩
end Go.Proofs.Ytcdfjckdkicggaa
