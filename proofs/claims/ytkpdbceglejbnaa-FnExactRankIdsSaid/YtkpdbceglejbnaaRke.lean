/- The model's RankIds: a copy of the network whose identifiers are written over, one after another. -/
import Derived.Test.YtkpdbceglejbnaaRkd
namespace Go.Proofs.Ytkpdbceglejbnaa
open Go.RowKit

theorem gi_setR (l : List Int) (k i : Nat) (y : Int) (hk : k < l.length) : gi (l.set k y) i = if i = k then y else gi l i := by
  unfold gi
  rw [List.getD_eq_getElem?_getD, List.getElem?_set]
  by_cases e : k = i
  · subst e; simp [hk]
  · rw [if_neg e, if_neg (fun h => e h.symm), List.getD_eq_getElem?_getD]
theorem OwnI.putR {w : World} {v : Value} {l : List Int} {bs : List Nat} (h : OwnI w v l bs) {k : Nat} (hk : k < l.length) :
    ∃ b c, v = .slice (some ⟨b, 0, none⟩) l.length c ∧ bs = [b] ∧ w.cell? ⟨b, k, none⟩ = some (.int .i64 (gi l k)) ∧ w.frozen? ⟨b, k, none⟩ = false ∧
      ∀ (w' : World) (y : Int), w'.heap[b]? = w.heap[b]? → inI64 y → OwnI (w'.setCell ⟨b, k, none⟩ (.int .i64 y)) v (l.set k y) [b] := by
  obtain ⟨⟨c, hc1, hc2, ho⟩, hr⟩ := h
  rcases ho with ⟨hn, _⟩ | ⟨b, m, g, rfl, rfl, ⟨hm, hmc⟩, hrow, hg⟩
  · omega
  · refine ⟨b, c, rfl, rfl, by rw [hrow.cell (by omega), hg k (by omega)], hrow.frozen _, fun w' y hw hy => ⟨⟨c, by simpa using hc1, hc2, .inr ⟨b, m, _, rfl, by simp, ⟨by simpa using hm, hmc⟩, (hrow.of_block hw).set k (.int .i64 y), fun i hi => ?_⟩⟩, fun i hi => ?_⟩⟩
    · show _ = Value.int .i64 (gi (l.set k y) i)
      rw [gi_setR _ _ _ _ hk]
      by_cases e : i = k
      · simp [e]
      · simp only [if_neg e]; exact hg i (by simpa using hi)
    · rw [gi_setR _ _ _ _ hk]
      by_cases e : i = k
      · rw [if_pos e]; exact hy
      · rw [if_neg e]; exact hr i (by simpa using hi)
theorem OwnNet.putIdR {w : World} {v0 v1 v2 : Value} {N : Net} {bs : List Nat} (h : OwnNet w (.agg #[v0, v1, v2]) N bs) (hnd : bs.Nodup) {k : Nat} (hk : k < N.ids.length) :
    ∃ b c, v1 = .slice (some ⟨b, 0, none⟩) N.ids.length c ∧ b ∈ bs ∧ w.cell? ⟨b, k, none⟩ = some (.int .i64 (gi N.ids k)) ∧ w.frozen? ⟨b, k, none⟩ = false ∧
      ∀ (w' : World) (y : Int), (∀ x ∈ bs, w'.heap[x]? = w.heap[x]?) → inI64 y → OwnNet (w'.setCell ⟨b, k, none⟩ (.int .i64 y)) (.agg #[v0, v1, v2]) (withIds N (N.ids.set k y)) bs := by
  obtain ⟨y0, y1, y2, b0, b1, b2, e, h0, h1, h2, rfl⟩ := h
  simp only [Value.agg.injEq, Array.mk.injEq, List.cons.injEq, and_true] at e
  obtain ⟨rfl, rfl, rfl⟩ := e
  obtain ⟨n0, n12, n3⟩ := List.nodup_append.1 hnd
  obtain ⟨n1, n2, n4⟩ := List.nodup_append.1 n12
  obtain ⟨b, c, hv, rfl, hx, hf, hp⟩ := h1.putR hk
  refine ⟨b, c, hv, by simp, hx, hf, fun w' y hw hy => ?_⟩
  have hk0 : ∀ x ∈ b0, (w'.setCell ⟨b, k, none⟩ (.int .i64 y)).heap[x]? = w.heap[x]? := fun x hx => by
    rw [Below.heap_setCell _ _ _ _ (fun e => n3 x hx b (by simp) e), hw x (by simp [hx])]
  have hk2 : ∀ x ∈ b2, (w'.setCell ⟨b, k, none⟩ (.int .i64 y)).heap[x]? = w.heap[x]? := fun x hx => by
    rw [Below.heap_setCell _ _ _ _ (fun e => n4 b (by simp) x hx e.symm), hw x (by simp [hx])]
  exact ⟨_, _, _, b0, [b], b2, rfl, h0.keep hk0, hp w' y (hw b (by simp)) hy, h2.keep hk2, rfl⟩

/-- The identifiers when k of them are ranks. -/
def mixR (l : List Int) (k : Nat) : List Int := (rankL l).take k ++ l.drop k
theorem mixR_len (l : List Int) {k : Nat} (h : k ≤ l.length) : (mixR l k).length = l.length := by simp [mixR, rankL_len]; omega
theorem mixR_zero (l : List Int) : mixR l 0 = l := by simp [mixR]
theorem mixR_all (l : List Int) : mixR l l.length = rankL l := by
  have := rankL_len l
  simp [mixR, ← this]
theorem mixR_set (l : List Int) {k : Nat} (h : k < l.length) : (mixR l k).set k (gi (rankL l) k) = mixR l (k + 1) := by
  have h1 : k < (rankL l).length := by rw [rankL_len]; exact h
  have e : gi (rankL l) k = (rankL l)[k] := by simp [gi, h1]
  have t : (rankL l).take (k + 1) = (rankL l).take k ++ [(rankL l)[k]] := (List.take_append_getElem h1).symm
  unfold mixR
  rw [e, t, List.set_append_right _ _ (by simp only [List.length_take]; omega)]
  have hz : k - ((rankL l).take k).length = 0 := by simp only [List.length_take]; omega
  rw [hz, List.drop_eq_getElem_cons h, List.set_cons_zero]
  simp only [List.append_assoc, List.cons_append, List.nil_append]

/-- The box of the network when k identifiers are ranks. -/
structure Ranked (w : World) (N : Net) (p k : Nat) (v0 v1 v2 : Value) (bs : List Nat) (W : World) : Prop where
  ext : Ext w W
  box : W.rowIs p 34 3 (tri v0 v1 v2)
  own : OwnNet W (.agg #[v0, v1, v2]) (withIds N (mixR N.ids k)) bs
  nodup : bs.Nodup
  ge : ∀ b ∈ bs, w.heap.size ≤ b ∧ b < p
theorem Ranked.mono' {w W W' : World} {N : Net} {p k : Nat} {v0 v1 v2 : Value} {bs : List Nat} (h : Ranked w N p k v0 v1 v2 bs W) (hx : Ext W W') : Ranked w N p k v0 v1 v2 bs W' :=
  ⟨h.ext.trans' hx, row_ext h.box hx, h.own.ext hx, h.nodup, h.ge⟩
theorem Ranked.step {w W : World} {N : Net} {p k : Nat} {v0 v1 v2 : Value} {bs : List Nat} (h : Ranked w N p k v0 v1 v2 bs W) (hk : k < N.ids.length) (hl : N.ids.length ≤ 40) :
    ∃ b c, v1 = .slice (some ⟨b, 0, none⟩) N.ids.length c ∧ W.cell? ⟨b, k, none⟩ = some (.int .i64 (gi (mixR N.ids k) k)) ∧ W.frozen? ⟨b, k, none⟩ = false ∧
      Ranked w N p (k + 1) v0 v1 v2 bs (W.setCell ⟨b, k, none⟩ (.int .i64 (gi (rankL N.ids) k))) := by
  have hm := mixR_len N.ids (show k ≤ N.ids.length by omega)
  obtain ⟨b, c, hv, hb, hx, hf, hp⟩ := h.own.putIdR h.nodup (k := k) (by show k < (mixR N.ids k).length; omega)
  refine ⟨b, c, by rw [hv]; show _ = Value.slice _ _ _; rw [show (withIds N (mixR N.ids k)).ids.length = N.ids.length from hm], hx, hf, h.ext.store (h.ge b hb).1 _, h.box.of_block (Below.heap_setCell _ _ _ _ (by have := (h.ge b hb).2; show p ≠ b; omega)), ?_, h.nodup, h.ge⟩
  have hin : inI64 (gi (rankL N.ids) k) := by rw [gi_rank hk]; have := lessC_le N.ids (gi N.ids k); unfold inI64; omega
  have := hp W (gi (rankL N.ids) k) (fun _ _ => rfl) hin
  have e : (withIds (withIds N (mixR N.ids k)) ((withIds N (mixR N.ids k)).ids.set k (gi (rankL N.ids) k))) = withIds N (mixR N.ids (k + 1)) := by
    rw [← mixR_set N.ids hk]; rfl
  rw [e] at this
  exact this

set_option maxHeartbeats 3200000 in
set_option maxRecDepth 100000 in
theorem specRankIds_any {w : World} {v : Value} {N : Net} (h : NetAt w v N) :
    Calls Try.prog 49 #[v] w fun e w' => ∃ v' bs, e = .returned (.tuple #[v', .bool (dec (RankB N))]) ∧ Ext w w' ∧ OwnNet w' v' (rankAns N) bs ∧ Fresh w bs := by
  have HN := Lib.hid h
  obtain ⟨v0, v1, v2, rfl, hE, hI, hP⟩ := h
  have HIr := Lib.hid hI.range
  obtain ⟨da, db, dq, dc, rfl, hda, hdl, hdm, hdc⟩ := hI
  unfold maxLen at hdm
  have Hdc := Lib.hid hdc
  have Hda := Lib.hid hda
  clear hE hP hdc hda
  have HX := Lib.hid (boxed2_ext w v0 (.slice da N.ids.length dc) v2)
  have HR := Lib.hid (boxed2_row w v0 (.slice da N.ids.length dc) v2)
  have HQ := Lib.hid (boxed2_res w v0 (.slice da N.ids.length dc) v2)
  by_cases hg : Good N
  case neg =>
    have G := Lib.hid (dec_false hg)
    have D : Hid (dec (RankB N) = false) := dec_false fun k => hg k.1
    have E : Hid (rankAns N = zeroNet) := rankAns_f fun k => hg k.1
    clear hg
    go_enter Try.func49, Try.ntmps49
    go_wp2_with (first | (go_at_call 62; (with_reducible refine (neGood_any (HN.out.ext HX.out)).mono ?_); rintro e w1 ⟨rfl, hw⟩; rw [G.out]; have K1 := Lib.hid (HX.out.trans' hw); obtain ⟨s0, s1, s2, -, -, -⟩ := row3_facts (row_ext HR.out hw); obtain ⟨q0, q1, q2, t0, t1, t2⟩ := row3_facts (row_ext HQ.out hw); clear hw))
    refine bodyPost_ret (v := .tuple #[znet, .bool false]) (by simp [results, Try.results49, go_sem, q0, q1, q2, znet]) rfl ⟨_, [], ret_net D.out.symm, store3_ext K1.out (by omega) _ _ _, by rw [E.out]; exact own_zero _, Fresh.nil _⟩
  have G := Lib.hid (dec_true hg)
  have GS := Lib.hid (good_small hg)
  have h40 : N.ids.length ≤ 40 := by have := hg.1.2; have := hg.2.2.1.1; omega
  by_cases hz : N.ids.length = 0
  case pos =>
    have D : Hid (dec (RankB N) = false) := dec_false fun k => absurd k.2 (by omega)
    have E : Hid (rankAns N = zeroNet) := rankAns_f fun k => absurd k.2 (by omega)
    have Z : ((N.ids.length : Int) == 0) = true := by simp only [beq_iff_eq]; omega
    clear hg hz
    go_enter Try.func49, Try.ntmps49
    go_wp2_with (first | (go_at_call 62; (with_reducible refine (neGood_any (HN.out.ext HX.out)).mono ?_); rintro e w1 ⟨rfl, hw⟩; rw [G.out]; have K1 := Lib.hid (HX.out.trans' hw); obtain ⟨s0, s1, s2, -, -, -⟩ := row3_facts (row_ext HR.out hw); obtain ⟨q0, q1, q2, t0, t1, t2⟩ := row3_facts (row_ext HQ.out hw); clear hw))
    refine bodyPost_ret (v := .tuple #[znet, .bool false]) (by simp [results, Try.results49, go_sem, q0, q1, q2, znet]) rfl ⟨_, [], ret_net D.out.symm, store3_ext K1.out (by omega) _ _ _, by rw [E.out]; exact own_zero _, Fresh.nil _⟩
  have Z : ((N.ids.length : Int) == 0) = false := by simp only [beq_eq_false_iff_ne]; omega
  have RB := Lib.hid (show RankB N from ⟨hg, by omega⟩)
  have D := Lib.hid (dec_true RB.out)
  have E := Lib.hid (rankAns_t RB.out)
  obtain rfl := Hda.out (by omega)
  clear hg hz
  go_enter Try.func49, Try.ntmps49
  go_wp2_with fail
  (with_reducible refine (neGood_any (HN.out.ext HX.out)).mono ?_)
  rintro e w1 ⟨rfl, hw⟩
  rw [G.out]
  have K1 := Lib.hid (HX.out.trans' hw)
  have R1 := Lib.hid (row_ext HR.out hw)
  have Q1 := Lib.hid (row_ext HQ.out hw)
  obtain ⟨s0, s1, s2, -, -, -⟩ := row3_facts R1.out
  clear hw
  go_wp2_with fail
  (with_reducible refine (neOwn_any (HN.out.ext K1.out) GS.out).mono ?_)
  rintro e w2 ⟨y, bs, rfl, hw, ho, hf⟩
  obtain ⟨a0, c0, a1, c1, a2, c2, rfl⟩ := ho.agg
  have hXA := hw.trans' ((Ext.rfl' w2).alloc' (.cells #[.slice a0 N.ends.length c0, .slice a1 N.ids.length c1, .slice a2 N.inputs.length c2] 34))
  have M := Lib.hid (show Ranked w1 N w2.heap.size 0 (.slice a0 N.ends.length c0) (.slice a1 N.ids.length c1) (.slice a2 N.inputs.length c2) bs (w2.alloc (.cells #[.slice a0 N.ends.length c0, .slice a1 N.ids.length c1, .slice a2 N.inputs.length c2] 34)) from
    ⟨hXA, row3_made w2 _ _ _ _, by rw [mixR_zero]; exact ho.ext ((Ext.rfl' _).alloc' _), hf.1, fun b hb => ⟨hf.2 b hb, ho.lt b hb⟩⟩)
  clear s0 s1 s2
  obtain ⟨s0, s1, s2, -, -, -⟩ := row3_facts (row_ext R1.out hXA)
  have ZP := Lib.hid (show w1.heap.size ≤ w2.heap.size from hw.size)
  clear ho hf hw hXA
  go_wp2_with fail
  go_loopg [25] N.ids.length (fun g i wr => ∃ k : Nat, k ≤ N.ids.length ∧ g = N.ids.length - k ∧ i = .int .i64 k ∧ Hid (Ranked w1 N w2.heap.size k (.slice a0 N.ends.length c0) (.slice a1 N.ids.length c1) (.slice a2 N.inputs.length c2) bs wr))
  case atStart => exact ⟨0, Nat.zero_le _, rfl, rfl, M.out⟩
  case round =>
    obtain ⟨k, hk, rfl, rfl, Hr⟩ := hrel
    have EX := Lib.hid (K1.out.trans' Hr.out.ext)
    obtain ⟨s0, s1, s2, -, -, -⟩ := row3_facts (row_ext R1.out Hr.out.ext)
    by_cases hlt : k < N.ids.length
    · obtain ⟨x, hx, rfl, _⟩ := Hdc.out k hlt
      have hcell := EX.out.cell' hx
      obtain ⟨t, ht⟩ : ∃ t, t = gi N.ids k := ⟨_, rfl⟩
      have HT := Lib.hid ht
      rw [← ht] at hcell
      clear hx ht
      go_wp2
      have hw0 : ∃ wo : World, wo = wr := ⟨_, rfl⟩
      obtain ⟨wo, hwo⟩ := hw0
      have HWO := Lib.hid hwo
      clear hwo
      go_loopg [7, 33] N.ids.length (fun g r i wx => ∃ j : Nat, j ≤ N.ids.length ∧ g = N.ids.length - j ∧ r = .int .i64 ((1 + lessC (N.ids.take j) t : Nat) : Int) ∧ i = .int .i64 j ∧ Hid (wo = wx))
      case atStart => exact ⟨0, Nat.zero_le _, rfl, by simp [lessC], rfl, HWO.out⟩
      case round =>
        obtain ⟨j, hj, rfl, rfl, rfl, Hs⟩ := hrel
        by_cases hjt : j < N.ids.length
        · obtain ⟨y, hy, rfl, _⟩ := Hdc.out j hjt
          have hcy := (EX.out.trans' (by rw [← HWO.out, Hs.out]; exact Ext.rfl' _ : Ext _ wr)).cell' hy
          obtain ⟨z, hz⟩ : ∃ z, z = gi N.ids j := ⟨_, rfl⟩
          have HZ := Lib.hid hz
          rw [← hz] at hcy
          have LS := Lib.hid (lessC_succ N.ids t hjt)
          clear hy hz
          by_cases c : z < t
          · have hc : decide (z < t) = true := decide_eq_true c
            have L1 := Lib.hid (show lessC (N.ids.take (j + 1)) t = lessC (N.ids.take j) t + 1 by rw [LS.out, ← HZ.out, if_pos c])
            have L2 := Lib.hid (show lessC (N.ids.take j) t ≤ 40 from Nat.le_trans (lessC_le _ _) (by simp; omega))
            clear c
            go_wp2
            go_roundg (N.ids.length - (j + 1))
            case measure => omega
            case rel => exact ⟨j + 1, by omega, rfl, by have h2 := L2.out; rw [L1.out, show wrap64 (1 + (lessC (List.take j N.ids) t : Int) + 1) = 1 + (lessC (List.take j N.ids) t : Int) + 1 by unfold wrap64; omega]; simp; omega, by go_num, Hs.out⟩
          · have hc : decide (z < t) = false := decide_eq_false c
            have L1 := Lib.hid (show lessC (N.ids.take (j + 1)) t = lessC (N.ids.take j) t by rw [LS.out, ← HZ.out, if_neg c]; rfl)
            clear c
            go_wp2
            go_roundg (N.ids.length - (j + 1))
            case measure => omega
            case rel => exact ⟨j + 1, by omega, rfl, by rw [L1.out], by go_num, Hs.out⟩
        · obtain rfl : j = N.ids.length := by omega
          have hrk : ((1 + lessC (N.ids.take N.ids.length) t : Nat) : Int) = gi (rankL N.ids) k := by rw [List.take_length, gi_rank hlt, HT.out]; simp
          rw [hrk]
          have HS := Lib.hid (show wo = wr from Hs.out)
          have HRK : Hid (Ranked w1 N w2.heap.size k (.slice a0 N.ends.length c0) (.slice a1 N.ids.length c1) (.slice a2 N.inputs.length c2) bs wr) := by rw [← HS.out, HWO.out]; exact Hr.out
          obtain ⟨b, c, hv, q4, q5, hm⟩ := HRK.out.step hlt h40
          simp only [Value.slice.injEq, true_and] at hv
          obtain ⟨rfl, rfl⟩ := hv
          have M1 := Lib.hid hm
          obtain ⟨p0, p1, p2, -, -, -⟩ := row3_facts HRK.out.box
          clear hm hrk s0 s1 s2 hcell
          go_wp2
          go_roundg (N.ids.length - (k + 1))
          case measure => omega
          case rel => exact ⟨k + 1, by omega, rfl, by go_num, M1⟩
    · obtain rfl : k = N.ids.length := by omega
      have K := Lib.hid EX.out
      have O := Lib.hid (show OwnNet _ _ (rankAns N) bs by rw [E.out, ← mixR_all]; exact Hr.out.own)
      have HB := Lib.hid (show ∀ b ∈ bs, w.heap.size + 2 ≤ b from fun b hb => by have := (Hr.out.ge b hb).1; have := Q1.out.lt; omega)
      have HND := Lib.hid Hr.out.nodup
      obtain ⟨p0, p1, p2, -, -, -⟩ := row3_facts Hr.out.box
      obtain ⟨q0, q1, q2, t0, t1, t2⟩ := row3_facts (row_ext Q1.out Hr.out.ext)
      clear s0 s1 s2
      go_wp2
      refine bodyPost_ret (v := .tuple #[.agg #[.slice a0 N.ends.length c0, .slice a1 N.ids.length c1, .slice a2 N.inputs.length c2], .bool true]) (by simp [results, Try.results49, go_sem, q0, q1, q2]) rfl ?_
      have hc := close_net K.out O.out HND.out HB.out
      exact ⟨_, bs, ret_net D.out.symm, hc.1, hc.2.1, hc.2.2⟩
end Go.Proofs.Ytkpdbceglejbnaa
