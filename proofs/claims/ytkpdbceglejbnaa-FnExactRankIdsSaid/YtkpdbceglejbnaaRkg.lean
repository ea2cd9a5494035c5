/- The program's RankIds. -/
import Derived.Test.YtkpdbceglejbnaaRkf
import Derived.Deep.RegionHeld3
namespace Go.Proofs.Ytkpdbceglejbnaa
open Go.RowKit

theorem ret_iTR {b b' : Int} (h : b = b') : Ending.returned (.int .i64 b) = .returned (.int .i64 b') := by rw [h]
set_option maxHeartbeats 1600000 in
set_option maxRecDepth 100000 in
theorem indexR_any {w : World} {v : Value} {l : List Int} (h : IntSl w v l) (hs : l.length ≤ 1048576) (x : Int) :
    Calls Try.prog 77 #[v, .int .i64 x] w fun e w' => e = .returned (.int .i64 (ixR (fun i => gi l i == x) l.length)) ∧ w = w' := by
  obtain ⟨a, b, o, c, rfl, ha, hl, hm, hc⟩ := h
  unfold maxLen at hm
  have Hc := Lib.hid hc
  have Ha := Lib.hid ha
  clear hc ha
  obtain ⟨n, hn⟩ : ∃ n, n = l.length := ⟨_, rfl⟩
  have HN := Lib.hid hn
  rw [← hn] at hl hs ⊢
  clear hn
  go_enter Try.func77, Try.ntmps77
  go_wp2
  go_loopg [8] n (fun g i wr => ∃ k : Nat, k ≤ n ∧ g = n - k ∧ i = .int .i64 (k : Int) ∧ Hid (w = wr ∧ ∀ j, j < k → (gi l j == x) = false))
  case atStart => exact ⟨0, Nat.zero_le _, rfl, rfl, rfl, fun j hj => absurd hj (by omega)⟩
  case round =>
    obtain ⟨k, hk, rfl, rfl, Hr⟩ := hrel
    obtain rfl := Hr.out.1
    by_cases hlt : k < n
    · obtain ⟨y, hy, rfl, _⟩ := Hc.out k (by have := HN.out; omega)
      obtain rfl := Ha.out (by have := HN.out; omega)
      by_cases e : gi l k = x
      · have b1 : (x == gi l k) = true := by simp [e]
        have HI := Lib.hid (show ixR (fun i => gi l i == x) n = (k : Int) from ixR_hit Hr.out.2 (by simp [e]) n hlt)
        clear e
        go_wp2
        go_ret
        exact ⟨ret_iTR HI.out.symm, rfl⟩
      · have b1 : (x == gi l k) = false := by simp; exact fun h => e h.symm
        have S := Lib.hid (show (gi l k == x) = false by simp [e])
        clear e
        go_wp2
        go_roundg (n - (k + 1))
        case measure => omega
        case rel =>
          refine ⟨k + 1, by omega, rfl, by go_num, rfl, fun j hj => ?_⟩
          by_cases e : j = k
          · subst e; exact S.out
          · exact Hr.out.2 j (by omega)
    · obtain rfl : k = n := by omega
      have HI := Lib.hid (show ixR (fun i => gi l i == x) k = -1 from ixR_none k Hr.out.2)
      go_wp2
      go_ret
      exact ⟨ret_iTR HI.out.symm, rfl⟩

theorem rank_ints {w : World} {b : Nat} {l : List Int} {n : Nat} (h : w.rowIs b 3 n (copied l n)) (hl : l.length = n) (hn : n ≤ 40) (hr : ∀ i, i < l.length → inI64 (gi l i)) : OwnI w (.slice (some ⟨b, 0, none⟩) n n) l [b] := by
  subst hl
  exact ⟨⟨l.length, Nat.le_refl _, by unfold maxLen; omega, .inr ⟨b, l.length, copied l l.length, rfl, rfl, by omega, h, fun i hi => by simp [copied]; omega⟩⟩, hr⟩
theorem rank_in {l : List Int} (hl : l.length ≤ 40) : ∀ i, i < (rankL l).length → inI64 (gi (rankL l) i) := fun i hi => by
  rw [rankL_len] at hi
  rw [gi_rank hi]
  have := lessC_le l (gi l i)
  unfold inI64; omega

set_option maxHeartbeats 3200000 in
set_option maxRecDepth 100000 in
theorem implRankIds_any {w : World} {v : Value} {N : Net} (h : NetAt w v N) :
    Calls Try.prog 50 #[v] w fun e w' => ∃ v' bs, e = .returned (.tuple #[v', .bool (dec (RankB N))]) ∧ Ext w w' ∧ OwnNet w' v' (rankAns N) bs ∧ Fresh w bs := by
  have HN := Lib.hid h
  obtain ⟨v0, v1, v2, rfl, hE, hI, hP⟩ := h
  have HI := Lib.hid hI
  have HIr := Lib.hid hI.range
  obtain ⟨da, db, dq, dc, rfl, hda, hdl, hdm, hdc⟩ := hI
  unfold maxLen at hdm
  have Hdc := Lib.hid hdc
  have Hda := Lib.hid hda
  clear hE hP hdc hda
  have HX := Lib.hid (boxed2_ext w v0 (.slice da N.ids.length dc) v2)
  have HR := Lib.hid (boxed2_row w v0 (.slice da N.ids.length dc) v2)
  have HQ := Lib.hid (boxed2_res w v0 (.slice da N.ids.length dc) v2)
  by_cases hg : Good N
  case neg =>
    have G := Lib.hid (dec_false hg)
    have D : Hid (dec (RankB N) = false) := dec_false fun k => hg k.1
    have E : Hid (rankAns N = zeroNet) := rankAns_f fun k => hg k.1
    clear hg
    go_enter Try.func50, Try.ntmps50
    go_wp2_with (first | (go_at_call 73; (with_reducible refine (isNetwork_any (HN.out.ext HX.out)).mono ?_); rintro e w1 ⟨rfl, hw⟩; rw [G.out]; have K1 := Lib.hid (HX.out.trans' hw); obtain ⟨s0, s1, s2, -, -, -⟩ := row3_facts (row_ext HR.out hw); obtain ⟨q0, q1, q2, t0, t1, t2⟩ := row3_facts (row_ext HQ.out hw); clear hw))
    refine bodyPost_ret (v := .tuple #[znet, .bool false]) (by simp [results, Try.results50, go_sem, q0, q1, q2, znet]) rfl ⟨_, [], ret_net D.out.symm, store3_ext K1.out (by omega) _ _ _, by rw [E.out]; exact own_zero _, Fresh.nil _⟩
  have G := Lib.hid (dec_true hg)
  have h40 : N.ids.length ≤ 40 := by have := hg.1.2; have := hg.2.2.1.1; omega
  by_cases hz : N.ids.length = 0
  case pos =>
    have D : Hid (dec (RankB N) = false) := dec_false fun k => absurd k.2 (by omega)
    have E : Hid (rankAns N = zeroNet) := rankAns_f fun k => absurd k.2 (by omega)
    have Z : ((N.ids.length : Int) == 0) = true := by simp only [beq_iff_eq]; omega
    clear hg hz
    go_enter Try.func50, Try.ntmps50
    go_wp2_with (first | (go_at_call 73; (with_reducible refine (isNetwork_any (HN.out.ext HX.out)).mono ?_); rintro e w1 ⟨rfl, hw⟩; rw [G.out]; have K1 := Lib.hid (HX.out.trans' hw); obtain ⟨s0, s1, s2, -, -, -⟩ := row3_facts (row_ext HR.out hw); obtain ⟨q0, q1, q2, t0, t1, t2⟩ := row3_facts (row_ext HQ.out hw); clear hw))
    refine bodyPost_ret (v := .tuple #[znet, .bool false]) (by simp [results, Try.results50, go_sem, q0, q1, q2, znet]) rfl ⟨_, [], ret_net D.out.symm, store3_ext K1.out (by omega) _ _ _, by rw [E.out]; exact own_zero _, Fresh.nil _⟩
  have Z : ((N.ids.length : Int) == 0) = false := by simp only [beq_eq_false_iff_ne]; omega
  have RB := Lib.hid (show RankB N from ⟨hg, by omega⟩)
  have D := Lib.hid (dec_true RB.out)
  have hmk := run_make_row' (P := Try.prog) 26 3 (.int .i64 0) 8 Try.underlying26 Try.info3 rfl .i64 .i64 N.ids.length (by omega) (by omega)
  obtain rfl := Hda.out (by omega)
  have HP0 := Lib.hid (show 0 < N.ids.length by omega)
  clear hg hz
  go_enter Try.func50, Try.ntmps50
  go_wp2_with fail
  (with_reducible refine (isNetwork_any (HN.out.ext HX.out)).mono ?_)
  rintro e w1 ⟨rfl, hw⟩
  rw [G.out]
  have K1 := Lib.hid (HX.out.trans' hw)
  have R1 := Lib.hid (row_ext HR.out hw)
  have Q1 := Lib.hid (row_ext HQ.out hw)
  obtain ⟨s0, s1, s2, -, -, -⟩ := row3_facts R1.out
  clear hw
  go_wp2_with fail
  (with_reducible refine (values_any).mono ?_)
  rintro e w2 ⟨rfl, hw2⟩
  have E2 := Lib.hid (show Ext w1 w2 by rw [hw2]; exact (Ext.rfl' _).alloc' _)
  have C2 := Lib.hid (show w2.rowIs w1.heap.size 26 1 (fun _ => .slice (some ⟨db, dq, none⟩) N.ids.length dc) by rw [hw2]; exact row1_madeI _ _ _)
  clear hw2 s0 s1 s2
  go_wp2_with fail
  (with_reducible refine (sortedV_any C2.out (HI.out.ext (K1.out.trans' E2.out)) HP0.out (by omega)).mono ?_)
  rintro e w3 ⟨vs, rfl, hx, ho⟩
  have K3 := Lib.hid ((K1.out.trans' E2.out).trans' hx)
  have R3 := Lib.hid (row_ext R1.out (E2.out.trans' hx))
  have Q3 := Lib.hid (row_ext Q1.out (E2.out.trans' hx))
  obtain ⟨S, hS⟩ : ∃ S, S = N.ids.mergeSort fun x y => decide (x ≤ y) := ⟨_, rfl⟩
  rw [← hS] at ho
  have hSl : S.length = N.ids.length := by rw [hS]; exact (List.mergeSort_perm _ _).length_eq
  rw [← hSl] at ho
  obtain ⟨cs, hoo, -, -⟩ := own_of_cells ho (fun i hi => by
    have hm : gi S i ∈ N.ids := by
      have := gi_memR hi
      rw [hS] at this ⊢
      exact (List.mergeSort_perm _ _).mem_iff.1 this
    obtain ⟨j, hj, e⟩ := List.getElem_of_mem hm
    have := HIr.out j hj
    rw [← e]
    simpa [gi, hj] using this)
  have IS := Lib.hid hoo.read
  have SL := Lib.hid hSl
  have HIX : Hid (∀ k, k < N.ids.length → ∃ r : Nat, ixR (fun j => gi S j == gi N.ids k) S.length = (r : Int) ∧ wrap64 ((r : Int) + 1) = gi (rankL N.ids) k) := fun k hk => by
    have e := ix_rank hk
    rw [← hS, ← hSl] at e
    have g := gi_rank hk
    have hle := lessC_le N.ids (gi N.ids k)
    refine ⟨lessC N.ids (gi N.ids k), by omega, ?_⟩
    unfold wrap64
    omega
  obtain ⟨sa, sc, rfl⟩ := hoo.1.slice
  rw [hSl] at hoo
  obtain ⟨W4, hW4⟩ : ∃ W4, W4 = w3.alloc (.cells (madeCells #[.int .i64 0] N.ids.length) 3) := ⟨_, rfl⟩
  have E4 := Lib.hid (show Ext w3 W4 by rw [hW4]; exact (Ext.rfl' _).alloc' _)
  have R4 := Lib.hid (show W4.rowIs w3.heap.size 3 N.ids.length (copied (rankL N.ids) 0) by
    rw [hW4]; exact (World.rowIs_made w3 (.int .i64 0) N.ids.length 3).congr fun i _ => by simp [copied])
  obtain ⟨s0, s1, s2, -, -, -⟩ := row3_facts R3.out
  obtain ⟨t0, t1, t2, -, -, -⟩ := row3_facts (row_ext R3.out E4.out)
  clear hx ho hoo hS hSl
  go_upto_region 5 with fail
  rw [← hW4]
  clear hmk hW4 s0 s1 s2
  go_wp2
  go_loopg [29] N.ids.length (fun g i wr => ∃ k : Nat, k ≤ N.ids.length ∧ g = N.ids.length - k ∧ i = .int .i64 k ∧ Hid (Ext w3 wr ∧ wr.rowIs w3.heap.size 3 N.ids.length (copied (rankL N.ids) k)))
  case atStart => exact ⟨0, Nat.zero_le _, rfl, rfl, E4.out, R4.out⟩
  case round =>
    obtain ⟨k, hk, rfl, rfl, Hr⟩ := hrel
    by_cases hlt : k < N.ids.length
    · obtain ⟨x, hx, rfl, _⟩ := Hdc.out k hlt
      have hcell := (K3.out.trans' Hr.out.1).cell' hx
      obtain ⟨r, hr1, hr2⟩ := HIX.out k hlt
      have HR1 := Lib.hid hr1
      have z1 := Hr.out.2.cell (i := k) hlt
      have z2 := Hr.out.2.frozen k
      clear hx hr1
      go_wp2_with (first | (go_at_call 77; (with_reducible refine (indexR_any (IS.out.ext Hr.out.1) (by have := SL.out; omega) _).mono ?_); rintro e w5 ⟨rfl, rfl⟩; rw [HR1.out]) | fail)
      go_roundg (N.ids.length - (k + 1))
      case measure => omega
      case rel =>
        exact ⟨k + 1, by omega, rfl, by go_num, Hr.out.1.store (Nat.le_refl _) _, copied_step Hr.out.2⟩
    · obtain rfl : k = N.ids.length := by omega
      have KR := Lib.hid (K3.out.trans' Hr.out.1)
      have OR := Lib.hid (rank_ints Hr.out.2 (rankL_len _) h40 (rank_in h40))
      obtain ⟨s0, s1, s2, -, -, -⟩ := row3_facts (row_ext R3.out Hr.out.1)
      clear t0 t1 t2
      go_wp2_with fail
      (with_reducible refine (withIds_any (HN.out.ext KR.out) OR.out.read (by rw [rankL_len]; omega)).mono ?_)
      rintro e w6 ⟨v', bs, rfl, hx, ho, hf⟩
      rw [dec_true (show IdsB N (rankL N.ids) from ⟨RB.out.1, rank_ok RB.out⟩)]
      rw [ids_rank RB.out] at ho
      obtain ⟨a0, c0, a1, c1, a2, c2, rfl⟩ := ho.agg
      have K := Lib.hid (KR.out.trans' hx)
      have O := Lib.hid ho
      have HB := Lib.hid (show ∀ b ∈ bs, w.heap.size + 2 ≤ b from fun b hb => by have := hf.2 b hb; have := (Hr.out.1.size); have := Q3.out.lt; omega)
      have HND := Lib.hid hf.1
      obtain ⟨q0, q1, q2, t0, t1, t2⟩ := row3_facts (row_ext Q3.out (Hr.out.1.trans' hx))
      clear hx ho hf s0 s1 s2
      go_wp2
      refine bodyPost_ret (v := .tuple #[.agg #[.slice a0 (rankAns N).ends.length c0, .slice a1 (rankAns N).ids.length c1, .slice a2 (rankAns N).inputs.length c2], .bool true]) (by simp [results, Try.results50, go_sem, q0, q1, q2]) rfl ?_
      have hc := close_net K.out O.out HND.out HB.out
      exact ⟨_, bs, ret_net D.out.symm, hc.1, hc.2.1, hc.2.2⟩
end Go.Proofs.Ytkpdbceglejbnaa
