/- The contract of the model's QuotientOf. -/
import Derived.Test.YtgacbfblpkikkaaQy
namespace Go.Proofs.Ytgacbfblpkikkaa
open Go.RowKit Go.Maps

theorem all_in {cl : List Int} {n : Nat} : AllIn cl 0 ((n : Int) - 1) ↔ ImIn cl n :=
  ⟨fun h v hv => by have := h v hv; omega, fun h v hv => by have := h v hv; omega⟩
theorem has_fib {cl : List Int} {k : Nat} : Has cl (k : Int) ↔ 0 < (fib cl (k : Int)).length := fib_nonempty.symm

set_option maxHeartbeats 3200000 in
set_option maxRecDepth 100000 in
theorem specQuotientOf_any {w : World} {v vl : Value} {N : Net} {cl : List Int} (h : NetAt w v N) (hf : IntSl w vl cl) :
    Calls Try.prog 46 #[v, vl] w fun e w' => ∃ v' bs, e = .returned (.tuple #[v', .bool (dec (QuoB N cl))]) ∧ Ext w w' ∧ OwnNet w' v' (quoAns N cl) bs ∧ Fresh w bs := by
  have HN := Lib.hid h
  have HF := Lib.hid hf
  obtain ⟨w0, v1, w2, rfl, hE, -, hP⟩ := h
  obtain ⟨ea, eb, eo, ec, rfl, -, hel, hem, -⟩ := hE
  obtain ⟨pa, pb, po, pc, rfl, -, hpl, hpm, -⟩ := hP
  obtain ⟨la, lb, lo, lc, rfl, -, hll, hlm, -⟩ := hf
  unfold maxLen at hem hpm hlm
  have HX := Lib.hid (boxed2_ext w (.slice ea N.ends.length ec) v1 (.slice pa N.inputs.length pc))
  have HR := Lib.hid (boxed2_row w (.slice ea N.ends.length ec) v1 (.slice pa N.inputs.length pc))
  have HQ := Lib.hid (boxed2_res w (.slice ea N.ends.length ec) v1 (.slice pa N.inputs.length pc))
  by_cases hg : Good N
  case neg =>
    have G := Lib.hid (dec_false hg)
    have E := Lib.hid (show ¬ QuoB N cl from fun k => hg k.1.1)
    clear hg
    go_enter Try.func46, Try.ntmps46
    go_wp2_with fail
    (with_reducible refine (neGood_any (HN.out.ext HX.out)).mono ?_)
    rintro e w1 ⟨rfl, hx1⟩
    rw [G.out]
    have K1 := Lib.hid (HX.out.trans' hx1)
    have R1 := Lib.hid (row_ext HR.out hx1)
    have Q1 := Lib.hid (row_ext HQ.out hx1)
    clear hx1
    obtain ⟨q0, q1, q2, t0, t1, t2⟩ := row3_facts (Q1.out)
    go_wp2
    refine bodyPost_ret (v := .tuple #[znet, .bool false]) (by simp [results, Try.results46, go_sem, q0, q1, q2, znet]) rfl ⟨_, [], ret_net (dec_false E.out).symm, store3_ext K1.out (by omega) _ _ _, by rw [quoAns_f E.out]; exact own_zero _, Fresh.nil _⟩
  have G := Lib.hid (dec_true hg)
  have HG := Lib.hid hg
  have h40 := hg.1.2
  have h01 := hg.1.1
  clear hg
  by_cases hl : cl.length = N.ends.length
  case neg =>
    have hlb : ((cl.length : Int) != (N.ends.length : Int)) = true := by simp; omega
    have E := Lib.hid (show ¬ QuoB N cl from fun k => hl k.1.2.1)
    clear hl
    go_enter Try.func46, Try.ntmps46
    go_wp2_with fail
    (with_reducible refine (neGood_any (HN.out.ext HX.out)).mono ?_)
    rintro e w1 ⟨rfl, hx1⟩
    rw [G.out]
    have K1 := Lib.hid (HX.out.trans' hx1)
    have R1 := Lib.hid (row_ext HR.out hx1)
    have Q1 := Lib.hid (row_ext HQ.out hx1)
    clear hx1
    obtain ⟨p0, p1, p2, -, -, -⟩ := row3_facts R1.out
    obtain ⟨q0, q1, q2, t0, t1, t2⟩ := row3_facts (Q1.out)
    go_wp2
    refine bodyPost_ret (v := .tuple #[znet, .bool false]) (by simp [results, Try.results46, go_sem, q0, q1, q2, znet]) rfl ⟨_, [], ret_net (dec_false E.out).symm, store3_ext K1.out (by omega) _ _ _, by rw [quoAns_f E.out]; exact own_zero _, Fresh.nil _⟩
  have hlb : ((cl.length : Int) != (N.ends.length : Int)) = false := by simp; omega
  have HL := Lib.hid hl
  have hl40 : cl.length ≤ 40 ∧ 1 ≤ cl.length := by omega
  clear hl
  by_cases hp : AllIn cl 0 ((N.ends.length : Int) - 1)
  case neg =>
    have DP := Lib.hid (dec_false hp)
    have E := Lib.hid (show ¬ QuoB N cl from fun k => hp (all_in.2 k.1.2.2))
    clear hp
    go_enter Try.func46, Try.ntmps46
    go_wp2_with fail
    (with_reducible refine (neGood_any (HN.out.ext HX.out)).mono ?_)
    rintro e w1 ⟨rfl, hx1⟩
    rw [G.out]
    have K1 := Lib.hid (HX.out.trans' hx1)
    have R1 := Lib.hid (row_ext HR.out hx1)
    have Q1 := Lib.hid (row_ext HQ.out hx1)
    clear hx1
    obtain ⟨p0, p1, p2, -, -, -⟩ := row3_facts R1.out
    go_wp2_with fail
    clear p0 p1 p2
    (with_reducible refine (l1All_any _ _ (HF.out.ext K1.out)).mono ?_)
    rintro e w3 ⟨rfl, rfl⟩
    rw [DP.out]
    obtain ⟨q0, q1, q2, t0, t1, t2⟩ := row3_facts (Q1.out)
    go_wp2
    refine bodyPost_ret (v := .tuple #[znet, .bool false]) (by simp [results, Try.results46, go_sem, q0, q1, q2, znet]) rfl ⟨_, [], ret_net (dec_false E.out).symm, store3_ext K1.out (by omega) _ _ _, by rw [quoAns_f E.out]; exact own_zero _, Fresh.nil _⟩
  have DP := Lib.hid (dec_true hp)
  have HIN := Lib.hid (all_in.1 hp)
  have hm := mny_le (n := cl.length) (by rw [HL.out]; exact HIN.out) hl40.2
  obtain ⟨hm1, hm2⟩ := hm
  have HMX := Lib.hid (mny_eq cl)
  have HRG := Lib.hid (show ∀ i, i < cl.length → 0 ≤ gi cl i ∧ gi cl i ≤ 1048576 from fun i hi => by have := all_in.1 hp i hi; omega)
  have HMC := Lib.hid (show ImIn cl (mny cl) from fun i hi => by
    have h1 := all_in.1 hp i hi
    have h2 := maxI_ge hi
    have h3 := mny_eq cl
    omega)
  have hl1 : 0 < cl.length := by omega
  clear hp
  go_enter Try.func46, Try.ntmps46
  go_wp2_with fail
  (with_reducible refine (neGood_any (HN.out.ext HX.out)).mono ?_)
  rintro e w1 ⟨rfl, hx1⟩
  rw [G.out]
  have K1 := Lib.hid (HX.out.trans' hx1)
  have R1 := Lib.hid (row_ext HR.out hx1)
  have Q1 := Lib.hid (row_ext HQ.out hx1)
  clear hx1
  obtain ⟨p0, p1, p2, -, -, -⟩ := row3_facts R1.out
  go_wp2_with fail
  clear p0 p1 p2
  (with_reducible refine (l1All_any _ _ (HF.out.ext K1.out)).mono ?_)
  rintro e w3 ⟨rfl, rfl⟩
  rw [DP.out]
  go_wp2_with fail
  (with_reducible refine (viMany_any (HF.out.ext K1.out) HRG.out hl1).mono ?_)
  rintro e w3 ⟨rfl, rfl⟩
  rw [← HMX.out]
  obtain ⟨c, hc⟩ : ∃ c, c = mny cl := ⟨_, rfl⟩
  rw [← hc] at hm1 hm2 ⊢
  have HC := Lib.hid hc
  clear hc
  go_wp2_with fail
  go_loopg [7] c (fun g i wr => ∃ k : Nat, k ≤ c ∧ g = c - k ∧ i = .int .i64 k ∧ Hid (Ext w1 wr ∧ ∀ j : Nat, j < k → 0 < (fib cl (j : Int)).length))
  case atStart => exact ⟨0, Nat.zero_le _, rfl, rfl, Ext.rfl' _, fun j hj => absurd hj (by omega)⟩
  case round =>
    obtain ⟨k, hk, rfl, rfl, Hr⟩ := hrel
    have X2 := Lib.hid Hr.out.1
    have K2 := Lib.hid (K1.out.trans' Hr.out.1)
    have Q2 := Lib.hid (row_ext Q1.out Hr.out.1)
    have R2 := Lib.hid (row_ext R1.out Hr.out.1)
    have HU := Lib.hid Hr.out.2
    clear Hr
    by_cases hlt : k < c
    · by_cases hh : Has cl (k : Int)
      · have D := Lib.hid (dec_true hh)
        have F := Lib.hid (has_fib.1 hh)
        clear hh
        go_wp2_with fail
        (with_reducible refine (l1Has_any (k : Int) (HF.out.ext K2.out)).mono ?_)
        rintro e w3 ⟨rfl, rfl⟩
        rw [D.out]
        go_wp2
        go_roundg (c - (k + 1))
        case measure => omega
        case rel => exact ⟨k + 1, by omega, rfl, by go_num, X2.out, fun j hj => by
          by_cases e : j = k
          · subst e; exact F.out
          · exact HU.out j (by omega)⟩
      · have D := Lib.hid (dec_false hh)
        have E := Lib.hid (show ¬ QuoB N cl from fun q => hh (has_fib.2 (q.2.1 k (by rw [← HC.out]; exact hlt))))
        clear hh
        go_wp2_with fail
        (with_reducible refine (l1Has_any (k : Int) (HF.out.ext K2.out)).mono ?_)
        rintro e w3 ⟨rfl, rfl⟩
        rw [D.out]
        obtain ⟨q0, q1, q2, t0, t1, t2⟩ := row3_facts (Q2.out)
        go_wp2
        refine bodyPost_ret (v := .tuple #[znet, .bool false]) (by simp [results, Try.results46, go_sem, q0, q1, q2, znet]) rfl ⟨_, [], ret_net (dec_false E.out).symm, store3_ext K2.out (by omega) _ _ _, by rw [quoAns_f E.out]; exact own_zero _, Fresh.nil _⟩
    · obtain rfl : k = c := by omega
      have HUS := Lib.hid (show Used cl from fun j hj => HU.out j (by rw [HC.out]; exact hj))
      obtain ⟨p0, p1, p2, -, -, -⟩ := row3_facts R2.out
      go_wp2_with fail
      clear p0 p1 p2
      have hmk : ImIn cl k := by rw [HC.out]; exact HMC.out
      have hk4 : k ≤ 1048576 := by omega
      (with_reducible refine (specQuot_any (c := k) (HN.out.ext K2.out) (HF.out.ext K2.out) HG.out HL.out hmk hk4).mono ?_)
      rintro e w4 ⟨z, bs, rfl, hx4, ho, hfr⟩
      have hdn : downNet N cl k = quotNet N cl (mny cl) := by rw [HC.out]; exact downNet_quot HIN.out HL.out HUS.out
      rw [hdn] at ho
      obtain ⟨a0, c0, a1, c1, a2, c2, rfl⟩ := ho.agg
      have K4 := Lib.hid (K2.out.trans' hx4)
      have Q4 := Lib.hid (row_ext Q2.out hx4)
      have R4 := Lib.hid (row_ext R2.out hx4)
      have HO := Lib.hid ho
      have HFR := Lib.hid hfr
      have HSZ := Lib.hid (show ∀ x ∈ bs, w.heap.size + 2 ≤ x from fun x hx => by have := hfr.2 x hx; have := Q2.out.lt; omega)
      clear hdn hx4 ho hfr
      obtain ⟨W5, hW5⟩ : ∃ W5, W5 = w4.alloc (.cells #[.slice a0 (quotNet N cl (mny cl)).ends.length c0, .slice a1 (quotNet N cl (mny cl)).ids.length c1, .slice a2 (quotNet N cl (mny cl)).inputs.length c2] 29) := ⟨_, rfl⟩
      have X5 := Lib.hid (show Ext w4 W5 by rw [hW5]; exact (Ext.rfl' _).alloc' _)
      have S5 := Lib.hid (show W5.rowIs w4.heap.size 29 3 (tri (.slice a0 (quotNet N cl (mny cl)).ends.length c0) (.slice a1 (quotNet N cl (mny cl)).ids.length c1) (.slice a2 (quotNet N cl (mny cl)).inputs.length c2)) by rw [hW5]; exact row3_made w4 _ _ _ _)
      have K5 := Lib.hid (K4.out.trans' X5.out)
      have R5 := Lib.hid (row_ext R4.out X5.out)
      have Q5 := Lib.hid (row_ext Q4.out X5.out)
      have O5 := Lib.hid (HO.out.ext X5.out)
      obtain ⟨p0, p1, p2, -, -, -⟩ := row3_facts R5.out
      obtain ⟨s0, s1, s2, -, -, -⟩ := row3_facts S5.out
      rw [hW5] at p0 p1 p2 s0 s1 s2
      go_wp2_with fail
      rw [← hW5]
      clear hW5 p0 p1 p2 s0 s1 s2
      (with_reducible refine (coAsked_any (HN.out.ext K5.out) O5.out.read (HF.out.ext K5.out)).mono ?_)
      rintro e w8 ⟨rfl, hx8⟩
      have X8 := Lib.hid hx8
      have K8 := Lib.hid (K5.out.trans' hx8)
      have Q8 := Lib.hid (row_ext Q5.out hx8)
      have S8 := Lib.hid (row_ext S5.out hx8)
      clear hx8
      by_cases hp : PmAns N (quotNet N cl (mny cl)) cl
      · have D := Lib.hid (dec_true hp)
        have E := Lib.hid (show QuoB N cl from ⟨⟨HG.out, HL.out, HIN.out⟩, HUS.out, hp⟩)
        clear hp
        rw [D.out]
        obtain ⟨s0, s1, s2, -, -, -⟩ := row3_facts S8.out
        obtain ⟨q0, q1, q2, t0, t1, t2⟩ := row3_facts Q8.out
        go_wp2
        obtain ⟨c0', c1', c2'⟩ := close_net K8.out (O5.out.ext X8.out) HFR.out.1 HSZ.out
        refine bodyPost_ret (v := .tuple #[.agg #[.slice a0 (quotNet N cl (mny cl)).ends.length c0, .slice a1 (quotNet N cl (mny cl)).ids.length c1, .slice a2 (quotNet N cl (mny cl)).inputs.length c2], .bool true]) (by simp [results, Try.results46, go_sem, q0, q1, q2]) rfl ⟨_, bs, ret_net (dec_true E.out).symm, c0', by rw [quoAns_t E.out]; exact c1', c2'⟩
      · have D := Lib.hid (dec_false hp)
        have E := Lib.hid (show ¬ QuoB N cl from fun k => hp k.2.2)
        clear hp
        rw [D.out]
        obtain ⟨q0, q1, q2, t0, t1, t2⟩ := row3_facts (Q8.out)
        go_wp2
        refine bodyPost_ret (v := .tuple #[znet, .bool false]) (by simp [results, Try.results46, go_sem, q0, q1, q2, znet]) rfl ⟨_, [], ret_net (dec_false E.out).symm, store3_ext K8.out (by omega) _ _ _, by rw [quoAns_f E.out]; exact own_zero _, Fresh.nil _⟩
theorem quotientOfL_any {w : World} {v vl : Value} {N : Net} {cl : List Int} (h : NetAt w v N) (hf : IntSl w vl cl) (_ : cl.length ≤ 1048576) :
    Calls Try.prog 47 #[v, vl] w fun e w' => ∃ v' bs, e = .returned (.tuple #[v', .bool (dec (QuoB N cl))]) ∧ Ext w w' ∧ OwnNet w' v' (quoAns N cl) bs ∧ Fresh w bs := quotientOf_any h hf
theorem specQuotientOfL_any {w : World} {v vl : Value} {N : Net} {cl : List Int} (h : NetAt w v N) (hf : IntSl w vl cl) (_ : cl.length ≤ 1048576) :
    Calls Try.prog 46 #[v, vl] w fun e w' => ∃ v' bs, e = .returned (.tuple #[v', .bool (dec (QuoB N cl))]) ∧ Ext w w' ∧ OwnNet w' v' (quoAns N cl) bs ∧ Fresh w bs := specQuotientOf_any h hf
end Go.Proofs.Ytgacbfblpkikkaa
