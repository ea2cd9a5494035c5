/- Circulant networks: the contract of the program's CirculantNetwork, whatever the arguments. -/
import Derived.Test.YtecdelmcnbgglaaCi
namespace Go.Proofs.Ytecdelmcnbgglaa
open Go.RowKit

set_option maxHeartbeats 3200000 in
set_option maxRecDepth 100000 in
theorem circ_any {w : World} {vl : Value} {l : List Int} (n : Int) (hsl : IntSl w vl l) :
    Calls Try.prog 36 #[.int .i64 n, vl] w fun e w' => ∃ v' bs, e = .returned (.tuple #[v', .bool (dec (CiOK n l))]) ∧ Ext w w' ∧ OwnNet w' v' (ciAns n l) bs ∧ Fresh w bs := by
  obtain ⟨a, b, o, c, rfl, ha, -, hm, hc⟩ := hsl
  unfold maxLen at hm
  have Hc := Lib.hid hc
  have Ha := Lib.hid ha
  clear hc ha
  have HX := Lib.hid ((Ext.rfl' w).alloc' (.cells #[.slice none 0 0, .slice none 0 0, .slice none 0 0] 25))
  have HR := Lib.hid (And.intro (row3_made w (.slice none 0 0) (.slice none 0 0) (.slice none 0 0) 25) (show (w.alloc (.cells #[.slice none 0 0, .slice none 0 0, .slice none 0 0] 25)).heap.size = w.heap.size + 1 by simp))
  by_cases h : InB n 1 40
  · have D := Lib.hid (dec_true h)
    obtain ⟨k, rfl⟩ := Int.eq_ofNat_of_zero_le (a := n) (by have := h.1; omega)
    have h1 : 1 ≤ k := by have := h.1; omega
    have h7 : k ≤ 40 := by have := h.2; omega
    have HB := Lib.hid h
    clear h
    by_cases h3 : l.length ≤ 3
    · obtain ⟨i4, hi, hz0, hz1, hz2⟩ := info_parts Try.infoTEE
      have I4 := Lib.hid (And.intro hi (And.intro hz0 (And.intro hz1 hz2)))
      clear hi hz0 hz1 hz2
      go_enter Try.func36, Try.ntmps36
      go_wp2_with (first | (go_at_call 55; (with_reducible refine (isBetween_any (k : Int) _ _ _).mono ?_); rintro e w' ⟨rfl, rfl⟩; rw [D.out]) | fail)
      generalize w.alloc (.cells #[.slice none 0 0, .slice none 0 0, .slice none 0 0] 25) = W0 at *
      go_loopg [6, 22] l.length (fun g s i wr => ∃ t : Nat, t ≤ l.length ∧ g = l.length - t ∧ i = .int .i64 t ∧ Hid (Ext W0 wr ∧ (∀ j, j < t → 0 ≤ gi l j ∧ gi l j ≤ (k : Int) - 1) ∧ wr.ownsRow W0.heap.size 55 4 s (t * k) (endCells (catTo (ciEdge k l) k t))))
      case atStart => exact ⟨0, Nat.zero_le _, rfl, rfl, (Ext.rfl' W0).alloc' _, fun j hj => absurd hj (by omega), by rw [Nat.zero_mul, ← HR.out.2]; exact owns_lit W0 _ _⟩
      case round =>
        obtain ⟨t, ht, rfl, rfl, Hr⟩ := hrel
        by_cases hlt : t < l.length
        · obtain ⟨y, hc, rfl, _⟩ := Hc.out t hlt
          obtain rfl := Ha.out (by omega)
          have hc' := (HX.out.trans' Hr.out.1).cell' hc
          clear hc
          by_cases hb : InB (gi l t) 0 ((k : Int) - 1)
          · obtain ⟨s, hst⟩ := Int.eq_ofNat_of_zero_le (a := gi l t) hb.1
            have D1 := Lib.hid (dec_true (hst ▸ hb))
            have HS := Lib.hid (show stepAt l t = s ∧ 0 ≤ gi l t ∧ gi l t ≤ (k : Int) - 1 from ⟨by unfold stepAt; rw [hst]; rfl, hb.1, hb.2⟩)
            have hsk : s < k := by have := hb.2; omega
            rw [hst] at hc'
            clear hb hst
            go_wp2_with (first | (go_at_call 55; (with_reducible refine (isBetween_any (s : Int) _ _ _).mono ?_); rintro e w' ⟨rfl, rfl⟩; rw [D1.out]) | fail)
            have hw0 : ∃ wo : World, wo = wr := ⟨_, rfl⟩
            obtain ⟨wo, rfl⟩ := hw0
            go_loopg [6, 34] k (fun g s i wx => ∃ j : Nat, j ≤ k ∧ g = k - j ∧ i = .int .i64 j ∧ Hid (Ext W0 wx ∧ wx.ownsRow W0.heap.size 55 4 s (t * k + j) (endCells (catSome (ciEdge k l) k t j))))
            case atStart => exact ⟨0, Nat.zero_le _, rfl, rfl, Hr.out.1, by rw [catSome_zero]; exact Hr.out.2.2⟩
            case round =>
              obtain ⟨j, hj, rfl, rfl, Hs⟩ := hrel
              by_cases hjt : j < k
              · have hvk : t * k ≤ 1600 := mul_1600 (by omega) (by omega)
                have HZ := Lib.hid Hs.out.1.size
                have hmod : ((j : Int) + (s : Int)) % (k : Int) = (((j + s) % k : Nat) : Int) := by rw [Int.natCast_emod, Int.natCast_add]
                obtain ⟨x, hx⟩ : ∃ x : Nat, x = (j + s) % k := ⟨_, rfl⟩
                rw [← hx] at hmod
                have hk0 : (k : Int) ≠ 0 := by omega
                have hxk : x < k := by rw [hx]; exact Nat.mod_lt _ (by omega)
                have HXX := Lib.hid hx
                clear hx
                go_wp2_with (at_builtin; refine wpList_app rfl (.tmp 37) (.tmp 52) 54 rfl W0.heap.size 55 i4 (.agg #[.int .i64 0, .int .i64 0, .int .i64 0, .int .i64 0]) 4 32 Try.underlying54 I4.out.1 I4.out.2.1 I4.out.2.2.1 I4.out.2.2.2 rfl (by decide) u6 (t * k + j) (endCells (catSome (ciEdge k l) k t j)) rfl (owns_ext Hs.out.2 ((Ext.rfl' _).alloc' _)) (some ⟨wr.heap.size, 0, none⟩) 1 1 [.int .i64 j, .int .i64 (2 * (t : Int)), .int .i64 x, .int .i64 (2 * (t : Int) + 1)] rfl (src_four _ _ _ _ _ _ rfl rfl rfl rfl) (by unfold maxLen; omega) (by omega) (Nat.le_trans HZ.out ((Ext.rfl' wr).alloc' _).size) ?_; intro v' w3 hg; obtain ⟨g5, g6⟩ := flat_step4 ((Ext.rfl' _).alloc' _) Hs.out.2 hg; have G5 := Lib.hid g5; have G6 := Lib.hid (g6 W0 Hs.out.1 (Nat.le_refl _)); clear hg g5 g6)
                go_roundg (k - (j + 1))
                case measure => omega
                case rel =>
                  refine ⟨j + 1, by omega, rfl, by go_num, G6.out, ?_⟩
                  rw [catSome_succ, ciEdge, HS.out.1, ← HXX.out, show ((2 * t : Nat) : Int) = 2 * (t : Int) by omega, show ((2 * t + 1 : Nat) : Int) = 2 * (t : Int) + 1 by omega]
                  exact G5.out
              · obtain rfl : j = k := by omega
                go_wp2
                go_roundg (l.length - (t + 1))
                case measure => omega
                case rel =>
                  refine ⟨t + 1, by omega, rfl, by go_num, Hs.out.1, fun i hi => ?_, by rw [← catSome_all, Nat.succ_mul]; exact Hs.out.2⟩
                  by_cases e : i = t
                  · subst e; exact HS.out.2
                  · exact Hr.out.2.1 i (by omega)
          · have D1 := Lib.hid (dec_false hb)
            have HN := Lib.hid (show ¬ CiOK (k : Int) l from fun q => hb (q.2.2 t hlt))
            have DF := Lib.hid (dec_false HN.out)
            have A := Lib.hid (ciAns_f HN.out)
            clear hb
            obtain ⟨s0, s1, s2, t0, t1, t2⟩ := row3_facts (row_ext HR.out.1 Hr.out.1)
            go_wp2_with (first | (go_at_call 55; (with_reducible refine (isBetween_any (gi l t) _ _ _).mono ?_); rintro e w' ⟨rfl, rfl⟩; rw [D1.out]) | fail)
            refine bodyPost_ret (v := .tuple #[znet, .bool false]) (by simp [results, Try.results36, go_sem, znet, s0, s1, s2]) rfl ⟨_, [], ret_net DF.out.symm, (by first | exact HX.out.trans' Hr.out.1 | exact store3_ext (HX.out.trans' Hr.out.1) (Nat.le_refl _) _ _ _), by rw [A.out]; exact own_zero _, Fresh.nil _⟩
        · obtain rfl : t = l.length := by omega
          have hok : CiOK (k : Int) l := ⟨HB.out, h3, Hr.out.2.1⟩
          have hs := ci_same (k := k) h3 hok.steps
          have hgood := ci_good h1 h7 h3 hok.steps
          have F := Lib.hid (flat_of_owns Hr.out.2.2 (by rw [catTo_len (c := 2) (fun _ _ => rfl)]; omega) (catTo_in l.length fun u j hu hj => by
            have := Nat.mod_lt (j + stepAt l u) (show 0 < k by omega)
            exact pairs_two (by unfold inI64; omega) (by unfold inI64; omega) (by unfold inI64; omega) (by unfold inI64; omega)))
          obtain ⟨d, hd⟩ : ∃ d : Nat, d = 2 * l.length := ⟨_, rfl⟩
          rw [← hd] at hs
          have L := Lib.hid (ciList_len k l)
          have DD := Lib.hid (show dec (Good (linkTo (blank k d) (ciList k l) (l.length * k))) = dec (CiOK (k : Int) l) ∧ goodOr (linkTo (blank k d) (ciList k l) (l.length * k)) = ciAns k l by
            rw [hs.1, dec_true hgood, goodOr_t hgood, dec_true hok, ciAns_t hok]; exact ⟨rfl, rfl⟩)
          have P := Lib.hid (show PortsOK (blank k d) (ciList k l) by rw [hd]; exact (ciList_in k l).ports)
          have HWZ := Lib.hid HR.out.2
          have h2d : (2 : Int) * (l.length : Int) = (d : Int) := by omega
          have hd6 : d ≤ 6 := by omega
          have HD := Lib.hid hd
          clear hs hgood hok hd
          go_wp2_with fail
          (with_reducible refine (regular_any k d (l.length * k) (by omega) (by omega) L.out F.out P.out).mono ?_)
          rintro e w4 ⟨v', bs, rfl, hw, ho, hf⟩
          rw [DD.out.1, DD.out.2] at *
          obtain ⟨a0, c0, a1, c1, a2, c2, rfl⟩ := ho.agg
          have E4 := Lib.hid ((HX.out.trans' Hr.out.1).trans' hw)
          have O4 := Lib.hid ho
          have F4 := Lib.hid hf.1
          have S4 := Lib.hid (show ∀ b ∈ bs, w.heap.size ≤ b ∧ b ≠ w.heap.size from fun b hb => by have := hf.2 b hb; have := Hr.out.1.size; have := HWZ.out; omega)
          obtain ⟨s0, s1, s2, t0, t1, t2⟩ := row3_facts (row_ext HR.out.1 (Hr.out.1.trans' hw))
          clear hw ho hf
          go_wp2
          have hc := close_at E4.out (Nat.le_refl _) O4.out F4.out S4.out
          refine bodyPost_ret (v := .tuple #[.agg #[.slice a0 (ciAns k l).ends.length c0, .slice a1 (ciAns k l).ids.length c1, .slice a2 (ciAns k l).inputs.length c2], .bool (dec (CiOK (k : Int) l))]) (by simp [results, Try.results36, go_sem, s0, s1, s2]) rfl ⟨_, bs, rfl, hc.1, hc.2.1, hc.2.2⟩
    · have HN := Lib.hid (show ¬ CiOK (k : Int) l from fun q => h3 q.2.1)
      have DF := Lib.hid (dec_false HN.out)
      have A := Lib.hid (ciAns_f HN.out)
      go_enter Try.func36, Try.ntmps36
      go_wp2_with (first | (go_at_call 55; (with_reducible refine (isBetween_any (k : Int) _ _ _).mono ?_); rintro e w' ⟨rfl, rfl⟩; rw [D.out]) | fail)
      refine bodyPost_ret (v := .tuple #[znet, .bool false]) (by simp [results, Try.results36, go_sem, znet]) rfl ⟨_, [], ret_net DF.out.symm, (by first | exact HX.out | exact store3_ext HX.out (Nat.le_refl _) _ _ _), by rw [A.out]; exact own_zero _, Fresh.nil _⟩
  · have D := Lib.hid (dec_false h)
    have DF := Lib.hid (dec_false (p := CiOK n l) fun q => h q.1)
    have A := Lib.hid (ciAns_f (l := l) fun q => h q.1)
    clear h
    go_enter Try.func36, Try.ntmps36
    go_wp2_with (first | (go_at_call 55; (with_reducible refine (isBetween_any n _ _ _).mono ?_); rintro e w' ⟨rfl, rfl⟩; rw [D.out]) | fail)
    refine bodyPost_ret (v := .tuple #[znet, .bool false]) (by simp [results, Try.results36, go_sem, znet]) rfl ⟨_, [], ret_net DF.out.symm, (by first | exact HX.out | exact store3_ext HX.out (Nat.le_refl _) _ _ _), by rw [A.out]; exact own_zero _, Fresh.nil _⟩
end Go.Proofs.Ytecdelmcnbgglaa
