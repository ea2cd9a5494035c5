/- The contract of the model's TorusNetwork, whatever the arguments. -/
import Derived.Test.YtecdelmcnbgglaaTi
import Derived.Test.YtecdelmcnbgglaaGb
namespace Go.Proofs.Ytecdelmcnbgglaa
open Go.RowKit

theorem own_row4 (w : World) (x0 y0 x1 y1 x2 y2 x3 y3 : Int) (h : PairsIn [(x0, y0), (x1, y1), (x2, y2), (x3, y3)]) :
    OwnE (w.alloc (.cells #[.int .i64 x0, .int .i64 y0, .int .i64 x1, .int .i64 y1, .int .i64 x2, .int .i64 y2, .int .i64 x3, .int .i64 y3] 53)) (.slice (some ⟨w.heap.size, 0, none⟩) 4 4) [(x0, y0), (x1, y1), (x2, y2), (x3, y3)] [w.heap.size] := by
  refine ⟨⟨4, by simp, by unfold maxLen; omega, .inr ⟨w.heap.size, 8, fun j => ecell [(x0, y0), (x1, y1), (x2, y2), (x3, y3)] j, rfl, rfl, by simp, World.rowIs_alloc w _ 53 _ fun j hj => ?_, fun j hj => rfl⟩⟩, h⟩
  have h : j < 8 := hj
  match j, h with
  | 0, _ => rfl
  | 1, _ => rfl
  | 2, _ => rfl
  | 3, _ => rfl
  | 4, _ => rfl
  | 5, _ => rfl
  | 6, _ => rfl
  | 7, _ => rfl
theorem pairs_four {a b c d e f g h : Int} (h1 : inI64 a) (h2 : inI64 b) (h3 : inI64 c) (h4 : inI64 d) (h5 : inI64 e) (h6 : inI64 f) (h7 : inI64 g) (h8 : inI64 h) : PairsIn [(a, b), (c, d), (e, f), (g, h)] :=
  PairsIn.app (a := [(a, b), (c, d)]) (pairs_two h1 h2 h3 h4) (pairs_two h5 h6 h7 h8)
set_option maxHeartbeats 6400000 in
set_option maxRecDepth 100000 in
theorem specTorus_any {w : World} (n m : Int) :
    Calls Try.prog 28 #[.int .i64 n, .int .i64 m] w fun e w' => ∃ v' bs, e = .returned (.tuple #[v', .bool (dec (FitsOK n m))]) ∧ Ext w w' ∧ OwnNet w' v' (toAns n m) bs ∧ Fresh w bs := by
  have HX := Lib.hid ((Ext.rfl' w).alloc' (.cells #[.slice none 0 0, .slice none 0 0, .slice none 0 0] 25))
  have HR := Lib.hid (And.intro (row3_made w (.slice none 0 0) (.slice none 0 0) (.slice none 0 0) 25) (show (w.alloc (.cells #[.slice none 0 0, .slice none 0 0, .slice none 0 0] 25)).heap.size = w.heap.size + 1 by simp))
  by_cases h : FitsOK n m
  · have D := Lib.hid (dec_true h)
    have A0 := toAns_t h
    obtain ⟨a, b, rfl, rfl, ha1, ha2, hb1, hb2, hab, hab1⟩ := fits_nat h
    simp only [Int.toNat_natCast] at A0
    have A := Lib.hid A0
    obtain ⟨N, hN⟩ : ∃ N : Nat, N = a * b := ⟨_, rfl⟩
    rw [← hN] at hab hab1
    have hab2 : (a : Int) * (b : Int) = (N : Int) := by rw [mul_nat, hN]
    have HN := Lib.hid hN
    clear A0 h hN
    go_enter Try.func28, Try.ntmps28
    go_wp2_with (first | (go_at_call 57; (with_reducible refine (buSides_any (a : Int) (b : Int)).mono ?_); rintro e w' ⟨rfl, rfl⟩; rw [D.out]) | fail)
    generalize w.alloc (.cells #[.slice none 0 0, .slice none 0 0, .slice none 0 0] 25) = W0 at *
    (with_reducible refine (neEmpty_any N (by omega)).mono ?_)
    rintro e w1 ⟨v', bs, rfl, hw, ho, hf⟩
    obtain ⟨a0, c0, a1, c1, a2, c2, rfl⟩ := ho.agg_blank
    have H1 := Lib.hid (show HNet W0 _ (linesTo a b (blank (a * b) 0) 0) w1.heap.size (.slice a0 N c0) (.slice a1 0 c1) (.slice a2 N c2) by rw [linesTo, ← HN.out]; exact HNet.made hw ho hf)
    clear hw ho hf
    go_wp2_with fail
    go_loopg [7] a (fun g i wr => ∃ r : Nat, r ≤ a ∧ g = a - r ∧ i = .int .i64 r ∧ Hid (HNet W0 wr (linesTo a b (blank (a * b) 0) r) w1.heap.size (.slice a0 N c0) (.slice a1 0 c1) (.slice a2 N c2)))
    case atStart => exact ⟨0, Nat.zero_le _, rfl, rfl, H1.out⟩
    case round =>
      obtain ⟨r, hr, rfl, rfl, Hr⟩ := hrel
      by_cases hlt : r < a
      · go_wp2
        have hw0 : ∃ wo : World, wo = wr := ⟨_, rfl⟩
        obtain ⟨wo, rfl⟩ := hw0
        go_loopg [8] b (fun g i wx => ∃ s : Nat, s ≤ b ∧ g = b - s ∧ i = .int .i64 s ∧ Hid (HNet W0 wx (lineTo a b (linesTo a b (blank (a * b) 0) r) r s) w1.heap.size (.slice a0 N c0) (.slice a1 0 c1) (.slice a2 N c2)))
        case atStart => exact ⟨0, Nat.zero_le _, rfl, rfl, Hr.out⟩
        case round =>
          obtain ⟨s, hs, rfl, rfl, Hs⟩ := hrel
          by_cases hst : s < b
          · have hlen : (lineTo a b (linesTo a b (blank (a * b) 0) r) r s).ends.length = N := by rw [(lineTo_parts _ _ _ _ _).2.2, (linesTo_parts _ _ _ _).2.2]; simp [blank]; exact HN.out.symm
            have hxn : r * b + s < N := by
              have h2 : (r + 1) * b ≤ a * b := Nat.mul_le_mul_right b hlt
              have h3 : (r + 1) * b = r * b + b := Nat.succ_mul r b
              have := HN.out; omega
            have hs1 : ((s : Int) + 1) % (b : Int) = (((s + 1) % b : Nat) : Int) := mod_nat (by omega)
            have hs0 : ((s : Int) + (b : Int) - 1) % (b : Int) = (((s + b - 1) % b : Nat) : Int) := mod_nat (by omega)
            have hr1 : ((r : Int) + 1) % (a : Int) = (((r + 1) % a : Nat) : Int) := mod_nat (by omega)
            have hr0 : ((r : Int) + (a : Int) - 1) % (a : Int) = (((r + a - 1) % a : Nat) : Int) := mod_nat (by omega)
            have l1 : (s + 1) % b < b := Nat.mod_lt _ (by omega)
            have l2 : (s + b - 1) % b < b := Nat.mod_lt _ (by omega)
            have l3 : (r + 1) % a < a := Nat.mod_lt _ (by omega)
            have l4 : (r + a - 1) % a < a := Nat.mod_lt _ (by omega)
            have hE : toRow a b r s = [(((r * b + (s + 1) % b : Nat) : Int), 1), (((r * b + (s + b - 1) % b : Nat) : Int), 0), ((((r + 1) % a * b + s : Nat) : Int), 3), ((((r + a - 1) % a * b + s : Nat) : Int), 2)] := rfl
            generalize (s + 1) % b = s1 at hs1 l1 hE
            generalize (s + b - 1) % b = s0 at hs0 l2 hE
            generalize (r + 1) % a = r1 at hr1 l3 hE
            generalize (r + a - 1) % a = r0 at hr0 l4 hE
            have m1 := mul_1600 (a := r) (b := b) (by omega) hb2
            have m2 := mul_1600 (a := r1) (b := b) (by omega) hb2
            have m3 := mul_1600 (a := r0) (b := b) (by omega) hb2
            obtain ⟨p, hp⟩ : ∃ p : Nat, p = r * b := ⟨_, rfl⟩
            obtain ⟨p1, hp1⟩ : ∃ p1 : Nat, p1 = r1 * b := ⟨_, rfl⟩
            obtain ⟨p0, hp0⟩ : ∃ p0 : Nat, p0 = r0 * b := ⟨_, rfl⟩
            have k1 : (r : Int) * (b : Int) = (p : Int) := by rw [mul_nat, hp]
            have k2 : (r1 : Int) * (b : Int) = (p1 : Int) := by rw [mul_nat, hp1]
            have k3 : (r0 : Int) * (b : Int) = (p0 : Int) := by rw [mul_nat, hp0]
            rw [← hp] at hxn m1
            rw [← hp1] at m2
            rw [← hp0] at m3
            rw [← hp, ← hp1, ← hp0] at hE
            have hL := Lib.hid (show lineTo a b (linesTo a b (blank (a * b) 0) r) r (s + 1) = setRow (lineTo a b (linesTo a b (blank (a * b) 0) r) r s) (p + s) (toRow a b r s) by rw [lineTo, hp])
            have hE2 := Lib.hid (show toRow a b r s = [((p : Int) + (s1 : Int), 1), ((p : Int) + (s0 : Int), 0), ((p1 : Int) + (s : Int), 3), ((p0 : Int) + (s : Int), 2)] by rw [hE]; simp)
            have hpi := Lib.hid (show PairsIn [((p : Int) + (s1 : Int), (1 : Int)), ((p : Int) + (s0 : Int), 0), ((p1 : Int) + (s : Int), 3), ((p0 : Int) + (s : Int), 2)] from pairs_four (by unfold inI64; omega) (by unfold inI64; omega) (by unfold inI64; omega) (by unfold inI64; omega) (by unfold inI64; omega) (by unfold inI64; omega) (by unfold inI64; omega) (by unfold inI64; omega))
            have hbz : (b : Int) ≠ 0 := by omega
            have haz : (a : Int) ≠ 0 := by omega
            clear hE hp hp1 hp0
            go_upto_region 10 with fail
            go_region
            go_upto_region 11 with fail
            go_region
            go_upto_region 12 with fail
            obtain ⟨W2, hW2⟩ : ∃ W2, W2 = wr.drew.drew := ⟨_, rfl⟩
            have HS2 := Lib.hid (Hs.out.mono (show Ext wr W2 by rw [hW2]; exact (Ext.rfl' wr).drew'.trans' (Ext.rfl' _).drew'))
            rw [← hW2]
            clear hW2
            obtain ⟨bb, c, ax, cx, hv, hx, hf, hb1', hb2', hb3', hback⟩ := HS2.out.row (k := p + s) (by rw [hlen]; exact hxn)
            obtain ⟨rfl, rfl⟩ : a0 = some ⟨bb, 0, none⟩ ∧ c0 = c := by simp at hv; exact ⟨hv.1, hv.2.2⟩
            have hxa := (Ext.rfl' W2).alloc' (.cells #[.int .i64 ((p : Int) + (s1 : Int)), .int .i64 1, .int .i64 ((p : Int) + (s0 : Int)), .int .i64 0, .int .i64 ((p1 : Int) + (s : Int)), .int .i64 3, .int .i64 ((p0 : Int) + (s : Int)), .int .i64 2] 53)
            obtain ⟨q0, q1, q2, -, -, -⟩ := row3_facts HS2.out.box
            have hx2 := hxa.cell' hx
            have hf2 : (W2.alloc (.cells #[.int .i64 ((p : Int) + (s1 : Int)), .int .i64 1, .int .i64 ((p : Int) + (s0 : Int)), .int .i64 0, .int .i64 ((p1 : Int) + (s : Int)), .int .i64 3, .int .i64 ((p0 : Int) + (s : Int)), .int .i64 2] 53)).frozen? ⟨bb, p + s, none⟩ = false := by rw [World.frozen?_of_block (hxa.block bb hb3')]; exact hf
            have H2 := Lib.hid (hback _ (.slice (some ⟨W2.heap.size, 0, none⟩) 4 4) _ [W2.heap.size] hxa (own_row4 W2 _ _ _ _ _ _ _ _ hpi.out) (by simp))
            clear hback hxa hv hb3' hb1' hb2' hlen
            go_wp2
            go_roundg (b - (s + 1))
            case measure => omega
            case rel => exact ⟨s + 1, by omega, rfl, by go_num, by rw [hL.out, hE2.out]; exact H2.out⟩
          · obtain rfl : s = b := by omega
            go_wp2
            go_roundg (a - (r + 1))
            case measure => omega
            case rel => exact ⟨r + 1, by omega, rfl, by go_num, Hs.out⟩
      · obtain rfl : r = a := by omega
        obtain ⟨bs, ho, hnd, hge⟩ := Hr.out.net
        have HO := Lib.hid ho
        have HND := Lib.hid hnd
        have HGE := Lib.hid (show ∀ b ∈ bs, w.heap.size ≤ b ∧ b ≠ w.heap.size from fun b hb => by have := (hge b hb).1; have := HR.out.2; omega)
        have EX := Lib.hid (HX.out.trans' Hr.out.ext)
        obtain ⟨p0, p1, p2, -, -, -⟩ := row3_facts Hr.out.box
        obtain ⟨s0, s1, s2, t0, t1, t2⟩ := row3_facts (row_ext HR.out.1 Hr.out.ext)
        clear ho hnd hge
        go_wp2
        have hc := close_at EX.out (Nat.le_refl _) HO.out HND.out HGE.out
        refine bodyPost_ret (v := .tuple #[.agg #[.slice a0 N c0, .slice a1 0 c1, .slice a2 N c2], .bool true]) (by simp [results, Try.results28, go_sem, s0, s1, s2]) rfl ⟨_, bs, ret_net D.out.symm, hc.1, by rw [A.out]; exact hc.2.1, hc.2.2⟩
  · have D := Lib.hid (dec_false h)
    have A := Lib.hid (toAns_f h)
    clear h
    go_enter Try.func28, Try.ntmps28
    go_wp2_with (first | (go_at_call 57; (with_reducible refine (buSides_any n m).mono ?_); rintro e w' ⟨rfl, rfl⟩; rw [D.out]) | fail)
    refine bodyPost_ret (v := .tuple #[znet, .bool false]) (by simp [results, Try.results28, go_sem, znet]) rfl ⟨_, [], ret_net D.out.symm, (by first | exact HX.out | exact store3_ext HX.out (Nat.le_refl _) _ _ _), by rw [A.out]; exact own_zero _, Fresh.nil _⟩
end Go.Proofs.Ytecdelmcnbgglaa
