/- The contract of the program's TorusNetwork, whatever the arguments. -/
import Derived.Test.YtecdelmcnbgglaaGi
import Derived.Test.YtecdelmcnbgglaaTp
namespace Go.Proofs.Ytecdelmcnbgglaa
open Go.RowKit

theorem to_good {a b : Nat} (hab : a * b ≤ 40) (h1 : 1 ≤ a * b) : Good (toNet a b) := by
  obtain ⟨p1, p2, p3⟩ := linesTo_parts a b (blank (a * b) 0) a
  exact good_plain h1 hab (by rw [toNet, p3]; simp [blank]) p1 p2 (to_same a b).2
noncomputable def toAns (x y : Int) : Net := if dec (FitsOK x y) = true then toNet x.toNat y.toNat else zeroNet
theorem toAns_t {x y : Int} (h : FitsOK x y) : toAns x y = toNet x.toNat y.toNat := by simp [toAns, dec_true h]
theorem toAns_f {x y : Int} (h : ¬ FitsOK x y) : toAns x y = zeroNet := by simp [toAns, dec_false h]
theorem toAns_small (x y : Int) : (toAns x y).small := by
  by_cases h : FitsOK x y
  · rw [toAns_t h]
    obtain ⟨a, b, rfl, rfl, h1, h2, h3, h4, h5, h6⟩ := fits_nat h
    exact good_small (to_good h5 h6)
  · rw [toAns_f h]; exact zero_small
theorem toFlat_len (a b k : Nat) : (catFlat (toEdge a b) b k).length = 4 * k := (flat_get4 a b k).1

theorem regular_lit4 {w : World} {ve : Value} {E : List (Int × Int)} (n m : Nat) (hn : n ≤ 1048576) (hm : E.length = 2 * m) (hE : FlatSl w ve m E) (hp : PortsOK (blank n 4) E) :
    Calls Try.prog 56 #[.int .i64 n, .int .i64 4, ve] w fun e w' => ∃ v' bs, e = .returned (.tuple #[v', .bool (dec (Good (linkTo (blank n 4) E m)))]) ∧ Ext w w' ∧ OwnNet w' v' (goodOr (linkTo (blank n 4) E m)) bs ∧ Fresh w bs := regular_any n 4 m hn (by omega) hm hE hp

set_option maxHeartbeats 12800000 in
set_option maxRecDepth 100000 in
theorem torus_any {w : World} (n m : Int) :
    Calls Try.prog 29 #[.int .i64 n, .int .i64 m] w fun e w' => ∃ v' bs, e = .returned (.tuple #[v', .bool (dec (FitsOK n m))]) ∧ Ext w w' ∧ OwnNet w' v' (toAns n m) bs ∧ Fresh w bs := by
  by_cases h : FitsOK n m
  · have D := Lib.hid (dec_true h)
    have D' := Lib.hid ((fits_comm m n).trans (dec_true h))
    have A0 := toAns_t h
    obtain ⟨a, b, rfl, rfl, ha1, ha2, hb1, hb2, hab, hab1⟩ := fits_nat h
    simp only [Int.toNat_natCast] at A0
    have A := Lib.hid A0
    have HSame := Lib.hid (to_same a b)
    have HGood := Lib.hid (to_good hab hab1)
    obtain ⟨N, hN⟩ : ∃ N : Nat, N = a * b := ⟨_, rfl⟩
    rw [← hN] at HSame hab hab1
    have hab2 : (a : Int) * (b : Int) = (N : Int) := by rw [mul_nat, hN]
    have HN := Lib.hid hN
    obtain ⟨i4, hi, hz0, hz1, hz2⟩ := info_parts Try.infoTEE
    have I4 := Lib.hid (And.intro hi (And.intro hz0 (And.intro hz1 hz2)))
    have HX := Lib.hid (((Ext.rfl' w).alloc' (.cells #[.slice none 0 0, .slice none 0 0, .slice none 0 0] 25)).alloc' (.cells #[.int .i64 b, .int .i64 a] 58))
    have HR := Lib.hid (And.intro ((row3_made w (.slice none 0 0) (.slice none 0 0) (.slice none 0 0) 25).alloc (.cells #[.int .i64 b, .int .i64 a] 58)) (show ((w.alloc (.cells #[.slice none 0 0, .slice none 0 0, .slice none 0 0] 25)).alloc (.cells #[.int .i64 b, .int .i64 a] 58)).heap.size = w.heap.size + 2 by simp))
    have HG := Lib.hid (show World.rowIs _ (w.heap.size + 1) 58 2 (duo (.int .i64 b) (.int .i64 a)) by simpa using duo_made (w.alloc (.cells #[.slice none 0 0, .slice none 0 0, .slice none 0 0] 25)) (.int .i64 b) (.int .i64 a) 58)
    clear hi hz0 hz1 hz2 A0 h hN
    go_enter Try.func29, Try.ntmps29
    go_wp2_with fail
    generalize (w.alloc (.cells #[.slice none 0 0, .slice none 0 0, .slice none 0 0] 25)).alloc (.cells #[.int .i64 b, .int .i64 a] 58) = W0 at *
    (with_reducible refine (fits_any (b : Int) (a : Int)).mono ?_)
    rintro e w1 ⟨rfl, hw⟩
    rw [D'.out]
    have X1 := Lib.hid hw
    obtain ⟨g0, g1, -, -⟩ := duo_facts (row_ext HG.out hw)
    clear hw
    obtain ⟨k0, k1, -, -⟩ := duo_facts (row_ext (row_ext HG.out X1.out) ((Ext.rfl' w1).alloc' (.cells #[] 55)))
    go_wp2_with fail
    (with_reducible refine (corners_own b a hb2 ha2).mono ?_)
    rintro e w2 ⟨cv0, rfl, hw, hoc⟩
    rw [← HN.out] at hoc
    obtain ⟨ca, cc, rfl⟩ := owns_slice hoc
    obtain ⟨cv, hcv⟩ : ∃ cv, cv = Value.slice ca N cc := ⟨_, rfl⟩
    have hxw := ((Ext.rfl' w1).alloc' (.cells #[] 55)).trans' hw
    have HC := Lib.hid (show w2.ownsRow w1.heap.size 63 2 cv N (endCells (catTo cornerAt b a)) by rw [hcv]; exact owns_low hoc ((Ext.rfl' w1).alloc' _).size)
    have HCV := Lib.hid hcv
    have H0 := Lib.hid (And.intro (X1.out.trans' hxw) (owns_ext (owns_lit w1 55 4) hw))
    have Z0 := Lib.hid X1.out.size
    have ZW := Lib.hid HR.out.2
    have Z1 := Lib.hid (show w1.heap.size ≤ w2.heap.size from hxw.size)
    clear hw hoc hxw g0 g1 k0 k1 hcv
    go_wp2_with fail
    go_loopg [7, 24] N (fun g sl i wr => ∃ k : Nat, k ≤ N ∧ g = N - k ∧ i = .int .i64 k ∧ Hid (w1.heap.size ≤ wr.heap.size ∧ Ext W0 wr ∧ wr.ownsRow w1.heap.size 63 2 cv N (endCells (catTo cornerAt b a)) ∧ wr.ownsRow w1.heap.size 55 4 sl (2 * k) (endCells (catFlat (toEdge a b) b k))))
    case atStart => exact ⟨0, Nat.zero_le _, rfl, rfl, Z1.out, H0.out.1, HC.out, H0.out.2⟩
    case round =>
      obtain ⟨k, hk, rfl, rfl, Hr⟩ := hrel
      by_cases hlt : k < N
      · have hkn : k < a * b := by rw [← HN.out]; exact hlt
        obtain ⟨s, hs⟩ : ∃ s : Nat, s = k % b := ⟨_, rfl⟩
        obtain ⟨r, hr⟩ : ∃ r : Nat, r = k / b := ⟨_, rfl⟩
        have hrs : r * b + s = k := by rw [hr, hs, Nat.mul_comm]; exact Nat.div_add_mod k b
        have hsb : s < b := by rw [hs]; exact Nat.mod_lt _ (by omega)
        have hra : r < a := by rw [hr]; exact (Nat.div_lt_iff_lt_mul (by omega)).2 hkn
        obtain ⟨fa, fb, fo, fc, hfe, hfa, -, -, hcell⟩ := flat_of_owns Hr.out.2.2.1 (by rw [HN.out, catTo_len (c := 1) (fun _ _ => rfl)]; omega) (catTo_in a fun u j hu hj => pairs_one (by unfold inI64; omega) (by unfold inI64; omega))
        rw [HCV.out] at hfe
        obtain ⟨rfl, rfl⟩ : ca = fa ∧ cc = fc := by simp at hfe; exact hfe
        obtain rfl := hfa (by omega)
        obtain ⟨e1, e2, -, -⟩ := hcell k (by rw [catTo_len (c := 1) (fun _ _ => rfl)]; omega)
        rw [(corner_get (a := a) (b := b) hkn).1, ← hs] at e1
        rw [(corner_get (a := a) (b := b) hkn).2, ← hr] at e2
        obtain ⟨g0, g1, -, -⟩ := duo_facts (row_ext (row_ext HG.out Hr.out.2.1) ((Ext.rfl' wr).alloc' (.cells #[.int .i64 s, .int .i64 r] 63)))
        have hX : (r : Int) * (b : Int) + (s : Int) = (k : Int) := by rw [mul_nat]; omega
        have HRS := Lib.hid (And.intro hrs (And.intro hs hr))
        have NK : ∀ wq : World, Calls Try.prog 61 #[.agg #[.int .i64 b, .int .i64 a], .agg #[.int .i64 s, .int .i64 r]] wq fun e w' => e = .returned (.int .i64 k) ∧ Ext wq w' := fun wq => (node_any (by omega) (by omega) (by omega)).mono fun e w' ⟨he, hx⟩ => ⟨by rw [he, hX], hx⟩
        obtain ⟨s1, hs1⟩ : ∃ s1 : Nat, s1 = (s + 1) % b := ⟨_, rfl⟩
        obtain ⟨r1, hr1⟩ : ∃ r1 : Nat, r1 = (r + 1) % a := ⟨_, rfl⟩
        have hs1b : s1 < b := by rw [hs1]; exact Nat.mod_lt _ (by omega)
        have hr1a : r1 < a := by rw [hr1]; exact Nat.mod_lt _ (by omega)
        have hsm : ((s : Int) + 1) % (b : Int) = (s1 : Int) := by rw [hs1]; exact mod_nat (by omega)
        have hrm : ((r : Int) + 1) % (a : Int) = (r1 : Int) := by rw [hr1]; exact mod_nat (by omega)
        obtain ⟨x1, hx1⟩ : ∃ x1 : Nat, x1 = r * b + s1 := ⟨_, rfl⟩
        obtain ⟨x2, hx2⟩ : ∃ x2 : Nat, x2 = r1 * b + s := ⟨_, rfl⟩
        have hx1n : x1 < a * b := by rw [hx1]; exact corner_lt hra hs1b
        have hx2n : x2 < a * b := by rw [hx2]; exact corner_lt hr1a hsb
        rw [← HN.out] at hx1n hx2n
        have NK1 : ∀ wq : World, Calls Try.prog 61 #[.agg #[.int .i64 b, .int .i64 a], .agg #[.int .i64 s1, .int .i64 r]] wq fun e w' => e = .returned (.int .i64 x1) ∧ Ext wq w' := fun wq => (node_any (by omega) (by omega) (by omega)).mono fun e w' ⟨he, hx⟩ => ⟨by rw [he, mul_nat, hx1]; rfl, hx⟩
        have NKb : ∀ wq : World, Calls Try.prog 61 #[.agg #[.int .i64 b, .int .i64 a], .agg #[.int .i64 s, .int .i64 r1]] wq fun e w' => e = .returned (.int .i64 x2) ∧ Ext wq w' := fun wq => (node_any (by omega) (by omega) (by omega)).mono fun e w' ⟨he, hx⟩ => ⟨by rw [he, mul_nat, hx2]; rfl, hx⟩
        have hb0z : (b : Int) ≠ 0 := by omega
        have ha0z : (a : Int) ≠ 0 := by omega
        obtain ⟨RR, hRR⟩ : ∃ RR : List (Int × Int), RR = [((k : Int), (0 : Int)), ((x1 : Int), 1)] := ⟨_, rfl⟩
        obtain ⟨DD, hDD⟩ : ∃ DD : List (Int × Int), DD = [((k : Int), (2 : Int)), ((x2 : Int), 3)] := ⟨_, rfl⟩
        have HRR := Lib.hid hRR
        have HDD := Lib.hid hDD
        have hEk := Lib.hid (show catFlat (toEdge a b) b (k + 1) = catFlat (toEdge a b) b k ++ RR ++ DD by rw [catFlat, ← hs, ← hr, toEdge, hrs, ← hs1, ← hr1, ← hx1, ← hx2, hRR, hDD, List.append_assoc]; rfl)
        clear hX hRR hDD hrs hs hr hfe hfa hcell hkn hs1 hr1 hx1 hx2
        go_wp2
        clear e1 e2 g0 g1
        have hw0 : ∃ wo : World, wo = wr := ⟨_, rfl⟩
        obtain ⟨wo, rfl⟩ := hw0
        go_loopg [7, 29] 2 (fun g sl i wx => ∃ d : Nat, d ≤ 2 ∧ g = 2 - d ∧ i = .int .i64 d ∧ Hid (w1.heap.size ≤ wx.heap.size ∧ Ext W0 wx ∧ wx.ownsRow w1.heap.size 63 2 cv N (endCells (catTo cornerAt b a)) ∧ wx.rowIs wo.heap.size 63 2 (duo (.int .i64 s) (.int .i64 r)) ∧ wx.ownsRow w1.heap.size 55 4 sl (2 * k + d) (endCells (grPart (catFlat (toEdge a b) b k) RR DD d))))
        case atStart => exact ⟨0, by omega, rfl, rfl, Nat.le_trans Hr.out.1 ((Ext.rfl' _).alloc' _).size, (Hr.out.2.1).alloc' _, owns_ext Hr.out.2.2.1 ((Ext.rfl' _).alloc' _), duo_made _ _ _ _, owns_ext Hr.out.2.2.2 ((Ext.rfl' _).alloc' _)⟩
        case round =>
          obtain ⟨d, hd, rfl, rfl, HS⟩ := hrel
          obtain ⟨g0, g1, -, -⟩ := duo_facts (row_ext HG.out HS.out.2.1)
          obtain ⟨c0, c1, -, -⟩ := duo_facts HS.out.2.2.2.1
          rcases (show d = 0 ∨ d = 1 ∨ d = 2 by omega) with rfl | rfl | rfl
          · have hP1 : grPart (catFlat (toEdge a b) b k) RR DD 1 = catFlat (toEdge a b) b k ++ RR := rfl
            have hid0 := idx0 (b : Int) (a : Int)
            have hid1 := idx1 (b : Int) (a : Int)
            go_upto_region 13 with (first | (go_at_call 60; (with_reducible refine (next0_any s r (by omega)).mono ?_); rintro e wn ⟨rfl, hxn⟩; have XN := Lib.hid hxn; have RN := Lib.hid (row_ext HS.out.2.2.2.1 hxn); have OC := Lib.hid (owns_ext HS.out.2.2.1 hxn); have OE := Lib.hid (owns_ext HS.out.2.2.2.2 hxn); have EN := Lib.hid (HS.out.2.1.trans' hxn); clear hxn) | fail)
            obtain ⟨W2, hW2⟩ : ∃ W2, W2 = wn.alloc (.cells #[.int .i64 (s1 : Int), .int .i64 ((r : Int))] 63) := ⟨_, rfl⟩
            have XA : Ext wn W2 := by rw [hW2]; exact (Ext.rfl' wn).alloc' _
            have RX := Lib.hid (show W2.rowIs wn.heap.size 63 2 (duo (.int .i64 (s1 : Int)) (.int .i64 ((r : Int)))) by rw [hW2]; exact duo_made wn _ _ _)
            have RC := Lib.hid (row_ext RN.out XA)
            have RG := Lib.hid (row_ext HG.out (EN.out.trans' XA))
            have OC2 := Lib.hid (owns_ext OC.out XA)
            have OE2 : Hid (W2.drew.ownsRow w1.heap.size 55 4 u7 (2 * k + 0) (endCells (catFlat (toEdge a b) b k))) := owns_ext (owns_ext OE.out XA) (Ext.rfl' W2).drew'
            have EN2 := Lib.hid (EN.out.trans' XA)
            have hbz : w1.heap.size ≤ W2.heap.size := Nat.le_trans HS.out.1 (Nat.le_trans XN.out.size XA.size)
            have HBZ := Lib.hid hbz
            rw [← hW2]
            clear hW2 XA hbz
            obtain ⟨y0, y1, -, -⟩ := duo_facts RG.out
            obtain ⟨y2, y3, -, -⟩ := duo_facts RC.out
            obtain ⟨y4, y5, -, -⟩ := duo_facts RX.out
            have mkS : ∀ w' : World, Ext W2 w' → w'.cell? ⟨w.heap.size + 1, 0, none⟩ = some (.int .i64 b) ∧ w'.cell? ⟨w.heap.size + 1, 1, none⟩ = some (.int .i64 a) ∧ w'.cell? ⟨wo.heap.size, 0, none⟩ = some (.int .i64 s) ∧ w'.cell? ⟨wo.heap.size, 1, none⟩ = some (.int .i64 r) ∧ w'.cell? ⟨wn.heap.size, 0, none⟩ = some (.int .i64 (s1 : Int)) ∧ w'.cell? ⟨wn.heap.size, 1, none⟩ = some (.int .i64 ((r : Int))) := fun w' h => ⟨h.cell' y0, h.cell' y1, h.cell' y2, h.cell' y3, h.cell' y4, h.cell' y5⟩
            have XD : Hid (Ext W2 W2.drew) := (Ext.rfl' W2).drew'
            clear y0 y1 y2 y3 y4 y5
            go_region_held_law (fun w' => w'.cell? ⟨w.heap.size + 1, 0, none⟩ = some (.int .i64 b) ∧ w'.cell? ⟨w.heap.size + 1, 1, none⟩ = some (.int .i64 a) ∧ w'.cell? ⟨wo.heap.size, 0, none⟩ = some (.int .i64 s) ∧ w'.cell? ⟨wo.heap.size, 1, none⟩ = some (.int .i64 r) ∧ w'.cell? ⟨wn.heap.size, 0, none⟩ = some (.int .i64 (s1 : Int)) ∧ w'.cell? ⟨wn.heap.size, 1, none⟩ = some (.int .i64 ((r : Int))))
              (first | exact mkS _ (Hid.out ‹Hid (Ext W2 _)›) | exact mkS _ (Ext.alloc' (Hid.out ‹Hid (Ext W2 _)›) _) | exact SDone | fail)
              (first
                | (go_at_call 61; (with_reducible refine (NK _).mono ?_); rintro e wz ⟨rfl, hx⟩; have OZ := Lib.hid (owns_ext (Hid.out ‹Hid (World.ownsRow _ _ 55 4 _ _ _)›) hx); have XZ := Lib.hid (Ext.trans' (Hid.out ‹Hid (Ext W2 _)›) hx); clear hx)
                | (go_at_call 61; (with_reducible refine (NK1 _).mono ?_); rintro e wz ⟨rfl, hx⟩; have OZ := Lib.hid (owns_ext (Hid.out ‹Hid (World.ownsRow _ _ 55 4 _ _ _)›) hx); have XZ := Lib.hid (Ext.trans' (Hid.out ‹Hid (Ext W2 _)›) hx); clear hx)
                | (refine step_app rfl (.tmp 42) (.tmp 57) 54 rfl w1.heap.size 55 i4 (.agg #[.int .i64 0, .int .i64 0, .int .i64 0, .int .i64 0]) 4 32 Try.underlying54 I4.out.1 I4.out.2.1 I4.out.2.2.1 I4.out.2.2.2 rfl (by decide) u7 (2 * k + 0) (endCells (catFlat (toEdge a b) b k)) rfl (owns_ext OZ.out ((Ext.rfl' wz).alloc' _)) (some ⟨wz.heap.size, 0, none⟩) 1 1 [.int .i64 k, .int .i64 0, .int .i64 x1, .int .i64 1] rfl (src_four wz _ _ _ _ _ rfl rfl rfl rfl) (by unfold maxLen; omega) (by omega) (Nat.le_trans HBZ.out (Nat.le_trans XZ.out.size ((Ext.rfl' wz).alloc' _).size)) ?_
                   intro v' w3 hg
                   have oe := owns_ext OZ.out ((Ext.rfl' wz).alloc' (.cells #[.int .i64 k, .int .i64 0, .int .i64 x1, .int .i64 1] 55))
                   have xz := XZ.out.trans' ((Ext.rfl' wz).alloc' (.cells #[.int .i64 k, .int .i64 0, .int .i64 x1, .int .i64 1] 55))
                   obtain ⟨g5, g6⟩ := flat_step4 (Ext.rfl' _) oe hg
                   obtain ⟨y0, y1, -, -⟩ := duo_facts (row_grown (row_ext RG.out xz) oe hg.2.1 (by decide))
                   obtain ⟨y2, y3, -, -⟩ := duo_facts (row_grown (row_ext RC.out xz) oe hg.2.1 (by decide))
                   obtain ⟨y4, y5, -, -⟩ := duo_facts (row_grown (row_ext RX.out xz) oe hg.2.1 (by decide))
                   have SDone : w3.cell? ⟨w.heap.size + 1, 0, none⟩ = some (.int .i64 b) ∧ w3.cell? ⟨w.heap.size + 1, 1, none⟩ = some (.int .i64 a) ∧ w3.cell? ⟨wo.heap.size, 0, none⟩ = some (.int .i64 s) ∧ w3.cell? ⟨wo.heap.size, 1, none⟩ = some (.int .i64 r) ∧ w3.cell? ⟨wn.heap.size, 0, none⟩ = some (.int .i64 (s1 : Int)) ∧ w3.cell? ⟨wn.heap.size, 1, none⟩ = some (.int .i64 ((r : Int))) := ⟨y0, y1, y2, y3, y4, y5⟩
                   have FIN := Lib.hid (And.intro (Nat.le_trans HBZ.out (Nat.le_trans xz.size hg.2.2)) (And.intro (g6 W0 (EN2.out.trans' xz) Z0.out) (And.intro (owns_kept (owns_ext OC2.out xz) oe hg.2.1 (by decide)) (And.intro (row_grown (row_ext RC.out xz) oe hg.2.1 (by decide)) g5))))
                   clear oe xz g5 g6 hg y0 y1 y2 y3 y4 y5)
                | fail)
            all_goals clear mkS XD
            all_goals go_wp2
            all_goals go_roundg (2 - (1))
            all_goals first | omega | exact ⟨1, by omega, rfl, by go_num, by rw [hP1, HRR.out]; exact FIN.out⟩
          · have hP2 : grPart (catFlat (toEdge a b) b k) RR DD 2 = catFlat (toEdge a b) b k ++ RR ++ DD := rfl
            have hid0 := idx0 (b : Int) (a : Int)
            have hid1 := idx1 (b : Int) (a : Int)
            go_upto_region 13 with (first | (go_at_call 60; (with_reducible refine (next1_any s r (by omega)).mono ?_); rintro e wn ⟨rfl, hxn⟩; have XN := Lib.hid hxn; have RN := Lib.hid (row_ext HS.out.2.2.2.1 hxn); have OC := Lib.hid (owns_ext HS.out.2.2.1 hxn); have OE := Lib.hid (owns_ext HS.out.2.2.2.2 hxn); have EN := Lib.hid (HS.out.2.1.trans' hxn); clear hxn) | fail)
            obtain ⟨W2, hW2⟩ : ∃ W2, W2 = wn.alloc (.cells #[.int .i64 ((s : Int)), .int .i64 (r1 : Int)] 63) := ⟨_, rfl⟩
            have XA : Ext wn W2 := by rw [hW2]; exact (Ext.rfl' wn).alloc' _
            have RX := Lib.hid (show W2.rowIs wn.heap.size 63 2 (duo (.int .i64 ((s : Int))) (.int .i64 (r1 : Int))) by rw [hW2]; exact duo_made wn _ _ _)
            have RC := Lib.hid (row_ext RN.out XA)
            have RG := Lib.hid (row_ext HG.out (EN.out.trans' XA))
            have OC2 := Lib.hid (owns_ext OC.out XA)
            have OE2 : Hid (W2.drew.ownsRow w1.heap.size 55 4 u7 (2 * k + 1) (endCells (catFlat (toEdge a b) b k ++ RR))) := owns_ext (owns_ext OE.out XA) (Ext.rfl' W2).drew'
            have EN2 := Lib.hid (EN.out.trans' XA)
            have hbz : w1.heap.size ≤ W2.heap.size := Nat.le_trans HS.out.1 (Nat.le_trans XN.out.size XA.size)
            have HBZ := Lib.hid hbz
            rw [← hW2]
            clear hW2 XA hbz
            obtain ⟨y0, y1, -, -⟩ := duo_facts RG.out
            obtain ⟨y2, y3, -, -⟩ := duo_facts RC.out
            obtain ⟨y4, y5, -, -⟩ := duo_facts RX.out
            have mkS : ∀ w' : World, Ext W2 w' → w'.cell? ⟨w.heap.size + 1, 0, none⟩ = some (.int .i64 b) ∧ w'.cell? ⟨w.heap.size + 1, 1, none⟩ = some (.int .i64 a) ∧ w'.cell? ⟨wo.heap.size, 0, none⟩ = some (.int .i64 s) ∧ w'.cell? ⟨wo.heap.size, 1, none⟩ = some (.int .i64 r) ∧ w'.cell? ⟨wn.heap.size, 0, none⟩ = some (.int .i64 ((s : Int))) ∧ w'.cell? ⟨wn.heap.size, 1, none⟩ = some (.int .i64 (r1 : Int)) := fun w' h => ⟨h.cell' y0, h.cell' y1, h.cell' y2, h.cell' y3, h.cell' y4, h.cell' y5⟩
            have XD : Hid (Ext W2 W2.drew) := (Ext.rfl' W2).drew'
            clear y0 y1 y2 y3 y4 y5
            go_region_held_law (fun w' => w'.cell? ⟨w.heap.size + 1, 0, none⟩ = some (.int .i64 b) ∧ w'.cell? ⟨w.heap.size + 1, 1, none⟩ = some (.int .i64 a) ∧ w'.cell? ⟨wo.heap.size, 0, none⟩ = some (.int .i64 s) ∧ w'.cell? ⟨wo.heap.size, 1, none⟩ = some (.int .i64 r) ∧ w'.cell? ⟨wn.heap.size, 0, none⟩ = some (.int .i64 ((s : Int))) ∧ w'.cell? ⟨wn.heap.size, 1, none⟩ = some (.int .i64 (r1 : Int)))
              (first | exact mkS _ (Hid.out ‹Hid (Ext W2 _)›) | exact mkS _ (Ext.alloc' (Hid.out ‹Hid (Ext W2 _)›) _) | exact SDone | fail)
              (first
                | (go_at_call 61; (with_reducible refine (NK _).mono ?_); rintro e wz ⟨rfl, hx⟩; have OZ := Lib.hid (owns_ext (Hid.out ‹Hid (World.ownsRow _ _ 55 4 _ _ _)›) hx); have XZ := Lib.hid (Ext.trans' (Hid.out ‹Hid (Ext W2 _)›) hx); clear hx)
                | (go_at_call 61; (with_reducible refine (NKb _).mono ?_); rintro e wz ⟨rfl, hx⟩; have OZ := Lib.hid (owns_ext (Hid.out ‹Hid (World.ownsRow _ _ 55 4 _ _ _)›) hx); have XZ := Lib.hid (Ext.trans' (Hid.out ‹Hid (Ext W2 _)›) hx); clear hx)
                | (refine step_app rfl (.tmp 42) (.tmp 57) 54 rfl w1.heap.size 55 i4 (.agg #[.int .i64 0, .int .i64 0, .int .i64 0, .int .i64 0]) 4 32 Try.underlying54 I4.out.1 I4.out.2.1 I4.out.2.2.1 I4.out.2.2.2 rfl (by decide) u7 (2 * k + 1) (endCells (catFlat (toEdge a b) b k ++ RR)) rfl (owns_ext OZ.out ((Ext.rfl' wz).alloc' _)) (some ⟨wz.heap.size, 0, none⟩) 1 1 [.int .i64 k, .int .i64 2, .int .i64 x2, .int .i64 3] rfl (src_four wz _ _ _ _ _ rfl rfl rfl rfl) (by unfold maxLen; omega) (by omega) (Nat.le_trans HBZ.out (Nat.le_trans XZ.out.size ((Ext.rfl' wz).alloc' _).size)) ?_
                   intro v' w3 hg
                   have oe := owns_ext OZ.out ((Ext.rfl' wz).alloc' (.cells #[.int .i64 k, .int .i64 2, .int .i64 x2, .int .i64 3] 55))
                   have xz := XZ.out.trans' ((Ext.rfl' wz).alloc' (.cells #[.int .i64 k, .int .i64 2, .int .i64 x2, .int .i64 3] 55))
                   obtain ⟨g5, g6⟩ := flat_step4 (Ext.rfl' _) oe hg
                   obtain ⟨y0, y1, -, -⟩ := duo_facts (row_grown (row_ext RG.out xz) oe hg.2.1 (by decide))
                   obtain ⟨y2, y3, -, -⟩ := duo_facts (row_grown (row_ext RC.out xz) oe hg.2.1 (by decide))
                   obtain ⟨y4, y5, -, -⟩ := duo_facts (row_grown (row_ext RX.out xz) oe hg.2.1 (by decide))
                   have SDone : w3.cell? ⟨w.heap.size + 1, 0, none⟩ = some (.int .i64 b) ∧ w3.cell? ⟨w.heap.size + 1, 1, none⟩ = some (.int .i64 a) ∧ w3.cell? ⟨wo.heap.size, 0, none⟩ = some (.int .i64 s) ∧ w3.cell? ⟨wo.heap.size, 1, none⟩ = some (.int .i64 r) ∧ w3.cell? ⟨wn.heap.size, 0, none⟩ = some (.int .i64 ((s : Int))) ∧ w3.cell? ⟨wn.heap.size, 1, none⟩ = some (.int .i64 (r1 : Int)) := ⟨y0, y1, y2, y3, y4, y5⟩
                   have FIN := Lib.hid (And.intro (Nat.le_trans HBZ.out (Nat.le_trans xz.size hg.2.2)) (And.intro (g6 W0 (EN2.out.trans' xz) Z0.out) (And.intro (owns_kept (owns_ext OC2.out xz) oe hg.2.1 (by decide)) (And.intro (row_grown (row_ext RC.out xz) oe hg.2.1 (by decide)) g5))))
                   clear oe xz g5 g6 hg y0 y1 y2 y3 y4 y5)
                | fail)
            all_goals clear mkS XD
            all_goals go_wp2
            all_goals go_roundg (2 - (2))
            all_goals first | omega | exact ⟨2, by omega, rfl, by go_num, by rw [hP2, HDD.out]; exact FIN.out⟩
          · clear g0 g1 c0 c1
            go_wp2
            go_roundg (N - (k + 1))
            case measure => omega
            case rel => exact ⟨k + 1, by omega, rfl, by go_num, HS.out.1, HS.out.2.1, HS.out.2.2.1, by rw [hEk.out]; exact HS.out.2.2.2.2⟩
      · obtain rfl : k = N := by omega
        have hEe : catFlat (toEdge a b) b k = toList a b := by rw [HN.out]; exact catFlat_all _ _ _
        have hpi : PIn k 4 (toList a b) := by rw [HN.out]; exact PIn.cat a fun u j hu hj => toEdge_in hu hj
        have hll : (toList a b).length = 2 * (2 * k) := by rw [← hEe, toFlat_len]; omega
        have F := Lib.hid (show FlatSl wr u7 (2 * k) (toList a b) by rw [← hEe]; exact flat_of_owns Hr.out.2.2.2 (by rw [toFlat_len]; omega) (by rw [hEe]; exact hpi.pairs (by omega) (by omega)))
        have DD := Lib.hid (show dec (Good (linkTo (blank k 4) (toList a b) (2 * k))) = true ∧ goodOr (linkTo (blank k 4) (toList a b) (2 * k)) = toNet a b by rw [HSame.out.1, dec_true HGood.out, goodOr_t HGood.out]; exact ⟨rfl, rfl⟩)
        have HLL := Lib.hid hll
        have HPO := Lib.hid hpi.ports
        have EX := Lib.hid (HX.out.trans' Hr.out.2.1)
        clear hEe hpi hll
        go_wp2_with fail
        (with_reducible refine (regular_lit4 k (2 * k) (by omega) HLL.out F.out HPO.out).mono ?_)
        rintro e w4 ⟨v', bs, rfl, hw, ho, hf⟩
        rw [DD.out.1, DD.out.2] at *
        obtain ⟨a0, c0, a1, c1, a2, c2, rfl⟩ := ho.agg
        have E4 := Lib.hid (EX.out.trans' hw)
        have O4 := Lib.hid ho
        have F4 := Lib.hid hf.1
        have S4 := Lib.hid (show ∀ b ∈ bs, w.heap.size ≤ b ∧ b ≠ w.heap.size from fun b hb => by have := hf.2 b hb; have := Hr.out.2.1.size; have := ZW.out; omega)
        obtain ⟨s0, s1, s2, t0, t1, t2⟩ := row3_facts (row_ext HR.out.1 (Hr.out.2.1.trans' hw))
        clear hw ho hf
        go_wp2
        have hc := close_at E4.out (Nat.le_refl _) O4.out F4.out S4.out
        refine bodyPost_ret (v := .tuple #[.agg #[.slice a0 (toNet a b).ends.length c0, .slice a1 (toNet a b).ids.length c1, .slice a2 (toNet a b).inputs.length c2], .bool true]) (by simp [results, Try.results29, go_sem, s0, s1, s2]) rfl ⟨_, bs, ret_net D.out.symm, hc.1, by rw [A.out]; exact hc.2.1, hc.2.2⟩
  · have D := Lib.hid (dec_false h)
    have D' := Lib.hid ((fits_comm m n).trans (dec_false h))
    have A := Lib.hid (toAns_f h)
    have HX := Lib.hid (((Ext.rfl' w).alloc' (.cells #[.slice none 0 0, .slice none 0 0, .slice none 0 0] 25)).alloc' (.cells #[.int .i64 m, .int .i64 n] 58))
    have HR := Lib.hid ((row3_made w (.slice none 0 0) (.slice none 0 0) (.slice none 0 0) 25).alloc (.cells #[.int .i64 m, .int .i64 n] 58))
    clear h
    go_enter Try.func29, Try.ntmps29
    go_wp2_with fail
    generalize (w.alloc (.cells #[.slice none 0 0, .slice none 0 0, .slice none 0 0] 25)).alloc (.cells #[.int .i64 m, .int .i64 n] 58) = W0 at *
    (with_reducible refine (fits_any m n).mono ?_)
    rintro e w1 ⟨rfl, hw⟩
    rw [D'.out]
    have X1 := Lib.hid (HX.out.trans' hw)
    obtain ⟨q0, q1, q2, t0, t1, t2⟩ := row3_facts (row_ext HR.out hw)
    clear hw
    go_wp2
    refine bodyPost_ret (v := .tuple #[znet, .bool false]) (by simp [results, Try.results29, go_sem, q0, q1, q2, znet]) rfl ⟨_, [], ret_net D.out.symm, store3_ext X1.out (Nat.le_refl _) _ _ _, by rw [A.out]; exact own_zero _, Fresh.nil _⟩
end Go.Proofs.Ytecdelmcnbgglaa
