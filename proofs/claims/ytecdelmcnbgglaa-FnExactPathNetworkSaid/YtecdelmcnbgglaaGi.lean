/- The contract of the program's GridNetwork, whatever the arguments. -/
import Derived.Test.YtecdelmcnbgglaaSg
import Derived.Test.YtecdelmcnbgglaaIx
import Derived.Deep.RegionHeldLaw
import Derived.Deep.CutRange
namespace Go.Proofs.Ytecdelmcnbgglaa
open Go.RowKit

theorem fits_comm (x y : Int) : dec (FitsOK x y) = dec (FitsOK y x) := dec_congr ⟨fun h => ⟨⟨h.1.2, h.1.1⟩, by rw [Int.mul_comm]; exact h.2⟩, fun h => ⟨⟨h.1.2, h.1.1⟩, by rw [Int.mul_comm]; exact h.2⟩⟩
theorem corner_get {a b : Nat} {k : Nat} (hk : k < a * b) : gn (catTo cornerAt b a) k = ((k % b : Nat) : Int) ∧ gp (catTo cornerAt b a) k = ((k / b : Nat) : Int) := by
  have h := (catFlat_one (f := fun r s => ((s : Int), (r : Int))) (D := b) (a * b)).2 k hk
  have e : catFlat (fun v i => [((i : Int), (v : Int))]) b (a * b) = catTo cornerAt b a := catFlat_all cornerAt b a
  rw [e] at h
  exact h
/-- The part of the edges that begin at a corner in one direction. -/
def grRight (b r s : Nat) : List (Int × Int) := if s + 1 < b then [(((r * b + s : Nat) : Int), ((r * b + s : Nat) : Int) + 1)] else []
def grDown (a b r s : Nat) : List (Int × Int) := if r + 1 < a then [(((r * b + s : Nat) : Int), ((r * b + s : Nat) : Int) + (b : Int))] else []
theorem grFlat_len (a b : Nat) : ∀ k, (catFlat (grEdge a b) b k).length ≤ 2 * k
  | 0 => by simp [catFlat]
  | k + 1 => by have h1 := grFlat_len a b k; have h2 := grEdge_len a b (k / b) (k % b); rw [catFlat, List.length_append]; omega
theorem grFlat_in (a b : Nat) (hb : b ≤ 40) (ha : a ≤ 40) : ∀ k, k ≤ a * b → PairsIn (catFlat (grEdge a b) b k)
  | 0, _ => PairsIn.nil
  | k + 1, hk => by
    have hab := mul_1600 ha hb
    have h1 : k / b * b + k % b = k := by rw [Nat.mul_comm]; exact Nat.div_add_mod k b
    refine PairsIn.app (grFlat_in a b hb ha k (by omega)) ?_
    unfold grEdge
    rw [h1]
    refine PairsIn.app ?_ ?_
    · split
      · exact pairs_one (by unfold inI64; omega) (by unfold inI64; omega)
      · exact PairsIn.nil
    · split
      · exact pairs_one (by unfold inI64; omega) (by unfold inI64; omega)
      · exact PairsIn.nil

theorem owns_low {w : World} {B B' t k n : Nat} {v : Value} {xs : List Value} (h : w.ownsRow B t k v n xs) (hB : B' ≤ B) : w.ownsRow B' t k v n xs := by
  refine ⟨h.1, ?_⟩
  rcases h.2 with h | ⟨g, cap, cur, rfl, hb, rest⟩
  · exact .inl h
  · exact .inr ⟨g, cap, cur, rfl, by omega, rest⟩
/-- A row of another type is kept where a row grows. -/
theorem owns_kept {w w' : World} {B t k n B' t' k' n' : Nat} {v u : Value} {xs ys : List Value} (h : w.ownsRow B' t' k' u n' ys) (ho : w.ownsRow B t k v n xs) (hg : w.grownBy w' v.ownBlock) (hne : t' ≠ t) : w'.ownsRow B' t' k' u n' ys := by
  refine ⟨h.1, ?_⟩
  rcases h.2 with ⟨rfl, hn⟩ | ⟨g, cap, cur, rfl, hb, hh, rest⟩
  · exact .inl ⟨rfl, hn⟩
  · refine .inr ⟨g, cap, cur, rfl, hb, ?_, rest⟩
    rw [hg.block g (Array.getElem?_eq_some_iff.1 hh).1 (fun e => ?_)]
    · exact hh
    · obtain ⟨cur', hc'⟩ := owns_typed ho g e.symm
      exact type_ne hh hc' hne rfl

set_option maxHeartbeats 3200000 in
set_option maxRecDepth 100000 in
theorem corners_own {w : World} (b a : Nat) (hb : b ≤ 40) (ha : a ≤ 40) :
    Calls Try.prog 59 #[.agg #[.int .i64 b, .int .i64 a]] w fun e w' => ∃ v', e = .returned v' ∧ Ext w w' ∧ w'.ownsRow w.heap.size 63 2 v' (a * b) (endCells (catTo cornerAt b a)) := by
  obtain ⟨i4, hi, hz0, hz1, hz2⟩ := info_parts Try.infoTC
  have I4 := Lib.hid (And.intro hi (And.intro hz0 (And.intro hz1 hz2)))
  have HX := Lib.hid ((Ext.rfl' w).alloc' (.cells #[.int .i64 b, .int .i64 a] 58))
  have HC := Lib.hid (duo_made w (.int .i64 b) (.int .i64 a) 58)
  have HW := Lib.hid (show (w.alloc (.cells #[.int .i64 b, .int .i64 a] 58)).heap.size = w.heap.size + 1 by simp)
  have hab := mul_1600 ha hb
  have hlen : ∀ v i, (cornerAt v i).length = 1 := fun _ _ => rfl
  clear hi hz0 hz1 hz2
  go_enter Try.func59, Try.ntmps59
  go_wp2_with fail
  generalize w.alloc (.cells #[.int .i64 b, .int .i64 a] 58) = W0 at *
  go_loopg [3, 9] a (fun g s i wr => ∃ r : Nat, r ≤ a ∧ g = a - r ∧ i = .int .i64 r ∧ Hid (Ext W0 wr ∧ wr.ownsRow W0.heap.size 63 2 s (r * b) (endCells (catTo cornerAt b r))))
  case atStart => exact ⟨0, Nat.zero_le _, rfl, rfl, (Ext.rfl' W0).alloc' _, by rw [Nat.zero_mul, ← HW.out]; exact owns_lit W0 _ _⟩
  case round =>
    obtain ⟨r, hr, rfl, rfl, Hr⟩ := hrel
    by_cases hlt : r < a
    · obtain ⟨d0, d1, -, -⟩ := duo_facts (row_ext HC.out Hr.out.1)
      go_wp2
      clear d0 d1
      have hw0 : ∃ wo : World, wo = wr := ⟨_, rfl⟩
      obtain ⟨wo, rfl⟩ := hw0
      go_loopg [3, 14] b (fun g s i wx => ∃ j : Nat, j ≤ b ∧ g = b - j ∧ i = .int .i64 j ∧ Hid (Ext W0 wx ∧ wx.ownsRow W0.heap.size 63 2 s (r * b + j) (endCells (catSome cornerAt b r j))))
      case atStart => exact ⟨0, Nat.zero_le _, rfl, rfl, Hr.out.1, by rw [catSome_zero]; exact Hr.out.2⟩
      case round =>
        obtain ⟨j, hj, rfl, rfl, Hs⟩ := hrel
        by_cases hjt : j < b
        · have hrb : r * b ≤ 1600 := mul_1600 (by omega) hb
          have HZ := Lib.hid Hs.out.1.size
          go_wp2_with (at_builtin; refine wpList_app rfl (.tmp 17) (.tmp 21) 61 rfl W0.heap.size 63 i4 (.agg #[.int .i64 0, .int .i64 0]) 2 16 Try.underlying61 I4.out.1 I4.out.2.1 I4.out.2.2.1 I4.out.2.2.2 rfl (by decide) u3 (r * b + j) (endCells (catSome cornerAt b r j)) rfl (owns_ext Hs.out.2 ((Ext.rfl' _).alloc' _)) (some ⟨wr.heap.size, 0, none⟩) 1 1 [.int .i64 j, .int .i64 r] rfl (src_two _ _ _ _ rfl rfl) (by unfold maxLen; omega) (by omega) ?_ ?_)
          · have := HZ.out; simp; omega
          intro v' w3 hg
          obtain ⟨g5, g6⟩ := flat_step2 ((Ext.rfl' _).alloc' _) Hs.out.2 hg
          have G5 := Lib.hid g5
          have G6 := Lib.hid (g6 W0 Hs.out.1 (Nat.le_refl _))
          clear hg g5 g6
          go_wp2
          go_roundg (b - (j + 1))
          case measure => omega
          case rel => exact ⟨j + 1, by omega, rfl, by go_num, G6.out, by rw [catSome_succ]; exact G5.out⟩
        · obtain rfl : j = b := by omega
          go_wp2
          go_roundg (a - (r + 1))
          case measure => omega
          case rel => exact ⟨r + 1, by omega, rfl, by go_num, Hs.out.1, by rw [← catSome_all, Nat.succ_mul]; exact Hs.out.2⟩
    · obtain rfl : r = a := by omega
      go_wp2
      go_ret
      exact ⟨_, rfl, HX.out.trans' Hr.out.1, owns_low Hr.out.2 HX.out.size⟩
/-- The edges so far: none, the one to the right, the one downwards. -/
def grPart (E R D : List (Int × Int)) : Nat → List (Int × Int)
  | 0 => E
  | 1 => E ++ R
  | _ => E ++ R ++ D

set_option maxHeartbeats 12800000 in
set_option maxRecDepth 100000 in
theorem grid_any {w : World} (n m : Int) :
    Calls Try.prog 27 #[.int .i64 n, .int .i64 m] w fun e w' => ∃ v' bs, e = .returned (.tuple #[v', .bool (dec (FitsOK n m))]) ∧ Ext w w' ∧ OwnNet w' v' (grAns n m) bs ∧ Fresh w bs := by
  by_cases h : FitsOK n m
  · have D := Lib.hid (dec_true h)
    have D' := Lib.hid ((fits_comm m n).trans (dec_true h))
    have A0 := grAns_t h
    obtain ⟨a, b, rfl, rfl, ha1, ha2, hb1, hb2, hab, hab1⟩ := fits_nat h
    simp only [Int.toNat_natCast] at A0
    have A := Lib.hid A0
    have HF := Lib.hid (edgesC_ok (gr_fits a ha2 b hb2 hab))
    obtain ⟨N, hN⟩ : ∃ N : Nat, N = a * b := ⟨_, rfl⟩
    rw [← hN] at A HF hab hab1
    have hab2 : (a : Int) * (b : Int) = (N : Int) := by rw [mul_nat, hN]
    have HN := Lib.hid hN
    obtain ⟨i2, hi, hz0, hz1, hz2⟩ := info_parts Try.infoT2
    have I2 := Lib.hid (And.intro hi (And.intro hz0 (And.intro hz1 hz2)))
    have HX := Lib.hid (((Ext.rfl' w).alloc' (.cells #[.slice none 0 0, .slice none 0 0, .slice none 0 0] 25)).alloc' (.cells #[.int .i64 b, .int .i64 a] 58))
    have HR := Lib.hid (And.intro ((row3_made w (.slice none 0 0) (.slice none 0 0) (.slice none 0 0) 25).alloc (.cells #[.int .i64 b, .int .i64 a] 58)) (show ((w.alloc (.cells #[.slice none 0 0, .slice none 0 0, .slice none 0 0] 25)).alloc (.cells #[.int .i64 b, .int .i64 a] 58)).heap.size = w.heap.size + 2 by simp))
    have HG := Lib.hid (show World.rowIs _ (w.heap.size + 1) 58 2 (duo (.int .i64 b) (.int .i64 a)) by simpa using duo_made (w.alloc (.cells #[.slice none 0 0, .slice none 0 0, .slice none 0 0] 25)) (.int .i64 b) (.int .i64 a) 58)
    clear hi hz0 hz1 hz2 A0 h hN
    go_enter Try.func27, Try.ntmps27
    go_wp2_with fail
    generalize (w.alloc (.cells #[.slice none 0 0, .slice none 0 0, .slice none 0 0] 25)).alloc (.cells #[.int .i64 b, .int .i64 a] 58) = W0 at *
    (with_reducible refine (fits_any (b : Int) (a : Int)).mono ?_)
    rintro e w1 ⟨rfl, hw⟩
    rw [D'.out]
    have X1 := Lib.hid hw
    obtain ⟨g0, g1, -, -⟩ := duo_facts (row_ext HG.out hw)
    clear hw
    obtain ⟨k0, k1, -, -⟩ := duo_facts (row_ext (row_ext HG.out X1.out) ((Ext.rfl' w1).alloc' (.cells #[] 57)))
    go_wp2_with fail
    (with_reducible refine (corners_own b a hb2 ha2).mono ?_)
    rintro e w2 ⟨cv0, rfl, hw, hoc⟩
    rw [← HN.out] at hoc
    obtain ⟨ca, cc, rfl⟩ := owns_slice hoc
    obtain ⟨cv, hcv⟩ : ∃ cv, cv = Value.slice ca N cc := ⟨_, rfl⟩
    have hxw := ((Ext.rfl' w1).alloc' (.cells #[] 57)).trans' hw
    have HC := Lib.hid (show w2.ownsRow w1.heap.size 63 2 cv N (endCells (catTo cornerAt b a)) by rw [hcv]; exact owns_low hoc ((Ext.rfl' w1).alloc' _).size)
    have HCV := Lib.hid hcv
    have H0 := Lib.hid (And.intro (X1.out.trans' hxw) (owns_ext (owns_lit w1 57 2) hw))
    have Z0 := Lib.hid X1.out.size
    have ZW := Lib.hid HR.out.2
    have Z1 := Lib.hid (show w1.heap.size ≤ w2.heap.size from hxw.size)
    clear hw hoc hxw g0 g1 k0 k1 hcv
    go_wp2_with fail
    go_loopg [7, 24] N (fun g sl i wr => ∃ k : Nat, k ≤ N ∧ g = N - k ∧ i = .int .i64 k ∧ Hid (w1.heap.size ≤ wr.heap.size ∧ Ext W0 wr ∧ wr.ownsRow w1.heap.size 63 2 cv N (endCells (catTo cornerAt b a)) ∧ wr.ownsRow w1.heap.size 57 2 sl (catFlat (grEdge a b) b k).length (endCells (catFlat (grEdge a b) b k))))
    case atStart => exact ⟨0, Nat.zero_le _, rfl, rfl, Z1.out, H0.out.1, HC.out, H0.out.2⟩
    case round =>
      obtain ⟨k, hk, rfl, rfl, Hr⟩ := hrel
      by_cases hlt : k < N
      · have hkn : k < a * b := by rw [← HN.out]; exact hlt
        obtain ⟨s, hs⟩ : ∃ s : Nat, s = k % b := ⟨_, rfl⟩
        obtain ⟨r, hr⟩ : ∃ r : Nat, r = k / b := ⟨_, rfl⟩
        have hrs : r * b + s = k := by rw [hr, hs, Nat.mul_comm]; exact Nat.div_add_mod k b
        have hsb : s < b := by rw [hs]; exact Nat.mod_lt _ (by omega)
        have hra : r < a := by rw [hr]; exact (Nat.div_lt_iff_lt_mul (by omega)).2 hkn
        obtain ⟨fa, fb, fo, fc, hfe, hfa, -, -, hcell⟩ := flat_of_owns Hr.out.2.2.1 (by rw [HN.out, catTo_len (c := 1) (fun _ _ => rfl)]; omega) (catTo_in a fun u j hu hj => pairs_one (by unfold inI64; omega) (by unfold inI64; omega))
        rw [HCV.out] at hfe
        obtain ⟨rfl, rfl⟩ : ca = fa ∧ cc = fc := by simp at hfe; exact hfe
        obtain rfl := hfa (by omega)
        obtain ⟨e1, e2, -, -⟩ := hcell k (by rw [catTo_len (c := 1) (fun _ _ => rfl)]; omega)
        rw [(corner_get (a := a) (b := b) hkn).1, ← hs] at e1
        rw [(corner_get (a := a) (b := b) hkn).2, ← hr] at e2
        obtain ⟨g0, g1, -, -⟩ := duo_facts (row_ext (row_ext HG.out Hr.out.2.1) ((Ext.rfl' wr).alloc' (.cells #[.int .i64 s, .int .i64 r] 63)))
        have hX : (r : Int) * (b : Int) + (s : Int) = (k : Int) := by rw [mul_nat]; omega
        have HRS := Lib.hid (And.intro hrs (And.intro hs hr))
        have NK : ∀ wq : World, Calls Try.prog 61 #[.agg #[.int .i64 b, .int .i64 a], .agg #[.int .i64 s, .int .i64 r]] wq fun e w' => e = .returned (.int .i64 k) ∧ Ext wq w' := fun wq => (node_any (by omega) (by omega) (by omega)).mono fun e w' ⟨he, hx⟩ => ⟨by rw [he, hX], hx⟩
        have NK1 : ∀ wq : World, Calls Try.prog 61 #[.agg #[.int .i64 b, .int .i64 a], .agg #[.int .i64 ((s : Int) + 1), .int .i64 r]] wq fun e w' => e = .returned (.int .i64 ((k : Int) + 1)) ∧ Ext wq w' := fun wq => (node_any (by omega) (by omega) (by omega)).mono fun e w' ⟨he, hx⟩ => ⟨by rw [he, ← hX, Int.add_assoc], hx⟩
        have NKb : ∀ wq : World, Calls Try.prog 61 #[.agg #[.int .i64 b, .int .i64 a], .agg #[.int .i64 s, .int .i64 ((r : Int) + 1)]] wq fun e w' => e = .returned (.int .i64 ((k : Int) + (b : Int))) ∧ Ext wq w' := fun wq => (node_any (by omega) (by omega) (by omega)).mono fun e w' ⟨he, hx⟩ => ⟨by rw [he, ← hX, Int.add_mul, Int.one_mul, Int.add_assoc, Int.add_comm (b : Int), ← Int.add_assoc], hx⟩
        obtain ⟨RR, hRR⟩ : ∃ RR : List (Int × Int), RR = if s + 1 < b then [((k : Int), (k : Int) + 1)] else [] := ⟨_, rfl⟩
        obtain ⟨DD, hDD⟩ : ∃ DD : List (Int × Int), DD = if r + 1 < a then [((k : Int), (k : Int) + (b : Int))] else [] := ⟨_, rfl⟩
        have HRR := Lib.hid hRR
        have HDD := Lib.hid hDD
        have hEk := Lib.hid (show catFlat (grEdge a b) b (k + 1) = catFlat (grEdge a b) b k ++ RR ++ DD by rw [catFlat, ← hs, ← hr, grEdge, hrs, hRR, hDD, List.append_assoc])
        have hL0 := grFlat_len a b k
        have hRL : RR.length ≤ 1 := by rw [hRR]; split <;> simp
        have HL0 := Lib.hid (show (catFlat (grEdge a b) b k).length ≤ 100 ∧ (catFlat (grEdge a b) b k ++ RR).length ≤ 100 by rw [List.length_append]; omega)
        clear hX hRR hDD hrs hs hr hfe hfa hcell hL0 hRL hkn
        go_wp2
        clear e1 e2 g0 g1
        have hw0 : ∃ wo : World, wo = wr := ⟨_, rfl⟩
        obtain ⟨wo, rfl⟩ := hw0
        go_loopg [7, 29] 2 (fun g sl i wx => ∃ d : Nat, d ≤ 2 ∧ g = 2 - d ∧ i = .int .i64 d ∧ Hid (w1.heap.size ≤ wx.heap.size ∧ Ext W0 wx ∧ wx.ownsRow w1.heap.size 63 2 cv N (endCells (catTo cornerAt b a)) ∧ wx.rowIs wo.heap.size 63 2 (duo (.int .i64 s) (.int .i64 r)) ∧ wx.ownsRow w1.heap.size 57 2 sl (grPart (catFlat (grEdge a b) b k) RR DD d).length (endCells (grPart (catFlat (grEdge a b) b k) RR DD d))))
        case atStart => exact ⟨0, by omega, rfl, rfl, Nat.le_trans Hr.out.1 ((Ext.rfl' _).alloc' _).size, (Hr.out.2.1).alloc' _, owns_ext Hr.out.2.2.1 ((Ext.rfl' _).alloc' _), duo_made _ _ _ _, owns_ext Hr.out.2.2.2 ((Ext.rfl' _).alloc' _)⟩
        case round =>
          obtain ⟨d, hd, rfl, rfl, HS⟩ := hrel
          obtain ⟨g0, g1, -, -⟩ := duo_facts (row_ext HG.out HS.out.2.1)
          obtain ⟨c0, c1, -, -⟩ := duo_facts HS.out.2.2.2.1
          rcases (show d = 0 ∨ d = 1 ∨ d = 2 by omega) with rfl | rfl | rfl
          · have hP1 : grPart (catFlat (grEdge a b) b k) RR DD 1 = catFlat (grEdge a b) b k ++ RR := rfl
            have HL := Lib.hid HL0.out.1
            have hid0 := idx0 (b : Int) (a : Int)
            have hid1 := idx1 (b : Int) (a : Int)
            by_cases hc : s + 1 < b
            · go_upto_region 13 with (first | (go_at_call 60; (with_reducible refine (next0_any s r (by omega)).mono ?_); rintro e wn ⟨rfl, hxn⟩; have XN := Lib.hid hxn; have RN := Lib.hid (row_ext HS.out.2.2.2.1 hxn); have OC := Lib.hid (owns_ext HS.out.2.2.1 hxn); have OE := Lib.hid (owns_ext HS.out.2.2.2.2 hxn); have EN := Lib.hid (HS.out.2.1.trans' hxn); clear hxn) | fail)
              obtain ⟨W2, hW2⟩ : ∃ W2, W2 = wn.alloc (.cells #[.int .i64 ((s : Int) + 1), .int .i64 ((r : Int))] 63) := ⟨_, rfl⟩
              have XA : Ext wn W2 := by rw [hW2]; exact (Ext.rfl' wn).alloc' _
              have RX := Lib.hid (show W2.rowIs wn.heap.size 63 2 (duo (.int .i64 ((s : Int) + 1)) (.int .i64 ((r : Int)))) by rw [hW2]; exact duo_made wn _ _ _)
              have RC := Lib.hid (row_ext RN.out XA)
              have RG := Lib.hid (row_ext HG.out (EN.out.trans' XA))
              have OC2 := Lib.hid (owns_ext OC.out XA)
              have OE2 : Hid (W2.drew.ownsRow w1.heap.size 57 2 u7 (catFlat (grEdge a b) b k).length (endCells (catFlat (grEdge a b) b k))) := owns_ext (owns_ext OE.out XA) (Ext.rfl' W2).drew'
              have EN2 := Lib.hid (EN.out.trans' XA)
              have hbz : w1.heap.size ≤ W2.heap.size := Nat.le_trans HS.out.1 (Nat.le_trans XN.out.size XA.size)
              have HBZ := Lib.hid hbz
              rw [← hW2]
              clear hW2 XA hbz
              obtain ⟨y0, y1, -, -⟩ := duo_facts RG.out
              obtain ⟨y2, y3, -, -⟩ := duo_facts RC.out
              obtain ⟨y4, y5, -, -⟩ := duo_facts RX.out
              have mkS : ∀ w' : World, Ext W2 w' → w'.cell? ⟨w.heap.size + 1, 0, none⟩ = some (.int .i64 b) ∧ w'.cell? ⟨w.heap.size + 1, 1, none⟩ = some (.int .i64 a) ∧ w'.cell? ⟨wo.heap.size, 0, none⟩ = some (.int .i64 s) ∧ w'.cell? ⟨wo.heap.size, 1, none⟩ = some (.int .i64 r) ∧ w'.cell? ⟨wn.heap.size, 0, none⟩ = some (.int .i64 ((s : Int) + 1)) ∧ w'.cell? ⟨wn.heap.size, 1, none⟩ = some (.int .i64 ((r : Int))) := fun w' h => ⟨h.cell' y0, h.cell' y1, h.cell' y2, h.cell' y3, h.cell' y4, h.cell' y5⟩
              have XD : Hid (Ext W2 W2.drew) := (Ext.rfl' W2).drew'
              clear y0 y1 y2 y3 y4 y5
              go_region_held_law (fun w' => w'.cell? ⟨w.heap.size + 1, 0, none⟩ = some (.int .i64 b) ∧ w'.cell? ⟨w.heap.size + 1, 1, none⟩ = some (.int .i64 a) ∧ w'.cell? ⟨wo.heap.size, 0, none⟩ = some (.int .i64 s) ∧ w'.cell? ⟨wo.heap.size, 1, none⟩ = some (.int .i64 r) ∧ w'.cell? ⟨wn.heap.size, 0, none⟩ = some (.int .i64 ((s : Int) + 1)) ∧ w'.cell? ⟨wn.heap.size, 1, none⟩ = some (.int .i64 ((r : Int))))
                (first | exact mkS _ (Hid.out ‹Hid (Ext W2 _)›) | exact mkS _ (Ext.alloc' (Hid.out ‹Hid (Ext W2 _)›) _) | exact SDone | fail)
                (first
                  | (go_at_call 61; (with_reducible refine (NK _).mono ?_); rintro e wz ⟨rfl, hx⟩; have OZ := Lib.hid (owns_ext (Hid.out ‹Hid (World.ownsRow _ _ 57 2 _ _ _)›) hx); have XZ := Lib.hid (Ext.trans' (Hid.out ‹Hid (Ext W2 _)›) hx); clear hx)
                  | (go_at_call 61; (with_reducible refine (NK1 _).mono ?_); rintro e wz ⟨rfl, hx⟩; have OZ := Lib.hid (owns_ext (Hid.out ‹Hid (World.ownsRow _ _ 57 2 _ _ _)›) hx); have XZ := Lib.hid (Ext.trans' (Hid.out ‹Hid (Ext W2 _)›) hx); clear hx)
                  | (refine step_app rfl (.tmp 41) (.tmp 49) 60 rfl w1.heap.size 57 i2 (.agg #[.int .i64 0, .int .i64 0]) 2 16 Try.underlying60 I2.out.1 I2.out.2.1 I2.out.2.2.1 I2.out.2.2.2 rfl (by decide) u7 (catFlat (grEdge a b) b k).length (endCells (catFlat (grEdge a b) b k)) rfl (owns_ext OZ.out ((Ext.rfl' wz).alloc' _)) (some ⟨wz.heap.size, 0, none⟩) 1 1 [.int .i64 k, .int .i64 ((k : Int) + 1)] rfl (src_two wz _ _ _ rfl rfl) (by have := HL.out; unfold maxLen; omega) (by have := HL.out; omega) (Nat.le_trans HBZ.out (Nat.le_trans XZ.out.size ((Ext.rfl' wz).alloc' _).size)) ?_
                     intro v' w3 hg
                     have oe := owns_ext OZ.out ((Ext.rfl' wz).alloc' (.cells #[.int .i64 k, .int .i64 ((k : Int) + 1)] 57))
                     have xz := XZ.out.trans' ((Ext.rfl' wz).alloc' (.cells #[.int .i64 k, .int .i64 ((k : Int) + 1)] 57))
                     obtain ⟨g5, g6⟩ := flat_step2 (Ext.rfl' _) oe hg
                     obtain ⟨y0, y1, -, -⟩ := duo_facts (row_grown (row_ext RG.out xz) oe hg.2.1 (by decide))
                     obtain ⟨y2, y3, -, -⟩ := duo_facts (row_grown (row_ext RC.out xz) oe hg.2.1 (by decide))
                     obtain ⟨y4, y5, -, -⟩ := duo_facts (row_grown (row_ext RX.out xz) oe hg.2.1 (by decide))
                     have SDone : w3.cell? ⟨w.heap.size + 1, 0, none⟩ = some (.int .i64 b) ∧ w3.cell? ⟨w.heap.size + 1, 1, none⟩ = some (.int .i64 a) ∧ w3.cell? ⟨wo.heap.size, 0, none⟩ = some (.int .i64 s) ∧ w3.cell? ⟨wo.heap.size, 1, none⟩ = some (.int .i64 r) ∧ w3.cell? ⟨wn.heap.size, 0, none⟩ = some (.int .i64 ((s : Int) + 1)) ∧ w3.cell? ⟨wn.heap.size, 1, none⟩ = some (.int .i64 ((r : Int))) := ⟨y0, y1, y2, y3, y4, y5⟩
                     have FIN := Lib.hid (And.intro (Nat.le_trans HBZ.out (Nat.le_trans xz.size hg.2.2)) (And.intro (g6 W0 (EN2.out.trans' xz) Z0.out) (And.intro (owns_kept (owns_ext OC2.out xz) oe hg.2.1 (by decide)) (And.intro (row_grown (row_ext RC.out xz) oe hg.2.1 (by decide)) g5))))
                     clear oe xz g5 g6 hg y0 y1 y2 y3 y4 y5)
                  | fail)
              all_goals clear mkS XD
              all_goals go_wp2
              all_goals go_roundg (2 - (1))
              all_goals first | omega | exact ⟨1, by omega, rfl, by go_num, by rw [hP1, HRR.out, if_pos hc]; simpa only [List.length_append, List.length_singleton, List.append_assoc, Nat.add_assoc] using FIN⟩
            · go_wp2_with (first | (go_at_call 60; (with_reducible refine (next0_any s r (by omega)).mono ?_); rintro e wn ⟨rfl, hxn⟩; have XN := Lib.hid (hxn.trans' ((Ext.rfl' wn).alloc' (.cells #[.int .i64 ((s : Int) + 1), .int .i64 ((r : Int))] 63))); clear hxn) | fail)
              go_roundg (2 - (1))
              case measure => omega
              case rel => exact ⟨1, by omega, rfl, by go_num, by rw [hP1, HRR.out, if_neg hc, List.append_nil]; exact ⟨Nat.le_trans HS.out.1 XN.out.size, HS.out.2.1.trans' XN.out, owns_ext HS.out.2.2.1 XN.out, row_ext HS.out.2.2.2.1 XN.out, owns_ext HS.out.2.2.2.2 XN.out⟩⟩
          · have hP2 : grPart (catFlat (grEdge a b) b k) RR DD 2 = catFlat (grEdge a b) b k ++ RR ++ DD := rfl
            have HL := Lib.hid HL0.out.2
            have hid0 := idx0 (b : Int) (a : Int)
            have hid1 := idx1 (b : Int) (a : Int)
            by_cases hc : r + 1 < a
            · go_upto_region 13 with (first | (go_at_call 60; (with_reducible refine (next1_any s r (by omega)).mono ?_); rintro e wn ⟨rfl, hxn⟩; have XN := Lib.hid hxn; have RN := Lib.hid (row_ext HS.out.2.2.2.1 hxn); have OC := Lib.hid (owns_ext HS.out.2.2.1 hxn); have OE := Lib.hid (owns_ext HS.out.2.2.2.2 hxn); have EN := Lib.hid (HS.out.2.1.trans' hxn); clear hxn) | fail)
              obtain ⟨W2, hW2⟩ : ∃ W2, W2 = wn.alloc (.cells #[.int .i64 ((s : Int)), .int .i64 ((r : Int) + 1)] 63) := ⟨_, rfl⟩
              have XA : Ext wn W2 := by rw [hW2]; exact (Ext.rfl' wn).alloc' _
              have RX := Lib.hid (show W2.rowIs wn.heap.size 63 2 (duo (.int .i64 ((s : Int))) (.int .i64 ((r : Int) + 1))) by rw [hW2]; exact duo_made wn _ _ _)
              have RC := Lib.hid (row_ext RN.out XA)
              have RG := Lib.hid (row_ext HG.out (EN.out.trans' XA))
              have OC2 := Lib.hid (owns_ext OC.out XA)
              have OE2 : Hid (W2.drew.ownsRow w1.heap.size 57 2 u7 (catFlat (grEdge a b) b k ++ RR).length (endCells (catFlat (grEdge a b) b k ++ RR))) := owns_ext (owns_ext OE.out XA) (Ext.rfl' W2).drew'
              have EN2 := Lib.hid (EN.out.trans' XA)
              have hbz : w1.heap.size ≤ W2.heap.size := Nat.le_trans HS.out.1 (Nat.le_trans XN.out.size XA.size)
              have HBZ := Lib.hid hbz
              rw [← hW2]
              clear hW2 XA hbz
              obtain ⟨y0, y1, -, -⟩ := duo_facts RG.out
              obtain ⟨y2, y3, -, -⟩ := duo_facts RC.out
              obtain ⟨y4, y5, -, -⟩ := duo_facts RX.out
              have mkS : ∀ w' : World, Ext W2 w' → w'.cell? ⟨w.heap.size + 1, 0, none⟩ = some (.int .i64 b) ∧ w'.cell? ⟨w.heap.size + 1, 1, none⟩ = some (.int .i64 a) ∧ w'.cell? ⟨wo.heap.size, 0, none⟩ = some (.int .i64 s) ∧ w'.cell? ⟨wo.heap.size, 1, none⟩ = some (.int .i64 r) ∧ w'.cell? ⟨wn.heap.size, 0, none⟩ = some (.int .i64 ((s : Int))) ∧ w'.cell? ⟨wn.heap.size, 1, none⟩ = some (.int .i64 ((r : Int) + 1)) := fun w' h => ⟨h.cell' y0, h.cell' y1, h.cell' y2, h.cell' y3, h.cell' y4, h.cell' y5⟩
              have XD : Hid (Ext W2 W2.drew) := (Ext.rfl' W2).drew'
              clear y0 y1 y2 y3 y4 y5
              go_region_held_law (fun w' => w'.cell? ⟨w.heap.size + 1, 0, none⟩ = some (.int .i64 b) ∧ w'.cell? ⟨w.heap.size + 1, 1, none⟩ = some (.int .i64 a) ∧ w'.cell? ⟨wo.heap.size, 0, none⟩ = some (.int .i64 s) ∧ w'.cell? ⟨wo.heap.size, 1, none⟩ = some (.int .i64 r) ∧ w'.cell? ⟨wn.heap.size, 0, none⟩ = some (.int .i64 ((s : Int))) ∧ w'.cell? ⟨wn.heap.size, 1, none⟩ = some (.int .i64 ((r : Int) + 1)))
                (first | exact mkS _ (Hid.out ‹Hid (Ext W2 _)›) | exact mkS _ (Ext.alloc' (Hid.out ‹Hid (Ext W2 _)›) _) | exact SDone | fail)
                (first
                  | (go_at_call 61; (with_reducible refine (NK _).mono ?_); rintro e wz ⟨rfl, hx⟩; have OZ := Lib.hid (owns_ext (Hid.out ‹Hid (World.ownsRow _ _ 57 2 _ _ _)›) hx); have XZ := Lib.hid (Ext.trans' (Hid.out ‹Hid (Ext W2 _)›) hx); clear hx)
                  | (go_at_call 61; (with_reducible refine (NKb _).mono ?_); rintro e wz ⟨rfl, hx⟩; have OZ := Lib.hid (owns_ext (Hid.out ‹Hid (World.ownsRow _ _ 57 2 _ _ _)›) hx); have XZ := Lib.hid (Ext.trans' (Hid.out ‹Hid (Ext W2 _)›) hx); clear hx)
                  | (refine step_app rfl (.tmp 41) (.tmp 49) 60 rfl w1.heap.size 57 i2 (.agg #[.int .i64 0, .int .i64 0]) 2 16 Try.underlying60 I2.out.1 I2.out.2.1 I2.out.2.2.1 I2.out.2.2.2 rfl (by decide) u7 (catFlat (grEdge a b) b k ++ RR).length (endCells (catFlat (grEdge a b) b k ++ RR)) rfl (owns_ext OZ.out ((Ext.rfl' wz).alloc' _)) (some ⟨wz.heap.size, 0, none⟩) 1 1 [.int .i64 k, .int .i64 ((k : Int) + (b : Int))] rfl (src_two wz _ _ _ rfl rfl) (by have := HL.out; unfold maxLen; omega) (by have := HL.out; omega) (Nat.le_trans HBZ.out (Nat.le_trans XZ.out.size ((Ext.rfl' wz).alloc' _).size)) ?_
                     intro v' w3 hg
                     have oe := owns_ext OZ.out ((Ext.rfl' wz).alloc' (.cells #[.int .i64 k, .int .i64 ((k : Int) + (b : Int))] 57))
                     have xz := XZ.out.trans' ((Ext.rfl' wz).alloc' (.cells #[.int .i64 k, .int .i64 ((k : Int) + (b : Int))] 57))
                     obtain ⟨g5, g6⟩ := flat_step2 (Ext.rfl' _) oe hg
                     obtain ⟨y0, y1, -, -⟩ := duo_facts (row_grown (row_ext RG.out xz) oe hg.2.1 (by decide))
                     obtain ⟨y2, y3, -, -⟩ := duo_facts (row_grown (row_ext RC.out xz) oe hg.2.1 (by decide))
                     obtain ⟨y4, y5, -, -⟩ := duo_facts (row_grown (row_ext RX.out xz) oe hg.2.1 (by decide))
                     have SDone : w3.cell? ⟨w.heap.size + 1, 0, none⟩ = some (.int .i64 b) ∧ w3.cell? ⟨w.heap.size + 1, 1, none⟩ = some (.int .i64 a) ∧ w3.cell? ⟨wo.heap.size, 0, none⟩ = some (.int .i64 s) ∧ w3.cell? ⟨wo.heap.size, 1, none⟩ = some (.int .i64 r) ∧ w3.cell? ⟨wn.heap.size, 0, none⟩ = some (.int .i64 ((s : Int))) ∧ w3.cell? ⟨wn.heap.size, 1, none⟩ = some (.int .i64 ((r : Int) + 1)) := ⟨y0, y1, y2, y3, y4, y5⟩
                     have FIN := Lib.hid (And.intro (Nat.le_trans HBZ.out (Nat.le_trans xz.size hg.2.2)) (And.intro (g6 W0 (EN2.out.trans' xz) Z0.out) (And.intro (owns_kept (owns_ext OC2.out xz) oe hg.2.1 (by decide)) (And.intro (row_grown (row_ext RC.out xz) oe hg.2.1 (by decide)) g5))))
                     clear oe xz g5 g6 hg y0 y1 y2 y3 y4 y5)
                  | fail)
              all_goals clear mkS XD
              all_goals go_wp2
              all_goals go_roundg (2 - (2))
              all_goals first | omega | exact ⟨2, by omega, rfl, by go_num, by rw [hP2, HDD.out, if_pos hc]; simpa only [List.length_append, List.length_singleton, List.append_assoc, Nat.add_assoc] using FIN⟩
            · go_wp2_with (first | (go_at_call 60; (with_reducible refine (next1_any s r (by omega)).mono ?_); rintro e wn ⟨rfl, hxn⟩; have XN := Lib.hid (hxn.trans' ((Ext.rfl' wn).alloc' (.cells #[.int .i64 ((s : Int)), .int .i64 ((r : Int) + 1)] 63))); clear hxn) | fail)
              go_roundg (2 - (2))
              case measure => omega
              case rel => exact ⟨2, by omega, rfl, by go_num, by rw [hP2, HDD.out, if_neg hc, List.append_nil]; exact ⟨Nat.le_trans HS.out.1 XN.out.size, HS.out.2.1.trans' XN.out, owns_ext HS.out.2.2.1 XN.out, row_ext HS.out.2.2.2.1 XN.out, owns_ext HS.out.2.2.2.2 XN.out⟩⟩
          · clear g0 g1 c0 c1
            go_wp2
            go_roundg (N - (k + 1))
            case measure => omega
            case rel => exact ⟨k + 1, by omega, rfl, by go_num, HS.out.1, HS.out.2.1, HS.out.2.2.1, by rw [hEk.out]; exact HS.out.2.2.2.2⟩
      · obtain rfl : k = N := by omega
        have hEe : catFlat (grEdge a b) b k = grList a b := by rw [HN.out]; exact catFlat_all _ _ _
        have hpi := grFlat_in a b hb2 ha2 k (by rw [HN.out]; exact Nat.le_refl _)
        have F := Lib.hid (show FlatSl wr u7 (grList a b).length (grList a b) by rw [← hEe]; exact flat_of_owns Hr.out.2.2.2 rfl hpi)
        have MB := Lib.hid (mbAns_ok hab1 hab HF.out)
        have EX := Lib.hid (HX.out.trans' Hr.out.2.1)
        clear hEe hpi
        go_wp2_with fail
        (with_reducible refine (madeBy_any k (by omega) F.out).mono ?_)
        rintro e w4 ⟨v', bs, rfl, hw, ho, hf⟩
        rw [MB.out] at *
        obtain ⟨a0, c0, a1, c1, a2, c2, rfl⟩ := ho.agg
        have E4 := Lib.hid (EX.out.trans' hw)
        have O4 := Lib.hid (show OwnNet w4 _ (madeNet k (grList a b)) bs from ho)
        have F4 := Lib.hid hf.1
        have S4 := Lib.hid (show ∀ b ∈ bs, w.heap.size ≤ b ∧ b ≠ w.heap.size from fun b hb => by have := hf.2 b hb; have := Hr.out.2.1.size; have := ZW.out; omega)
        obtain ⟨s0, s1, s2, t0, t1, t2⟩ := row3_facts (row_ext HR.out.1 (Hr.out.2.1.trans' hw))
        clear hw ho hf
        go_wp2
        have hc := close_at E4.out (Nat.le_refl _) O4.out F4.out S4.out
        refine bodyPost_ret (v := .tuple #[.agg #[.slice a0 (madeTo (blank k 0) (grList a b) (grList a b).length).ends.length c0, .slice a1 (madeTo (blank k 0) (grList a b) (grList a b).length).ids.length c1, .slice a2 (madeTo (blank k 0) (grList a b) (grList a b).length).inputs.length c2], .bool true]) (by simp [results, Try.results27, go_sem, s0, s1, s2]) rfl ⟨_, bs, ret_net D.out.symm, hc.1, by rw [A.out]; exact hc.2.1, hc.2.2⟩
  · have D := Lib.hid (dec_false h)
    have D' := Lib.hid ((fits_comm m n).trans (dec_false h))
    have A := Lib.hid (grAns_f h)
    have HX := Lib.hid (((Ext.rfl' w).alloc' (.cells #[.slice none 0 0, .slice none 0 0, .slice none 0 0] 25)).alloc' (.cells #[.int .i64 m, .int .i64 n] 58))
    have HR := Lib.hid ((row3_made w (.slice none 0 0) (.slice none 0 0) (.slice none 0 0) 25).alloc (.cells #[.int .i64 m, .int .i64 n] 58))
    clear h
    go_enter Try.func27, Try.ntmps27
    go_wp2_with fail
    generalize (w.alloc (.cells #[.slice none 0 0, .slice none 0 0, .slice none 0 0] 25)).alloc (.cells #[.int .i64 m, .int .i64 n] 58) = W0 at *
    (with_reducible refine (fits_any m n).mono ?_)
    rintro e w1 ⟨rfl, hw⟩
    rw [D'.out]
    have X1 := Lib.hid (HX.out.trans' hw)
    obtain ⟨q0, q1, q2, t0, t1, t2⟩ := row3_facts (row_ext HR.out hw)
    clear hw
    go_wp2
    refine bodyPost_ret (v := .tuple #[znet, .bool false]) (by simp [results, Try.results27, go_sem, q0, q1, q2, znet]) rfl ⟨_, [], ret_net D.out.symm, store3_ext X1.out (Nat.le_refl _) _ _ _, by rw [A.out]; exact own_zero _, Fresh.nil _⟩
end Go.Proofs.Ytecdelmcnbgglaa
