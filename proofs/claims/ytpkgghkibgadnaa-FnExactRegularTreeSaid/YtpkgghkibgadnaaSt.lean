/- Stars: as plain data; the contracts of both sides' StarNetwork, and of the program's RegularTree at depth 1. -/
import Derived.Test.YtpkgghkibgadnaaEp
import Derived.Test.YtpkgghkibgadnaaKh
namespace Go.Proofs.Ytpkgghkibgadnaa
open Go.RowKit

def starE : Nat → List (Int × Int)
  | 0 => []
  | j + 1 => starE j ++ [((0 : Int), (j : Int) + 1)]
def starD (j : Nat) : List Int := 0 :: List.replicate j 1
theorem starE_len : ∀ j, (starE j).length = j
  | 0 => rfl
  | j + 1 => by rw [starE, List.length_append, starE_len j]; rfl
theorem starE_in : ∀ j, j ≤ 6 → PairsIn (starE j)
  | 0, _ => PairsIn.nil
  | j + 1, h => PairsIn.app (starE_in j (by omega)) fun i hi => by
      obtain rfl : i = 0 := by simpa using hi
      exact ⟨by unfold inI64; simp [gn], by unfold inI64; simp [gp]; omega⟩
theorem starD_len (j : Nat) : (starD j).length = j + 1 := by simp [starD]
theorem starD_snoc (j : Nat) : intCells (starD j) ++ [.int .i64 1] = intCells (starD (j + 1)) := by
  simp [intCells, starD, List.replicate_succ']
theorem starD_in (j : Nat) : ∀ i, i < (starD j).length → inI64 (gi (starD j) i) := fun i hi => by
  rw [starD_len] at hi
  unfold inI64
  rcases i with _ | i
  · simp [gi, starD]
  · have : gi (starD j) (i + 1) = 1 := by simp [gi, starD, show i < j by omega]
    rw [this]; omega
theorem starD_0 (j : Nat) : gi (starD j) 0 = 0 := by simp [gi, starD]
theorem starD_1 {j : Nat} (h : 0 < j) : gi (starD j) 1 = 1 := by simp [gi, starD, h]
def starNet (k : Nat) : Net := madeTo (blank (k + 1) 0) (starE k) (starE k).length
theorem star_fits : ∀ k, k ≤ 6 → edgesC (k + 1) (starE k) = true := by decide +kernel
theorem starNet_good {k : Nat} (h : k ≤ 6) : Good (starNet k) := (made_good (by omega) (by omega) (edgesC_ok (star_fits k h)) _ (Nat.le_refl _)).1
noncomputable def stAns (n : Int) : Net := if dec (InB n 0 6) = true then starNet n.toNat else zeroNet
theorem stAns_t {n : Int} (h : InB n 0 6) : stAns n = starNet n.toNat := by simp [stAns, dec_true h]
theorem stAns_f {n : Int} (h : ¬ InB n 0 6) : stAns n = zeroNet := by simp [stAns, dec_false h]
theorem stAns_small (n : Int) : (stAns n).small := by
  by_cases h : InB n 0 6
  · rw [stAns_t h]; exact good_small (starNet_good (by have := h.2; omega))
  · rw [stAns_f h]; exact zero_small
theorem owns_stay {w w' : World} {B t k n B' t' k' n' : Nat} {v u : Value} {xs ys : List Value} (h : w.ownsRow B' t' k' u n' ys) (ho : w.ownsRow B t k v n xs) (hg : w.grownBy w' v.ownBlock) (hne : t' ≠ t) : w'.ownsRow B' t' k' u n' ys := by
  refine ⟨h.1, ?_⟩
  rcases h.2 with ⟨rfl, hn⟩ | ⟨g, cap, cur, rfl, hb, hh, rest⟩
  · exact .inl ⟨rfl, hn⟩
  · refine .inr ⟨g, cap, cur, rfl, hb, ?_, rest⟩
    rw [hg.block g (Array.getElem?_eq_some_iff.1 hh).1 (fun e => ?_)]
    · exact hh
    · obtain ⟨cur', hc'⟩ := owns_typed ho g e.symm
      exact type_ne hh hc' hne rfl
theorem owns_at {w : World} {B n : Nat} {v : Value} {l : List Int} (h : w.ownsRow B 3 1 v n (intCells l)) (hl : l.length = n) (hn : 0 < n) :
    ∃ g c, v = .slice (some ⟨g, 0, none⟩) n c ∧ n ≤ c ∧ c ≤ maxLen ∧ ∀ i, i < n → w.cell? ⟨g, i, none⟩ = some (.int .i64 (gi l i)) := by
  rcases h.2 with ⟨rfl, rfl⟩ | ⟨g, cap, cur, rfl, hb, hh, hc1, hc2, hs, ht⟩
  · omega
  · refine ⟨g, cap, rfl, hc1, hc2, fun i hi => ?_⟩
    have e := intCells_get l i (by omega)
    rw [← ht, List.getElem?_take, if_pos (by omega)] at e
    simp only [Array.getElem?_toList] at e
    have hlt : i < cur.size := (Array.getElem?_eq_some_iff.1 e).1
    have hrow : w.rowIs g 3 cur.size (fun i => cur.getD i undef) := ⟨cur, hh, rfl, fun i hi => by simp [hi]⟩
    rw [hrow.cell hlt]
    simp [Array.getD, hlt]
    simpa [hlt] using e
theorem Try.infoT2' : (Try.prog.info? 62).map (fun i => (i.zero, i.size, i.bytes)) = some (some (.agg #[.int .i64 0, .int .i64 0]), 2, 16) := by kernel_rfl

set_option maxHeartbeats 3200000 in
set_option maxRecDepth 100000 in
theorem tree1_t {w : World} (k : Nat) (h6 : k ≤ 6) :
    Calls Try.prog 18 #[.int .i64 k, .int .i64 1] w fun e w' => ∃ v' bs, e = .returned (.tuple #[v', .bool true]) ∧ Ext w w' ∧ OwnNet w' v' (starNet k) bs ∧ Fresh w bs := by
  have HX := Lib.hid ((Ext.rfl' w).alloc' (.cells #[.slice none 0 0, .slice none 0 0, .slice none 0 0] 29))
  have HR := Lib.hid (And.intro (row3_made w (.slice none 0 0) (.slice none 0 0) (.slice none 0 0) 29) (show (w.alloc (.cells #[.slice none 0 0, .slice none 0 0, .slice none 0 0] 29)).heap.size = w.heap.size + 1 by simp))
  obtain ⟨i2, hi, hz0, hz1, hz2⟩ := info_parts Try.infoT2'
  have I2 := Lib.hid (And.intro hi (And.intro hz0 (And.intro hz1 hz2)))
  obtain ⟨i3, hj, hy0, hy1, hy2⟩ := info_parts Try.info3
  have I3 := Lib.hid (And.intro hj (And.intro hy0 (And.intro hy1 hy2)))
  clear hi hz0 hz1 hz2 hj hy0 hy1 hy2
  go_enter Try.func18, Try.ntmps18
  go_wp2_with fail
  generalize w.alloc (.cells #[.slice none 0 0, .slice none 0 0, .slice none 0 0] 29) = W0 at *
  go_loopg [6, 7, 8] 2 (fun g es ds vv wr => ∃ v m : Nat, (v = 0 ∧ m = 0 ∨ v = 1 ∧ m = k) ∧ g = 2 - v ∧ vv = .int .i64 v ∧ Hid (Ext W0 wr ∧ wr.ownsRow W0.heap.size 62 2 es m (endCells (starE m)) ∧ wr.ownsRow W0.heap.size 3 1 ds (m + 1) (intCells (starD m))))
  case atStart =>
    refine ⟨0, 0, .inl ⟨rfl, rfl⟩, rfl, rfl, ((Ext.rfl' W0).alloc' _).alloc' _, ?_, ?_⟩
    · rw [← HR.out.2]
      exact owns_ext (owns_lit W0 62 2) ((Ext.rfl' _).alloc' _)
    · have := World.ownsRow_lit (base := W0.heap.size) (e := 3) (size := 1) (W0.alloc (.cells #[] 62)) #[.int .i64 0] 1 (by simp) (by decide) (by simp)
      have hz := HR.out.2
      simp at this
      rw [← hz]
      simpa [starD, intCells] using this
  case round =>
    obtain ⟨v, m, hvm, rfl, rfl, Hr⟩ := hrel
    obtain ⟨dg, dc, rfl, hdc, hdm, hdcell⟩ := owns_at Hr.out.2.2 (starD_len m) (by omega)
    unfold maxLen at hdm
    rcases hvm with ⟨rfl, rfl⟩ | ⟨rfl, hmk⟩
    · have c0 := hdcell 0 (by omega)
      rw [starD_0] at c0
      clear hdcell
      go_wp2
      clear c0
      have hw0 : ∃ wo : World, wo = wr := ⟨_, rfl⟩
      obtain ⟨wo, rfl⟩ := hw0
      go_loopg [6, 7, 47] k (fun g es ds i wx => ∃ j : Nat, j ≤ k ∧ g = k - j ∧ i = .int .i64 j ∧ Hid (Ext W0 wx ∧ wx.ownsRow W0.heap.size 62 2 es j (endCells (starE j)) ∧ wx.ownsRow W0.heap.size 3 1 ds (j + 1) (intCells (starD j))))
      case atStart => exact ⟨0, Nat.zero_le _, rfl, rfl, Hr.out⟩
      case round =>
        obtain ⟨j, hj, rfl, rfl, Hs⟩ := hrel
        obtain ⟨eg, ec, rfl, hec, hem, hecell⟩ := owns_at Hs.out.2.2 (starD_len j) (by omega)
        unfold maxLen at hem
        by_cases hjt : j < k
        · have HZ := Lib.hid Hs.out.1.size
          have SN := Lib.hid (starD_snoc j)
          clear hecell
          go_wp2_with (first
            | (at_builtin; refine wpList_app rfl (.tmp 49) (.tmp 54) 61 rfl W0.heap.size 62 i2 (.agg #[.int .i64 0, .int .i64 0]) 2 16 Try.underlying61 I2.out.1 I2.out.2.1 I2.out.2.2.1 I2.out.2.2.2 rfl (by decide) u6 j (endCells (starE j)) rfl (owns_ext Hs.out.2.1 ((Ext.rfl' wr).alloc' _)) (some ⟨wr.heap.size, 0, none⟩) 1 1 [.int .i64 0, .int .i64 ((j : Int) + 1)] rfl (src_two wr _ _ _ rfl rfl) (by unfold maxLen; omega) (by omega) (Nat.le_trans HZ.out ((Ext.rfl' wr).alloc' _).size) ?_; intro v' w3 hg; have d3 := owns_stay (owns_ext Hs.out.2.2 ((Ext.rfl' wr).alloc' _)) (owns_ext Hs.out.2.1 ((Ext.rfl' wr).alloc' _)) hg.2.1 (by decide); obtain ⟨g5, g6⟩ := flat_step2 ((Ext.rfl' wr).alloc' _) Hs.out.2.1 hg; have G5 := Lib.hid g5; have G6 := Lib.hid (g6 W0 Hs.out.1 (Nat.le_refl _)); have D3 := Lib.hid d3; obtain ⟨g', c', hv', -, -, hc'⟩ := owns_at d3 (starD_len j) (by omega); obtain ⟨rfl, rfl⟩ : eg = g' ∧ ec = c' := (by simpa using hv'); have c0 := hc' 0 (by omega); rw [starD_0] at c0; clear hg g5 g6 d3 hv' hc')
            | (at_builtin; refine wpList_app rfl (.tmp 56) (.tmp 62) 23 rfl W0.heap.size 3 i3 (.int .i64 0) 1 8 Try.underlying23 I3.out.1 I3.out.2.1 I3.out.2.2.1 I3.out.2.2.2 rfl (by decide) (.slice (some ⟨eg, 0, none⟩) (j + 1) ec) (j + 1) (intCells (starD j)) rfl (owns_ext D3.out ((Ext.rfl' w3).alloc' _)) (some ⟨w3.heap.size, 0, none⟩) 1 1 [.int .i64 1] rfl (src_one w3 _ _ rfl) (by unfold maxLen; omega) (by omega) (Nat.le_trans G6.out.size ((Ext.rfl' w3).alloc' _).size) ?_; intro v'' w4 hg; have e4 := owns_stay (owns_ext G5.out ((Ext.rfl' w3).alloc' _)) (owns_ext D3.out ((Ext.rfl' w3).alloc' _)) hg.2.1 (by decide); have E4 := Lib.hid e4; have D4 := Lib.hid (show w4.ownsRow W0.heap.size 3 1 v'' (j + 1 + 1) (intCells (starD (j + 1))) by rw [← SN.out]; exact hg.1); have X4 := Lib.hid (hg.ext (G6.out.alloc' _) fun b hb => (D3.out.lt b hb).1); clear hg e4)
            | fail)
          go_roundg (k - (j + 1))
          case measure => omega
          case rel => exact ⟨j + 1, by omega, rfl, by go_num, X4.out, E4.out, D4.out⟩
        · obtain rfl : j = k := by omega
          clear hecell
          go_wp2
          go_roundg (2 - 1)
          case measure => omega
          case rel => exact ⟨1, j, .inr ⟨rfl, rfl⟩, rfl, by go_num, Hs.out⟩
    · obtain rfl := hmk
      have F := Lib.hid (flat_of_owns (E := starE m) Hr.out.2.1 (by rw [starE_len]) (starE_in m h6))
      have MB := Lib.hid (mbAns_ok (n := m + 1) (by omega) (by omega) (edgesC_ok (star_fits m h6)))
      have EX := Lib.hid (HX.out.trans' Hr.out.1)
      have FL := Lib.hid (show FlatSl wr u6 (starE m).length (starE m) by rw [starE_len]; exact F.out)
      have CALL := madeBy_any (m + 1) (by omega) FL.out
      have hcast : ((m + 1 : Nat) : Int) = (m : Int) + 1 := by omega
      rw [hcast, MB.out] at CALL
      have HC := Lib.hid CALL
      clear CALL hcast
      by_cases hm0 : m = 0
      · subst hm0
        clear hdcell
        have HC0 := Lib.hid (show Calls Try.prog 38 #[.int .i64 1, u6] wr _ from HC.out)
        go_wp2_with fail
        (with_reducible refine HC0.out.mono ?_)
        rintro e w4 ⟨v', bs, rfl, hw, ho, hf⟩
        obtain ⟨a0, c0', a1, c1', a2, c2', rfl⟩ := ho.agg
        have E4 := Lib.hid (EX.out.trans' hw)
        have O4 := Lib.hid (show OwnNet w4 _ (starNet 0) bs from ho)
        have F4 := Lib.hid hf.1
        have S4 := Lib.hid (show ∀ b ∈ bs, w.heap.size ≤ b ∧ b ≠ w.heap.size from fun b hb => by have := hf.2 b hb; have := Hr.out.1.size; have := HR.out.2; omega)
        obtain ⟨s0, s1, s2, t0, t1, t2⟩ := row3_facts (row_ext HR.out.1 (Hr.out.1.trans' hw))
        clear hw ho hf
        go_wp2
        have hc := close_at E4.out (Nat.le_refl _) O4.out F4.out S4.out
        refine bodyPost_ret (v := .tuple #[.agg #[.slice a0 (starNet 0).ends.length c0', .slice a1 (starNet 0).ids.length c1', .slice a2 (starNet 0).inputs.length c2'], .bool true]) (by simp [results, Try.results18, go_sem, s0, s1, s2, starNet]) rfl ⟨_, bs, rfl, hc.1, hc.2.1, hc.2.2⟩
      · have c1 := hdcell 1 (by omega)
        rw [starD_1 (by omega)] at c1
        clear hdcell
        go_wp2_with fail
        (with_reducible refine HC.out.mono ?_)
        rintro e w4 ⟨v', bs, rfl, hw, ho, hf⟩
        obtain ⟨a0, c0', a1, c1', a2, c2', rfl⟩ := ho.agg
        have E4 := Lib.hid (EX.out.trans' hw)
        have O4 := Lib.hid (show OwnNet w4 _ (starNet m) bs from ho)
        have F4 := Lib.hid hf.1
        have S4 := Lib.hid (show ∀ b ∈ bs, w.heap.size ≤ b ∧ b ≠ w.heap.size from fun b hb => by have := hf.2 b hb; have := Hr.out.1.size; have := HR.out.2; omega)
        obtain ⟨s0, s1, s2, t0, t1, t2⟩ := row3_facts (row_ext HR.out.1 (Hr.out.1.trans' hw))
        clear hw ho hf
        go_wp2
        have hc := close_at E4.out (Nat.le_refl _) O4.out F4.out S4.out
        refine bodyPost_ret (v := .tuple #[.agg #[.slice a0 (starNet m).ends.length c0', .slice a1 (starNet m).ids.length c1', .slice a2 (starNet m).inputs.length c2'], .bool true]) (by simp [results, Try.results18, go_sem, s0, s1, s2, starNet]) rfl ⟨_, bs, rfl, hc.1, hc.2.1, hc.2.2⟩

set_option maxHeartbeats 1600000 in
set_option maxRecDepth 100000 in
theorem tree1_f {w : World} (n : Int) (h : ¬ InB n 0 6) :
    Calls Try.prog 18 #[.int .i64 n, .int .i64 1] w fun e w' => e = .returned (.tuple #[znet, .bool false]) ∧ Ext w w' := by
  have HX := Lib.hid ((Ext.rfl' w).alloc' (.cells #[.slice none 0 0, .slice none 0 0, .slice none 0 0] 29))
  by_cases h0 : n < 0
  · go_enter Try.func18, Try.ntmps18
    go_wp2
    refine bodyPost_ret (v := .tuple #[znet, .bool false]) (by simp [results, Try.results18, go_sem, znet]) rfl ⟨rfl, (by first | exact HX.out | exact store3_ext HX.out (Nat.le_refl _) _ _ _)⟩
  · have h6 : 6 < n := Int.not_le.1 fun k => h ⟨by omega, k⟩
    go_enter Try.func18, Try.ntmps18
    go_wp2
    refine bodyPost_ret (v := .tuple #[znet, .bool false]) (by simp [results, Try.results18, go_sem, znet]) rfl ⟨rfl, (by first | exact HX.out | exact store3_ext HX.out (Nat.le_refl _) _ _ _)⟩

end Go.Proofs.Ytpkgghkibgadnaa
