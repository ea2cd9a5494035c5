/- Contracts of neNode, hasNode and both NeighboursOf. -/
import Derived.Test.YtndgbildkeglfaaDeg
import Derived.Test.YtndgbildkeglfaaNear
namespace Go.Proofs.Ytndgbildkeglfaa
open Go.RowKit

def NodeOK (N : Net) (x : Int) : Prop := 0 ≤ x ∧ x < N.ends.length
def NodeAns (N : Net) (x : Int) : Prop := Good N ∧ NodeOK N x

set_option maxHeartbeats 1600000 in
set_option maxRecDepth 100000 in
theorem neNode_any {w : World} {v : Value} {N : Net} (x : Int) (h : NetAt w v N) :
    Calls Try.prog 79 #[v, .int .i64 x] w fun e w' => e = .returned (.bool (dec (NodeAns N x))) ∧ Ext w w' := by
  have HN := Lib.hid h
  obtain ⟨v0, v1, v2, rfl, hE, hI, hP⟩ := h
  clear hI hP
  obtain ⟨a, b, o, c, rfl, ha, hl, hm, hc⟩ := hE
  unfold maxLen at hm
  clear ha hc
  have HX := Lib.hid (boxed_ext w (.slice a N.ends.length c) v1 v2 30)
  have HR := Lib.hid (boxed_row w (.slice a N.ends.length c) v1 v2 30)
  by_cases hg : Good N
  · have G := Lib.hid (dec_true hg)
    have hfin := Lib.hid (dec_congr (p := InB x 0 (N.ends.length - 1)) (q := NodeAns N x) ⟨fun h => ⟨hg, h.1, by have := h.2; omega⟩, fun h => ⟨h.2.1, by have := h.2.2; omega⟩⟩)
    clear hg
    go_enter Try.func79, Try.ntmps79
    go_wp2_with (first | (go_at_call 66; (with_reducible refine (neGood_any (HN.out.ext HX.out)).mono ?_); rintro e w1 ⟨rfl, hw⟩; rw [G.out]; have K1 := Lib.hid (HX.out.trans' hw); obtain ⟨p0, p1, p2, _, _, _⟩ := row3_facts (row_ext HR.out hw); clear hw) | (go_at_call 88; (with_reducible refine (l1In_any _ _ _ _).mono ?_); rintro e w1 ⟨rfl, rfl⟩))
    go_ret
    exact ⟨ret_bool hfin.out, K1.out⟩
  · have G := Lib.hid (dec_false hg)
    have HF := Lib.hid (show ¬ NodeAns N x from fun h => hg h.1)
    clear hg
    go_enter Try.func79, Try.ntmps79
    go_wp2_with (first | (go_at_call 66; (with_reducible refine (neGood_any (HN.out.ext HX.out)).mono ?_); rintro e w1 ⟨rfl, hw⟩; rw [G.out]; have K1 := Lib.hid (HX.out.trans' hw); clear hw))
    go_ret
    exact ⟨ret_f HF.out, K1.out⟩

set_option maxRecDepth 100000 in
theorem hasNode_any {w : World} {v : Value} {N : Net} (x : Int) (h : NetAt w v N) :
    Calls Try.prog 81 #[v, .int .i64 x] w fun e w' => e = .returned (.bool (dec (NodeOK N x))) ∧ Ext w w' := by
  obtain ⟨v0, v1, v2, rfl, hE, hI, hP⟩ := h
  clear hI hP
  obtain ⟨a, b, o, c, rfl, ha, hl, hm, hc⟩ := hE
  unfold maxLen at hm
  clear ha hc
  have HX := Lib.hid (boxed_ext w (.slice a N.ends.length c) v1 v2 30)
  by_cases h1 : 0 ≤ x
  · by_cases h2 : x < N.ends.length
    · have HF := Lib.hid (show NodeOK N x from ⟨h1, h2⟩)
      go_enter Try.func81, Try.ntmps81
      go_wp2
      go_ret
      exact ⟨ret_t HF.out, HX.out⟩
    · have HF := Lib.hid (show ¬ NodeOK N x from fun h => h2 h.2)
      go_enter Try.func81, Try.ntmps81
      go_wp2
      go_ret
      exact ⟨ret_f HF.out, HX.out⟩
  · have HF := Lib.hid (show ¬ NodeOK N x from fun h => h1 h.1)
    go_enter Try.func81, Try.ntmps81
    go_wp2
    go_ret
    exact ⟨ret_f HF.out, HX.out⟩

noncomputable def nbAns (N : Net) (x : Int) : List Int := if dec (NodeAns N x) = true then nears (gr N.ends x.toNat) else []
theorem nbAns_t {N : Net} {x : Int} (h : NodeAns N x) : nbAns N x = nears (gr N.ends x.toNat) := by simp [nbAns, dec_true h]
theorem nbAns_f {N : Net} {x : Int} (h : ¬ NodeAns N x) : nbAns N x = [] := by simp [nbAns, dec_false h]
theorem nbAns_len (N : Net) (x : Int) : (nbAns N x).length ≤ 1048576 := by
  by_cases h : NodeAns N x
  · rw [nbAns_t h, length_nears]
    have := (h.1.2.1 x.toNat (by have := h.2.1; have := h.2.2; omega)).1
    omega
  · rw [nbAns_f h]; simp

set_option maxHeartbeats 1600000 in
set_option maxRecDepth 100000 in
theorem specNeighboursOf_any {w : World} {v : Value} {N : Net} (x : Int) (h : NetAt w v N) :
    Calls Try.prog 37 #[v, .int .i64 x] w fun e w' => ∃ v' bs, e = .returned (.tuple #[v', .bool (dec (NodeAns N x))]) ∧ Ext w w' ∧ OwnI w' v' (nbAns N x) bs ∧ Fresh w bs := by
  have HN := Lib.hid h
  obtain ⟨v0, v1, v2, rfl, hE, hI, hP⟩ := h
  clear hE hI hP
  have HX := Lib.hid (boxed_ext w v0 v1 v2 30)
  have HR := Lib.hid (boxed_row w v0 v1 v2 30)
  by_cases hg : NodeAns N x
  · have G := Lib.hid (dec_true hg)
    have A := Lib.hid (nbAns_t hg)
    have hlen := (hg.1.2.1 x.toNat (by have := hg.2.1; have := hg.2.2; omega)).1
    obtain ⟨xx, rfl⟩ := Int.eq_ofNat_of_zero_le hg.2.1
    have hxl : xx < N.ends.length := by have := hg.2.2; omega
    rw [Int.toNat_natCast] at hlen A
    have Hs := Lib.hid (show (gr N.ends xx).length ≤ 1048576 by omega)
    clear hg hlen
    go_enter Try.func37, Try.ntmps37
    go_wp2_with (first | (go_at_call 79; (with_reducible refine (neNode_any _ (HN.out.ext HX.out)).mono ?_); rintro e w1 ⟨rfl, hw⟩; rw [G.out]; have K1 := Lib.hid (HX.out.trans' hw); obtain ⟨p0, p1, p2, _, _, _⟩ := row3_facts (row_ext HR.out hw); clear hw) | (go_at_call 80; (with_reducible refine (neNear_any _ hxl (HN.out.ext K1.out) Hs.out).mono ?_); rintro e w2 ⟨z, bs, rfl, hw, ho, hf⟩; have K2 := Lib.hid (K1.out.trans' hw); have O2 := Lib.hid ho; have F2 := Lib.hid (hf.of K1.out.size); clear hw ho hf))
    go_ret2
    exact ⟨_, bs, ret_sl G.out.symm, K2.out, by rw [A.out]; exact O2.out, F2.out⟩
  · have G := Lib.hid (dec_false hg)
    have A := Lib.hid (nbAns_f hg)
    clear hg
    go_enter Try.func37, Try.ntmps37
    go_wp2_with (first | (go_at_call 79; (with_reducible refine (neNode_any _ (HN.out.ext HX.out)).mono ?_); rintro e w1 ⟨rfl, hw⟩; rw [G.out]; have K1 := Lib.hid (HX.out.trans' hw); clear hw))
    go_ret2
    exact ⟨_, [], ret_sl G.out.symm, K1.out, by rw [A.out]; exact own_nil _, Fresh.nil _⟩
end Go.Proofs.Ytndgbildkeglfaa
