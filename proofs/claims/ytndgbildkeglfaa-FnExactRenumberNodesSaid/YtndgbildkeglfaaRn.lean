/- The contracts of both RenumberNodes. No condition but that the list is short. -/
import Derived.Test.YtndgbildkeglfaaNeRn
import Derived.Test.YtndgbildkeglfaaCh5
namespace Go.Proofs.Ytndgbildkeglfaa
open Go.RowKit

theorem chg_at {w : World} {v0 v1 v2 v3 : Value} {N : Net} {l : List Int} (k x y : Int) (h : NetAt w (.agg #[v0, v1, v2]) N) (hl : IntSl w v3 l) : ChgAt w (.agg #[.int .i64 k, v0, v1, v2, .int .i64 x, .int .i64 y, v3]) k N x y l := ⟨_, _, _, _, rfl, h, hl⟩
def RenB (N : Net) (l : List Int) : Prop := Good N ∧ PermOK l N.ends.length
noncomputable def renAns (N : Net) (l : List Int) : Net := if dec (RenB N l) = true then renNet N l else zeroNet
theorem renAns_t {N : Net} {l : List Int} (h : RenB N l) : renAns N l = renNet N l := by simp [renAns, dec_true h]
theorem renAns_f {N : Net} {l : List Int} (h : ¬ RenB N l) : renAns N l = zeroNet := by simp [renAns, dec_false h]
theorem renAns_small (N : Net) (l : List Int) : (renAns N l).small := by
  by_cases h : RenB N l
  · rw [renAns_t h]
    obtain ⟨s1, s2, s3, s4⟩ := good_small h.1
    refine ⟨by show (renEnds N l).length ≤ _; rw [length_renEnds]; exact s1, fun i => ?_, ?_, ?_⟩
    · show (gr (renEnds N l) i).length ≤ _
      by_cases hi : i < N.ends.length
      · rw [gr_renEnds _ _ hi, length_renRow]; exact s2 _
      · rw [gr_out _ _ (by rw [length_renEnds]; omega)]; simp
    · show (if N.ids.length = 0 then [] else renInts N.ends.length l N.ids).length ≤ _
      by_cases hd : N.ids.length = 0
      · rw [if_pos hd]; simp
      · rw [if_neg hd, length_renInts]; omega
    · show (renInts N.ends.length l N.inputs).length ≤ _
      rw [length_renInts]; omega
  · rw [renAns_f h]; exact zero_small

set_option maxHeartbeats 1600000 in
set_option maxRecDepth 100000 in
theorem specRenumberNodes_any {w : World} {v u : Value} {N : Net} {l : List Int} (h : NetAt w v N) (hl : IntSl w u l) (_ : l.length ≤ 1048576) :
    Calls Try.prog 56 #[v, u] w fun e w' => ∃ v' bs, e = .returned (.tuple #[v', .bool (dec (RenB N l))]) ∧ Ext w w' ∧ OwnNet w' v' (renAns N l) bs ∧ Fresh w bs := by
  have HN := Lib.hid h
  have HL := Lib.hid hl
  obtain ⟨ul, _, _, uc, rfl, _, _, um, _⟩ := hl
  unfold maxLen at um
  obtain ⟨w0, v1, v2, rfl, hE, hI, hP⟩ := h
  obtain ⟨ea, _, _, ec, rfl, _, _, em, _⟩ := hE
  unfold maxLen at em
  clear hI hP
  have HX := Lib.hid (boxed2_ext w (.slice ea N.ends.length ec) v1 v2)
  have HR := Lib.hid (boxed2_row w (.slice ea N.ends.length ec) v1 v2)
  have HQ := Lib.hid (boxed2_res w (.slice ea N.ends.length ec) v1 v2)
  by_cases hg : Good N
  · have G := Lib.hid (dec_true hg)
    have GG := Lib.hid hg
    have h40 : N.ends.length ≤ 40 := hg.1.2
    by_cases hb : PermOK l N.ends.length
    · have P := Lib.hid hb
      have BD := Lib.hid (dec_true hb)
      have D : Hid (dec (RenB N l) = true) := dec_true ⟨hg, hb⟩
      have E : Hid (renAns N l = renNet N l) := renAns_t ⟨hg, hb⟩
      clear hb hg
      go_enter Try.func56, Try.ntmps56
      go_wp2_with fail
      (with_reducible refine (neGood_any (HN.out.ext HX.out)).mono ?_)
      rintro e w1 ⟨rfl, hw⟩
      rw [G.out]
      have K1 := Lib.hid (HX.out.trans' hw)
      have R1 := Lib.hid (row_ext HR.out hw)
      have Q1 := Lib.hid (row_ext HQ.out hw)
      obtain ⟨p0, p1, p2, -, -, -⟩ := row3_facts R1.out
      clear hw
      go_wp2_with fail
      (with_reducible refine (nePerm_any N.ends.length (by omega) (HL.out.ext K1.out)).mono ?_)
      rintro e w2 ⟨rfl, hw⟩
      rw [BD.out]
      have K2 : Hid (Ext w w2) := K1.out.trans' (hw ▸ Ext.rfl' w1)
      have R2 : Hid (w2.rowIs w.heap.size 30 3 (tri (.slice ea N.ends.length ec) v1 v2)) := hw ▸ R1.out
      have Q2 : Hid (w2.rowIs (w.heap.size + 1) 30 3 (tri (.slice none 0 0) (.slice none 0 0) (.slice none 0 0))) := hw ▸ Q1.out
      subst hw
      
      go_wp2_with fail
      (with_reducible refine (neRenumber_any (HN.out.ext K2.out) (HL.out.ext K2.out) GG.out P.out).mono ?_)
      rintro e w3 ⟨y, bs, rfl, hw, ho, hf⟩
      obtain ⟨a0, c0, a1, c1, a2, c2, rfl⟩ := ho.agg
      have K3 := Lib.hid (K2.out.trans' hw)
      have O3 := Lib.hid ho
      have N3 := Lib.hid hf.1
      have B3 := Lib.hid (show ∀ b ∈ bs, w.heap.size + 2 ≤ b from fun b hb => by have := hf.2 b hb; have := Q2.out.lt; omega)
      obtain ⟨u0, u1, u2, s0, s1, s2⟩ := row3_facts (row_ext Q2.out hw)
      clear hw ho hf p0 p1 p2
      go_wp2
      refine bodyPost_ret (v := .tuple #[.agg #[.slice a0 (renNet N l).ends.length c0, .slice a1 (renNet N l).ids.length c1, .slice a2 (renNet N l).inputs.length c2], .bool true]) (by simp [results, Try.results56, go_sem, u0, u1, u2]) rfl ?_
      have hc := close_net K3.out O3.out N3.out B3.out
      exact ⟨_, bs, ret_net D.out.symm, hc.1, by rw [E.out]; exact hc.2.1, hc.2.2⟩
    · have BD := Lib.hid (dec_false hb)
      have D : Hid (dec (RenB N l) = false) := dec_false fun k => hb k.2
      have E : Hid (renAns N l = zeroNet) := renAns_f fun k => hb k.2
      clear hb hg
      go_enter Try.func56, Try.ntmps56
      go_wp2_with fail
      (with_reducible refine (neGood_any (HN.out.ext HX.out)).mono ?_)
      rintro e w1 ⟨rfl, hw⟩
      rw [G.out]
      have K1 := Lib.hid (HX.out.trans' hw)
      have Q1 := Lib.hid (row_ext HQ.out hw)
      obtain ⟨p0, p1, p2, -, -, -⟩ := row3_facts (row_ext HR.out hw)
      clear hw
      go_wp2_with fail
      (with_reducible refine (nePerm_any N.ends.length (by omega) (HL.out.ext K1.out)).mono ?_)
      rintro e w2 ⟨rfl, hw⟩
      rw [BD.out]
      have K2 : Hid (Ext w w2) := K1.out.trans' (hw ▸ Ext.rfl' w1)
      obtain ⟨q0, q1, q2, t0, t1, t2⟩ := row3_facts (show w2.rowIs _ _ _ _ from hw ▸ Q1.out)
      clear p0 p1 p2
      go_wp2
      refine bodyPost_ret (v := .tuple #[znet, .bool false]) (by simp [results, Try.results56, go_sem, q0, q1, q2, znet]) rfl ⟨_, [], ret_net D.out.symm, store3_ext K2.out (by omega) _ _ _, by rw [E.out]; exact own_zero _, Fresh.nil _⟩
  · have G := Lib.hid (dec_false hg)
    have D : Hid (dec (RenB N l) = false) := dec_false fun k => hg k.1
    have E : Hid (renAns N l = zeroNet) := renAns_f fun k => hg k.1
    clear hg
    go_enter Try.func56, Try.ntmps56
    go_wp2_with fail
    (with_reducible refine (neGood_any (HN.out.ext HX.out)).mono ?_)
    rintro e w1 ⟨rfl, hw⟩
    rw [G.out]
    have K1 := Lib.hid (HX.out.trans' hw)
    obtain ⟨q0, q1, q2, t0, t1, t2⟩ := row3_facts (row_ext HQ.out hw)
    clear hw
    go_wp2
    refine bodyPost_ret (v := .tuple #[znet, .bool false]) (by simp [results, Try.results56, go_sem, q0, q1, q2, znet]) rfl ⟨_, [], ret_net D.out.symm, store3_ext K1.out (by omega) _ _ _, by rw [E.out]; exact own_zero _, Fresh.nil _⟩

set_option maxHeartbeats 1600000 in
set_option maxRecDepth 100000 in
theorem renumberNodes_any {w : World} {v u : Value} {N : Net} {l : List Int} (h : NetAt w v N) (hl : IntSl w u l) (_ : l.length ≤ 1048576) :
    Calls Try.prog 57 #[v, u] w fun e w' => ∃ v' bs, e = .returned (.tuple #[v', .bool (dec (RenB N l))]) ∧ Ext w w' ∧ OwnNet w' v' (renAns N l) bs ∧ Fresh w bs := by
  have HN := Lib.hid h
  have HL := Lib.hid hl
  obtain ⟨ul, _, _, uc, rfl, _, _, um, _⟩ := hl
  unfold maxLen at um
  obtain ⟨w0, v1, v2, rfl, hE, hI, hP⟩ := h
  obtain ⟨ea, _, _, ec, rfl, _, _, em, _⟩ := hE
  unfold maxLen at em
  clear hI hP
  have HX := Lib.hid (boxed2_ext w (.slice ea N.ends.length ec) v1 v2)
  have HR := Lib.hid (boxed2_row w (.slice ea N.ends.length ec) v1 v2)
  have HQ := Lib.hid (boxed2_res w (.slice ea N.ends.length ec) v1 v2)
  by_cases hg : Good N
  · have G := Lib.hid (dec_true hg)
    have GG := Lib.hid hg
    have h40 : N.ends.length ≤ 40 := hg.1.2
    by_cases hb : PermOK l N.ends.length
    · have P := Lib.hid hb
      have BD := Lib.hid (dec_true hb)
      have D : Hid (dec (RenB N l) = true) := dec_true ⟨hg, hb⟩
      have E : Hid (renAns N l = renNet N l) := renAns_t ⟨hg, hb⟩
      clear hb hg
      go_enter Try.func57, Try.ntmps57
      go_wp2_with fail
      (with_reducible refine (isNetwork_any (HN.out.ext HX.out)).mono ?_)
      rintro e w1 ⟨rfl, hw⟩
      rw [G.out]
      have K1 := Lib.hid (HX.out.trans' hw)
      have R1 := Lib.hid (row_ext HR.out hw)
      have Q1 := Lib.hid (row_ext HQ.out hw)
      obtain ⟨p0, p1, p2, -, -, -⟩ := row3_facts R1.out
      clear hw
      go_wp2_with fail
      (with_reducible refine (isPermutation_any N.ends.length (by omega) (HL.out.ext K1.out)).mono ?_)
      rintro e w2 ⟨rfl, hw⟩
      rw [BD.out]
      have K2 : Hid (Ext w w2) := K1.out.trans' hw
      have R2 : Hid (w2.rowIs w.heap.size 30 3 (tri (.slice ea N.ends.length ec) v1 v2)) := row_ext R1.out hw
      have Q2 : Hid (w2.rowIs (w.heap.size + 1) 30 3 (tri (.slice none 0 0) (.slice none 0 0) (.slice none 0 0))) := row_ext Q1.out hw
      clear hw p0 p1 p2
      obtain ⟨p0, p1, p2, -, -, -⟩ := row3_facts R2.out
      go_wp2_with fail
      (with_reducible refine (after2_any (chg_at 2 0 0 (HN.out.ext K2.out) (HL.out.ext K2.out)) GG.out P.out).mono ?_)
      rintro e w3 ⟨y, bs, rfl, hw, ho, hf⟩
      obtain ⟨a0, c0, a1, c1, a2, c2, rfl⟩ := ho.agg
      have K3 := Lib.hid (K2.out.trans' hw)
      have O3 := Lib.hid ho
      have N3 := Lib.hid hf.1
      have B3 := Lib.hid (show ∀ b ∈ bs, w.heap.size + 2 ≤ b from fun b hb => by have := hf.2 b hb; have := Q2.out.lt; omega)
      obtain ⟨u0, u1, u2, s0, s1, s2⟩ := row3_facts (row_ext Q2.out hw)
      clear hw ho hf p0 p1 p2
      go_wp2
      refine bodyPost_ret (v := .tuple #[.agg #[.slice a0 (renNet N l).ends.length c0, .slice a1 (renNet N l).ids.length c1, .slice a2 (renNet N l).inputs.length c2], .bool true]) (by simp [results, Try.results57, go_sem, u0, u1, u2]) rfl ?_
      have hc := close_net K3.out O3.out N3.out B3.out
      exact ⟨_, bs, ret_net D.out.symm, hc.1, by rw [E.out]; exact hc.2.1, hc.2.2⟩
    · have BD := Lib.hid (dec_false hb)
      have D : Hid (dec (RenB N l) = false) := dec_false fun k => hb k.2
      have E : Hid (renAns N l = zeroNet) := renAns_f fun k => hb k.2
      clear hb hg
      go_enter Try.func57, Try.ntmps57
      go_wp2_with fail
      (with_reducible refine (isNetwork_any (HN.out.ext HX.out)).mono ?_)
      rintro e w1 ⟨rfl, hw⟩
      rw [G.out]
      have K1 := Lib.hid (HX.out.trans' hw)
      have Q1 := Lib.hid (row_ext HQ.out hw)
      obtain ⟨p0, p1, p2, -, -, -⟩ := row3_facts (row_ext HR.out hw)
      clear hw
      go_wp2_with fail
      (with_reducible refine (isPermutation_any N.ends.length (by omega) (HL.out.ext K1.out)).mono ?_)
      rintro e w2 ⟨rfl, hw⟩
      rw [BD.out]
      have K2 : Hid (Ext w w2) := K1.out.trans' hw
      obtain ⟨q0, q1, q2, t0, t1, t2⟩ := row3_facts (row_ext Q1.out hw)
      clear hw p0 p1 p2
      go_wp2
      refine bodyPost_ret (v := .tuple #[znet, .bool false]) (by simp [results, Try.results57, go_sem, q0, q1, q2, znet]) rfl ⟨_, [], ret_net D.out.symm, store3_ext K2.out (by omega) _ _ _, by rw [E.out]; exact own_zero _, Fresh.nil _⟩
  · have G := Lib.hid (dec_false hg)
    have D : Hid (dec (RenB N l) = false) := dec_false fun k => hg k.1
    have E : Hid (renAns N l = zeroNet) := renAns_f fun k => hg k.1
    clear hg
    go_enter Try.func57, Try.ntmps57
    go_wp2_with fail
    (with_reducible refine (isNetwork_any (HN.out.ext HX.out)).mono ?_)
    rintro e w1 ⟨rfl, hw⟩
    rw [G.out]
    have K1 := Lib.hid (HX.out.trans' hw)
    obtain ⟨q0, q1, q2, t0, t1, t2⟩ := row3_facts (row_ext HQ.out hw)
    clear hw
    go_wp2
    refine bodyPost_ret (v := .tuple #[znet, .bool false]) (by simp [results, Try.results57, go_sem, q0, q1, q2, znet]) rfl ⟨_, [], ret_net D.out.symm, store3_ext K1.out (by omega) _ _ _, by rw [E.out]; exact own_zero _, Fresh.nil _⟩
end Go.Proofs.Ytndgbildkeglfaa
