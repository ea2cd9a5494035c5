/- The contracts of both WithIds. No condition but that the list is short. -/
import Derived.Test.YtkpdbceglejbnaaKd
namespace Go.Proofs.Ytkpdbceglejbnaa
open Go.RowKit

def withIds (N : Net) (l : List Int) : Net := { N with ids := l }
def IdsB (N : Net) (l : List Int) : Prop := Good N ∧ IdsOK l N.ends.length
noncomputable def idsAns (N : Net) (l : List Int) : Net := if dec (IdsB N l) = true then withIds N l else zeroNet
theorem idsAns_t {N : Net} {l : List Int} (h : IdsB N l) : idsAns N l = withIds N l := by simp [idsAns, dec_true h]
theorem idsAns_f {N : Net} {l : List Int} (h : ¬ IdsB N l) : idsAns N l = zeroNet := by simp [idsAns, dec_false h]
theorem ids_good {N : Net} {l : List Int} (h : Good N) : Good (withIds N l) ↔ IdsOK l N.ends.length := ⟨fun k => k.2.2.1, fun k => ⟨h.1, h.2.1, k, h.2.2.2⟩⟩
theorem idsAns_small (N : Net) (l : List Int) : (idsAns N l).small := by
  by_cases h : IdsB N l
  · rw [idsAns_t h]; exact good_small ((ids_good h.1).2 h.2)
  · rw [idsAns_f h]; exact zero_small

/-- A network in memory of its own gets other identifiers, of their own, too. -/
theorem own_ids {B : Nat} {w : World} {v0 v1 v2 x : Value} {N : Net} {l : List Int} {bs cs : List Nat} (h : OwnNet w (.agg #[v0, v1, v2]) N bs) (hf : bs.Nodup ∧ ∀ b ∈ bs, B ≤ b) (k : OwnI w x l cs) (kf : cs.Nodup ∧ ∀ b ∈ cs, B ≤ b) (hd : ∀ b ∈ bs, b ∉ cs) :
    ∃ ds, OwnNet w (.agg #[v0, x, v2]) (withIds N l) ds ∧ ds.Nodup ∧ ∀ b ∈ ds, B ≤ b := by
  obtain ⟨y0, y1, y2, b0, b1, b2, e, h0, h1, h2, rfl⟩ := h
  simp only [Value.agg.injEq, Array.mk.injEq, List.cons.injEq, and_true] at e
  obtain ⟨rfl, rfl, rfl⟩ := e
  have n0 := List.nodup_append.1 hf.1
  have n1 := List.nodup_append.1 n0.2.1
  refine ⟨b0 ++ (cs ++ b2), ⟨_, _, _, b0, cs, b2, rfl, h0, k, h2, rfl⟩, List.nodup_append.2 ⟨n0.1, List.nodup_append.2 ⟨kf.1, n1.2.1, ?_⟩, ?_⟩, ?_⟩
  · intro a ha b hb e; subst e; exact hd a (by simp [hb]) ha
  · intro a ha b hb e
    subst e
    rcases List.mem_append.1 hb with hb | hb
    · exact hd a (by simp [ha]) hb
    · exact n0.2.2 a ha a (by simp [hb]) rfl
  · intro b hb
    rcases List.mem_append.1 hb with hb | hb
    · exact hf.2 b (by simp [hb])
    · rcases List.mem_append.1 hb with hb | hb
      · exact kf.2 b hb
      · exact hf.2 b (by simp [hb])

set_option maxHeartbeats 1600000 in
set_option maxRecDepth 100000 in
theorem withIds_any {w : World} {v u : Value} {N : Net} {l : List Int} (h : NetAt w v N) (hl : IntSl w u l) (hll : l.length ≤ 1048576) :
    Calls Try.prog 101 #[v, u] w fun e w' => ∃ v' bs, e = .returned (.tuple #[v', .bool (dec (IdsB N l))]) ∧ Ext w w' ∧ OwnNet w' v' (idsAns N l) bs ∧ Fresh w bs := by
  have HN := Lib.hid h
  have HL := Lib.hid hl
  have HG := Lib.hid hl.range
  obtain ⟨ul, _, _, uc, rfl, _, _, um, _⟩ := hl
  unfold maxLen at um
  obtain ⟨w0, v1, v2, rfl, hE, hI, hP⟩ := h
  obtain ⟨ea, _, _, ec, rfl, _, _, em, _⟩ := hE
  unfold maxLen at em
  clear hI hP
  have HX := Lib.hid (boxed2_ext w (.slice ea N.ends.length ec) v1 v2)
  have HR := Lib.hid (boxed2_row w (.slice ea N.ends.length ec) v1 v2)
  have HQ := Lib.hid (boxed2_res w (.slice ea N.ends.length ec) v1 v2)
  obtain ⟨i0, hi, hz0, hz1, hz2⟩ := info_parts Try.info3
  have I0 := Lib.hid (And.intro hi (And.intro hz0 (And.intro hz1 hz2)))
  clear hi hz0 hz1 hz2
  by_cases hg : Good N
  · have G := Lib.hid (dec_true hg)
    have Gs := Lib.hid (good_small hg)
    have GA : Hid (IdsOK l N.ends.length ↔ IdsB N l) := ⟨fun k => ⟨hg, k⟩, fun k => k.2⟩
    clear hg
    by_cases hb : IdsB N l
    · have B := Lib.hid hb
      have BD := Lib.hid (dec_true (GA.out.2 hb))
      clear hb
      go_enter Try.func101, Try.ntmps101
      go_wp2_with fail
      (with_reducible refine (isNetwork_any (HN.out.ext HX.out)).mono ?_)
      rintro e w1 ⟨rfl, hw⟩
      rw [G.out]
      have K1 := Lib.hid (HX.out.trans' hw)
      have R1 := Lib.hid (row_ext HR.out hw)
      have Q1 := Lib.hid (row_ext HQ.out hw)
      obtain ⟨p0, p1, p2, _, _, _⟩ := row3_facts R1.out
      clear hw
      go_wp2_with fail
      (with_reducible refine (areIds_any _ (HL.out.ext K1.out)).mono ?_)
      rintro e w1' ⟨rfl, rfl⟩
      rw [BD.out]
      go_wp2_with fail
      (with_reducible refine (copyNetwork_any (HN.out.ext K1.out) Gs.out).mono ?_)
      rintro e w2 ⟨y, bs, rfl, hw, ho, hf⟩
      obtain ⟨a0, c0, a1, c1, a2, c2, rfl⟩ := ho.agg
      have hA := (Ext.rfl' w2).alloc' (.cells #[.slice a0 N.ends.length c0, .slice a1 N.ids.length c1, .slice a2 N.inputs.length c2] 34)
      have K2 := Lib.hid ((K1.out.trans' hw).trans' hA)
      have Q2 := Lib.hid (row_ext (row_ext Q1.out hw) hA)
      have M2 := Lib.hid (row3_made w2 (.slice a0 N.ends.length c0) (.slice a1 N.ids.length c1) (.slice a2 N.inputs.length c2) 34)
      have O2 := Lib.hid (ho.ext hA)
      have L2 := Lib.hid ho.lt
      have F2 := Lib.hid hf
      have Z2 := Lib.hid (And.intro K1.out.size (And.intro hw.size Q1.out.lt))
      clear hw ho hf hA p0 p1 p2
      go_wp2_with (at_builtin; refine wpList_app rfl (.const (.slice none 0 0)) _ 26 rfl (w2.heap.size + 1) 3 i0 (.int .i64 0) 1 8 Try.underlying26 I0.out.1 I0.out.2.1 I0.out.2.2.1 I0.out.2.2.2 rfl (by decide) (.slice none 0 0) 0 [] rfl (World.ownsRow_nil _ _ _ _) ul l.length uc (intCells l) rfl (((HL.out.ext K2.out).src fun p v hp => hp).2) (by unfold maxLen; omega) (by omega) (by simp) ?_)
      intro v' w3 hg
      obtain ⟨hw, cs, ho, hf⟩ := app_nil_own hg HG.out (by simp)
      clear hg
      obtain ⟨a3, c3, rfl⟩ := ho.1.slice
      have hz : w2.heap.size + 1 ≤ w3.heap.size := by have := hw.size; simpa using this
      have hF : ∀ b ∈ cs, w2.heap.size + 1 ≤ b := fun b hb => by have := hf.2 b hb; simpa using this
      obtain ⟨q0, q1, q2, t0, t1, t2⟩ := row3_facts (row_ext M2.out hw)
      have hne : ∀ b, b ≠ w2.heap.size → (w3.setCell ⟨w2.heap.size, 1, none⟩ (.slice a3 l.length c3)).heap[b]? = w3.heap[b]? := fun b hb => Below.heap_setCell _ _ _ _ hb
      have K3 : Hid (Ext w (w3.setCell ⟨w2.heap.size, 1, none⟩ (.slice a3 l.length c3))) := (K2.out.trans' hw).store (by show w.heap.size ≤ w2.heap.size; have := Z2.out; omega) _
      have M3 := Lib.hid (row3_set1 (row_ext M2.out hw) (.slice a3 l.length c3))
      have Q3 := Lib.hid ((row_ext Q2.out hw).of_block (hne _ (by have := Z2.out; omega)))
      have N3 := Lib.hid (own_ids (B := w.heap.size + 2) ((O2.out.ext hw).keep fun b hb => hne b (by have := L2.out b hb; omega)) ⟨F2.out.1, fun b hb => by have := F2.out.2 b hb; have := Z2.out; omega⟩ (ho.keep fun b hb => hne b (by have := hF b hb; omega))
        ⟨hf.1, fun b hb => by have := hF b hb; have := Z2.out; omega⟩ (fun b hb hb' => by have := L2.out b hb; have := hF b hb'; omega))
      clear hw ho hf hz hF hne
      obtain ⟨ds, n1, n2, n3⟩ := N3.out
      have X3 := Lib.hid n1
      have Y3 := Lib.hid (And.intro n2 n3)
      clear n1 n2 n3
      obtain ⟨r0, r1, r2, _, _, _⟩ := row3_facts M3.out
      obtain ⟨u0, u1, u2, s0, s1, s2⟩ := row3_facts Q3.out
      have D := Lib.hid (dec_true B.out)
      have E := Lib.hid (idsAns_t B.out)
      go_wp2
      refine bodyPost_ret (v := .tuple #[.agg #[.slice a0 N.ends.length c0, .slice a3 l.length c3, .slice a2 N.inputs.length c2], .bool true]) (by simp [results, Try.results101, go_sem, u0, u1, u2]) rfl ?_
      have hc := close_net K3.out X3.out Y3.out.1 Y3.out.2
      exact ⟨_, ds, ret_net D.out.symm, hc.1, by rw [E.out]; exact hc.2.1, hc.2.2⟩
    · have BD := Lib.hid (dec_false fun k => hb (GA.out.1 k))
      have D := Lib.hid (dec_false hb)
      have E := Lib.hid (idsAns_f hb)
      clear hb
      go_enter Try.func101, Try.ntmps101
      go_wp2_with fail
      (with_reducible refine (isNetwork_any (HN.out.ext HX.out)).mono ?_)
      rintro e w1 ⟨rfl, hw⟩
      rw [G.out]
      have K1 := Lib.hid (HX.out.trans' hw)
      have Q1 := Lib.hid (row_ext HQ.out hw)
      obtain ⟨p0, p1, p2, _, _, _⟩ := row3_facts (row_ext HR.out hw)
      clear hw
      go_wp2_with fail
      (with_reducible refine (areIds_any _ (HL.out.ext K1.out)).mono ?_)
      rintro e w1' ⟨rfl, rfl⟩
      rw [BD.out]
      obtain ⟨q0, q1, q2, t0, t1, t2⟩ := row3_facts Q1.out
      clear p0 p1 p2
      go_wp2
      refine bodyPost_ret (v := .tuple #[znet, .bool false]) (by simp [results, Try.results101, go_sem, q0, q1, q2, znet]) rfl ⟨_, [], ret_net D.out.symm, store3_ext K1.out (by omega) _ _ _, by rw [E.out]; exact own_zero _, Fresh.nil _⟩
  · have G := Lib.hid (dec_false hg)
    have D : Hid (dec (IdsB N l) = false) := dec_false fun k => hg k.1
    have E : Hid (idsAns N l = zeroNet) := idsAns_f fun k => hg k.1
    clear hg
    go_enter Try.func101, Try.ntmps101
    go_wp2_with (first | (go_at_call 73; (with_reducible refine (isNetwork_any (HN.out.ext HX.out)).mono ?_); rintro e w1 ⟨rfl, hw⟩; rw [G.out]; have K1 := Lib.hid (HX.out.trans' hw); obtain ⟨q0, q1, q2, t0, t1, t2⟩ := row3_facts (row_ext HQ.out hw); clear hw))
    refine bodyPost_ret (v := .tuple #[znet, .bool false]) (by simp [results, Try.results101, go_sem, q0, q1, q2, znet]) rfl ⟨_, [], ret_net D.out.symm, store3_ext K1.out (by omega) _ _ _, by rw [E.out]; exact own_zero _, Fresh.nil _⟩
end Go.Proofs.Ytkpdbceglejbnaa
