/- The contract of copyNetwork. -/
import Derived.Test.YtndgbildkeglfaaNeIf
namespace Go.Proofs.Ytndgbildkeglfaa
open Go.RowKit

def nilS : Value := .slice none 0 0
/-- The outer row of the copy lies in block w.heap.size + 2, the copy in the next one; k rows are copied. -/
def CpInv (w : World) (N : Net) (v0 v1 v2 : Value) (k : Nat) (wr : World) : Prop :=
  Ext w wr ∧ w.heap.size + 4 ≤ wr.heap.size ∧ wr.rowIs w.heap.size 30 3 (tri v0 v1 v2) ∧ wr.rowIs (w.heap.size + 1) 30 3 (tri (.slice none 0 0) (.slice none 0 0) (.slice none 0 0)) ∧
  wr.rowIs (w.heap.size + 3) 30 3 (tri (.slice (some ⟨w.heap.size + 2, 0, none⟩) N.ends.length N.ends.length) (.slice none 0 0) (.slice none 0 0)) ∧
  ∃ (R : Nat → Value) (T : Nat → List Nat), wr.rowIs (w.heap.size + 2) 70 N.ends.length (fun i => if i < k then R i else .slice none 0 0) ∧ (∀ i, i < k → OwnE wr (R i) (gr N.ends i) (T i)) ∧ ((List.range k).flatMap T).Nodup ∧ ∀ b ∈ (List.range k).flatMap T, w.heap.size + 4 ≤ b

theorem cp_start (w : World) (N : Net) (v0 v1 v2 : Value) :
    CpInv w N v0 v1 v2 0 ((((boxed w v0 v1 v2 30).alloc (.cells #[.slice none 0 0, .slice none 0 0, .slice none 0 0] 30)).alloc (.cells (madeCells #[.slice none 0 0] N.ends.length) 70)).alloc (.cells #[.slice (some ⟨w.heap.size + 2, 0, none⟩) N.ends.length N.ends.length, .slice none 0 0, .slice none 0 0] 30)) := by
  refine ⟨((boxed2_ext w v0 v1 v2).alloc' _).alloc' _, by simp, ((boxed2_row w v0 v1 v2).alloc _).alloc _, ((boxed2_res w v0 v1 v2).alloc _).alloc _, ?_, fun _ => .slice none 0 0, fun _ => [], ?_, fun i hi => absurd hi (by omega), by simp, by simp⟩
  · simpa using row3_made (((boxed w v0 v1 v2 30).alloc (.cells #[.slice none 0 0, .slice none 0 0, .slice none 0 0] 30)).alloc (.cells (madeCells #[.slice none 0 0] N.ends.length) 70)) (.slice (some ⟨w.heap.size + 2, 0, none⟩) N.ends.length N.ends.length) (.slice none 0 0) (.slice none 0 0) 30
  · have h := World.rowIs_made ((boxed w v0 v1 v2 30).alloc (.cells #[.slice none 0 0, .slice none 0 0, .slice none 0 0] 30)) (.slice none 0 0) N.ends.length 70
    exact (show _ by simpa using h.alloc _ : World.rowIs _ (w.heap.size + 2) 70 N.ends.length (fun _ => .slice none 0 0)).congr fun i _ => by simp

theorem cp_step {w wr w1 : World} {N : Net} {v0 v1 v2 x : Value} {k : Nat} {bs : List Nat} (h : CpInv w N v0 v1 v2 k wr) (hx : Ext wr w1) (ho : OwnE w1 x (gr N.ends k) bs) (hge : ∀ b ∈ bs, wr.heap.size ≤ b) :
    CpInv w N v0 v1 v2 (k + 1) (w1.setCell ⟨w.heap.size + 2, k, none⟩ x) := by
  obtain ⟨he, hsz, h0, h1, h3, R, T, hrow, hown, hnd, hb⟩ := h
  have hne : ∀ b, b ≠ w.heap.size + 2 → (w1.setCell ⟨w.heap.size + 2, k, none⟩ x).heap[b]? = w1.heap[b]? := fun b hb => Below.heap_setCell _ _ _ _ hb
  have hsz1 := hx.size
  refine ⟨(he.trans' hx).store (by show w.heap.size ≤ w.heap.size + 2; omega) _, by simp; omega, (row_ext h0 hx).of_block (hne _ (by omega)), (row_ext h1 hx).of_block (hne _ (by omega)), (row_ext h3 hx).of_block (hne _ (by omega)),
    fun i => if i = k then x else R i, fun i => if i = k then bs else T i, ((row_ext hrow hx).set k x).congr fun i hi => ?_, fun i hi => ?_, ?_⟩
  · by_cases e : i = k
    · subst e; simp
    · rw [if_neg e]
      simp only [if_neg e]
      by_cases hlt : i < k
      · rw [if_pos hlt, if_pos (by omega)]
      · rw [if_neg hlt, if_neg (by omega)]
  · by_cases e : i = k
    · subst e
      simp only [if_true]
      exact ho.keep fun b hb => hne b (by have := hge b hb; omega)
    · simp only [if_neg e]
      exact ((hown i (by omega)).ext hx).keep fun b hb' => hne b (by have := hb b (List.mem_flatMap.2 ⟨i, List.mem_range.2 (by omega), hb'⟩); omega)
  · have hcong : (List.range k).flatMap (fun i => if i = k then bs else T i) = (List.range k).flatMap T := by
      rw [List.flatMap_def, List.flatMap_def]
      congr 1
      exact List.map_congr_left fun i hi => if_neg (by have := List.mem_range.1 hi; omega)
    have hfl : (List.range (k + 1)).flatMap (fun i => if i = k then bs else T i) = (List.range k).flatMap T ++ bs := by
      rw [List.range_succ, List.flatMap_append, hcong]
      simp
    rw [hfl]
    refine ⟨List.nodup_append.2 ⟨hnd, ho.1.nodup, fun a ha b hb' e => ?_⟩, fun b hb' => ?_⟩
    · subst e
      obtain ⟨i, hi, hbi⟩ := List.mem_flatMap.1 ha
      have := (hown i (List.mem_range.1 hi)).1.lt a hbi
      have := hge a hb'
      omega
    · rcases List.mem_append.1 hb' with hb' | hb'
      · exact hb b hb'
      · have := hge b hb'; omega

theorem cp_done {w wr : World} {N : Net} {v0 v1 v2 : Value} (h : CpInv w N v0 v1 v2 N.ends.length wr) (hs : N.ends.length ≤ 1048576) :
    ∃ bs, OwnSS wr (.slice (some ⟨w.heap.size + 2, 0, none⟩) N.ends.length N.ends.length) N.ends bs ∧ bs.Nodup ∧ ∀ b ∈ bs, b = w.heap.size + 2 ∨ w.heap.size + 4 ≤ b := by
  obtain ⟨he, hsz, h0, h1, h3, R, T, hrow, hown, hnd, hb⟩ := h
  refine ⟨[w.heap.size + 2] ++ (List.range N.ends.length).flatMap T, ⟨R, [w.heap.size + 2], T, ⟨N.ends.length, Nat.le_refl _, small_max hs, .inr ⟨_, N.ends.length, _, rfl, rfl, by omega, hrow, fun i hi => by simp; intro h; omega⟩⟩, hown, rfl⟩, ?_, ?_⟩
  · refine List.nodup_append.2 ⟨by simp, hnd, fun a ha b hb' e => ?_⟩
    obtain rfl := List.mem_singleton.1 ha
    subst e
    have := hb _ hb'
    omega
  · intro b hb'
    rcases List.mem_append.1 hb' with hb' | hb'
    · exact .inl (List.mem_singleton.1 hb')
    · exact .inr (hb b hb')

theorem app_nil_own {w w' : World} {B : Nat} {v' : Value} {l : List Int} (hg : Grew w w' B 3 1 (.slice none 0 0) v' l.length (intCells l)) (hr : ∀ i, i < l.length → inI64 (gi l i)) (hB : w.heap.size = B) :
    Ext w w' ∧ ∃ bs, OwnI w' v' l bs ∧ Fresh w bs := by
  subst hB
  have hx : Ext w w' := hg.ext (Ext.rfl' w) (fun b hb => by simp [Value.ownBlock] at hb)
  obtain ⟨bs, ho, hnd, hge⟩ := own_of_cells hg.1 hr
  exact ⟨hx, bs, ho, hnd, hge⟩
theorem R3size {w : World} {b t n : Nat} {f : Nat → Value} (h : w.rowIs (b + 3) t n f) : b + 4 ≤ w.heap.size := h.lt

set_option maxHeartbeats 1600000 in
set_option maxRecDepth 100000 in
theorem copyNetwork_any {w : World} {v : Value} {N : Net} (h : NetAt w v N) (hs : N.small) :
    Calls Try.prog 85 #[v] w fun e w' => ∃ v' bs, e = .returned v' ∧ Ext w w' ∧ OwnNet w' v' N bs ∧ Fresh w bs := by
  obtain ⟨v0, v1, v2, rfl, hE, hI, hP⟩ := h
  obtain ⟨s1, s2, s3, s4⟩ := hs
  have HI := Lib.hid hI
  have HP := Lib.hid hP
  have HIr := Lib.hid hI.range
  have HPr := Lib.hid hP.range
  obtain ⟨a1, _, _, c1, rfl, _, _, hm1, _⟩ := hI
  obtain ⟨a2, _, _, c2, rfl, _, _, hm2, _⟩ := hP
  obtain ⟨a, b, o, c, rfl, ha, hl, hm, hc⟩ := hE
  unfold maxLen at hm
  have Hc := Lib.hid hc
  have Ha := Lib.hid ha
  obtain ⟨i0, hi, hz0, hz1, hz2⟩ := info_parts Try.info3
  obtain ⟨i1, hj, hy0, hy1, hy2⟩ := info_parts Try.info44
  have I0 := Lib.hid (And.intro hi (And.intro hz0 (And.intro hz1 hz2)))
  have I1 := Lib.hid (And.intro hj (And.intro hy0 (And.intro hy1 hy2)))
  clear hi hz0 hz1 hz2 hj hy0 hy1 hy2 hc ha
  have CS := Lib.hid (cp_start w N (.slice a N.ends.length c) (.slice a1 N.ids.length c1) (.slice a2 N.inputs.length c2))
  have hmk := run_make_row' (P := Try.prog) 28 70 (.slice none 0 0) 24 Try.underlying28 Try.info70 rfl .i64 .i64 N.ends.length (by omega) (by omega)
  go_enter Try.func85, Try.ntmps85
  go_wp2_with fail
  clear hmk
  go_loopg [14] N.ends.length (fun g i wr => ∃ k : Nat, k ≤ N.ends.length ∧ g = N.ends.length - k ∧ i = .int .i64 k ∧ Hid (CpInv w N (.slice a N.ends.length c) (.slice a1 N.ids.length c1) (.slice a2 N.inputs.length c2) k wr))
  case atStart => exact ⟨0, Nat.zero_le _, rfl, rfl, CS.out⟩
  case round =>
    obtain ⟨k, hk, rfl, rfl, Hr⟩ := hrel
    by_cases hlt : k < N.ends.length
    · obtain ⟨x, hx, hrow⟩ := Hc.out k hlt
      obtain rfl := Ha.out (by omega)
      have hcell := Hr.out.1.cell' hx
      have HR := Lib.hid (hrow.ext Hr.out.1)
      obtain ⟨ax, bx, ox, cx, rfl, hax, hlx, hmx, hcx⟩ := hrow
      unfold maxLen at hmx
      have hlen := s2 k
      obtain ⟨p0, p1, p2, q0, q1, q2⟩ := row3_facts Hr.out.2.2.2.2.1
      obtain ⟨R, T, hrow, _⟩ := Hr.out.2.2.2.2.2
      have f1 := hrow.cell hlt
      have f2 := hrow.frozen k
      have HO := Lib.hid hrow
      clear hx hrow hax hcx
      go_wp2_with fail
      go_region_law (first
        | (refine step_app rfl (.const (.slice none 0 0)) (.tmp 22) 70 rfl wr.heap.size 44 i1 (.agg #[.int .i64 0, .int .i64 0]) 2 16 Try.underlying70 I1.out.1 I1.out.2.1 I1.out.2.2.1 I1.out.2.2.2 rfl (by decide) (.slice none 0 0) 0 [] rfl (World.ownsRow_nil _ _ _ _) ax (gr N.ends k).length cx (endCells (gr N.ends k)) rfl (HR.out.src (fun _ _ h => Ext.cell' (Ext.rfl' wr).drew' h)).2 (by unfold maxLen; omega) (by omega) (by simp) ?_
           intro v' w1 hg
           have hx1 : Ext wr w1 := hg.ext (Ext.rfl' wr).drew' (fun b hb => by simp [Value.ownBlock] at hb)
           obtain ⟨bs, ho, hnd, hge⟩ := end_own_of_row (l := gr N.ends k) (by simpa using hg.1) (fun i hi => by simpa using endCells_get _ i hi) HR.out.range
           obtain ⟨a', c', rfl⟩ := ho.1.slice
           have c0 := hx1.cell' p0
           obtain ⟨f3, f4⟩ := And.intro ((row_ext HO.out hx1).cell hlt) ((row_ext HO.out hx1).frozen k)
           have HA := Lib.hid (cp_step Hr.out hx1 ho hge)
           clear hg hx1 ho hnd hge)
        | fail)
      all_goals clear p0 p1 p2 q0 q1 q2 c0 f1 f2 f3 f4
      all_goals go_wp2
      all_goals go_roundg (N.ends.length - (k + 1))
      all_goals first | omega | exact ⟨k + 1, by omega, rfl, by go_num, HA.out⟩
    · obtain rfl : k = N.ends.length := by omega
      obtain ⟨bs, ho, hnd, hge⟩ := cp_done Hr.out s1
      have HB := Lib.hid (And.intro ho (And.intro hnd hge))
      obtain ⟨u1, u2, u3, u4, u5, _⟩ := Hr.out
      have HU := Lib.hid (And.intro u1 (And.intro u2 (And.intro u3 (And.intro u4 u5))))
      obtain ⟨p0, p1, p2, q0, q1, q2⟩ := row3_facts u3
      obtain ⟨r0, r1, r2, t0, t1, t2⟩ := row3_facts u5
      clear u1 u2 u3 u4 u5 ho hnd hge
      go_wp2_with (at_builtin; refine wpList_app rfl (.const (.slice none 0 0)) _ 23 rfl wr.heap.size 3 i0 (.int .i64 0) 1 8 Try.underlying23 I0.out.1 I0.out.2.1 I0.out.2.2.1 I0.out.2.2.2 rfl (by decide) (.slice none 0 0) 0 [] rfl (World.ownsRow_nil _ _ _ _) a1 N.ids.length c1 (intCells N.ids) rfl (((HI.out.ext HU.out.1).src fun p v hp => hp).2) (by unfold maxLen; omega) (by omega) (Nat.le_refl _) ?_)
      intro v' w1 hg
      obtain ⟨hx1, b1, ho1, hf1⟩ := app_nil_own hg HIr.out rfl
      clear hg p0 p1 p2 q0 q1 q2 r0 r1 r2 t0 t1 t2
      obtain ⟨x1, y1, rfl⟩ := ho1.1.slice
      have EX1 : Hid (Ext w (w1.setCell ⟨w.heap.size + 1 + 1 + 1, 1, none⟩ (.slice x1 N.ids.length y1))) := (HU.out.1.trans' hx1).store (by show w.heap.size ≤ w.heap.size + 1 + 1 + 1; omega) _
      have hst1 : ∀ b, b ≠ w.heap.size + 3 → (w1.setCell ⟨w.heap.size + 1 + 1 + 1, 1, none⟩ (.slice x1 N.ids.length y1)).heap[b]? = w1.heap[b]? := fun b hb => Below.heap_setCell _ _ _ _ hb
      obtain ⟨q0, q1, q2, t0, t1, t2⟩ := row3_facts (row_ext HU.out.2.2.2.2 hx1)
      have R3 := Lib.hid (row3_set1 (row_ext HU.out.2.2.2.2 hx1) (.slice x1 N.ids.length y1))
      have R1 := Lib.hid ((row_ext HU.out.2.2.2.1 hx1).of_block (hst1 _ (by omega)))
      obtain ⟨p0, p1, p2, _, _, _⟩ := row3_facts ((row_ext HU.out.2.2.1 hx1).of_block (hst1 _ (by omega)))
      have hz1 := HU.out.2.1
      have H1 := Lib.hid (show OwnSS (w1.setCell ⟨w.heap.size + 1 + 1 + 1, 1, none⟩ (.slice x1 N.ids.length y1)) _ N.ends bs ∧ OwnI (w1.setCell ⟨w.heap.size + 1 + 1 + 1, 1, none⟩ (.slice x1 N.ids.length y1)) (.slice x1 N.ids.length y1) N.ids b1 ∧ (∀ b ∈ b1, w.heap.size + 4 ≤ b) ∧ b1.Nodup from
        ⟨(HB.out.1.ext hx1).keep fun b hb => hst1 b (by have := HB.out.2.2 b hb; omega), ho1.keep fun b hb => hst1 b (by have := hf1.2 b hb; omega), fun b hb => by have := hf1.2 b hb; omega, hf1.1⟩)
      clear hx1 ho1 hf1 hst1
      go_wp2_with (at_builtin; refine wpList_app rfl (.const (.slice none 0 0)) _ 23 rfl _ 3 i0 (.int .i64 0) 1 8 Try.underlying23 I0.out.1 I0.out.2.1 I0.out.2.2.1 I0.out.2.2.2 rfl (by decide) (.slice none 0 0) 0 [] rfl (World.ownsRow_nil _ _ _ _) a2 N.inputs.length c2 (intCells N.inputs) rfl (((HP.out.ext EX1.out).src fun p v hp => hp).2) (by unfold maxLen; omega) (by omega) (Nat.le_refl _) ?_)
      intro v' w2 hg
      obtain ⟨hx2, b2, ho2, hf2⟩ := app_nil_own hg HPr.out (by simp)
      clear hg p0 p1 p2 q0 q1 q2 t0 t1 t2
      obtain ⟨x2, y2, rfl⟩ := ho2.1.slice
      have hst2 : ∀ b, b ≠ w.heap.size + 3 → (w2.setCell ⟨w.heap.size + 1 + 1 + 1, 2, none⟩ (.slice x2 N.inputs.length y2)).heap[b]? = w2.heap[b]? := fun b hb => Below.heap_setCell _ _ _ _ hb
      obtain ⟨q0, q1, q2, t0, t1, t2⟩ := row3_facts (row_ext R3.out hx2)
      obtain ⟨p0, p1, p2, u0, u1, u2⟩ := row3_facts ((row_ext R1.out hx2).of_block (hst2 _ (by omega)))
      have hn := H1.out.1
      have hnet : Hid (OwnNet (w2.setCell ⟨w.heap.size + 1 + 1 + 1, 2, none⟩ (.slice x2 N.inputs.length y2)) (.agg #[.slice (some ⟨w.heap.size + 2, 0, none⟩) N.ends.length N.ends.length, .slice x1 N.ids.length y1, .slice x2 N.inputs.length y2]) N (bs ++ (b1 ++ b2)) ∧ Fresh w (bs ++ (b1 ++ b2)) ∧ (∀ b ∈ bs ++ (b1 ++ b2), b ≠ w.heap.size + 1)) := by
        have g2 : ∀ b ∈ b2, w.heap.size + 4 ≤ b := fun b hb => by have := hf2.2 b hb; simp at this; have := H1.out.2.1.1; have := HU.out.2.1; have := EX1.out; have hs1 := R1.out.lt; have := hf2.2 b hb; exact Nat.le_trans (R3size R3.out) this
        have n12 : (b1 ++ b2).Nodup := List.nodup_append.2 ⟨H1.out.2.2.2, hf2.1, fun x hx y hy e => by subst e; have := H1.out.2.1.1.lt x hx; have := hf2.2 x hy; omega⟩
        have g12 : ∀ b ∈ b1 ++ b2, w.heap.size + 4 ≤ b := fun b hb => by
          rcases List.mem_append.1 hb with hb | hb
          · exact H1.out.2.2.1 b hb
          · exact g2 b hb
        have k := net_of_parts (W := w) (N := N) ((H1.out.1.ext hx2).keep fun b hb => hst2 b (by have := HB.out.2.2 b hb; omega)) ((H1.out.2.1.ext hx2).keep fun b hb => hst2 b (by have := H1.out.2.2.1 b hb; omega)) (ho2.keep fun b hb => hst2 b (by have := g2 b hb; omega)) HB.out.2.1 n12
          (fun b hb => by have := HB.out.2.2 b hb; omega) (fun b hb => by have := g12 b hb; omega)
        refine ⟨k.1, k.2, fun b hb => ?_⟩
        rcases List.mem_append.1 hb with hb | hb
        · have := HB.out.2.2 b hb; omega
        · have := g12 b hb; omega
      have EX2 : Hid (Ext w (w2.setCell ⟨w.heap.size + 1 + 1 + 1, 2, none⟩ (.slice x2 N.inputs.length y2))) := (EX1.out.trans' hx2).store (by show w.heap.size ≤ w.heap.size + 1 + 1 + 1; omega) _
      clear hx2 ho2 hf2 hst2 hn
      go_wp2
      refine bodyPost_ret (v := .agg #[.slice (some ⟨w.heap.size + 2, 0, none⟩) N.ends.length N.ends.length, .slice x1 N.ids.length y1, .slice x2 N.inputs.length y2]) (by simp [results, Try.results85, go_sem, p0, p1, p2]) rfl ?_
      have hst : ∀ (wx : World) (p : Addr) (u : Value), p.block = w.heap.size + 1 → ∀ b ∈ bs ++ (b1 ++ b2), (wx.setCell p u).heap[b]? = wx.heap[b]? := fun wx p u hp b hb' => Below.heap_setCell _ _ _ _ (by have := hnet.out.2.2 b hb'; omega)
      refine ⟨_, bs ++ (b1 ++ b2), rfl, store3_ext EX2.out (by omega) _ _ _, ((hnet.out.1.keep (hst _ _ _ rfl)).keep (hst _ _ _ rfl)).keep (hst _ _ _ rfl), hnet.out.2.1⟩
end Go.Proofs.Ytndgbildkeglfaa
