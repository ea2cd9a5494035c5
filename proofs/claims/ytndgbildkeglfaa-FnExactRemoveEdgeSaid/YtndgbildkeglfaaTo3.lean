/- Contracts of the functions that copy arguments, with the blocks of the copy. -/
import Derived.Test.YtndgbildkeglfaaOwn
namespace Go.Proofs.Ytndgbildkeglfaa
open Go.RowKit

theorem IntSl.range {w : World} {v : Value} {l : List Int} (h : IntSl w v l) : ∀ i, i < l.length → inI64 (gi l i) := by
  obtain ⟨a, b, o, c, h1, h2, h3, h4, h5⟩ := h
  exact fun i hi => let ⟨x, _, hr⟩ := h5 i hi; hr.2
theorem EndSl.range {w : World} {v : Value} {l : List (Int × Int)} (h : EndSl w v l) : ∀ i, i < l.length → inI64 (gn l i) ∧ inI64 (gp l i) := by
  obtain ⟨a, b, o, c, h1, h2, h3, h4, h5⟩ := h
  exact fun i hi => (h5 i hi).2.2

theorem own_made {w : World} {n k t b : Nat} {f g : Nat → Value} (h : w.rowIs b t (n * k) g) (hn : n ≤ maxLen) (hf : ∀ i, i < n * k → g i = f i) :
    OwnSl w (.slice (some ⟨b, 0, none⟩) n n) n k t f [b] :=
  ⟨n, Nat.le_refl _, hn, .inr ⟨b, n * k, g, rfl, rfl, ⟨Nat.le_refl _, rfl⟩, h, hf⟩⟩

theorem small_max {n : Nat} (h : n ≤ 1048576) : n ≤ maxLen := by unfold maxLen; omega

theorem toIntS_own {w : World} {v : Value} {l : List Int} (h : IntSl w v l) (hs : l.length ≤ 1048576) :
    Calls Try.prog 54 #[v] w fun e w' => ∃ a c bs, e = .returned (.slice a l.length c) ∧ Ext w w' ∧ OwnI w' (.slice a l.length c) l bs ∧ Fresh w bs := by
  refine (toIntS_any h hs).mono fun e w' ⟨he, hx, hsz, hr⟩ => ⟨_, _, [w.heap.size], he, hx, ⟨?_, h.range⟩, by simp [Fresh]⟩
  have := own_made (k := 1) (f := fun i => .int .i64 (gi l i)) (by simpa using hr) (small_max hs) (fun i hi => by simp [copied]; omega)
  exact this

theorem toEndS_own {w : World} {v : Value} {l : List (Int × Int)} (h : EndSl w v l) (hs : l.length ≤ 1048576) :
    Calls Try.prog 105 #[v] w fun e w' => ∃ a c bs, e = .returned (.slice a l.length c) ∧ Ext w w' ∧ OwnE w' (.slice a l.length c) l bs ∧ Fresh w bs := by
  refine (toEndS_any h hs).mono fun e w' ⟨he, hx, hsz, hr⟩ => ⟨_, _, [w.heap.size], he, hx, ⟨?_, h.range⟩, by simp [Fresh]⟩
  exact own_made hr (small_max hs) (fun i hi => by simp [ecopied]; omega)

/-- The outer row when k of its rows are copied. -/
def outerAt (w wr : World) (l : List (List (Int × Int))) (k : Nat) : Prop :=
  Ext w wr ∧ w.heap.size + 1 ≤ wr.heap.size ∧ ∃ (R : Nat → Value) (T : Nat → List Nat), wr.rowIs w.heap.size 70 l.length (fun i => if i < k then R i else .slice none 0 0) ∧
    (∀ i, i < k → OwnE wr (R i) (gr l i) (T i)) ∧ Fresh w (w.heap.size :: (List.range k).flatMap T)

theorem outer_step {w wr w1 : World} {l : List (List (Int × Int))} {k : Nat} {v : Value} {bs : List Nat} (h : outerAt w wr l k) (hx : Ext wr w1) (ho : OwnE w1 v (gr l k) bs) (hf : Fresh wr bs) :
    outerAt w (w1.setCell ⟨w.heap.size, k, none⟩ v) l (k + 1) := by
  obtain ⟨he, hsz, R, T, hrow, hown, hfr⟩ := h
  have hb : ∀ i, i < k → ∀ b ∈ T i, b < wr.heap.size ∧ w.heap.size < b := fun i hi b hb => by
    refine ⟨(hown i hi).1.lt b hb, ?_⟩
    have hm : b ∈ (List.range k).flatMap T := List.mem_flatMap.2 ⟨i, List.mem_range.2 hi, hb⟩
    have h1 := hfr.2 b (List.mem_cons_of_mem _ hm)
    have h2 := (List.nodup_cons.1 hfr.1).1
    by_cases e : b = w.heap.size
    · subst e; exact absurd hm h2
    · omega
  have hne : ∀ b, w.heap.size < b → (w1.setCell ⟨w.heap.size, k, none⟩ v).heap[b]? = w1.heap[b]? := fun b hb => Below.heap_setCell _ _ _ _ (by show b ≠ w.heap.size; omega)
  refine ⟨(he.trans' hx).store (Nat.le_refl _) _, by have := hx.size; simp; omega, fun i => if i = k then v else R i, fun i => if i = k then bs else T i, ?_, fun i hi => ?_, ?_⟩
  · refine ((row_ext hrow hx).set k v).congr fun i hi => ?_
    by_cases e : i = k
    · subst e; simp
    · rw [if_neg e]
      simp only [if_neg e]
      by_cases hlt : i < k
      · rw [if_pos hlt, if_pos (by omega)]
      · rw [if_neg hlt, if_neg (by omega)]
  · by_cases e : i = k
    · subst e
      simp only [if_true]
      exact ho.keep fun b hb => hne b (by have := hf.2 b hb; omega)
    · simp only [if_neg e]
      exact ((hown i (by omega)).ext hx).keep fun b hb' => hne b (hb i (by omega) b hb').2
  · have hcong : (List.range k).flatMap (fun i => if i = k then bs else T i) = (List.range k).flatMap T := by
      rw [List.flatMap_def, List.flatMap_def]
      congr 1
      exact List.map_congr_left fun i hi => if_neg (by have := List.mem_range.1 hi; omega)
    rw [List.range_succ, List.flatMap_append, hcong]
    simp only [List.flatMap_cons, List.flatMap_nil, if_true, List.append_nil]
    rw [← List.cons_append]
    refine Fresh.append hfr (fun b hb' => ?_) he.size hf
    rcases List.mem_cons.1 hb' with rfl | hb'
    · omega
    · obtain ⟨i, hi, hbi⟩ := List.mem_flatMap.1 hb'
      exact (hb i (List.mem_range.1 hi) b hbi).1

set_option maxHeartbeats 400000 in
set_option maxRecDepth 100000 in
theorem toEndSS_own {w : World} {v : Value} {l : List (List (Int × Int))} (h : EndSS w v l) (hs : l.length ≤ 1048576) (hs2 : ∀ i, (gr l i).length ≤ 1048576) :
    Calls Try.prog 67 #[v] w fun e w' => ∃ a c bs, e = .returned (.slice a l.length c) ∧ Ext w w' ∧ OwnSS w' (.slice a l.length c) l bs ∧ Fresh w bs := by
  obtain ⟨a, b, o, c, rfl, ha, h3, h4, hc⟩ := h
  unfold maxLen at h4
  have Hc := Lib.hid hc
  have Ha := Lib.hid ha
  have Hs := Lib.hid hs2
  clear hc ha hs2
  have hmk := run_make_row' (P := Try.prog) 28 70 (.slice none 0 0) 24 Try.underlying28 Try.info70 rfl .i64 .i64 l.length (by omega) (by omega)
  go_enter Try.func67, Try.ntmps67
  go_wp2
  clear hmk
  go_loopg [4] l.length (fun g i wr => ∃ k : Nat, k ≤ l.length ∧ g = l.length - k ∧ i = .int .i64 k ∧ Hid (outerAt w wr l k))
  case atStart => exact ⟨0, Nat.zero_le _, rfl, rfl, (Ext.rfl' w).alloc' _, by simp, fun _ => .slice none 0 0, fun _ => [], (World.rowIs_made w _ _ _).congr fun i _ => by simp, fun i hi => absurd hi (by omega), by simp [Fresh]⟩
  case round =>
    obtain ⟨k, hk, rfl, rfl, Hr⟩ := hrel
    by_cases hlt : k < l.length
    · obtain ⟨x, hc, hx⟩ := Hc.out k hlt
      obtain rfl := Ha.out (by omega)
      have hx' := Lib.hid (hx.ext Hr.out.1)
      have hc' := Hr.out.1.cell' hc
      clear hx hc
      go_wp2_with (go_at_call 105; (with_reducible refine (toEndS_own hx'.out (Hs.out _)).mono ?_); rintro e w1 ⟨a', c', bs, rfl, he1, ho1, hf1⟩; obtain ⟨R, T, hrow, _⟩ := Hr.out.2.2; have f1 := (row_ext hrow he1).cell hlt; have f2 := (row_ext hrow he1).frozen k; have Hn := Lib.hid (outer_step Hr.out he1 ho1 hf1); clear he1 ho1 hf1 hrow)
      go_roundg (l.length - (k + 1))
      case measure => omega
      case rel => exact ⟨k + 1, by omega, rfl, by go_num, Hn.out⟩
    · go_wp2
      go_ret
      obtain rfl : k = l.length := by omega
      obtain ⟨he, hsz, R, T, hrow, hown, hfr⟩ := Hr.out
      refine ⟨_, _, _, rfl, he, ⟨R, [w.heap.size], T, ?_, hown, rfl⟩, hfr⟩
      exact own_made (k := 1) (by simpa using hrow) (small_max hs) (fun i hi => by simp; omega)

/-- A block of three cells. -/
def tri (x0 x1 x2 : Value) : Nat → Value
  | 0 => x0
  | 1 => x1
  | _ => x2
theorem row3_made (w : World) (x0 x1 x2 : Value) (t : Nat) : (w.alloc (.cells #[x0, x1, x2] t)).rowIs w.heap.size t 3 (tri x0 x1 x2) :=
  World.rowIs_alloc w #[x0, x1, x2] t _ fun i hi => by
    have h : i < 3 := hi
    match i, h with
    | 0, _ => rfl
    | 1, _ => rfl
    | 2, _ => rfl
theorem row3_facts {w : World} {b t : Nat} {x0 x1 x2 : Value} (h : w.rowIs b t 3 (tri x0 x1 x2)) :
    w.cell? ⟨b, 0, none⟩ = some x0 ∧ w.cell? ⟨b, 1, none⟩ = some x1 ∧ w.cell? ⟨b, 2, none⟩ = some x2 ∧ w.frozen? ⟨b, 0, none⟩ = false ∧ w.frozen? ⟨b, 1, none⟩ = false ∧ w.frozen? ⟨b, 2, none⟩ = false :=
  ⟨h.cell (i := 0) (by omega), h.cell (i := 1) (by omega), h.cell (i := 2) (by omega), h.frozen _, h.frozen _, h.frozen _⟩
theorem row3_set0 {w : World} {b t : Nat} {x0 x1 x2 : Value} (h : w.rowIs b t 3 (tri x0 x1 x2)) (y : Value) : (w.setCell ⟨b, 0, none⟩ y).rowIs b t 3 (tri y x1 x2) :=
  (h.set 0 y).congr fun i hi => by match i, hi with | 0, _ => rfl | 1, _ => rfl | 2, _ => rfl
theorem row3_set1 {w : World} {b t : Nat} {x0 x1 x2 : Value} (h : w.rowIs b t 3 (tri x0 x1 x2)) (y : Value) : (w.setCell ⟨b, 1, none⟩ y).rowIs b t 3 (tri x0 y x2) :=
  (h.set 1 y).congr fun i hi => by match i, hi with | 0, _ => rfl | 1, _ => rfl | 2, _ => rfl
theorem row3_set2 {w : World} {b t : Nat} {x0 x1 x2 : Value} (h : w.rowIs b t 3 (tri x0 x1 x2)) (y : Value) : (w.setCell ⟨b, 2, none⟩ y).rowIs b t 3 (tri x0 x1 y) :=
  (h.set 2 y).congr fun i hi => by match i, hi with | 0, _ => rfl | 1, _ => rfl | 2, _ => rfl

set_option maxHeartbeats 400000 in
set_option maxRecDepth 100000 in
theorem toNetwork_own {w : World} {v : Value} {N : Net} (h : NetAt w v N) (hs : N.small) :
    Calls Try.prog 21 #[v] w fun e w' => ∃ v' bs, e = .returned v' ∧ Ext w w' ∧ OwnNet w' v' N bs ∧ Fresh w bs := by
  obtain ⟨v0, v1, v2, rfl, hE, hI, hP⟩ := h
  obtain ⟨s1, s2, s3, s4⟩ := hs
  have S2 := Lib.hid s2
  clear s2
  go_enter Try.func21, Try.ntmps21
  have HE := Lib.hid hE
  have HI := Lib.hid hI
  have HP := Lib.hid hP
  clear hE hI hP
  go_wp2_with fail
  have hA := ((row3_made w v0 v1 v2 25).alloc (.cells #[.slice none 0 0, .slice none 0 0, .slice none 0 0] 30)).alloc (.cells #[.slice none 0 0, .slice none 0 0, .slice none 0 0] 30)
  have hB := (row3_made (w.alloc (.cells #[v0, v1, v2] 25)) (.slice none 0 0) (.slice none 0 0) (.slice none 0 0) 30).alloc (.cells #[.slice none 0 0, .slice none 0 0, .slice none 0 0] 30)
  have hC := row3_made ((w.alloc (.cells #[v0, v1, v2] 25)).alloc (.cells #[.slice none 0 0, .slice none 0 0, .slice none 0 0] 30)) (.slice none 0 0) (.slice none 0 0) (.slice none 0 0) 30
  simp only [World.size_alloc] at hB hC
  have hX := (((Ext.rfl' w).alloc' (.cells #[v0, v1, v2] 25)).alloc' (.cells #[.slice none 0 0, .slice none 0 0, .slice none 0 0] 30)).alloc' (.cells #[.slice none 0 0, .slice none 0 0, .slice none 0 0] 30)
  refine (toEndSS_own (HE.out.ext hX) s1 S2.out).mono ?_
  rintro e w1 ⟨a1, c1, b1, rfl, he1, ho1, hf1⟩
  have hA1 := row_ext hA he1
  have hB1 := row_ext hB he1
  have hC1 := row_ext hC he1
  have hX1 := hX.trans' he1
  have hF1 := hf1.of hX.size
  have hz1 : w.heap.size + 3 ≤ w1.heap.size := by have := he1.size; simp at this; omega
  have hL1 := ho1.lt
  have hb1 : ∀ b ∈ b1, w.heap.size + 3 ≤ b := fun b hb => by have := hf1.2 b hb; simp at this; omega
  have K1 := Lib.hid (And.intro hA1 (And.intro hB1 (And.intro hC1 (And.intro hX1 (And.intro ho1 (And.intro hF1 hb1))))))
  clear hA hB hC hX hA1 hB1 hC1 hX1 hF1 he1 ho1 hf1 hL1 hb1
  obtain ⟨p0, p1, p2, _, _, _⟩ := row3_facts K1.out.1
  obtain ⟨q0, q1, q2, r0, r1, r2⟩ := row3_facts K1.out.2.2.1
  go_wp2_with fail
  have K1' := K1
  refine (toIntS_own (HI.out.ext (K1.out.2.2.2.1.store (by show w.heap.size ≤ w.heap.size + 1 + 1; omega) _)) s3).mono ?_
  rintro e w2 ⟨a2, c2, b2, rfl, he2, ho2, hf2⟩
  have K2 : Hid (w2.rowIs w.heap.size 25 3 (tri v0 v1 v2) ∧ w2.rowIs (w.heap.size + 1) 30 3 (tri (.slice none 0 0) (.slice none 0 0) (.slice none 0 0)) ∧
      w2.rowIs (w.heap.size + 1 + 1) 30 3 (tri (.slice a1 N.ends.length c1) (.slice none 0 0) (.slice none 0 0)) ∧ Ext w w2 ∧
      OwnSS w2 (.slice a1 N.ends.length c1) N.ends b1 ∧ OwnI w2 (.slice a2 N.ids.length c2) N.ids b2 ∧ Fresh w (b1 ++ b2) ∧ ∀ b ∈ b1 ++ b2, w.heap.size + 3 ≤ b) := by
    obtain ⟨hA, hB, hC, hX, ho1, hF, hb⟩ := K1.out
    have hst : ∀ b, w.heap.size + 3 ≤ b → (w1.setCell ⟨w.heap.size + 1 + 1, 0, none⟩ (.slice a1 N.ends.length c1)).heap[b]? = w1.heap[b]? := fun b hb => Below.heap_setCell _ _ _ _ (by show b ≠ w.heap.size + 1 + 1; omega)
    refine ⟨row_ext (hA.setOther (by show w.heap.size ≠ w.heap.size + 1 + 1; omega) _) he2, row_ext (hB.setOther (by show w.heap.size + 1 ≠ w.heap.size + 1 + 1; omega) _) he2, row_ext (row3_set0 hC _) he2,
      (hX.store (by show w.heap.size ≤ w.heap.size + 1 + 1; omega) _).trans' he2, (ho1.keep fun b hb' => hst b (hb b hb')).ext he2, ho2, hF.append (w1 := w1) (fun b hb' => ho1.lt b hb') hX.size ?_, ?_⟩
    · exact ⟨hf2.1, fun b hb' => by have := hf2.2 b hb'; simpa using this⟩
    · intro b hb'
      rcases List.mem_append.1 hb' with hb' | hb'
      · exact hb b hb'
      · have := hf2.2 b hb'; simp at this; omega
  have hz2 : w.heap.size + 3 ≤ w2.heap.size := by have := he2.size; simp at this; omega
  clear K1 K1' he2 ho2 hf2 p0 p1 p2 q0 q1 q2 r0 r1 r2
  obtain ⟨p0, p1, p2, _, _, _⟩ := row3_facts K2.out.1
  obtain ⟨q0, q1, q2, r0, r1, r2⟩ := row3_facts K2.out.2.2.1
  go_wp2_with fail
  refine (toIntS_own (HP.out.ext (K2.out.2.2.2.1.store (by show w.heap.size ≤ w.heap.size + 1 + 1; omega) _)) s4).mono ?_
  rintro e w3 ⟨a3, c3, b3, rfl, he3, ho3, hf3⟩
  have K3 : Hid (w3.rowIs (w.heap.size + 1) 30 3 (tri (.slice none 0 0) (.slice none 0 0) (.slice none 0 0)) ∧
      w3.rowIs (w.heap.size + 1 + 1) 30 3 (tri (.slice a1 N.ends.length c1) (.slice a2 N.ids.length c2) (.slice none 0 0)) ∧ Ext w w3 ∧
      OwnSS w3 (.slice a1 N.ends.length c1) N.ends b1 ∧ OwnI w3 (.slice a2 N.ids.length c2) N.ids b2 ∧ OwnI w3 (.slice a3 N.inputs.length c3) N.inputs b3 ∧ Fresh w (b1 ++ (b2 ++ b3)) ∧ ∀ b ∈ b1 ++ (b2 ++ b3), w.heap.size + 3 ≤ b) := by
    obtain ⟨hA, hB, hC, hX, ho1, ho2, hF, hb⟩ := K2.out
    have hst : ∀ b, w.heap.size + 3 ≤ b → (w2.setCell ⟨w.heap.size + 1 + 1, 1, none⟩ (.slice a2 N.ids.length c2)).heap[b]? = w2.heap[b]? := fun b hb => Below.heap_setCell _ _ _ _ (by show b ≠ w.heap.size + 1 + 1; omega)
    refine ⟨row_ext (hB.setOther (by show w.heap.size + 1 ≠ w.heap.size + 1 + 1; omega) _) he3, row_ext (row3_set1 hC _) he3,
      (hX.store (by show w.heap.size ≤ w.heap.size + 1 + 1; omega) _).trans' he3, (ho1.keep fun b hb' => hst b (hb b (by simp [hb']))).ext he3, (ho2.keep fun b hb' => hst b (hb b (by simp [hb']))).ext he3, ho3, ?_, ?_⟩
    · rw [← List.append_assoc]
      refine hF.append (w1 := w2) (fun b hb' => ?_) hX.size ⟨hf3.1, fun b hb' => by have := hf3.2 b hb'; simpa using this⟩
      rcases List.mem_append.1 hb' with hb' | hb'
      · exact ho1.lt b hb'
      · exact ho2.1.lt b hb'
    · intro b hb'
      rw [← List.append_assoc] at hb'
      rcases List.mem_append.1 hb' with hb' | hb'
      · exact hb b hb'
      · have := hf3.2 b hb'; simp at this; omega
  have hz3 : w.heap.size + 3 ≤ w3.heap.size := by have := he3.size; simp at this; omega
  clear K2 he3 ho3 hf3 p0 p1 p2 q0 q1 q2 r0 r1 r2
  obtain ⟨p0, p1, p2, t0, t1, t2⟩ := row3_facts K3.out.1
  obtain ⟨q0, q1, q2, r0, r1, r2⟩ := row3_facts K3.out.2.1
  go_wp2
  refine bodyPost_ret (v := .agg #[.slice a1 N.ends.length c1, .slice a2 N.ids.length c2, .slice a3 N.inputs.length c3]) (by simp [results, Try.results21, go_sem, p0, p1, p2]) rfl ?_
  obtain ⟨hB, hC, hX, ho1, ho2, ho3, hF, hb⟩ := K3.out
  have hN : OwnNet w3 (.agg #[.slice a1 N.ends.length c1, .slice a2 N.ids.length c2, .slice a3 N.inputs.length c3]) N (b1 ++ (b2 ++ b3)) := ⟨_, _, _, b1, b2, b3, rfl, ho1, ho2, ho3, rfl⟩
  have hst : ∀ (wx : World) (p : Addr) (u : Value), p.block ≤ w.heap.size + 1 + 1 → ∀ b ∈ b1 ++ (b2 ++ b3), (wx.setCell p u).heap[b]? = wx.heap[b]? := fun wx p u hp b hb' => Below.heap_setCell _ _ _ _ (by have := hb b hb'; omega)
  refine ⟨_, b1 ++ (b2 ++ b3), rfl, ?_, ?_, hF⟩
  · exact (((hX.store (by show w.heap.size ≤ w.heap.size + 1 + 1; omega) _).store (by show w.heap.size ≤ w.heap.size + 1; omega) _).store (by show w.heap.size ≤ w.heap.size + 1; omega) _).store (by show w.heap.size ≤ w.heap.size + 1; omega) _
  · exact (((hN.keep (hst _ _ _ (by show w.heap.size + 1 + 1 ≤ _; omega))).keep (hst _ _ _ (by show w.heap.size + 1 ≤ _; omega))).keep (hst _ _ _ (by show w.heap.size + 1 ≤ _; omega))).keep (hst _ _ _ (by show w.heap.size + 1 ≤ _; omega))
end Go.Proofs.Ytndgbildkeglfaa
