/- The contracts of the model's viMany, viClasses, viStable and viTwins. -/
import Derived.Test.YtkpdbceglejbnaaVj
import Derived.Deep.RegionHeld3
namespace Go.Proofs.Ytkpdbceglejbnaa
open Go.RowKit

theorem viStep_any {w : World} {v vc : Value} {N : Net} {c : List Int} {c' : List Int} (h : NetAt w v N) (hC : IntSl w vc c) (hN : NodesIn N) (hcl : c.length = 0 ∨ c.length = N.ends.length) (hs : N.ends.length ≤ 1048576) (hc' : stepC N c = c') {t : Nat} (ht : c' = seqC N t) :
    Calls Try.prog 115 #[v, vc] w fun e w' => ∃ b, e = .returned (.slice (some ⟨b, 0, none⟩) N.ends.length N.ends.length) ∧ Ext w w' ∧ OwnI w' (.slice (some ⟨b, 0, none⟩) N.ends.length N.ends.length) (seqC N t) [b] ∧ w.heap.size ≤ b :=
  (viStep_row h hC hN hcl hs).mono fun e w' ⟨he, hx, hr⟩ => by
    rw [hc', ht] at hr
    exact ⟨w.heap.size + 1, he, hx, own_row (seqC_len N _) (fun i hi => (seqC_range hs _ i hi).1) hs hr, by omega⟩

theorem nil_ints (w : World) : IntSl w (.slice none 0 0) [] := ⟨none, 0, 0, 0, rfl, fun h => absurd h (by simp), Nat.le_refl _, by unfold maxLen; omega, fun i hi => absurd hi (by simp)⟩

/-- One more than the greatest of the first k elements. -/
def manyTo (l : List Int) : Nat → Int
  | 0 => 0
  | k + 1 => max (manyTo l k) (gi l k + 1)
theorem manyTo_spec (l : List Int) (hr : ∀ i, i < l.length → 0 ≤ gi l i) : ∀ k, k ≤ l.length → 0 ≤ manyTo l k ∧ (∀ i, i < k → gi l i + 1 ≤ manyTo l k) ∧ (0 < k → ∃ i, i < k ∧ manyTo l k = gi l i + 1)
  | 0, _ => ⟨Int.le_refl _, fun i hi => absurd hi (by omega), fun h => absurd h (by omega)⟩
  | k + 1, hk => by
    obtain ⟨h1, h2, h3⟩ := manyTo_spec l hr k (by omega)
    have hg := hr k (by omega)
    simp only [manyTo]
    refine ⟨by omega, fun i hi => ?_, fun _ => ?_⟩
    · by_cases e : i = k
      · subst e; omega
      · have := h2 i (by omega); omega
    · rcases Int.le_total (manyTo l k) (gi l k + 1) with h | h
      · exact ⟨k, by omega, by omega⟩
      · rcases Nat.eq_zero_or_pos k with e | e
        · subst e; exact ⟨0, by omega, by simp only [manyTo] at h ⊢; omega⟩
        · obtain ⟨i, hi, he⟩ := h3 e
          exact ⟨i, by omega, by omega⟩
theorem manyTo_max (l : List Int) (hr : ∀ i, i < l.length → 0 ≤ gi l i) (hn : 0 < l.length) : manyTo l l.length = maxI l + 1 := by
  obtain ⟨h1, h2, h3⟩ := manyTo_spec l hr l.length (Nat.le_refl _)
  obtain ⟨i, hi, he⟩ := h3 hn
  have := maxI_eq (l := l) (m := gi l i) (hr i hi) (fun x hx => by obtain ⟨j, hj, rfl⟩ := mem_gi hx; have := h2 j hj; omega) (gi_mem hi)
  omega

theorem l1Most_any (x y : Int) {w : World} : Calls Try.prog 189 #[.int .i64 x, .int .i64 y] w fun e w' => e = .returned (.int .i64 (max x y)) ∧ w = w' := by
  by_cases h : y < x
  · have e : max x y = x := by omega
    rw [e]; clear e
    go_enter Try.func189, Try.ntmps189
    go_wp2
    go_ret
    exact ⟨rfl, rfl⟩
  · have e : max x y = y := by omega
    rw [e]; clear e
    go_enter Try.func189, Try.ntmps189
    go_wp2
    go_ret
    exact ⟨rfl, rfl⟩

set_option maxRecDepth 100000 in
theorem viMany_any {w : World} {v : Value} {l : List Int} (h : IntSl w v l) (hr : ∀ i, i < l.length → 0 ≤ gi l i ∧ gi l i ≤ 1048576) (hn : 0 < l.length) :
    Calls Try.prog 162 #[v] w fun e w' => e = .returned (.int .i64 (maxI l + 1)) ∧ w = w' := by
  have HM := Lib.hid (manyTo_max l (fun i hi => (hr i hi).1) hn)
  have HR := Lib.hid hr
  have HT := Lib.hid (manyTo_spec l (fun i hi => (hr i hi).1))
  obtain ⟨a, b, o, c, rfl, ha, hl, hm, hc⟩ := h
  unfold maxLen at hm
  have Hc := Lib.hid hc
  have Ha := Lib.hid ha
  clear hc ha hr
  go_enter Try.func162, Try.ntmps162
  go_wp2
  go_loop [3, 8] (fun t i => ∃ k : Nat, k ≤ l.length ∧ i = .int .i64 k ∧ t = .int .i64 (manyTo l k)) (fun _ i => l.length - (intOf i).toNat)
  case atStart => exact ⟨0, Nat.zero_le _, rfl, rfl⟩
  case round =>
    obtain ⟨k, hk, rfl, rfl⟩ := hrel
    by_cases hlt : k < l.length
    · obtain ⟨x, hc, rfl, _⟩ := Hc.out k hlt
      obtain rfl := Ha.out (by omega)
      have h1 := HR.out k hlt
      have E := Lib.hid (show manyTo l (k + 1) = max (manyTo l k) (gi l k + 1) from rfl)
      go_wp2_with (go_at_call 189; (with_reducible refine (l1Most_any _ _).mono ?_); rintro e w' ⟨rfl, rfl⟩; rw [← E.out])
      go_round
      case rel => exact ⟨k + 1, by omega, by go_num, rfl⟩
      case measure => simp [intOf]; omega
    · go_wp2
      go_ret
      obtain rfl : k = l.length := by omega
      exact ⟨by rw [HM.out]; rfl, rfl⟩

/-- A network that lies in a box: its parts, from the world of the box on. -/
theorem box_parts {w w' : World} {v0 v1 v2 : Value} {b t : Nat} (h : w.rowIs b t 3 (tri v0 v1 v2)) (he : Ext w w') : w'.cell? ⟨b, 0, none⟩ = some v0 ∧ w'.cell? ⟨b, 1, none⟩ = some v1 ∧ w'.cell? ⟨b, 2, none⟩ = some v2 :=
  have r := row3_facts (row_ext h he); ⟨r.1, r.2.1, r.2.2.1⟩

set_option maxHeartbeats 1600000 in
set_option maxRecDepth 100000 in
theorem viClasses_any {w : World} {v : Value} {N : Net} (t : Nat) (ht : t ≤ 1048576) (h : NetAt w v N) (hN : NodesIn N) (hn : 0 < N.ends.length) (hs : N.ends.length ≤ 1048576) :
    Calls Try.prog 65 #[v, .int .i64 t] w fun e w' => ∃ b, e = .returned (.slice (some ⟨b, 0, none⟩) N.ends.length N.ends.length) ∧ Ext w w' ∧ OwnI w' (.slice (some ⟨b, 0, none⟩) N.ends.length N.ends.length) (seqC N t) [b] ∧ w.heap.size ≤ b := by
  have HN := Lib.hid h
  have HNI := Lib.hid hN
  clear hN
  obtain ⟨v0, v1, v2, rfl, hE, hI, hP⟩ := h
  clear hE hI hP
  have HX := Lib.hid ((Ext.rfl' w).alloc' (.cells #[v0, v1, v2] 34))
  have HR := Lib.hid (row3_made w v0 v1 v2 34)
  obtain ⟨p0, p1, p2, -, -, -⟩ := row3_facts HR.out
  go_enter Try.func65, Try.ntmps65
  go_wp2_with fail
  (with_reducible refine (viStep_any (HN.out.ext HX.out) (nil_ints _) HNI.out (.inl rfl) hs (stepC_nil N) rfl).mono ?_)
  rintro e w1 ⟨b, rfl, hx, ho, hb⟩
  have H1 := Lib.hid (show Ext w w1 ∧ OwnI w1 (.slice (some ⟨b, 0, none⟩) N.ends.length N.ends.length) (seqC N 0) [b] ∧ w.heap.size ≤ b ∧ w1.rowIs w.heap.size 34 3 (tri v0 v1 v2) from ⟨HX.out.trans' hx, ho, by have := HX.out.size; omega, row_ext HR.out hx⟩)
  clear hx ho hb p0 p1 p2
  go_wp2_with fail
  go_loopg [1, 5] t (fun g tt c wr => ∃ (j : Nat) (bb : Nat), j ≤ t ∧ g = t - j ∧ tt = .int .i64 ((t : Int) - (j : Int)) ∧ c = .slice (some ⟨bb, 0, none⟩) N.ends.length N.ends.length ∧ Hid (Ext w wr ∧ OwnI wr (.slice (some ⟨bb, 0, none⟩) N.ends.length N.ends.length) (seqC N j) [bb] ∧ w.heap.size ≤ bb ∧ wr.rowIs w.heap.size 34 3 (tri v0 v1 v2)))
  case atStart => exact ⟨0, b, Nat.zero_le _, rfl, by simp, rfl, H1.out⟩
  case round =>
    obtain ⟨j, bb, hj, rfl, rfl, rfl, Hr⟩ := hrel
    by_cases hlt : j < t
    · obtain ⟨p0, p1, p2, -, -, -⟩ := row3_facts Hr.out.2.2.2
      go_wp2_with (go_at_call 115; (with_reducible refine (viStep_any (HN.out.ext Hr.out.1) Hr.out.2.1.read HNI.out (.inr (seqC_len N j)) hs (stepC_seq hn j) rfl).mono ?_); rintro e w2 ⟨b2, rfl, hx, ho, hb⟩; have H2 := Lib.hid (And.intro hx (And.intro ho hb)); clear hx ho hb p0 p1 p2)
      go_roundg (t - (j + 1))
      case measure => omega
      case rel => exact ⟨j + 1, b2, by omega, rfl, by go_num, rfl, Hr.out.1.trans' H2.out.1, H2.out.2.1, Nat.le_trans Hr.out.1.size H2.out.2.2, row_ext Hr.out.2.2.2 H2.out.1⟩
    · go_wp2
      go_ret
      obtain rfl : j = t := by omega
      exact ⟨bb, rfl, Hr.out.1, Hr.out.2.1, Hr.out.2.2.1⟩

set_option maxHeartbeats 1600000 in
set_option maxRecDepth 100000 in
theorem viClasses_zero {w : World} {v : Value} {N : Net} (h : NetAt w v N) (hN : NodesIn N) (hn : 0 < N.ends.length) (hs : N.ends.length ≤ 1048576) :
    Calls Try.prog 65 #[v, .int .i64 0] w fun e w' => ∃ b, e = .returned (.slice (some ⟨b, 0, none⟩) N.ends.length N.ends.length) ∧ Ext w w' ∧ OwnI w' (.slice (some ⟨b, 0, none⟩) N.ends.length N.ends.length) (seqC N 0) [b] ∧ w.heap.size ≤ b :=
  viClasses_any 0 (by omega) h hN hn hs
set_option maxHeartbeats 1600000 in
set_option maxRecDepth 100000 in
theorem viStable_any {w : World} {v : Value} {N : Net} (h : NetAt w v N) (hN : NodesIn N) (hn : 0 < N.ends.length) (hs : N.ends.length ≤ 1048576) :
    Calls Try.prog 117 #[v] w fun e w' => e = .returned (.int .i64 (stOf N)) ∧ Ext w w' := by
  have HN := Lib.hid h
  have HNI := Lib.hid hN
  clear hN
  obtain ⟨v0, v1, v2, rfl, hE, hI, hP⟩ := h
  clear hE hI hP
  have HX := Lib.hid ((Ext.rfl' w).alloc' (.cells #[v0, v1, v2] 34))
  have HR := Lib.hid (row3_made w v0 v1 v2 34)
  obtain ⟨p0, p1, p2, -, -, -⟩ := row3_facts HR.out
  go_enter Try.func117, Try.ntmps117
  go_wp2_with fail
  (with_reducible refine (viClasses_zero (HN.out.ext HX.out) HNI.out hn hs).mono ?_)
  rintro e w1 ⟨b, rfl, hx, ho, hb⟩
  have H1 := Lib.hid (show Ext w w1 ∧ OwnI w1 (.slice (some ⟨b, 0, none⟩) N.ends.length N.ends.length) (seqC N 0) [b] ∧ w1.rowIs w.heap.size 34 3 (tri v0 v1 v2) from ⟨HX.out.trans' hx, ho, row_ext HR.out hx⟩)
  clear hx ho hb p0 p1 p2
  go_wp2_with fail
  go_loopg [3, 4] (N.ends.length + 1) (fun g c tt wr => ∃ (j : Nat) (bb : Nat), j < N.ends.length ∧ g = N.ends.length + 1 - j ∧ tt = .int .i64 j ∧ c = .slice (some ⟨bb, 0, none⟩) N.ends.length N.ends.length ∧ Hid ((∀ s, s < j → ¬ EvenAt N s) ∧ Ext w wr ∧ OwnI wr (.slice (some ⟨bb, 0, none⟩) N.ends.length N.ends.length) (seqC N j) [bb] ∧ wr.rowIs w.heap.size 34 3 (tri v0 v1 v2)))
  case atStart => exact ⟨0, b, hn, rfl, rfl, rfl, fun s hs => absurd hs (by omega), H1.out⟩
  case round =>
    obtain ⟨j, bb, hj, rfl, rfl, rfl, Hr⟩ := hrel
    obtain ⟨p0, p1, p2, -, -, -⟩ := row3_facts Hr.out.2.2.2
    go_wp2_with fail
    (with_reducible refine (viStep_any (HN.out.ext Hr.out.2.1) Hr.out.2.2.1.read HNI.out (.inr (seqC_len N j)) hs (stepC_seq hn j) rfl).mono ?_)
    rintro e w2 ⟨b2, rfl, hx, ho, hb⟩
    have H2 := Lib.hid (show Ext wr w2 ∧ OwnI w2 (.slice (some ⟨b2, 0, none⟩) N.ends.length N.ends.length) (seqC N (j + 1)) [b2] from ⟨hx, ho⟩)
    have O1 := Lib.hid (show OwnI w2 (.slice (some ⟨bb, 0, none⟩) N.ends.length N.ends.length) (seqC N j) [bb] from Hr.out.2.2.1.ext hx)
    clear hx ho hb p0 p1 p2
    have RG : ∀ t i, i < (seqC N t).length → 0 ≤ gi (seqC N t) i ∧ gi (seqC N t) i ≤ 1048576 := fun t i hi => by rw [seqC_len] at hi; have := seqC_in (t := t) hi; omega
    have C1 := viMany_any H2.out.2.read (RG _) (by rw [seqC_len]; exact hn)
    have C2 := viMany_any O1.out.read (RG _) (by rw [seqC_len]; exact hn)
    have HC1 := Lib.hid C1
    have HC2 := Lib.hid C2
    clear C1 C2 RG
    go_wp2_with fail
    (with_reducible refine HC1.out.mono ?_)
    rintro e w3 ⟨rfl, rfl⟩
    go_wp2_with fail
    (with_reducible refine HC2.out.mono ?_)
    rintro e w4 ⟨rfl, rfl⟩
    by_cases he : maxI (seqC N (j + 1)) = maxI (seqC N j)
    · have hb : (maxI (seqC N (j + 1)) + 1 == maxI (seqC N j) + 1) = true := by simp [he]
      have S := Lib.hid (stOf_eq (N := N) (t := j) ⟨he, Hr.out.1⟩)
      clear he
      go_wp2
      go_ret
      exact ⟨by rw [S.out]; rfl, Hr.out.2.1.trans' H2.out.1⟩
    · have hb : (maxI (seqC N (j + 1)) + 1 == maxI (seqC N j) + 1) = false := by simp; omega
      have HU := Lib.hid (show ∀ s, s < j + 1 → ¬ EvenAt N s from fun s hs => by
        by_cases e : s = j
        · subst e; exact he
        · exact Hr.out.1 s (by omega))
      have hj1 := uneven_lt HNI.out hn HU.out
      clear he
      go_wp2
      go_roundg (N.ends.length + 1 - (j + 1))
      case measure => omega
      case rel => exact ⟨j + 1, b2, hj1, rfl, by go_num, rfl, HU.out, Hr.out.2.1.trans' H2.out.1, H2.out.2, row_ext Hr.out.2.2.2 H2.out.1⟩
end Go.Proofs.Ytkpdbceglejbnaa
