/- The contracts of slices.Max and of classesByDepth. -/
import Derived.Test.YtkpdbceglejbnaaVh
import Derived.Test.YtkpdbceglejbnaaVk
import Derived.Test.YtkpdbceglejbnaaIi
namespace Go.Proofs.Ytkpdbceglejbnaa
open Go.RowKit

theorem Try.info23' : (Try.prog.info? 26).map (fun i => (i.zero, i.size, i.bytes)) = some (some (.slice none 0 0), 1, 24) := by kernel_rfl

/-- The greatest of the first k + 1 elements. -/
def mostTo (l : List Int) : Nat → Int
  | 0 => gi l 0
  | k + 1 => if mostTo l k < gi l (k + 1) then gi l (k + 1) else mostTo l k
theorem mostTo_spec (l : List Int) : ∀ k, (∀ i, i ≤ k → gi l i ≤ mostTo l k) ∧ ∃ i, i ≤ k ∧ mostTo l k = gi l i
  | 0 => ⟨fun i hi => by obtain rfl : i = 0 := by omega
                         exact Int.le_refl _, 0, Nat.le_refl _, rfl⟩
  | k + 1 => by
    obtain ⟨h2, i, hi, he⟩ := mostTo_spec l k
    simp only [mostTo]
    by_cases h : mostTo l k < gi l (k + 1)
    · rw [if_pos h]
      refine ⟨fun j hj => ?_, k + 1, Nat.le_refl _, rfl⟩
      by_cases e : j = k + 1
      · subst e; omega
      · have := h2 j (by omega); omega
    · rw [if_neg h]
      refine ⟨fun j hj => ?_, i, by omega, he⟩
      by_cases e : j = k + 1
      · subst e; omega
      · exact h2 j (by omega)
theorem mostTo_max {l : List Int} {n : Nat} (hr : ∀ i, i < l.length → 0 ≤ gi l i) (hn : l.length = n + 1) : mostTo l n = maxI l := by
  obtain ⟨h2, i, hi, he⟩ := mostTo_spec l n
  have := maxI_eq (l := l) (m := gi l i) (hr i (by omega)) (fun x hx => by obtain ⟨j, hj, rfl⟩ := mem_gi hx; have := h2 j (by omega); omega) (gi_mem (by omega))
  omega

set_option maxHeartbeats 800000 in
set_option maxRecDepth 100000 in
theorem maxInts_any {w : World} {v : Value} {l : List Int} {n : Nat} (h : IntSl w v l) (hr : ∀ i, i < l.length → 0 ≤ gi l i) (hn : l.length = n + 1) (hs : n ≤ 1048576) :
    Calls Try.prog 127 #[v] w fun e w' => e = .returned (.int .i64 (maxI l)) ∧ w = w' := by
  have HM := Lib.hid (mostTo_max hr hn)
  obtain ⟨a, b, o, c, rfl, ha, hl, hm, hc⟩ := h
  unfold maxLen at hm
  obtain rfl := ha (by omega)
  have Hc := Lib.hid hc
  clear hc ha hr
  obtain ⟨x0, hx0, rfl, _⟩ := Hc.out 0 (by omega)
  rw [Nat.add_zero] at hx0
  rw [hn] at hl ⊢
  have HN := Lib.hid hn
  clear hn
  go_enter Try.func127, Try.ntmps127
  go_wp2
  go_loop [3, 4] (fun t i => ∃ k : Nat, k ≤ n ∧ i = .int .i64 ((k : Int) + 1) ∧ t = .int .i64 (mostTo l k)) (fun _ i => n + 1 - (intOf i).toNat)
  case atStart => exact ⟨0, Nat.zero_le _, rfl, rfl⟩
  case round =>
    obtain ⟨k, hk, rfl, rfl⟩ := hrel
    by_cases hlt : k < n
    · obtain ⟨x, hc, rfl, _⟩ := Hc.out (k + 1) (by have := HN.out; omega)
      go_wp2
      go_round
      case rel => exact ⟨k + 1, by omega, by go_num, rfl⟩
      case measure => simp [intOf]; omega
    · go_wp2
      go_ret
      obtain rfl : k = n := by omega
      exact ⟨by rw [← HM.out]; rfl, rfl⟩

/-- The classes of the first k depths. -/
noncomputable def clsTo (N : Net) (k : Nat) : List (List Int) := (List.range k).map (seqC N)
theorem clsTo_len (N : Net) (k : Nat) : (clsTo N k).length = k := by simp [clsTo]
theorem clsTo_succ (N : Net) (k : Nat) : clsTo N (k + 1) = clsTo N k ++ [seqC N k] := by simp [clsTo, List.range_succ]
theorem gr_clsTo {N : Net} {k i : Nat} (h : i < k) : gr (clsTo N k) i = seqC N i := by simp [gr, clsTo, h]
theorem gr_snoc' (l : List (List Int)) (r : List Int) (i : Nat) : gr (l ++ [r]) i = if i = l.length then r else gr l i := by
  unfold gr
  by_cases e : i = l.length
  · subst e; simp
  · rw [if_neg e]
    by_cases h : i < l.length
    · simp [List.getD, List.getElem?_append_left h]
    · simp [List.getD, List.getElem?_eq_none (show l.length ≤ i by omega), List.getElem?_eq_none (show (l ++ [r]).length ≤ i by simp; omega)]

theorem grow_parts {B : Nat} {w : World} {v : Value} {l : List (List Int)} (h : GrowI B w v l l.length) (r : List Int) :
    ∃ (R : Nat → Value) (T : Nat → List Nat), w.ownsRow B 26 1 v l.length ((List.range l.length).map R) ∧ (∀ i, i < l.length → OwnI w (R i) (gr (l ++ [r]) i) (T i)) ∧ ((List.range l.length).flatMap T).Nodup ∧ ∀ b ∈ (List.range l.length).flatMap T, B ≤ b ∧ b < w.heap.size := by
  obtain ⟨R, T, h1, h2, h3, h4⟩ := h
  refine ⟨R, T, h1, fun i hi => by rw [gr_snoc', if_neg (by omega)]; exact h2 i hi, h3, fun b hb => ⟨h4 b hb, ?_⟩⟩
  obtain ⟨i, hi, hbi⟩ := List.mem_flatMap.1 hb
  exact (h2 i (List.mem_range.1 hi)).1.lt b hbi

/-- A further row of classes: wr: the world in which the list was; w2: the one ahead of append; w3: the one behind it. -/
theorem class_step {B b n : Nat} {wr w2 w3 : World} {s v' : Value} {l : List (List Int)} {r : List Int} {R : Nat → Value} {T : Nat → List Nat} (hx : Ext wr w2) (hb : wr.heap.size ≤ b) (hB : B ≤ wr.heap.size)
    (h1 : wr.ownsRow B 26 1 s l.length ((List.range l.length).map R)) (h2 : ∀ j, j < l.length → OwnI wr (R j) (gr (l ++ [r]) j) (T j)) (h3 : ((List.range l.length).flatMap T).Nodup) (h4 : ∀ b ∈ (List.range l.length).flatMap T, B ≤ b ∧ b < wr.heap.size)
    (ho : OwnI w2 (.slice (some ⟨b, 0, none⟩) n n) r [b])
    (hg : Grew (w2.alloc (.cells #[.slice (some ⟨b, 0, none⟩) n n] 26)) w3 B 26 1 s v' (l.length + 1) ((List.range l.length).map R ++ [.slice (some ⟨b, 0, none⟩) n n])) :
    GrowI B w3 v' (l ++ [r]) (l ++ [r]).length ∧ OwnI w3 (.slice (some ⟨b, 0, none⟩) n n) r [b] ∧ ∀ W : World, Ext W wr → W.heap.size ≤ B → Ext W w3 := by
  have hy : Ext wr (w2.alloc (.cells #[.slice (some ⟨b, 0, none⟩) n n] 26)) := hx.alloc' _
  have hl : (l ++ [r]).length = l.length + 1 := by simp
  have h1' := owns_ext h1 hy
  refine ⟨?_, (ho.ext ((Ext.rfl' _).alloc' _)).keep (kept_grown h1' hg.2.1 (ho.ext ((Ext.rfl' _).alloc' _)).1.typed (by decide)), fun W hW hWB => hg.ext (hW.trans' hy) fun b hb => Nat.le_trans hWB (h1.lt b hb).1⟩
  rw [hl]
  refine GrowI.step h1' (fun j hj => (h2 j hj).ext hy) h3 (fun b hb => (h4 b hb).1) (bs := [b]) ?_ (fun c hc => ?_) hg
  · rw [gr_snoc', if_pos rfl]; exact ho.ext ((Ext.rfl' _).alloc' _)
  · obtain rfl := List.mem_singleton.1 hc
    exact ⟨by omega, fun hc' => by have := (h4 _ hc').2; omega⟩

set_option maxHeartbeats 3200000 in
set_option maxRecDepth 100000 in
theorem classesByDepth_any {w : World} {v : Value} {N : Net} (h : NetAt w v N) (hN : NodesIn N) (hn : 0 < N.ends.length) (hs : N.ends.length ≤ 1000) :
    Calls Try.prog 74 #[v] w fun e w' => ∃ v', e = .returned v' ∧ Ext w w' ∧ GrowI (w.heap.size + 1) w' v' (clsTo N (stOf N + 1)) (clsTo N (stOf N + 1)).length := by
  have HN := Lib.hid h
  have HNI := Lib.hid hN
  clear hN
  obtain ⟨v0, v1, v2, rfl, hE, hI, hP⟩ := h
  clear hI
  obtain ⟨a, b1, o, d, rfl, -, hnd, hm, -⟩ := id hE
  unfold maxLen at hm
  obtain ⟨i0, hi, hz0, hz1, hz2⟩ := info_parts Try.info23'
  have I0 := Lib.hid (And.intro hi (And.intro hz0 (And.intro hz1 hz2)))
  clear hi hz0 hz1 hz2
  have HX := Lib.hid ((Ext.rfl' w).alloc' (.cells #[.slice a N.ends.length d, v1, v2] 34))
  have HR := Lib.hid (row3_made w (.slice a N.ends.length d) v1 v2 34)
  have HZ := Lib.hid (show (w.alloc (.cells #[.slice a N.ends.length d, v1, v2] 34)).heap.size = w.heap.size + 1 by simp)
  obtain ⟨p0, p1, p2, -, -, -⟩ := row3_facts HR.out
  have HBX := Lib.hid (show NetBox (w.alloc (.cells #[.slice a N.ends.length d, v1, v2] 34)) w.heap.size N from ⟨_, _, p0, p2, hE.ext HX.out, hP.ext HX.out⟩)
  clear hE hP
  have CALL := numberClasses_any 125 #[.pointer (some ⟨w.heap.size, 0, none⟩)] enters_alike N.ends.length (by omega) (like0 N) (w := w.alloc (.cells #[.slice a N.ends.length d, v1, v2] 34)) fun W hW x y hx hy => alike0_any (HBX.out.ext hW) HNI.out.len x y (by omega) hy
  have HC := Lib.hid CALL
  clear CALL
  go_enter Try.func74, Try.ntmps74
  go_wp2_with fail
  generalize w.alloc (.cells #[.slice a N.ends.length d, v1, v2] 34) = W0 at *
  (with_reducible refine HC.out.mono ?_)
  rintro e w1 ⟨rfl, hx, hz, hr⟩
  have O1 := Lib.hid (own_row (seqC_len N 0) (fun i hi => (seqC_range (by omega) 0 i hi).1) (by omega) hr)
  have X1 := Lib.hid hx
  clear hx hr p0 p1 p2 hz
  go_wp2_with fail
  go_loopg [3, 4] (N.ends.length + 1) (fun g c cs wr => ∃ (j : Nat) (bb : Nat), j < N.ends.length ∧ g = N.ends.length + 1 - j ∧ c = .slice (some ⟨bb, 0, none⟩) N.ends.length N.ends.length ∧ Hid ((∀ s, s < j → ¬ EvenAt N s) ∧ Ext W0 wr ∧ OwnI wr (.slice (some ⟨bb, 0, none⟩) N.ends.length N.ends.length) (seqC N j) [bb] ∧ GrowI W0.heap.size wr cs (clsTo N (j + 1)) (clsTo N (j + 1)).length))
  case atStart =>
    refine ⟨0, W0.heap.size, hn, rfl, rfl, fun s hs => absurd hs (by omega), X1.out.alloc' _, O1.out.ext ((Ext.rfl' _).alloc' _), ?_⟩
    rw [clsTo_len]
    refine ⟨fun _ => .slice (some ⟨W0.heap.size, 0, none⟩) N.ends.length N.ends.length, fun _ => [W0.heap.size], ?_, fun i hi => ?_, by simp, by simp⟩
    · have := World.ownsRow_lit (base := W0.heap.size) (e := 26) (size := 1) w1 #[.slice (some ⟨W0.heap.size, 0, none⟩) N.ends.length N.ends.length] 1 X1.out.size (by decide) (by simp)
      simpa using this
    · obtain rfl : i = 0 := by omega
      rw [gr_clsTo (by omega)]
      exact O1.out.ext ((Ext.rfl' _).alloc' _)
  case round =>
    obtain ⟨j, bb, hj, rfl, rfl, Hr⟩ := hrel
    obtain ⟨p0, p1, p2, -, -, -⟩ := row3_facts (row_ext HR.out Hr.out.2.1)
    go_wp2_with fail
    (with_reducible refine (finerClasses_any (HN.out.ext (HX.out.trans' Hr.out.2.1)) Hr.out.2.2.1.read HNI.out (by omega)).mono ?_)
    rintro e w2 ⟨b2, rfl, hx, ho, hb⟩
    have H2 := Lib.hid (show Ext wr w2 ∧ OwnI w2 (.slice (some ⟨b2, 0, none⟩) N.ends.length N.ends.length) (seqC N (j + 1)) [b2] ∧ wr.heap.size ≤ b2 from ⟨hx, ho, hb⟩)
    have O2 := Lib.hid (show OwnI w2 (.slice (some ⟨bb, 0, none⟩) N.ends.length N.ends.length) (seqC N j) [bb] from Hr.out.2.2.1.ext hx)
    clear hx ho hb p0 p1 p2
    have RG : ∀ t i, i < (seqC N t).length → 0 ≤ gi (seqC N t) i := fun t i hi => by rw [seqC_len] at hi; exact (seqC_in (t := t) hi).1
    have LN : ∀ t, (seqC N t).length = (N.ends.length - 1) + 1 := fun t => by rw [seqC_len]; omega
    have C1 := maxInts_any H2.out.2.1.read (RG _) (LN _) (by omega)
    have C2 := maxInts_any O2.out.read (RG _) (LN _) (by omega)
    have HC1 := Lib.hid C1
    have HC2 := Lib.hid C2
    clear C1 C2 RG LN
    go_wp2_with fail
    (with_reducible refine HC1.out.mono ?_)
    rintro e w3 ⟨rfl, rfl⟩
    go_wp2_with fail
    (with_reducible refine HC2.out.mono ?_)
    rintro e w4 ⟨rfl, rfl⟩
    by_cases he : maxI (seqC N (j + 1)) = maxI (seqC N j)
    · have hb : (maxI (seqC N (j + 1)) == maxI (seqC N j)) = true := by simp [he]
      have S := Lib.hid (stOf_eq (N := N) (t := j) ⟨he, Hr.out.1⟩)
      have G := Lib.hid (Hr.out.2.2.2.ext H2.out.1)
      have HQ := HZ.out
      clear he
      go_wp2
      go_ret
      exact ⟨_, rfl, HX.out.trans' (Hr.out.2.1.trans' H2.out.1), by rw [S.out, ← HZ.out]; exact G.out⟩
    · have hb : (maxI (seqC N (j + 1)) == maxI (seqC N j)) = false := by simp; omega
      have HU := Lib.hid (show ∀ s, s < j + 1 → ¬ EvenAt N s from fun s hs => by
        by_cases e : s = j
        · subst e; exact he
        · exact Hr.out.1 s (by omega))
      have hj1 := uneven_lt HNI.out hn HU.out
      clear he
      obtain ⟨R, T, g1, g2, g3, g4⟩ := grow_parts Hr.out.2.2.2 (seqC N (j + 1))
      rw [clsTo_len] at g1 g2 g3 g4
      have G1 := Lib.hid g1
      have G3 := Lib.hid (And.intro g2 (And.intro g3 g4))
      have hB := Lib.hid (show W0.heap.size ≤ wr.heap.size from Hr.out.2.1.size)
      have hB2 := Lib.hid (show W0.heap.size ≤ w2.heap.size from Nat.le_trans hB.out H2.out.1.size)
      clear g1 g2 g3 g4
      go_wp2_with (at_builtin; refine wpList_app rfl (.tmp 22) (.tmp 24) 89 rfl W0.heap.size 26 i0 (.slice none 0 0) 1 24 Try.underlying89 I0.out.1 I0.out.2.1 I0.out.2.2.1 I0.out.2.2.2 rfl (by decide) u4 (j + 1) ((List.range (j + 1)).map R) rfl (owns_ext G1.out (H2.out.1.alloc' _)) (some ⟨w2.heap.size, 0, none⟩) 1 1 [.slice (some ⟨b2, 0, none⟩) N.ends.length N.ends.length] rfl (src_one w2 (.slice (some ⟨b2, 0, none⟩) N.ends.length N.ends.length) 26 rfl) (by unfold maxLen; omega) (by omega) ?_ ?_)
      · have := hB2.out; simp; omega
      intro v' w3 hg
      obtain ⟨g5, g6, g7⟩ := class_step (l := clsTo N (j + 1)) H2.out.1 H2.out.2.2 hB.out (by rw [clsTo_len]; exact G1.out) (by rw [clsTo_len]; exact G3.out.1) (by rw [clsTo_len]; exact G3.out.2.1) (by rw [clsTo_len]; exact G3.out.2.2) H2.out.2.1 (by rw [clsTo_len]; simpa [List.range_succ] using hg)
      have G5 := Lib.hid g5
      have G6 := Lib.hid g6
      have G7 := Lib.hid (g7 W0 Hr.out.2.1 (Nat.le_refl _))
      clear hg g5 g6 g7
      go_wp2
      go_roundg (N.ends.length + 1 - (j + 1))
      case measure => omega
      case rel => exact ⟨j + 1, b2, hj1, rfl, rfl, HU.out, G7.out, G6.out, by rw [clsTo_succ]; exact G5.out⟩
end Go.Proofs.Ytkpdbceglejbnaa
