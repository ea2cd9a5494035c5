/- Put into a sorted list of numbers: the plain mathematics and the model's contract. -/
import Derived.Test.YtdoaopeegcakiaaJo
import Derived.Test.YtdoaopeegcakiaaIi
namespace Go.Proofs.Ytdoaopeegcakiaa
open Go.RowKit

def putL : List Int → Int → List Int
  | [], x => [x]
  | y :: r, x => if y < x then y :: putL r x else if y = x then y :: r else x :: y :: r
theorem mem_putL {x z : Int} : ∀ {l : List Int}, z ∈ putL l x ↔ z ∈ l ∨ z = x
  | [] => by simp [putL]
  | y :: r => by
    have ih := mem_putL (x := x) (z := z) (l := r)
    simp only [putL]
    split
    · simp only [List.mem_cons, ih]
      constructor
      · rintro (h | h | h) <;> simp [h]
      · rintro ((h | h) | h) <;> simp [h]
    · split
      · rename_i h; subst h
        constructor
        · intro h; exact .inl h
        · rintro (h | h)
          · exact h
          · simp [h]
      · simp only [List.mem_cons]
        constructor
        · rintro (h | h | h) <;> simp [h]
        · rintro ((h | h) | h) <;> simp [h]
theorem putL_incr {x : Int} : ∀ {l : List Int}, l.Pairwise (· < ·) → (putL l x).Pairwise (· < ·)
  | [], _ => by simp [putL]
  | y :: r, h => by
    obtain ⟨h1, h2⟩ := List.pairwise_cons.1 h
    simp only [putL]
    split
    · rename_i hy
      refine List.pairwise_cons.2 ⟨fun z hz => ?_, putL_incr h2⟩
      rcases mem_putL.1 hz with hz | hz
      · exact h1 z hz
      · subst hz; exact hy
    · split
      · exact h
      · rename_i hy hne
        refine List.pairwise_cons.2 ⟨fun z hz => ?_, h⟩
        rcases List.mem_cons.1 hz with hz | hz
        · subst hz; omega
        · have := h1 z hz; omega
theorem gi_cons0 (y : Int) (r : List Int) : gi (y :: r) 0 = y := rfl
theorem gi_consS (y : Int) (r : List Int) (i : Nat) : gi (y :: r) (i + 1) = gi r i := by simp [gi, List.getD]
/-- At the place where the numbers are no longer less. -/
theorem putL_at {x : Int} : ∀ {l : List Int} {k : Nat}, k ≤ l.length → (∀ i, i < k → gi l i < x) →
    (k < l.length → gi l k = x → putL l x = l) ∧ ((k < l.length → x < gi l k) → putL l x = l.take k ++ [x] ++ l.drop k)
  | [], k, hk, _ => by
    obtain rfl : k = 0 := by simpa using hk
    exact ⟨fun h => absurd h (by simp), fun _ => by simp [putL]⟩
  | y :: r, 0, _, _ => by
    refine ⟨fun _ h => ?_, fun h => ?_⟩
    · rw [gi_cons0] at h
      subst h
      simp [putL]
    · have := h (by simp)
      rw [gi_cons0] at this
      simp only [putL]
      rw [if_neg (by omega), if_neg (by omega)]
      simp
  | y :: r, k + 1, hk, h => by
    have h0 := h 0 (by omega)
    rw [gi_cons0] at h0
    obtain ⟨i1, i2⟩ := putL_at (x := x) (l := r) (k := k) (by simpa using hk) fun i hi => by
      have := h (i + 1) (by omega)
      rwa [gi_consS] at this
    simp only [putL, if_pos h0, gi_consS]
    refine ⟨fun h1 h2 => by rw [i1 (by simpa using h1) h2], fun h1 => ?_⟩
    rw [i2 fun h2 => h1 (by simpa using h2)]
    simp
theorem length_putL (x : Int) : ∀ l : List Int, (putL l x).length ≤ l.length + 1
  | [] => by simp [putL]
  | y :: r => by
    have := length_putL x r
    simp only [putL]
    split
    · simp; omega
    · split <;> simp
/-- A part of a list that reads as numbers is a source. -/
theorem src_part {w : World} {b o n c : Nat} {l : List Int} (hc : ∀ i, i < l.length → w.cell? ⟨b, o + i, none⟩ = some (.int .i64 (gi l i))) {k : Nat} (hk : k + n ≤ l.length) (p : List Int) (hp : p.length = n) (hpi : ∀ i, i < n → gi p i = gi l (k + i)) (hcn : n ≤ c) : SrcAt w (some ⟨b, o + k, none⟩) n 1 (intCells p) := by
  subst hp
  refine ⟨by simp [intCells], by simp, fun ad e j u hu => ?_, fun u hu => ?_⟩
  · obtain rfl := Option.some.inj e
    have hj : j < p.length := by have := (List.getElem?_eq_some_iff.1 hu).1; simpa [intCells] using this
    have hu2 : u = .int .i64 (gi p j) := by simpa [intCells, gi, List.getD, hj] using hu.symm
    have hadd : (⟨b, o + k, none⟩ : Addr).add j = ⟨b, o + k + j, none⟩ := by unfold Addr.add; split <;> simp_all
    rw [hadd, hu2, hpi j hj, show o + k + j = o + (k + j) by omega]
    exact hc _ (by omega)
  · obtain ⟨x, -, rfl⟩ := List.mem_map.1 hu
    rfl
theorem gi_takeM (l : List Int) (k i : Nat) (h : i < k) : gi (l.take k) i = gi l i := by simp [gi, List.getD, h]
theorem gi_drop (l : List Int) (k i : Nat) : gi (l.drop k) i = gi l (k + i) := by simp [gi, List.getD]
/-- A list of numbers in memory from block B on. -/
def OwnB (w : World) (v : Value) (l : List Int) (B : Nat) : Prop := ∃ bs, OwnI w v l bs ∧ ∀ b ∈ bs, B ≤ b
theorem src_empty {w : World} {ao : Option Addr} {n : Nat} {p : List Int} (hp : p.length = n) (hn : n = 0) : SrcAt w ao n 1 (intCells p) := by
  subst hn
  obtain rfl := List.eq_nil_of_length_eq_zero hp
  exact ⟨rfl, fun _ => rfl, by simp [intCells], by simp [intCells]⟩
theorem app2_ext {w w6 w7 : World} {v0 v6 v7 x : Value} {xs ys : List Value} {n1 n2 : Nat} (g6 : Grew2 (w.alloc (.cells #[] 3)) w6 w.heap.size 3 1 v0 v6 n1 xs) (h6 : v0.ownBlock = some w.heap.size)
    (g7 : Grew2 (w6.alloc (.cells #[x] 3)) w7 w.heap.size 3 1 v6 v7 n2 ys) : Ext w w7 := by
  have e6 : Ext w w6 := g6.1.ext ((Ext.rfl' w).alloc' _) fun b hb => by rw [h6] at hb; cases hb; exact Nat.le_refl _
  exact g7.1.ext (e6.alloc' _) fun b hb => (World.ownsRow.lt g6.1.1 b hb).1
theorem app3_own {w w6 w7 w8 : World} {v0 v6 v7 v8 : Value} {l : List Int} {x : Int} {k B n1 n2 n3 : Nat} (_ : k ≤ l.length) (hr : ∀ i, i < l.length → inI64 (gi l i)) (hx : inI64 x) (hB : B ≤ w.heap.size)
    (g6 : Grew2 (w.alloc (.cells #[] 3)) w6 w.heap.size 3 1 v0 v6 n1 (intCells (l.take k))) (h6 : v0.ownBlock = some w.heap.size)
    (g7 : Grew2 (w6.alloc (.cells #[.int .i64 x] 3)) w7 w.heap.size 3 1 v6 v7 n2 (intCells (l.take k) ++ [.int .i64 x]))
    (g8 : Grew2 w7 w8 w.heap.size 3 1 v7 v8 n3 ((intCells (l.take k) ++ [.int .i64 x]) ++ intCells (l.drop k))) (hp : putL l x = l.take k ++ [x] ++ l.drop k) : Ext w w8 ∧ OwnB w8 v8 (putL l x) B := by
  have e6 : Ext w w6 := g6.1.ext ((Ext.rfl' w).alloc' _) fun b hb => by rw [h6] at hb; cases hb; exact Nat.le_refl _
  have e7 : Ext w w7 := g7.1.ext (e6.alloc' _) fun b hb => (World.ownsRow.lt g6.1.1 b hb).1
  have e8 : Ext w w8 := g8.1.ext e7 fun b hb => (World.ownsRow.lt g7.1.1 b hb).1
  have hc : ((intCells (l.take k) ++ [.int .i64 x]) ++ intCells (l.drop k)) = intCells (putL l x) := by rw [hp]; simp [intCells]
  have ho := g8.1.1
  rw [hc] at ho
  have hn : n3 = (putL l x).length := by have := ho.1; simpa [intCells] using this.symm
  subst hn
  obtain ⟨bs, h1, -, h3⟩ := own_of_cells (l := putL l x) ho (fun i hi => by
    have hm : gi (putL l x) i ∈ putL l x := by
      have : gi (putL l x) i = (putL l x)[i] := by simp [gi, List.getD, hi]
      rw [this]; exact List.getElem_mem hi
    rcases mem_putL.1 hm with h | h
    · obtain ⟨j, hj, e⟩ := List.getElem_of_mem h
      have := hr j hj
      simp only [gi, List.getD, List.getElem?_eq_getElem hj, Option.getD_some] at this
      rw [← e]; exact this
    · rw [h]; exact hx)
  exact ⟨e8, bs, h1, fun b hb => Nat.le_trans hB (h3 b hb)⟩

set_option maxHeartbeats 3200000 in
set_option maxRecDepth 100000 in
theorem l1Put_any {w : World} {v : Value} {l : List Int} {x : Int} {bs : List Nat} {B : Nat} (ho : OwnI w v l bs) (hx : inI64 x) (h20 : l.length < 1048576) (hb : ∀ b ∈ bs, B ≤ b) (hB : B ≤ w.heap.size) :
    Calls Try.prog 78 #[v, .int .i64 x] w fun e w' => ∃ v', e = .returned v' ∧ Ext w w' ∧ OwnB w' v' (putL l x) B := by
  have HO := Lib.hid ho
  have HX := Lib.hid hx
  have HBS := Lib.hid hb
  obtain ⟨a, b, o, c, rfl, ha, hl, hm, hc⟩ := ho.read
  unfold maxLen at hm
  have HA := Lib.hid ha
  have HC := Lib.hid hc
  have HRG := Lib.hid (show ∀ i, i < l.length → inI64 (gi l i) from ho.read.range)
  have HCI := Lib.hid (show ∀ i, i < l.length → w.cell? ⟨b, o + i, none⟩ = some (.int .i64 (gi l i)) from fun i hi => by obtain ⟨_, h1, rfl, -⟩ := hc i hi; exact h1)
  clear ho hx hb ha hc
  obtain ⟨i0, hi, hz0, hz1, hz2⟩ := info_parts Try.info3
  have I0 := Lib.hid (show Try.prog.info? 3 = some i0 ∧ i0.zero = some (.int .i64 0) ∧ i0.size = 1 ∧ i0.bytes = 8 from ⟨hi, hz0, hz1, hz2⟩)
  clear hi hz0 hz1 hz2
  go_enter Try.func78, Try.ntmps78
  go_wp2
  go_loopg [5] l.length (fun g i wr => ∃ k : Nat, k ≤ l.length ∧ g = l.length - k ∧ i = .int .i64 k ∧ w = wr ∧ Hid (∀ j, j < k → gi l j < x))
  case atStart => exact ⟨0, Nat.zero_le _, rfl, rfl, rfl, fun j hj => absurd hj (by omega)⟩
  case round =>
    obtain ⟨k, hk, rfl, rfl, rfl, Hr⟩ := hrel
    by_cases hlt : k < l.length
    · obtain rfl := HA.out (by omega)
      obtain ⟨_, c0, rfl, -⟩ := HC.out k hlt
      obtain ⟨y, hy⟩ : ∃ y, y = gi l k := ⟨_, rfl⟩
      have HY := Lib.hid hy
      rw [← hy] at c0
      clear hy
      by_cases h1 : y < x
      · have b1 : decide (y < x) = true := decide_eq_true h1
        have H1 := Lib.hid h1
        clear h1
        go_wp2
        go_roundg (l.length - (k + 1))
        case measure => omega
        case rel =>
          refine ⟨k + 1, by omega, rfl, by go_num, rfl, fun j hj => ?_⟩
          by_cases e : j = k
          · subst e; rw [← HY.out]; exact H1.out
          · exact Hr.out j (by omega)
      · have b1 : decide (y < x) = false := decide_eq_false h1
        by_cases h2 : y = x
        · have b2 : (y == x) = true := beq_iff_eq.2 h2
          have HE := Lib.hid ((putL_at (x := x) hk Hr.out).1 hlt (by rw [← HY.out]; exact h2))
          clear h1 h2
          go_wp2
          go_ret
          exact ⟨_, rfl, Ext.rfl' _, bs, by rw [HE.out]; exact HO.out, HBS.out⟩
        · have b2 : (y == x) = false := beq_eq_false_iff_ne.2 h2
          have HS := Lib.hid ((putL_at (x := x) hk Hr.out).2 fun _ => by rw [← HY.out]; omega)
          clear h1 h2
          have HK := Lib.hid hk
          have hlt1 : (l.take k).length = k := by rw [List.length_take]; omega
          have hld1 : (l.drop k).length = l.length - k := by simp
          have HT1 := Lib.hid hlt1
          have HD1 := Lib.hid hld1
          clear hlt1 hld1
          go_wp2_with (at_builtin; first | (refine wpList_app2 rfl (.tmp 34) (.tmp 37) 23 rfl w.heap.size 3 i0 (.int .i64 0) 1 8 Try.underlying23 I0.out.1 I0.out.2.1 I0.out.2.2.1 I0.out.2.2.2 rfl (by decide) (.slice (some ⟨w.heap.size, 0, none⟩) 0 0) 0 [] rfl (World.ownsRow_lit (size := 1) w #[] 0 (Nat.le_refl _) (by decide) rfl) _ k _ (intCells (l.take k)) rfl (src_part (l := l) (k := 0) (n := k) (c := c) (fun i hi => ((Ext.rfl' w).alloc' _).cell' (HCI.out i hi)) (by omega) _ HT1.out (fun i hi => by rw [gi_takeM _ _ _ hi, Nat.zero_add]) (by omega)) (by unfold maxLen; omega) (by omega) (by simp) ?_; intro v6 w6 hg6; rw [Nat.zero_add, List.nil_append] at hg6; have G6 := Lib.hid hg6; clear hg6; obtain ⟨a6, c6, rfl⟩ := owns_slice G6.out.1.1) | (refine wpList_app2 rfl (.tmp 39) (.tmp 41) 23 rfl w.heap.size 3 i0 (.int .i64 0) 1 8 Try.underlying23 I0.out.1 I0.out.2.1 I0.out.2.2.1 I0.out.2.2.2 rfl (by decide) (.slice a6 k c6) k (intCells (l.take k)) rfl (owns_ext G6.out.1.1 ((Ext.rfl' w6).alloc' _)) (some ⟨w6.heap.size, 0, none⟩) 1 1 [.int .i64 x] rfl (src_one w6 _ 3 rfl) (by unfold maxLen; omega) (by omega) (by have := G6.out.1.2.2; simp at this ⊢; omega) ?_; intro v7 w7 hg7; have G7 := Lib.hid hg7; clear hg7; obtain ⟨a7, c7, rfl⟩ := owns_slice G7.out.1.1) | (refine wpList_app2 rfl (.tmp 43) (.tmp 46) 23 rfl w.heap.size 3 i0 (.int .i64 0) 1 8 Try.underlying23 I0.out.1 I0.out.2.1 I0.out.2.2.1 I0.out.2.2.2 rfl (by decide) (.slice a7 (k + 1) c7) (k + 1) (intCells (l.take k) ++ [.int .i64 x]) rfl G7.out.1.1 _ (l.length - k) _ (intCells (l.drop k)) rfl (src_part (l := l) (k := k) (n := l.length - k) (c := c) (fun i hi => (app2_ext G6.out rfl G7.out).cell' (HCI.out i hi)) (by omega) _ HD1.out (fun i hi => gi_drop _ _ _) (by omega)) (by unfold maxLen; omega) (by omega) (by have := G6.out.1.2.2; have := G7.out.1.2.2; simp at *; omega) ?_; intro v8 w8 hg8; have G8 := Lib.hid hg8; clear hg8))
          all_goals
            go_ret
            obtain ⟨e8, o8⟩ := app3_own HK.out HRG.out HX.out hB G6.out rfl G7.out G8.out HS.out
            exact ⟨_, rfl, e8, o8⟩
    · obtain rfl : k = l.length := by omega
      have HS := Lib.hid ((putL_at (x := x) (Nat.le_refl _) Hr.out).2 fun h => absurd h (by omega))
      have HK := Lib.hid hk
      have hlt1 : (l.take l.length).length = l.length := by rw [List.length_take]; omega
      have hld1 : (l.drop l.length).length = l.length - l.length := by simp
      have HT1 := Lib.hid hlt1
      have HD1 := Lib.hid hld1
      clear hlt1 hld1
      by_cases h0 : 0 < l.length
      · obtain rfl := HA.out h0
        go_wp2_with (at_builtin; first | (refine wpList_app2 rfl (.tmp 34) (.tmp 37) 23 rfl w.heap.size 3 i0 (.int .i64 0) 1 8 Try.underlying23 I0.out.1 I0.out.2.1 I0.out.2.2.1 I0.out.2.2.2 rfl (by decide) (.slice (some ⟨w.heap.size, 0, none⟩) 0 0) 0 [] rfl (World.ownsRow_lit (size := 1) w #[] 0 (Nat.le_refl _) (by decide) rfl) _ l.length _ (intCells (l.take l.length)) rfl (src_part (l := l) (k := 0) (n := l.length) (c := c) (fun i hi => ((Ext.rfl' w).alloc' _).cell' (HCI.out i hi)) (by omega) _ HT1.out (fun i hi => by rw [gi_takeM _ _ _ hi, Nat.zero_add]) (by omega)) (by unfold maxLen; omega) (by omega) (by simp) ?_; intro v6 w6 hg6; rw [Nat.zero_add, List.nil_append] at hg6; have G6 := Lib.hid hg6; clear hg6; obtain ⟨a6, c6, rfl⟩ := owns_slice G6.out.1.1) | (refine wpList_app2 rfl (.tmp 39) (.tmp 41) 23 rfl w.heap.size 3 i0 (.int .i64 0) 1 8 Try.underlying23 I0.out.1 I0.out.2.1 I0.out.2.2.1 I0.out.2.2.2 rfl (by decide) (.slice a6 l.length c6) l.length (intCells (l.take l.length)) rfl (owns_ext G6.out.1.1 ((Ext.rfl' w6).alloc' _)) (some ⟨w6.heap.size, 0, none⟩) 1 1 [.int .i64 x] rfl (src_one w6 _ 3 rfl) (by unfold maxLen; omega) (by omega) (by have := G6.out.1.2.2; simp at this ⊢; omega) ?_; intro v7 w7 hg7; have G7 := Lib.hid hg7; clear hg7; obtain ⟨a7, c7, rfl⟩ := owns_slice G7.out.1.1) | (refine wpList_app2 rfl (.tmp 43) (.tmp 46) 23 rfl w.heap.size 3 i0 (.int .i64 0) 1 8 Try.underlying23 I0.out.1 I0.out.2.1 I0.out.2.2.1 I0.out.2.2.2 rfl (by decide) (.slice a7 (l.length + 1) c7) (l.length + 1) (intCells (l.take l.length) ++ [.int .i64 x]) rfl G7.out.1.1 _ 0 _ (intCells (l.drop l.length)) rfl (src_empty (by rw [HD1.out]; omega) rfl) (by unfold maxLen; omega) (by omega) (by have := G6.out.1.2.2; have := G7.out.1.2.2; simp at *; omega) ?_; intro v8 w8 hg8; have G8 := Lib.hid hg8; clear hg8))
        all_goals
          go_ret
          obtain ⟨e8, o8⟩ := app3_own HK.out HRG.out HX.out hB G6.out rfl G7.out G8.out HS.out
          exact ⟨_, rfl, e8, o8⟩
      · have H0 := Lib.hid (show l.length = 0 by omega)
        go_wp2_with (at_builtin; first | (refine wpList_app2 rfl (.tmp 34) (.tmp 37) 23 rfl w.heap.size 3 i0 (.int .i64 0) 1 8 Try.underlying23 I0.out.1 I0.out.2.1 I0.out.2.2.1 I0.out.2.2.2 rfl (by decide) (.slice (some ⟨w.heap.size, 0, none⟩) 0 0) 0 [] rfl (World.ownsRow_lit (size := 1) w #[] 0 (Nat.le_refl _) (by decide) rfl) _ l.length _ (intCells (l.take l.length)) rfl (src_empty HT1.out H0.out) (by unfold maxLen; omega) (by omega) (by simp) ?_; intro v6 w6 hg6; rw [Nat.zero_add, List.nil_append] at hg6; have G6 := Lib.hid hg6; clear hg6; obtain ⟨a6, c6, rfl⟩ := owns_slice G6.out.1.1) | (refine wpList_app2 rfl (.tmp 39) (.tmp 41) 23 rfl w.heap.size 3 i0 (.int .i64 0) 1 8 Try.underlying23 I0.out.1 I0.out.2.1 I0.out.2.2.1 I0.out.2.2.2 rfl (by decide) (.slice a6 l.length c6) l.length (intCells (l.take l.length)) rfl (owns_ext G6.out.1.1 ((Ext.rfl' w6).alloc' _)) (some ⟨w6.heap.size, 0, none⟩) 1 1 [.int .i64 x] rfl (src_one w6 _ 3 rfl) (by unfold maxLen; omega) (by omega) (by have := G6.out.1.2.2; simp at this ⊢; omega) ?_; intro v7 w7 hg7; have G7 := Lib.hid hg7; clear hg7; obtain ⟨a7, c7, rfl⟩ := owns_slice G7.out.1.1) | (refine wpList_app2 rfl (.tmp 43) (.tmp 46) 23 rfl w.heap.size 3 i0 (.int .i64 0) 1 8 Try.underlying23 I0.out.1 I0.out.2.1 I0.out.2.2.1 I0.out.2.2.2 rfl (by decide) (.slice a7 (l.length + 1) c7) (l.length + 1) (intCells (l.take l.length) ++ [.int .i64 x]) rfl G7.out.1.1 _ 0 _ (intCells (l.drop l.length)) rfl (src_empty (by rw [HD1.out]; omega) rfl) (by unfold maxLen; omega) (by omega) (by have := G6.out.1.2.2; have := G7.out.1.2.2; simp at *; omega) ?_; intro v8 w8 hg8; have G8 := Lib.hid hg8; clear hg8))
        all_goals
          go_ret
          obtain ⟨e8, o8⟩ := app3_own HK.out HRG.out HX.out hB G6.out rfl G7.out G8.out HS.out
          exact ⟨_, rfl, e8, o8⟩
end Go.Proofs.Ytdoaopeegcakiaa
