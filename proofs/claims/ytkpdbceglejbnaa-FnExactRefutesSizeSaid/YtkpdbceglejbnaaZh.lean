/- Greatest and least elements, tables; slices.Max, slices.Min, meMost, leastNode, meConnected. -/
import Derived.Test.YtkpdbceglejbnaaZf
import Derived.Test.YtkpdbceglejbnaaZb
namespace Go.Proofs.Ytkpdbceglejbnaa
open Go.RowKit

/-- The greatest of the first k + 1 elements. -/
def mostTo (l : List Int) : Nat → Int
  | 0 => gi l 0
  | k + 1 => if mostTo l k < gi l (k + 1) then gi l (k + 1) else mostTo l k
theorem mostTo_spec (l : List Int) : ∀ k, (∀ i, i ≤ k → gi l i ≤ mostTo l k) ∧ ∃ i, i ≤ k ∧ mostTo l k = gi l i
  | 0 => ⟨fun i hi => by obtain rfl : i = 0 := by omega
                         exact Int.le_refl _, 0, Nat.le_refl _, rfl⟩
  | k + 1 => by
    obtain ⟨h2, i, hi, he⟩ := mostTo_spec l k
    simp only [mostTo]
    by_cases h : mostTo l k < gi l (k + 1)
    · rw [if_pos h]
      refine ⟨fun j hj => ?_, k + 1, Nat.le_refl _, rfl⟩
      by_cases e : j = k + 1
      · subst e; omega
      · have := h2 j (by omega); omega
    · rw [if_neg h]
      refine ⟨fun j hj => ?_, i, by omega, he⟩
      by_cases e : j = k + 1
      · subst e; omega
      · exact h2 j (by omega)
/-- The least of the first k + 1 elements. -/
def lessTo (l : List Int) : Nat → Int
  | 0 => gi l 0
  | k + 1 => if gi l (k + 1) < lessTo l k then gi l (k + 1) else lessTo l k
theorem lessTo_spec (l : List Int) : ∀ k, (∀ i, i ≤ k → lessTo l k ≤ gi l i) ∧ ∃ i, i ≤ k ∧ lessTo l k = gi l i
  | 0 => ⟨fun i hi => by obtain rfl : i = 0 := by omega
                         exact Int.le_refl _, 0, Nat.le_refl _, rfl⟩
  | k + 1 => by
    obtain ⟨h2, i, hi, he⟩ := lessTo_spec l k
    simp only [lessTo]
    by_cases h : gi l (k + 1) < lessTo l k
    · rw [if_pos h]
      refine ⟨fun j hj => ?_, k + 1, Nat.le_refl _, rfl⟩
      by_cases e : j = k + 1
      · subst e; omega
      · have := h2 j (by omega); omega
    · rw [if_neg h]
      refine ⟨fun j hj => ?_, i, by omega, he⟩
      by_cases e : j = k + 1
      · subst e; omega
      · exact h2 j (by omega)
def mostL (l : List Int) : Int := mostTo l (l.length - 1)
def lessL (l : List Int) : Int := lessTo l (l.length - 1)
theorem mostL_ge {l : List Int} {i : Nat} (hi : i < l.length) : gi l i ≤ mostL l := (mostTo_spec l _).1 i (by omega)
theorem mostL_at {l : List Int} (h : 0 < l.length) : ∃ i, i < l.length ∧ mostL l = gi l i := by
  obtain ⟨i, hi, he⟩ := (mostTo_spec l (l.length - 1)).2
  exact ⟨i, by omega, he⟩
theorem lessL_le {l : List Int} {i : Nat} (hi : i < l.length) : lessL l ≤ gi l i := (lessTo_spec l _).1 i (by omega)
theorem lessL_at {l : List Int} (h : 0 < l.length) : ∃ i, i < l.length ∧ lessL l = gi l i := by
  obtain ⟨i, hi, he⟩ := (lessTo_spec l (l.length - 1)).2
  exact ⟨i, by omega, he⟩

set_option maxHeartbeats 800000 in
set_option maxRecDepth 100000 in
theorem max_any {w : World} {v : Value} {l : List Int} (h : IntSl w v l) (h1 : 0 < l.length) (hs : l.length ≤ 1048576) :
    Calls Try.prog 127 #[v] w fun e w' => e = .returned (.int .i64 (mostL l)) ∧ w = w' := by
  obtain ⟨n, hn⟩ : ∃ n, l.length = n + 1 := ⟨l.length - 1, by omega⟩
  have HM := Lib.hid (show mostTo l n = mostL l by unfold mostL; rw [hn]; rfl)
  obtain ⟨a, b, o, c, rfl, ha, hl, hm, hc⟩ := h
  unfold maxLen at hm
  obtain rfl := ha (by omega)
  have Hc := Lib.hid hc
  clear hc ha h1
  obtain ⟨x0, hx0, rfl, _⟩ := Hc.out 0 (by omega)
  rw [Nat.add_zero] at hx0
  rw [hn] at hl hs ⊢
  have HN := Lib.hid hn
  clear hn
  go_enter Try.func127, Try.ntmps127
  go_wp2
  go_loop [3, 4] (fun t i => ∃ k : Nat, k ≤ n ∧ i = .int .i64 ((k : Int) + 1) ∧ t = .int .i64 (mostTo l k)) (fun _ i => n + 1 - (intOf i).toNat)
  case atStart => exact ⟨0, Nat.zero_le _, rfl, rfl⟩
  case round =>
    obtain ⟨k, hk, rfl, rfl⟩ := hrel
    by_cases hlt : k < n
    · obtain ⟨x, hc, rfl, _⟩ := Hc.out (k + 1) (by have := HN.out; omega)
      go_wp2
      go_round
      case rel => exact ⟨k + 1, by omega, by go_num, rfl⟩
      case measure => simp [intOf]; omega
    · go_wp2
      go_ret
      obtain rfl : k = n := by omega
      exact ⟨by rw [← HM.out]; rfl, rfl⟩

set_option maxHeartbeats 800000 in
set_option maxRecDepth 100000 in
theorem min_any {w : World} {v : Value} {l : List Int} (h : IntSl w v l) (h1 : 0 < l.length) (hs : l.length ≤ 1048576) :
    Calls Try.prog 76 #[v] w fun e w' => e = .returned (.int .i64 (lessL l)) ∧ w = w' := by
  obtain ⟨n, hn⟩ : ∃ n, l.length = n + 1 := ⟨l.length - 1, by omega⟩
  have HM := Lib.hid (show lessTo l n = lessL l by unfold lessL; rw [hn]; rfl)
  obtain ⟨a, b, o, c, rfl, ha, hl, hm, hc⟩ := h
  unfold maxLen at hm
  obtain rfl := ha (by omega)
  have Hc := Lib.hid hc
  clear hc ha h1
  obtain ⟨x0, hx0, rfl, _⟩ := Hc.out 0 (by omega)
  rw [Nat.add_zero] at hx0
  rw [hn] at hl hs ⊢
  have HN := Lib.hid hn
  clear hn
  go_enter Try.func76, Try.ntmps76
  go_wp2
  go_loop [3, 4] (fun t i => ∃ k : Nat, k ≤ n ∧ i = .int .i64 ((k : Int) + 1) ∧ t = .int .i64 (lessTo l k)) (fun _ i => n + 1 - (intOf i).toNat)
  case atStart => exact ⟨0, Nat.zero_le _, rfl, rfl⟩
  case round =>
    obtain ⟨k, hk, rfl, rfl⟩ := hrel
    by_cases hlt : k < n
    · obtain ⟨x, hc, rfl, _⟩ := Hc.out (k + 1) (by have := HN.out; omega)
      go_wp2
      go_round
      case rel => exact ⟨k + 1, by omega, by go_num, rfl⟩
      case measure => simp [intOf]; omega
    · go_wp2
      go_ret
      obtain rfl : k = n := by omega
      exact ⟨by rw [← HM.out]; rfl, rfl⟩

/-- The greater of two numbers. -/
def moreI (a b : Int) : Int := if b < a then a else b
set_option maxRecDepth 100000 in
theorem l1Most_any (a b : Int) (w : World) : Calls Try.prog 189 #[.int .i64 a, .int .i64 b] w fun e w' => e = .returned (.int .i64 (moreI a b)) ∧ w = w' := by
  by_cases h : b < a
  · have d : decide (b < a) = true := by simpa using h
    have d2 : decide (a > b) = true := by simpa using h
    have E := Lib.hid (show moreI a b = a from if_pos h)
    go_enter Try.func189, Try.ntmps189
    go_wp2
    go_ret
    exact ⟨by rw [E.out]; rfl, rfl⟩
  · have d : decide (b < a) = false := by simpa using h
    have d2 : decide (a > b) = false := by simpa using h
    have E := Lib.hid (show moreI a b = b from if_neg h)
    go_enter Try.func189, Try.ntmps189
    go_wp2
    go_ret
    exact ⟨by rw [E.out]; rfl, rfl⟩
/-- The greatest of 0 and the first k elements. -/
def most0 (l : List Int) : Nat → Int
  | 0 => 0
  | k + 1 => moreI (most0 l k) (gi l k)
theorem most0_spec (l : List Int) : ∀ k, 0 ≤ most0 l k ∧ (∀ i, i < k → gi l i ≤ most0 l k) ∧ (most0 l k = 0 ∨ ∃ i, i < k ∧ most0 l k = gi l i)
  | 0 => ⟨Int.le_refl _, fun i hi => by omega, .inl rfl⟩
  | k + 1 => by
    obtain ⟨h1, h2, h3⟩ := most0_spec l k
    simp only [most0, moreI]
    split
    · refine ⟨h1, fun i hi => ?_, ?_⟩
      · by_cases e : i = k
        · subst e; omega
        · exact h2 i (by omega)
      · rcases h3 with h3 | ⟨i, hi, he⟩
        · exact .inl h3
        · exact .inr ⟨i, by omega, he⟩
    · refine ⟨by omega, fun i hi => ?_, .inr ⟨k, by omega, rfl⟩⟩
      by_cases e : i = k
      · subst e; omega
      · have := h2 i (by omega); omega
theorem most0_mostL {l : List Int} {i : Nat} (hi : i < l.length) (h : 0 ≤ gi l i) : most0 l l.length = mostL l := by
  obtain ⟨h1, h2, h3⟩ := most0_spec l l.length
  obtain ⟨j, hj, he⟩ := mostL_at (l := l) (by omega)
  have := mostL_ge hi
  have := h2 j hj
  rcases h3 with h3 | ⟨t, ht, h3⟩
  · omega
  · have := mostL_ge ht; omega

/-- A table of k numbers. -/
def tab (f : Nat → Int) (k : Nat) : List Int := (List.range k).map f
theorem tab_len (f : Nat → Int) (k : Nat) : (tab f k).length = k := by simp [tab]
theorem tab_succ (f : Nat → Int) (k : Nat) : tab f (k + 1) = tab f k ++ [f k] := by simp [tab, List.range_succ]
theorem gi_tab {f : Nat → Int} {k i : Nat} (h : i < k) : gi (tab f k) i = f i := by simp [tab, gi, h]
def tabRow (f : Nat → Int) (k : Nat) : Nat → Value := fun i => .int .i64 (if i < k then f i else 0)
theorem tabRow_step {w : World} {b n k : Nat} {f : Nat → Int} (h : w.rowIs b 3 n (tabRow f k)) : (w.setCell ⟨b, k, none⟩ (.int .i64 (f k))).rowIs b 3 n (tabRow f (k + 1)) :=
  (h.set k _).congr fun i _ => by
    unfold tabRow
    by_cases e : i = k
    · subst e; simp
    · by_cases e2 : i < k
      · simp [e, e2, show i < k + 1 by omega]
      · simp [e, e2, show ¬ i < k + 1 by omega]
theorem tabRow_num {w : World} {b n : Nat} {f : Nat → Int} (h : w.rowIs b 3 n (tabRow f n)) : w.rowIs b 3 n (numRow (tab f n)) :=
  h.congr fun i hi => by unfold tabRow numRow; rw [gi_tab hi, if_pos hi]
/-- Distances are there within a component, and one of them is 0. -/
theorem dst_zero {N : Net} (hN : Leads' N) {x : Nat} (hx : x < N.ends.length) : gi (dst N x) x = 0 := by
  have := (bfs_to hN (x := (x : Int)) (by omega) _ (Nat.le_refl _)).zero
  rwa [Int.toNat_natCast] at this
theorem all_len : ∀ (n : Nat) (L : List Int), (∀ i : Nat, i < n → (i : Int) ∈ L) → n ≤ L.length
  | 0, _, _ => Nat.zero_le _
  | n + 1, L, h => by
    have h1 := all_len n (L.erase (n : Int)) fun i hi => (List.mem_erase_of_ne (by omega)).2 (h i (by omega))
    have h2 := List.length_erase_of_mem (h n (by omega))
    have h3 := List.length_pos_of_mem (h n (by omega))
    omega
theorem conn_iff {N : Net} (hG : GoodW N) : Conn N ↔ ∀ i : Nat, i < N.ends.length → gi (dst N 0) i ≠ -1 := by
  have h1 := hG.one
  have hx : 0 ≤ (0 : Int) ∧ (0 : Int) < N.ends.length := by omega
  have ok := dst_ok hG.leads hx
  have wo := wk_ok hG.leads hx
  constructor
  · intro hc i hi he
    have hn : (i : Int) ∉ wk N 0 := fun hm => (ok.has i hi).2 hm he
    have hd : ((i : Int) :: wk N 0).Nodup := List.nodup_cons.2 ⟨hn, wo.nodup⟩
    have := nodup_len N.ends.length _ hd fun x hx => by
      rcases List.mem_cons.1 hx with rfl | h
      · omega
      · exact wo.range x h
    unfold Conn at hc
    simp only [List.length_cons] at this
    omega
  · intro h
    have := all_len N.ends.length (wk N 0) fun i hi => (ok.has i hi).1 (h i hi)
    have := wo.len
    unfold Conn
    omega
theorem conn_all {N : Net} (hG : GoodW N) : AllIn (dst N 0) 0 40 ↔ Conn N := by
  have h1 := hG.one
  have hx : 0 ≤ (0 : Int) ∧ (0 : Int) < N.ends.length := by omega
  have ok := dst_small hG hx
  have h40 := hG.most
  rw [conn_iff hG]
  unfold AllIn
  constructor
  · intro h i hi
    have := h i (by omega)
    omega
  · intro h i hi
    have := h i (by omega)
    have := ok.2 i (by omega)
    omega

theorem meFrom0 {w : World} {vn : Value} {N : Net} (h : NetAt w vn N) (hG : GoodW N) :
    Calls Try.prog 131 #[vn, .int .i64 0] w fun e w' => ∃ v' bs, e = .returned v' ∧ Ext w w' ∧ OwnI w' v' (dst N 0) bs ∧ Fresh w bs := meFrom_any 0 hG.one h hG

set_option maxHeartbeats 800000 in
set_option maxRecDepth 100000 in
theorem meConnected_any {w : World} {vn : Value} {N : Net} (h : NetAt w vn N) (hG : GoodW N) :
    Calls Try.prog 85 #[vn] w fun e w' => e = .returned (.bool (dec (Conn N))) ∧ Ext w w' := by
  have HA := Lib.hid h
  have HG := Lib.hid hG
  have h1 := hG.one
  have E := Lib.hid (show dec (AllIn (dst N 0) 0 40) = dec (Conn N) by
    by_cases hc : Conn N
    · rw [dec_true hc, dec_true ((conn_all hG).2 hc)]
    · rw [dec_false hc, dec_false fun h => hc ((conn_all hG).1 h)])
  clear hG
  obtain ⟨v0, v1, v2, rfl, hEa, -, -⟩ := h
  clear hEa
  obtain ⟨W1, hW1⟩ : ∃ W1, W1 = w.alloc (.cells #[v0, v1, v2] 34) := ⟨_, rfl⟩
  have K0 := Lib.hid (show Ext w W1 by rw [hW1]; exact boxed_ext _ _ _ _ _)
  have R0 := Lib.hid (show W1.rowIs w.heap.size 34 3 (tri v0 v1 v2) by rw [hW1]; exact boxed_row _ _ _ _ _)
  obtain ⟨p0, p1, p2, -, -, -⟩ := row3_facts R0.out
  rw [hW1] at p0 p1 p2
  go_enter Try.func85, Try.ntmps85
  go_wp2_with fail
  rw [← hW1]
  clear hW1 p0 p1 p2
  (with_reducible refine (meFrom0 (HA.out.ext K0.out) HG.out).mono ?_)
  rintro e wz ⟨ud, bd, rfl, hxz, hoz, hfz⟩
  have KZ := Lib.hid (K0.out.trans' hxz)
  have OZ := Lib.hid hoz
  clear hxz hoz hfz
  go_wp2_with (first | (go_at_call 109; (with_reducible refine (l1All_any 0 40 OZ.out.read).mono ?_); rintro e _ ⟨rfl, rfl⟩) | fail)
  go_ret
  exact ⟨ret_bool E.out, KZ.out⟩
end Go.Proofs.Ytkpdbceglejbnaa
