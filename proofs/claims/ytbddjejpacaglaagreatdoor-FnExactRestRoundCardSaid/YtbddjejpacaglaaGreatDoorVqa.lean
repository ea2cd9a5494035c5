/- What an operation yields, as plain data; the values on the stack. -/
import Derived.Test.YtbddjejpacaglaaGreatDoorVpg
namespace Go.Proofs.YtbddjejpacaglaaGreatDoor
open Go.RowKit

/-- The greatest of the first k + 1 elements. -/
def mostTo (l : List Int) : Nat → Int
  | 0 => gi l 0
  | k + 1 => if mostTo l k < gi l (k + 1) then gi l (k + 1) else mostTo l k
theorem mostTo_spec (l : List Int) : ∀ k, (∀ i, i ≤ k → gi l i ≤ mostTo l k) ∧ ∃ i, i ≤ k ∧ mostTo l k = gi l i
  | 0 => ⟨fun i hi => by obtain rfl : i = 0 := by omega
                         exact Int.le_refl _, 0, Nat.le_refl _, rfl⟩
  | k + 1 => by
    obtain ⟨h2, i, hi, he⟩ := mostTo_spec l k
    simp only [mostTo]
    by_cases h : mostTo l k < gi l (k + 1)
    · rw [if_pos h]
      refine ⟨fun j hj => ?_, k + 1, Nat.le_refl _, rfl⟩
      by_cases e : j = k + 1
      · subst e; omega
      · have := h2 j (by omega); omega
    · rw [if_neg h]
      refine ⟨fun j hj => ?_, i, by omega, he⟩
      by_cases e : j = k + 1
      · subst e; omega
      · exact h2 j (by omega)
/-- The least of the first k + 1 elements. -/
def lessTo (l : List Int) : Nat → Int
  | 0 => gi l 0
  | k + 1 => if gi l (k + 1) < lessTo l k then gi l (k + 1) else lessTo l k
theorem lessTo_spec (l : List Int) : ∀ k, (∀ i, i ≤ k → lessTo l k ≤ gi l i) ∧ ∃ i, i ≤ k ∧ lessTo l k = gi l i
  | 0 => ⟨fun i hi => by obtain rfl : i = 0 := by omega
                         exact Int.le_refl _, 0, Nat.le_refl _, rfl⟩
  | k + 1 => by
    obtain ⟨h2, i, hi, he⟩ := lessTo_spec l k
    simp only [lessTo]
    by_cases h : gi l (k + 1) < lessTo l k
    · rw [if_pos h]
      refine ⟨fun j hj => ?_, k + 1, Nat.le_refl _, rfl⟩
      by_cases e : j = k + 1
      · subst e; omega
      · have := h2 j (by omega); omega
    · rw [if_neg h]
      refine ⟨fun j hj => ?_, i, by omega, he⟩
      by_cases e : j = k + 1
      · subst e; omega
      · exact h2 j (by omega)
theorem mostTo_max (l : List Int) (k : Nat) : mostTo l (k + 1) = max (mostTo l k) (gi l (k + 1)) := by simp only [mostTo]; split <;> omega
theorem lessTo_min (l : List Int) (k : Nat) : lessTo l (k + 1) = min (lessTo l k) (gi l (k + 1)) := by simp only [lessTo]; split <;> omega
def mostL (l : List Int) : Int := mostTo l (l.length - 1)
def lessL (l : List Int) : Int := lessTo l (l.length - 1)
theorem mostL_ge {l : List Int} {i : Nat} (hi : i < l.length) : gi l i ≤ mostL l := (mostTo_spec l _).1 i (by omega)
theorem mostL_at {l : List Int} (h : 0 < l.length) : ∃ i, i < l.length ∧ mostL l = gi l i := by
  obtain ⟨i, hi, he⟩ := (mostTo_spec l (l.length - 1)).2
  exact ⟨i, by omega, he⟩
theorem lessL_le {l : List Int} {i : Nat} (hi : i < l.length) : lessL l ≤ gi l i := (lessTo_spec l _).1 i (by omega)
theorem lessL_at {l : List Int} (h : 0 < l.length) : ∃ i, i < l.length ∧ lessL l = gi l i := by
  obtain ⟨i, hi, he⟩ := (lessTo_spec l (l.length - 1)).2
  exact ⟨i, by omega, he⟩

set_option maxHeartbeats 800000 in
set_option maxRecDepth 100000 in
theorem max_any {w : World} {v : Value} {l : List Int} (h : IntSl w v l) (h1 : 0 < l.length) (hs : l.length ≤ 1048576) :
    Calls Tryz.prog 106 #[v] w fun e w' => e = .returned (.int .i64 (mostL l)) ∧ w = w' := by
  obtain ⟨n, hn⟩ : ∃ n, l.length = n + 1 := ⟨l.length - 1, by omega⟩
  have HM := Lib.hid (show mostTo l n = mostL l by unfold mostL; rw [hn]; rfl)
  obtain ⟨a, b, o, c, rfl, ha, hl, hm, hc⟩ := h
  unfold maxLen at hm
  obtain rfl := ha (by omega)
  have Hc := Lib.hid hc
  clear hc ha h1
  obtain ⟨x0, hx0, rfl, _⟩ := Hc.out 0 (by omega)
  rw [Nat.add_zero] at hx0
  rw [hn] at hl hs ⊢
  have HN := Lib.hid hn
  clear hn
  go_enter Tryz.func106, Tryz.ntmps106
  go_wp2
  go_loop [3, 4] (fun t i => ∃ k : Nat, k ≤ n ∧ i = .int .i64 ((k : Int) + 1) ∧ t = .int .i64 (mostTo l k)) (fun _ i => n + 1 - (intOf i).toNat)
  case atStart => exact ⟨0, Nat.zero_le _, rfl, rfl⟩
  case round =>
    obtain ⟨k, hk, rfl, rfl⟩ := hrel
    by_cases hlt : k < n
    · obtain ⟨x, hc, rfl, _⟩ := Hc.out (k + 1) (by have := HN.out; omega)
      go_wp2
      go_round
      case rel => exact ⟨k + 1, by omega, by go_num, by rw [mostTo_max]⟩
      case measure => simp [intOf]; omega
    · go_wp2
      go_ret
      obtain rfl : k = n := by omega
      exact ⟨by rw [← HM.out]; rfl, rfl⟩

set_option maxHeartbeats 800000 in
set_option maxRecDepth 100000 in
theorem min_any {w : World} {v : Value} {l : List Int} (h : IntSl w v l) (h1 : 0 < l.length) (hs : l.length ≤ 1048576) :
    Calls Tryz.prog 103 #[v] w fun e w' => e = .returned (.int .i64 (lessL l)) ∧ w = w' := by
  obtain ⟨n, hn⟩ : ∃ n, l.length = n + 1 := ⟨l.length - 1, by omega⟩
  have HM := Lib.hid (show lessTo l n = lessL l by unfold lessL; rw [hn]; rfl)
  obtain ⟨a, b, o, c, rfl, ha, hl, hm, hc⟩ := h
  unfold maxLen at hm
  obtain rfl := ha (by omega)
  have Hc := Lib.hid hc
  clear hc ha h1
  obtain ⟨x0, hx0, rfl, _⟩ := Hc.out 0 (by omega)
  rw [Nat.add_zero] at hx0
  rw [hn] at hl hs ⊢
  have HN := Lib.hid hn
  clear hn
  go_enter Tryz.func103, Tryz.ntmps103
  go_wp2
  go_loop [3, 4] (fun t i => ∃ k : Nat, k ≤ n ∧ i = .int .i64 ((k : Int) + 1) ∧ t = .int .i64 (lessTo l k)) (fun _ i => n + 1 - (intOf i).toNat)
  case atStart => exact ⟨0, Nat.zero_le _, rfl, rfl⟩
  case round =>
    obtain ⟨k, hk, rfl, rfl⟩ := hrel
    by_cases hlt : k < n
    · obtain ⟨x, hc, rfl, _⟩ := Hc.out (k + 1) (by have := HN.out; omega)
      go_wp2
      go_round
      case rel => exact ⟨k + 1, by omega, by go_num, by rw [lessTo_min]⟩
      case measure => simp [intOf]; omega
    · go_wp2
      go_ret
      obtain rfl : k = n := by omega
      exact ⟨by rw [← HM.out]; rfl, rfl⟩

/-- The greater of two numbers. -/
def moreI (a b : Int) : Int := if b < a then a else b
set_option maxRecDepth 100000 in
theorem l1Most_any (a b : Int) (w : World) : Calls Tryz.prog 89 #[.int .i64 a, .int .i64 b] w fun e w' => e = .returned (.int .i64 (moreI a b)) ∧ w = w' := by
  by_cases h : b < a
  · have d : decide (b < a) = true := by simpa using h
    have d2 : decide (a > b) = true := by simpa using h
    have E := Lib.hid (show moreI a b = a from if_pos h)
    go_enter Tryz.func89, Tryz.ntmps89
    go_wp2
    go_ret
    exact ⟨by rw [E.out]; rfl, rfl⟩
  · have d : decide (b < a) = false := by simpa using h
    have d2 : decide (a > b) = false := by simpa using h
    have E := Lib.hid (show moreI a b = b from if_neg h)
    go_enter Tryz.func89, Tryz.ntmps89
    go_wp2
    go_ret
    exact ⟨by rw [E.out]; rfl, rfl⟩

/-- What a node knows in a round. -/
structure Sg where
  own : Int
  id : Int
  inp : Int
  rnd : Int
  near : List Int
/-- The sum of the first k elements. -/
def smTo (l : List Int) : Nat → Int
  | 0 => 0
  | k + 1 => smTo l k + gi l k
/-- How many of the first k elements lie in lo..hi. -/
def cbTo (l : List Int) (lo hi : Int) : Nat → Nat
  | 0 => 0
  | k + 1 => if lo ≤ gi l k ∧ gi l k ≤ hi then cbTo l lo hi k + 1 else cbTo l lo hi k
theorem cbTo_le (l : List Int) (lo hi : Int) : ∀ k, cbTo l lo hi k ≤ k
  | 0 => Nat.le_refl _
  | k + 1 => by have := cbTo_le l lo hi k; simp only [cbTo]; split <;> omega
theorem smTo_range {l : List Int} (h : AllIn l (-1000000) 1000000) : ∀ k, k ≤ l.length → -(1000000 * (k : Int)) ≤ smTo l k ∧ smTo l k ≤ 1000000 * (k : Int)
  | 0, _ => by simp [smTo]
  | k + 1, hk => by
    have := smTo_range h k (by omega)
    have := h k (by omega)
    simp only [smTo]
    omega
/-- The least number that is not in a list. -/
def FreeAt (l : List Int) (x : Nat) : Prop := ¬ Has l x ∧ ∀ j, j < x → Has l j
noncomputable def fre (l : List Int) : Nat := if h : dec (∃ x, FreeAt l x) = true then Classical.choose (dec_iff.1 h) else 0
theorem fre_eq {l : List Int} {x : Nat} (h : FreeAt l x) : fre l = x := by
  have he : dec (∃ x, FreeAt l x) = true := dec_true ⟨x, h⟩
  unfold fre
  rw [dif_pos he]
  have hc := Classical.choose_spec (dec_iff.1 he)
  generalize Classical.choose (dec_iff.1 he) = y at hc
  rcases Nat.lt_trichotomy x y with k | k | k
  · exact absurd (hc.2 x k) h.1
  · exact k.symm
  · exact absurd (h.2 y k) hc.1

def leastV (S : Sg) : Int := if S.near.length = 0 then S.own else lessL S.near
def greatV (S : Sg) : Int := if S.near.length = 0 then S.own else mostL S.near
def tru (b : Bool) : Int := if b = true then 1 else 0
/-- The result of an operation of kind x with the Value y on these arguments. -/
noncomputable def opv (S : Sg) (x y : Int) (A : List Int) : Int :=
  if x = 1 then y else if x = 2 then S.own else if x = 3 then S.id else if x = 4 then (S.near.length : Int) else if x = 5 then S.inp else if x = 6 then S.rnd else
  if x = 7 then leastV S else if x = 8 then greatV S else if x = 9 then smTo S.near S.near.length else if x = 10 then (fre S.near : Int) else
  if x = 11 then (cbTo S.near (gi A 0) (gi A 0) S.near.length : Int) else if x = 12 then (cbTo S.near (-1000000) (gi A 0 - 1) S.near.length : Int) else
  if x = 13 then gi A 0 + gi A 1 else if x = 14 then gi A 0 - gi A 1 else if x = 15 then min (gi A 0) (gi A 1) else if x = 16 then max (gi A 0) (gi A 1) else
  if x = 17 then tru (decide (gi A 0 < gi A 1)) else if x = 18 then tru (decide (gi A 0 = gi A 1)) else if 0 < gi A 0 then gi A 1 else gi A 2
/-- A number is cut to the limits. -/
def clp (x : Int) : Int := max (-1000000) (min x 1000000)
theorem clp_range (x : Int) : -1000000 ≤ clp x ∧ clp x ≤ 1000000 := by unfold clp; omega

/-- What a program may see. -/
def SgOK (S : Sg) : Prop := (-1000000 ≤ S.own ∧ S.own ≤ 1000000) ∧ S.near.length ≤ 6 ∧ AllIn S.near (-1000000) 1000000

/-- The stack behind k operations. -/
noncomputable def stk (S : Sg) (l : List (Int × Int)) : Nat → List Int
  | 0 => []
  | k + 1 => (stk S l k).take ((stk S l k).length - nd (gn l k)) ++ [clp (opv S (gn l k) (gp l k) ((stk S l k).drop ((stk S l k).length - nd (gn l k))))]
theorem stk_len (S : Sg) {l : List (Int × Int)} : ∀ k, OpsTo l k → ((stk S l k).length : Int) = hg l k
  | 0, _ => rfl
  | k + 1, h => by
    have ih := stk_len S k fun j hj => h j (by omega)
    have := (h k (by omega)).2
    simp only [stk, hg, List.length_append, List.length_take, List.length_cons, List.length_nil]
    omega
theorem stk_range (S : Sg) (l : List (Int × Int)) : ∀ k, AllIn (stk S l k) (-1000000) 1000000
  | 0 => fun j hj => absurd hj (by simp [stk])
  | k + 1 => fun j hj => by
    have ih := stk_range S l k
    simp only [stk, List.length_append, List.length_take, List.length_cons, List.length_nil] at hj
    simp only [stk, gi, List.getD]
    by_cases e : j < ((stk S l k).take ((stk S l k).length - nd (gn l k))).length
    · rw [List.getElem?_append_left e]
      have h1 := ih j (by rw [List.length_take] at e; omega)
      have h2 : ((stk S l k).take ((stk S l k).length - nd (gn l k)))[j]? = (stk S l k)[j]? := by rw [List.getElem?_take, if_pos (by rw [List.length_take] at e; omega)]
      rw [h2]; exact h1
    · have e' : j = ((stk S l k).take ((stk S l k).length - nd (gn l k))).length := by rw [List.length_take] at e ⊢; omega
      rw [e', List.getElem?_append_right (Nat.le_refl _), Nat.sub_self]
      exact clp_range _
/-- The result of a program. -/
noncomputable def evl (S : Sg) (l : List (Int × Int)) : Int := gi (stk S l l.length) 0
theorem evl_range (S : Sg) {l : List (Int × Int)} (h : ProgOK l) : -1000000 ≤ evl S l ∧ evl S l ≤ 1000000 := by
  have h1 := stk_len S l.length h.2.1
  rw [h.2.2] at h1
  exact stk_range S l l.length 0 (by omega)

/-- What a value is as a sight. -/
def SightAt (w : World) (v : Value) (S : Sg) : Prop := ∃ a c, v = .agg #[.int .i64 S.own, .int .i64 S.id, .int .i64 S.inp, .int .i64 S.rnd, .slice a S.near.length c] ∧ IntSl w (.slice a S.near.length c) S.near
theorem SightAt.ext {w w' : World} {v : Value} {S : Sg} (h : SightAt w v S) (he : Ext w w') : SightAt w' v S :=
  let ⟨a, c, h1, h2⟩ := h; ⟨a, c, h1, h2.ext he⟩
end Go.Proofs.YtbddjejpacaglaaGreatDoor
