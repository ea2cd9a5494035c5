/- Permutations: what both nePerm and isPermutation look for; a permutation takes every value. No condition but that the count is that of a list. -/
import Derived.Test.YtndgbildkeglfaaCpNet
namespace Go.Proofs.Ytndgbildkeglfaa
open Go.RowKit

def PermAt (l : List Int) (n : Nat) (i : Nat) : Prop := InB (gi l i) 0 ((n : Int) - 1) ∧ ¬ Has (l.take i) (gi l i)
def PermOK (l : List Int) (n : Nat) : Prop := l.length = n ∧ ∀ i, i < l.length → PermAt l n i

theorem onto_of_inj : ∀ (n : Nat) (f : Nat → Nat), (∀ i, i < n → f i < n) → (∀ i j, i < n → j < n → f i = f j → i = j) → ∀ j, j < n → ∃ i, i < n ∧ f i = j
  | 0, _, _, _, j, hj => absurd hj (by omega)
  | n + 1, f, hf, hinj, j, hj => by
    have hfn := hf n (by omega)
    have ih := onto_of_inj n (fun i => if f i = n then f n else f i) (fun i hi => by
      have h1 := hf i (by omega)
      by_cases e : f i = n
      · simp only [if_pos e]
        by_cases e2 : f n = n
        · have := hinj i n (by omega) (by omega) (by omega); omega
        · omega
      · simp only [if_neg e]; omega) (fun i k hi hk e => by
      by_cases e1 : f i = n
      · by_cases e2 : f k = n
        · exact hinj i k (by omega) (by omega) (by omega)
        · simp only [if_pos e1, if_neg e2] at e
          have := hinj n k (by omega) (by omega) e; omega
      · by_cases e2 : f k = n
        · simp only [if_neg e1, if_pos e2] at e
          have := hinj i n (by omega) (by omega) e; omega
        · simp only [if_neg e1, if_neg e2] at e
          exact hinj i k (by omega) (by omega) e)
    by_cases hja : j = f n
    · exact ⟨n, by omega, hja.symm⟩
    · by_cases hjn : j = n
      · obtain ⟨i, hi, e⟩ := ih (f n) (by omega)
        by_cases e1 : f i = n
        · exact ⟨i, by omega, by omega⟩
        · simp only [if_neg e1] at e
          have := hinj i n (by omega) (by omega) e; omega
      · obtain ⟨i, hi, e⟩ := ih j (by omega)
        by_cases e1 : f i = n
        · simp only [if_pos e1] at e; omega
        · simp only [if_neg e1] at e; exact ⟨i, by omega, e⟩

theorem perm_range {l : List Int} {n : Nat} (h : PermOK l n) {i : Nat} (hi : i < n) : ∃ k : Nat, gi l i = k ∧ k < n := by
  obtain ⟨⟨h1, h2⟩, _⟩ := h.2 i (by have := h.1; omega)
  exact ⟨(gi l i).toNat, by omega, by omega⟩
theorem perm_inj {l : List Int} {n : Nat} (h : PermOK l n) {i j : Nat} (hi : i < n) (hj : j < n) (e : gi l i = gi l j) : i = j := by
  have hl := h.1
  by_cases hij : i < j
  · exact absurd ⟨i, by simp; omega, by rw [gi_take hij]; exact e⟩ (h.2 j (by omega)).2
  · by_cases hji : j < i
    · exact absurd ⟨j, by simp; omega, by rw [gi_take hji]; exact e.symm⟩ (h.2 i (by omega)).2
    · omega
theorem perm_onto {l : List Int} {n : Nat} (h : PermOK l n) {k : Nat} (hk : k < n) : ∃ i, i < n ∧ gi l i = k := by
  obtain ⟨i, hi, e⟩ := onto_of_inj n (fun i => (gi l i).toNat) (fun i hi => by obtain ⟨k, e, hk⟩ := perm_range h hi; show (gi l i).toNat < n; omega) (fun i j hi hj e => by
    obtain ⟨a, ea, _⟩ := perm_range h hi
    obtain ⟨b, eb, _⟩ := perm_range h hj
    have e' : (gi l i).toNat = (gi l j).toNat := e
    exact perm_inj h hi hj (by omega)) k hk
  obtain ⟨a, ea, _⟩ := perm_range h hi
  have e' : (gi l i).toNat = k := e
  exact ⟨i, hi, by omega⟩

set_option maxHeartbeats 800000 in
set_option maxRecDepth 100000 in
theorem nePerm_any {w : World} {v : Value} {l : List Int} (n : Nat) (hn20 : n ≤ 1048576) (h : IntSl w v l) : Calls Try.prog 94 #[v, .int .i64 n] w fun e w' => e = .returned (.bool (dec (PermOK l n))) ∧ w = w' := by
  have HI := Lib.hid h
  obtain ⟨a, b, o, c, rfl, ha, hl, hm, hc⟩ := h
  unfold maxLen at hm
  have Hc := Lib.hid hc
  have Ha := Lib.hid ha
  clear hc ha
  go_enter Try.func94, Try.ntmps94
  go_wp2
  go_loop [9] (fun i => ∃ k : Nat, k ≤ l.length ∧ i = .int .i64 k ∧ Hid (∀ j, j < k → PermAt l n j)) (fun i => l.length - (intOf i).toNat)
  case atStart => exact ⟨0, Nat.zero_le _, rfl, fun j hj => absurd hj (by omega)⟩
  case round =>
    obtain ⟨k, hk, rfl, Hr⟩ := hrel
    by_cases hlt : k < l.length
    · obtain ⟨y, hc, rfl, _⟩ := Hc.out k hlt
      obtain rfl := Ha.out (by omega)
      by_cases he : InB (gi l k) 0 ((n : Int) - 1)
      · have Heb := Lib.hid (dec_true he)
        have He := Lib.hid he
        clear he
        by_cases hh : Has (l.take k) (gi l k)
        · have Hhb := Lib.hid (dec_true hh)
          have Hh := Lib.hid hh
          clear hh
          go_wp2_with (first | (go_at_call 88; (with_reducible refine (l1In_any _ _ _ _).mono ?_); rintro e w' ⟨rfl, rfl⟩; rw [Heb.out]) | (go_at_call 109; (with_reducible refine (l1Has_any _ (HI.out.take hk)).mono ?_); rintro e w' ⟨rfl, rfl⟩; rw [Hhb.out]))
          go_ret
          exact ⟨ret_f (fun h => (h.2 k hlt).2 Hh.out), rfl⟩
        · have Hhb := Lib.hid (dec_false hh)
          have Hh := Lib.hid hh
          clear hh
          go_wp2_with (first | (go_at_call 88; (with_reducible refine (l1In_any _ _ _ _).mono ?_); rintro e w' ⟨rfl, rfl⟩; rw [Heb.out]) | (go_at_call 109; (with_reducible refine (l1Has_any _ (HI.out.take hk)).mono ?_); rintro e w' ⟨rfl, rfl⟩; rw [Hhb.out]))
          go_round
          case rel =>
            refine ⟨k + 1, by omega, by go_num, fun j hj => ?_⟩
            by_cases e : j = k
            · subst e; exact ⟨He.out, Hh.out⟩
            · exact Hr.out j (by omega)
          case measure => simp [intOf]; omega
      · have Heb := Lib.hid (dec_false he)
        have He := Lib.hid he
        clear he
        go_wp2_with (first | (go_at_call 88; (with_reducible refine (l1In_any _ _ _ _).mono ?_); rintro e w' ⟨rfl, rfl⟩; rw [Heb.out]))
        go_ret
        exact ⟨ret_f (fun h => He.out (h.2 k hlt).1), rfl⟩
    · obtain rfl : k = l.length := by omega
      by_cases hn : l.length = n
      · have hnb : ((l.length : Int) == (n : Int)) = true := beq_iff_eq.2 (by omega)
        have Hn := Lib.hid hn
        clear hn
        go_wp2
        go_ret
        exact ⟨ret_t ⟨Hn.out, Hr.out⟩, rfl⟩
      · have hnb : ((l.length : Int) == (n : Int)) = false := beq_eq_false_iff_ne.2 (by omega)
        have Hn := Lib.hid hn
        clear hn
        go_wp2
        go_ret
        exact ⟨ret_f (fun h => Hn.out h.1), rfl⟩

theorem Try.info4 : (Try.prog.info? 4).map (fun i => (i.zero, i.size, i.bytes)) = some (some (.bool false), 1, 1) := by kernel_rfl
/-- Which numbers the first k ones of l name. -/
noncomputable def seenRow (l : List Int) (k : Nat) (j : Nat) : Value := .bool (dec (Has (l.take k) j))
theorem seen_step {w : World} {b : Nat} {l : List Int} {k n y : Nat} (hk : k < l.length) (hy : gi l k = y) (h : w.rowIs b 4 n (seenRow l k)) : (w.setCell ⟨b, y, none⟩ (.bool true)).rowIs b 4 n (seenRow l (k + 1)) :=
  (h.set y _).congr fun i _ => by
    unfold seenRow
    have hlt : (l.take k).length = k := by simp; omega
    have hlt1 : (l.take (k + 1)).length = k + 1 := by simp; omega
    by_cases e : i = y
    · subst e
      rw [if_pos rfl, dec_true]
      exact ⟨k, by omega, by rw [gi_take (by omega)]; exact hy⟩
    · rw [if_neg e]
      congr 1
      refine dec_congr ⟨fun ⟨j, h1, h2⟩ => ⟨j, by omega, ?_⟩, fun ⟨j, h1, h2⟩ => ⟨j, ?_, ?_⟩⟩
      · rw [gi_take (by omega)]; rw [gi_take (by omega)] at h2; exact h2
      · by_cases ej : j = k
        · subst ej; rw [gi_take (by omega)] at h2; omega
        · omega
      · rw [gi_take (by omega)] at h2
        by_cases ej : j = k
        · subst ej; omega
        · rw [gi_take (by omega)]; exact h2

set_option maxHeartbeats 1600000 in
set_option maxRecDepth 100000 in
theorem isPermutation_any {w : World} {v : Value} {l : List Int} (n : Nat) (hn20 : n ≤ 1048576) (h : IntSl w v l) : Calls Try.prog 96 #[v, .int .i64 n] w fun e w' => e = .returned (.bool (dec (PermOK l n))) ∧ Ext w w' := by
  obtain ⟨a, b, o, c, rfl, ha, hl, hm, hc⟩ := h
  unfold maxLen at hm
  have Hc := Lib.hid hc
  have Ha := Lib.hid ha
  clear hc ha
  by_cases hn : l.length = n
  · have hnb : ((l.length : Int) != (n : Int)) = false := by simp; omega
    have Hn := Lib.hid hn
    have hmk := run_make_row' (P := Try.prog) 88 4 (.bool false) 1 Try.underlying88 Try.info4 rfl .i64 .i64 n (by omega) (by omega)
    clear hn
    go_enter Try.func96, Try.ntmps96
    go_wp2
    clear hmk
    go_loopg [16] l.length (fun g i wr => ∃ k : Nat, k ≤ l.length ∧ g = l.length - k ∧ i = .int .i64 k ∧ Hid (Ext w wr ∧ wr.rowIs w.heap.size 4 n (seenRow l k) ∧ ∀ j, j < k → PermAt l n j))
    case atStart => exact ⟨0, Nat.zero_le _, rfl, rfl, (Ext.rfl' w).alloc' _, (World.rowIs_made w _ _ _).congr fun i _ => by unfold seenRow; rw [dec_false]; rintro ⟨j, h, _⟩; simp at h, fun j hj => absurd hj (by omega)⟩
    case round =>
      obtain ⟨k, hk, rfl, rfl, Hr⟩ := hrel
      by_cases hlt : k < l.length
      · obtain ⟨y, hc, rfl, _⟩ := Hc.out k hlt
        obtain rfl := Ha.out (by omega)
        have hcell := Hr.out.1.cell' hc
        clear hc
        by_cases he : InB (gi l k) 0 ((n : Int) - 1)
        · obtain ⟨y, hy⟩ := Int.eq_ofNat_of_zero_le he.1
          have hyn : y < n := by have := he.2; omega
          have He := Lib.hid he
          have Hy := Lib.hid hy
          rw [hy] at hcell
          have f1 := Hr.out.2.1.cell hyn
          have f2 := Hr.out.2.1.frozen y
          clear he hy
          by_cases hh : Has (l.take k) (gi l k)
          · have e1 : seenRow l k y = .bool true := by unfold seenRow; rw [dec_true]; rw [← Hy.out]; exact hh
            rw [e1] at f1
            have Hh := Lib.hid hh
            clear hh e1
            go_wp2
            go_ret
            exact ⟨ret_f (fun h => (h.2 k hlt).2 Hh.out), Hr.out.1⟩
          · have e1 : seenRow l k y = .bool false := by unfold seenRow; rw [dec_false]; rw [← Hy.out]; exact hh
            rw [e1] at f1
            have Hh := Lib.hid hh
            have HS := Lib.hid (seen_step hlt Hy.out Hr.out.2.1)
            clear hh e1
            go_wp2
            go_roundg (l.length - (k + 1))
            case measure => omega
            case rel =>
              refine ⟨k + 1, by omega, rfl, by go_num, Hr.out.1.store (Nat.le_refl _) _, HS.out, fun j hj => ?_⟩
              by_cases e : j = k
              · subst e; exact ⟨He.out, Hh.out⟩
              · exact Hr.out.2.2 j (by omega)
        · have He := Lib.hid he
          by_cases hneg : gi l k < 0
          · clear he
            go_wp2
            go_ret
            exact ⟨ret_f (fun h => He.out (h.2 k hlt).1), Hr.out.1⟩
          · have hge : (n : Int) ≤ gi l k := by unfold InB at he; omega
            clear he
            go_wp2
            go_ret
            exact ⟨ret_f (fun h => He.out (h.2 k hlt).1), Hr.out.1⟩
      · obtain rfl : k = l.length := by omega
        go_wp2
        go_ret
        exact ⟨ret_t ⟨Hn.out, Hr.out.2.2⟩, Hr.out.1⟩
  · have hnb : ((l.length : Int) != (n : Int)) = true := by simp; omega
    go_enter Try.func96, Try.ntmps96
    go_wp2
    go_ret
    exact ⟨ret_f (fun h => hn h.1), Ext.rfl' w⟩
end Go.Proofs.Ytndgbildkeglfaa
