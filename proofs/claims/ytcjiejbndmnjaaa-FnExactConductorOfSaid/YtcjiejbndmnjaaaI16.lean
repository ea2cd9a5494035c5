/- SumsTo: the model and the program answer the same. -/
import Derived.Test.YtcjiejbndmnjaaaI15
import Derived.Test.YtcjiejbndmnjaaaI8
namespace Go.Proofs.Ytcjiejbndmnjaaa
open Go.RowKit

theorem parts_range : ∀ (l : List Nat) (n : Nat), ∀ y ∈ parts l n, 0 ≤ y ∧ y ≤ n
  | [], _, y, hy => by simp [parts] at hy
  | k :: t, n, y, hy => by
    rw [parts] at hy
    have h1 := gtP_le (Fits t n k) (n / k)
    have h2 := Nat.div_le_self n k
    rcases List.mem_cons.1 hy with rfl | hy
    · omega
    · have := parts_range t _ y hy; omega
/-- The counts of the first k lengths are in pre; n is left. -/
def PSt (l : List Int) (n0 k n : Nat) (pre : List Int) : Prop := parts (ln l) n0 = pre ++ parts (ln (l.drop k)) n ∧ pre.length = k ∧ Sum (ln (l.drop k)) n ∧ n ≤ n0
noncomputable def cnt (l : List Int) (k x n : Nat) : Nat := gtP (Fits (ln (l.drop (k + 1))) n x) (n / x)
theorem pst_step {l : List Int} {n0 k n x : Nat} {pre : List Int} (hk : k < l.length) (hx : gi l k = x) (hx0 : 0 < x) (h : PSt l n0 k n pre) : PSt l n0 (k + 1) (n - cnt l k x n * x) (pre ++ [(cnt l k x n : Int)]) ∧ cnt l k x n * x ≤ n ∧ Fits (ln (l.drop (k + 1))) n x (cnt l k x n) := by
  obtain ⟨h1, h2, h3, h4⟩ := h
  rw [ln_drop hk hx] at h1 h3
  have hf := fits_next hx0 h3
  refine ⟨⟨?_, by simp [h2], hf, by omega⟩, times_le (gtP_le _ _), hf⟩
  rw [h1, parts]
  simp [cnt]
theorem gi_snoc (pre : List Int) (c : Int) (i : Nat) : gi (pre ++ [c]) i = if i = pre.length then c else gi pre i := by
  unfold gi
  by_cases e : i = pre.length
  · subst e; simp [List.getD]
  · rw [if_neg e]
    by_cases h : i < pre.length
    · simp [List.getD, List.getElem?_append_left h]
    · simp [List.getD, List.getElem?_eq_none (show pre.length ≤ i by omega), List.getElem?_eq_none (show (pre ++ [c]).length ≤ i by simp; omega)]
theorem prow_set {w : World} {b m k : Nat} {c : Int} {pre : List Int} (hk : pre.length = k) (h : w.rowIs b 3 m (fun i => .int .i64 (gi pre i))) : (w.setCell ⟨b, k, none⟩ (.int .i64 c)).rowIs b 3 m (fun i => .int .i64 (gi (pre ++ [c]) i)) :=
  (h.set k _).congr fun i _ => by
    rw [gi_snoc, hk]
    by_cases e : i = k
    · rw [if_pos e, if_pos e]
    · rw [if_neg e, if_neg e]
theorem parts_own {w : World} {b : Nat} {l : List Int} {n0 n : Nat} {pre : List Int} (hl : l.length ≤ 1000) (hn : n0 ≤ 2000) (h : PSt l n0 l.length n pre) (hr : w.rowIs b 3 l.length (fun i => .int .i64 (gi pre i))) : OwnI w (.slice (some ⟨b, 0, none⟩) l.length l.length) (parts (ln l) n0) [b] := by
  obtain ⟨h1, h2, _⟩ := h
  rw [List.drop_length, show ln [] = [] from rfl, parts, List.append_nil] at h1
  have hpl := parts_length (ln l) n0
  rw [ln_length] at hpl
  subst h1
  refine ⟨?_, fun i hi => ?_⟩
  · rw [hpl]
    exact own_made (k := 1) (by simpa using hr) (small_max (by omega)) (fun i hi => rfl)
  · have := parts_range (ln l) n0 (gi (parts (ln l) n0) i) (by simp [gi, hi])
    exact ⟨by omega, by omega⟩
/-- Where the counts from t on have been tried. -/
def Tried (l : List Int) (k x n t : Nat) : Prop := t * x ≤ n ∧ gtP (Fits (ln (l.drop (k + 1))) n x) t = cnt l k x n
theorem tried_start (l : List Int) (k x n : Nat) : Tried l k x n (n / x) := ⟨Nat.div_mul_le_self n x, rfl⟩
theorem tried_no {l : List Int} {k x n t : Nat} (h : Tried l k x n t) (hc : Fits (ln (l.drop (k + 1))) n x (cnt l k x n)) (hf : ¬Fits (ln (l.drop (k + 1))) n x t) : 0 < t ∧ Tried l k x n (t - 1) := by
  obtain ⟨h1, h2⟩ := h
  cases t with
  | zero => rw [← h2] at hc; exact absurd hc hf
  | succ t => exact ⟨by omega, by have := Nat.add_mul t 1 x; rw [Nat.add_sub_cancel]; omega, by rw [Nat.add_sub_cancel, ← h2, gtP_no hf]⟩
theorem tried_yes {l : List Int} {k x n t : Nat} (h : Tried l k x n t) (hf : Fits (ln (l.drop (k + 1))) n x t) : t = cnt l k x n := by rw [← h.2, gtP_yes hf]

theorem slice_low {w : World} {b o c k : Nat} {l : List Int} (h : IntSl w (.slice (some ⟨b, o, none⟩) l.length c) l) (hk : k < l.length) :
    ∃ a2, (∀ u : World, (Instr.slice 27 (.slice (some ⟨b, o, none⟩) l.length c) (some (.int .i64 ((k : Int) + 1))) none none).run Try.prog u = .ok (.slice a2 (l.length - (k + 1)) (c - (k + 1))) u) ∧ IntSl w (.slice a2 (l.length - (k + 1)) (c - (k + 1))) (l.drop (k + 1)) := by
  obtain ⟨a', b', o', c', h1, h2, h3, h4, h5⟩ := h
  obtain ⟨rfl, rfl⟩ : a' = some ⟨b, o, none⟩ ∧ c = c' := by simp at h1; exact ⟨h1.1.symm, h1.2⟩
  have h6 := h2 (by omega)
  simp at h6
  obtain ⟨rfl, rfl⟩ := h6
  have hlen : (l.drop (k + 1)).length = l.length - (k + 1) := by simp
  have e1 : ((k : Int) + 1).toNat = k + 1 := by omega
  refine ⟨if c = k + 1 then some ⟨b, o, none⟩ else some ⟨b, o + (k + 1), none⟩, fun u => ?_, ?_⟩
  · have hr := run_slice_l (P := Try.prog) (w := u) 27 (some ⟨b, o, none⟩) l.length c (by exact Try.underlying27) .i64 ((k : Int) + 1) (by omega) (by omega)
    rw [hr, e1]
    have hz : (sizeOf (Try.prog.elem 27)).run Try.prog u = .ok 1 u := Try.sizeOf3 u
    rw [hz]
    by_cases hc : c = k + 1
    · simp [Result.andThen, sliced, hc]
    · simp [Result.andThen, sliced, hc, Addr.add]
  · refine ⟨_, b, o + (k + 1), c - (k + 1), by rw [hlen], fun h => by rw [hlen] at h; rw [if_neg (by omega)], by omega, by omega, fun i hi => ?_⟩
    obtain ⟨x, hx, hr⟩ := h5 (k + 1 + i) (by omega)
    have e : gi (l.drop (k + 1)) i = gi l (k + 1 + i) := by simp [gi, List.getD]
    exact ⟨x, by rw [Nat.add_assoc]; exact hx, by show _ ∧ _; rw [e]; exact hr⟩
theorem lenP_drop {l : List Int} (h : LenP l) (k : Nat) : LenP (l.drop k) := fun i hi => by
  have e : gi (l.drop k) i = gi l (k + i) := by simp [gi, List.getD]
  rw [e]
  exact h (k + i) (by simp at hi; omega)

set_option maxHeartbeats 3200000 in
set_option maxRecDepth 100000 in
theorem nuParts_any {w : World} {v : Value} {l : List Int} (n0 : Nat) (h : IntSl w v l) (hl : LenP l) (hlen : l.length ≤ 1000) (hn0 : n0 ≤ 2000) (hs : Sum (ln l) n0) :
    Calls Try.prog 68 #[v, .int .i64 n0] w fun e w' => ∃ v' bs, e = .returned v' ∧ Ext w w' ∧ OwnI w' v' (parts (ln l) n0) bs ∧ Fresh w bs := by
  have HL := Lib.hid hl
  have HN := Lib.hid h
  obtain ⟨a, b, o, c, rfl, ha, hl', hm, hc⟩ := h
  unfold maxLen at hm
  have Hc := Lib.hid hc
  have Ha := Lib.hid ha
  have Hs := Lib.hid hs
  clear hc ha hl hs
  have hmk := run_make_row' (P := Try.prog) 27 3 (.int .i64 0) 8 Try.underlying27 Try.info3 rfl .i64 .i64 l.length (by omega) (by omega)
  go_enter Try.func68, Try.ntmps68
  go_wp2
  clear hmk
  go_loopg [1, 15] l.length (fun g m i wr => ∃ k n : Nat, k ≤ l.length ∧ n ≤ 2000 ∧ g = l.length - k ∧ i = .int .i64 k ∧ m = .int .i64 n ∧ Hid (Ext w wr ∧ ∃ pre, PSt l n0 k n pre ∧ wr.rowIs w.heap.size 3 l.length (fun i => .int .i64 (gi pre i))))
  case atStart => exact ⟨0, n0, Nat.zero_le _, hn0, rfl, rfl, rfl, (Ext.rfl' w).alloc' _, [], ⟨rfl, rfl, Hs.out, Nat.le_refl _⟩, (World.rowIs_made w _ _ _).congr fun i _ => by simp [gi]⟩
  case round =>
    obtain ⟨k, n, hk, hn, rfl, rfl, rfl, Hr⟩ := hrel
    by_cases hlt : k < l.length
    · obtain ⟨y, hc, rfl, _⟩ := Hc.out k hlt
      obtain rfl := Ha.out (by omega)
      obtain ⟨x, hx, hx0, hx1⟩ := lenP_get HL.out hlt
      rw [hx] at hc
      have HX := Lib.hid hx
      obtain ⟨hext, pre, hp, hrow⟩ := Hr.out
      have hc' := hext.cell' hc
      have HP := Lib.hid hp
      have HE := Lib.hid hext
      have HR := Lib.hid hrow
      clear hc hx hext hp hrow
      obtain ⟨wo, rfl⟩ : ∃ wo : World, wo = wr := ⟨_, rfl⟩
      obtain ⟨a2, hsl, hin⟩ := slice_low HN.out hlt
      have HI := Lib.hid (hin.ext HE.out)
      have hlen2 : (l.drop (k + 1)).length ≤ 1048576 := by simp; omega
      clear hin
      go_wp2_with fail
      clear hsl
      (with_reducible refine (nuSums_any _ HI.out (lenP_drop HL.out _) hlen2 (by omega)).mono ?_)
      rintro e w1 ⟨rfl, hw, hrw⟩
      have HW := Lib.hid hw
      have HRW := Lib.hid hrw
      have hB : w.heap.size ≤ wo.heap.size := HE.out.size
      obtain ⟨hp1, hp2, hp3⟩ := pst_step hlt HX.out hx0 HP.out
      have HP1 := Lib.hid hp1
      have HP3 := Lib.hid hp3
      have hdx := Nat.div_le_self n x
      have hd1 : (0 : Int) ≤ (n : Int) / (x : Int) := Int.ediv_nonneg (by omega) (by omega)
      have hd2 : (n : Int) / (x : Int) ≤ 2000 := by show ((n / x : Nat) : Int) ≤ _; omega
      clear hw hrw hp1 hp3 hc'
      go_wp2
      clear hd1 hd2
      go_loop [9] (fun tt => ∃ t : Nat, t ≤ 2000 ∧ tt = .int .i64 (t : Int) ∧ Hid (Tried l k x n t)) (fun tt => (intOf tt).toNat)
      case atStart => exact ⟨n / x, by omega, rfl, tried_start l k x n⟩
      case round =>
        obtain ⟨t, ht, rfl, Ht⟩ := hrel
        have htn := Ht.out.1
        have c1 := HRW.out.cell (i := n - t * x) (by omega)
        rw [show sumAll (l.drop (k + 1)) (n - t * x) = .bool (dec (Fits (ln (l.drop (k + 1))) n x t)) from rfl] at c1
        have e0 : ((t * x : Nat) : Int) = (t : Int) * (x : Int) := Int.natCast_mul t x
        have m0 : 0 ≤ (t : Int) * (x : Int) := by omega
        have m1 : (t : Int) * (x : Int) ≤ 2000 := by omega
        have em : (n : Int) - (t : Int) * (x : Int) = ((n - t * x : Nat) : Int) := by omega
        by_cases hf : Fits (ln (l.drop (k + 1))) n x t
        · rw [dec_true hf] at c1
          have HC := Lib.hid (tried_yes Ht.out hf)
          have f1 := (row_ext HR.out HW.out).cell hlt
          have f2 := (row_ext HR.out HW.out).frozen k
          have HS := Lib.hid (And.intro ((HE.out.trans' HW.out).store (p := ⟨w.heap.size, k, none⟩) (Nat.le_refl _) (.int .i64 (t : Int))) (prow_set (c := (t : Int)) HP.out.2.1 (row_ext HR.out HW.out)))
          clear hf e0
          go_wp2
          go_roundg (l.length - (k + 1))
          case measure => omega
          case rel => exact ⟨k + 1, n - t * x, by omega, by omega, rfl, by go_num, rfl, HS.out.1, pre ++ [(t : Int)], by rw [HC.out]; exact HP1.out, HS.out.2⟩
        · rw [dec_false hf] at c1
          obtain ⟨t0, t1⟩ := tried_no Ht.out HP3.out hf
          have HT := Lib.hid t1
          clear hf t1 e0
          go_wp2
          go_round
          case rel => exact ⟨t - 1, by omega, by go_num, HT.out⟩
          case measure => simp [intOf]; omega
    · obtain rfl : k = l.length := by omega
      obtain ⟨hext, pre, hp, hrow⟩ := Hr.out
      have HE := Lib.hid hext
      have HO := Lib.hid (parts_own hlen hn0 hp hrow)
      clear hext hp hrow
      go_wp2
      go_ret
      exact ⟨_, [w.heap.size], rfl, HE.out, HO.out, by simp, by simp⟩
end Go.Proofs.Ytcjiejbndmnjaaa
