/- joinNumbers and parseNumber: what the program writes and reads of numbers. -/
import Derived.Test.YtecgajpjcaemmaaDoorSa
import Derived.Test.YtecgajpjcaemmaaDoorKb
import Derived.Lib.AtoiErrMem
namespace Go.Proofs.YtecgajpjcaemmaaDoor
open Go.RowKit

theorem isBetween_any (n lo hi : Int) (w : World) : Calls Tryd.prog 41 #[.int .i64 n, .int .i64 lo, .int .i64 hi] w fun e w' => e = .returned (.bool (dec (InB n lo hi))) ∧ w = w' := by
  by_cases h1 : lo ≤ n
  · by_cases h2 : n ≤ hi
    · have e := Lib.hid (dec_true (p := InB n lo hi) ⟨h1, h2⟩)
      go_enter Tryd.func41, Tryd.ntmps41
      go_wp2
      go_ret
      exact ⟨ret_bool e.out.symm, rfl⟩
    · have e := Lib.hid (dec_false (p := InB n lo hi) (fun h => h2 h.2))
      go_enter Tryd.func41, Tryd.ntmps41
      go_wp2
      go_ret
      exact ⟨ret_bool e.out.symm, rfl⟩
  · have e := Lib.hid (dec_false (p := InB n lo hi) (fun h => h1 h.1))
    go_enter Tryd.func41, Tryd.ntmps41
    go_wp2
    go_ret
    exact ⟨ret_bool e.out.symm, rfl⟩

theorem getD_map_bs (l : List Bs) (j : Nat) (x : ByteArray) (h : (l.map bs)[j]? = some x) : j < l.length ∧ x = bs (l.getD j []) := by
  rw [List.getElem?_map] at h
  cases g : l[j]? with
  | none => rw [g] at h; cases h
  | some y =>
    rw [g] at h
    have hj : j < l.length := by
      rcases Nat.lt_or_ge j l.length with k | k
      · exact k
      · rw [List.getElem?_eq_none k] at g; cases g
    exact ⟨hj, by rw [List.getD, g]; exact (Option.some.inj h).symm⟩
theorem join_row (l : List Bs) (sep : Bs) (w : World) (bk cap : Nat) (hrow : ∀ j, j < l.length → w.cell? ⟨bk, j, none⟩ = some (.string (bs (l.getD j [])))) (hb : bk < w.heap.size) (hcap : l.length ≤ cap)
    (hl : l.length ≤ 1048576) (hlen : (Go.Lib.join l sep).length ≤ 140737488355328) :
    Calls Tryd.prog 54 #[.slice (some ⟨bk, 0, none⟩) l.length cap, .string (bs sep)] w fun e w' => e = .returned (.string (bs (Go.Lib.join l sep))) ∧ Ext w w' := by
  have hm : (l.map bs).map (·.data.toList) = l := by
    rw [List.map_map]
    conv => rhs; rw [← List.map_id l]
    exact List.map_congr_left fun x _ => bs_data x
  have h := Tryd.strings_Join bk 0 cap (l.map bs) (bs sep) w (fun j x hx => by
    obtain ⟨hj, rfl⟩ := getD_map_bs l j x hx
    rw [Nat.zero_add]; exact hrow j hj) hb (by simp; omega) (by simpa using hcap) (by rw [hm, bs_data]; exact hlen)
  rw [hm, bs_data, List.length_map] at h
  exact h.mono fun e w' ⟨he, hw⟩ => ⟨he, ext_of_below hw⟩

theorem Tryd.infoS : (Tryd.prog.info? 9).map (fun i => (i.zero, i.size, i.bytes)) = some (some (.string ByteArray.empty), 1, 16) := by kernel_rfl
/-- Cell j of a row of texts, k of which are written. -/
def scell (l : List Bs) (k j : Nat) : Value := if j < k then .string (bs (l.getD j [])) else .string ByteArray.empty
theorem scell_step {w : World} {b n : Nat} {l : List Bs} {k : Nat} {x : Bs} (h : w.rowIs b 9 n (scell l k)) (hx : l.getD k [] = x) : (w.setCell ⟨b, k, none⟩ (.string (bs x))).rowIs b 9 n (scell l (k + 1)) :=
  (h.set _ _).congr fun i _ => by
    simp only [scell]
    by_cases e : i = k
    · subst e; rw [if_pos rfl, if_pos (by omega), hx]
    · by_cases e2 : i < k
      · rw [if_neg e, if_pos e2, if_pos (by omega)]
      · rw [if_neg e, if_neg e2, if_neg (by omega)]
theorem getD_nums (l : List Int) (k : Nat) (h : k < l.length) : (l.map num).getD k [] = Go.Lib.decDigits (gi l k).toNat := by
  simp [List.getD, h, num, gi]

set_option maxHeartbeats 800000 in
set_option maxRecDepth 100000 in
theorem joinNumbers_any {w : World} {v : Value} {l : List Int} (c : UInt8) (h : IntSl w v l) (hl : l.length ≤ 1048576) (hx : ∀ x ∈ l, Six x) (hL : Pw w) :
    Calls Tryd.prog 42 #[v, .string (bs [c])] w fun e w' => e = .returned (.string (bs (ints c l))) ∧ Ext w w' := by
  have hlen := ints_len c l hx
  have Hx := Lib.hid (show ∀ k, k < l.length → ∃ n : Nat, gi l k = (n : Int) ∧ n ≤ 999999 from fun k hk => by
    obtain ⟨a, b⟩ := hx (gi l k) (by simp [gi, List.getD, hk])
    exact ⟨(gi l k).toNat, by omega, by omega⟩)
  clear hx
  obtain ⟨a, b, o, cp, rfl, ha, h3, h4, hc⟩ := h
  unfold maxLen at h4
  have Hc := Lib.hid hc
  have Ha := Lib.hid ha
  clear hc ha
  have hmk := run_make_row' (P := Tryd.prog) 72 9 (.string ByteArray.empty) 16 Tryd.underlying72 Tryd.infoS rfl .i64 .i64 l.length (by omega) (by omega)
  go_enter Tryd.func42, Tryd.ntmps42
  go_wp2
  clear hmk
  go_loopg [13] l.length (fun g i wr => ∃ k : Nat, k ≤ l.length ∧ g = l.length - k ∧ i = .int .i64 k ∧ Hid (Ext w wr ∧ wr.rowIs w.heap.size 9 l.length (scell (l.map num) k)))
  case atStart => exact ⟨0, Nat.zero_le _, rfl, rfl, (Ext.rfl' w).alloc' _, (World.rowIs_made w _ _ _).congr fun i _ => by simp [scell]⟩
  case round =>
    obtain ⟨k, hk, rfl, rfl, Hr⟩ := hrel
    by_cases hlt : k < l.length
    · obtain ⟨x, hc, rfl, _⟩ := Hc.out k hlt
      obtain rfl := Ha.out (by omega)
      obtain ⟨n, hn, hn9⟩ := Hx.out k hlt
      have Hn := Lib.hid hn
      rw [hn] at hc
      have hc' := Hr.out.1.cell' hc
      clear hc hn
      go_wp2_with (go_at_call 53; (with_reducible refine (itoa_any n (by omega) _ (hL.ext Hr.out.1)).mono ?_); rintro e wy ⟨rfl, hy⟩; have HY := Lib.hid (Hr.out.1.trans' hy); have HR := Lib.hid (row_ext Hr.out.2 hy); have hst := HR.out.cell hlt; have hfr := HR.out.frozen k; clear hy)
      go_roundg (l.length - (k + 1))
      case measure => omega
      case rel => exact ⟨k + 1, by omega, rfl, by go_num, HY.out.store (Nat.le_refl _) _, scell_step HR.out (by rw [getD_nums _ _ hlt, Hn.out]; rfl)⟩
    · obtain rfl : k = l.length := by omega
      have HJ := Lib.hid (show ∀ j, j < (l.map num).length → wr.cell? ⟨w.heap.size, j, none⟩ = some (.string (bs ((l.map num).getD j []))) from fun j hj => by
        have hj' : j < l.length := by simpa using hj
        have := Hr.out.2.cell hj'
        simpa [scell, hj'] using this)
      have HC := join_row (l.map num) [c] wr w.heap.size l.length HJ.out Hr.out.2.lt (by simp) (by simpa using hl) (by have : Go.Lib.join (l.map num) [c] = ints c l := rfl; rw [this]; omega)
      rw [List.length_map] at HC
      have HC2 := Lib.hid HC
      clear HC
      go_wp2_with (go_at_call 54; (with_reducible refine (HC2.out).mono ?_); rintro e wy ⟨rfl, hy⟩; have HY := Lib.hid (Hr.out.1.trans' hy); clear hy)
      go_ret
      exact ⟨rfl, HY.out⟩

theorem ext_bytes {w w' : World} {s : ByteArray} (h : w' = w ∨ ∃ t, w' = Lib.bytesWorld w t s) : Ext w w' := by
  rcases h with rfl | ⟨t, rfl⟩
  · exact Ext.rfl' _
  · exact ext_of_below (Lib.bytesWorld_below _ _ _)
/-- What Atoi answers: a number and no error, or an error. -/
theorem atoi_any (l : Bs) (hl : l.length ≤ 1048576) (w : World) (h : Lb w) :
    Calls Tryd.prog 82 #[.string (bs l)] w fun e w' => Ext w w' ∧ ((∃ v, Go.Lib.atoiAll l = .ok v ∧ e = .returned (.tuple #[.int .i64 v, .nilIface])) ∨
      (¬ NumOK l ∧ ∃ v a, e = .returned (.tuple #[.int .i64 v, .iface 139 (.pointer (some a))]))) := by
  cases hc : Go.Lib.atoiAll l
  · rename_i v
    exact (Tryd.strconv_Atoi_ok (bs l) (by rw [bs_size]; omega) v (by rw [bs_data]; exact hc) w).mono fun e w' ⟨he, hw⟩ => ⟨by
      rcases hw with rfl | ⟨t, rfl⟩
      · exact Ext.rfl' _
      · exact ext_of_below (Lib.bytesWorld_below _ _ _), .inl ⟨v, rfl, he⟩⟩
  · obtain ⟨ev, h1, h2⟩ := h.sy
    refine (Any.strconv_Atoi_syntax Tryd.laysC172 (bs l) (by rw [bs_size]; omega) (by rw [bs_data]; exact hc) ev w h1 h2).mono fun e w' ⟨N, he, _, _, hw⟩ => ⟨ext_of_below hw, .inr ⟨fun hn => ?_, _, _, he⟩⟩
    rw [num_atoi hn] at hc; cases hc
  · obtain ⟨ev, h1, h2⟩ := h.rg
    refine (Tryd.strconv_Atoi_range (bs l) (by rw [bs_size]; omega) (by rw [bs_data]; exact hc) ev w h1 h2).mono fun e w' ⟨N, he, _, _, hw⟩ => ⟨ext_of_below hw, .inr ⟨fun hn => ?_, _, _, he⟩⟩
    rw [num_atoi hn] at hc; cases hc

theorem bs_ne {a b : Bs} (h : a ≠ b) : (a == b) = false := beq_eq_false_iff_ne.2 h
set_option maxHeartbeats 800000 in
set_option maxRecDepth 100000 in
theorem parseNumber_any (l : Bs) (hl : l.length ≤ 1048576) (w : World) (h : Lb w) :
    Calls Tryd.prog 45 #[.string (bs l)] w fun e w' => Ext w w' ∧ ((∃ n : Nat, rd l = some n ∧ n ≤ 999999 ∧ e = .returned (.tuple #[.int .i64 n, .bool true])) ∨ (rd l = none ∧ e = .returned (.tuple #[.int .i64 0, .bool false]))) := by
  have H := Lib.hid h
  by_cases hN : NumOK l
  · have hv0 := Lib.hid (num_atoi hN)
    have hd0 := Lib.hid (num_dec hN)
    have hr0 := Lib.hid (rd_some hN)
    have h9 := num_le hN
    have hN' := Lib.hid hN
    clear hN
    generalize valN 0 l = n at hv0 hd0 hr0 h9
    have hb := Lib.hid (dec_true (p := InB (n : Int) 0 999999) ⟨by omega, by omega⟩)
    go_enter Tryd.func45, Tryd.ntmps45
    go_wp2_with (first | (go_at_call 82; (with_reducible refine (atoi_any l hl _ h).mono ?_); rintro e w1 ⟨hx, hcase⟩; have HX := Lib.hid hx; have he := hcase.resolve_right (fun g => g.1 hN'.out); clear hx hcase; obtain ⟨v, hv, rfl⟩ := he; rw [hv0.out] at hv; obtain rfl := Go.Lib.NumEnd.ok.inj hv; clear hv) | (go_at_call 41; (with_reducible refine (isBetween_any _ _ _ _).mono ?_); rintro e w' ⟨rfl, rfl⟩; rw [hb.out]) | (go_at_call 53; (with_reducible refine (itoa_any n (by omega) _ (H.out.ext HX.out).pw).mono ?_); rintro e w2 ⟨rfl, hy⟩; rw [hd0.out]; have HY := Lib.hid (HX.out.trans' hy); clear hy))
    go_ret2
    exact ⟨HY.out, .inl ⟨n, hr0.out, h9, rfl⟩⟩
  · have hr0 := Lib.hid (rd_none hN)
    have hN' := Lib.hid hN
    clear hN
    go_enter Tryd.func45, Tryd.ntmps45
    go_wp2_with (go_at_call 82; (with_reducible refine (atoi_any l hl _ h).mono ?_); rintro e w1 ⟨hx, hcase⟩; have HX := Lib.hid hx; have HC := Lib.hid hcase; clear hx hcase; rcases HC.out with ⟨v, hv, rfl⟩ | ⟨hn, v, a, rfl⟩)
    · clear HC
      by_cases hv1 : InB v 0 999999
      · obtain ⟨n, rfl⟩ := Int.eq_ofNat_of_zero_le hv1.1
        have hb := Lib.hid (dec_true hv1)
        have h9 : n ≤ 999999 := by have := hv1.2; omega
        have hne : Go.Lib.decDigits n ≠ l := fun e => hN'.out (e ▸ dec_ok n h9)
        have hq := bs_ne hne
        clear hv1 hv hne
        go_wp2_with (first | (go_at_call 41; (with_reducible refine (isBetween_any _ _ _ _).mono ?_); rintro e w' ⟨rfl, rfl⟩; rw [hb.out]) | (go_at_call 53; (with_reducible refine (itoa_any n (by omega) _ (H.out.ext HX.out).pw).mono ?_); rintro e w2 ⟨rfl, hy⟩; have HY := Lib.hid (HX.out.trans' hy); clear hy))
        go_ret2
        exact ⟨HY.out, .inr ⟨hr0.out, rfl⟩⟩
      · have hb := Lib.hid (dec_false hv1)
        clear hv1 hv
        go_wp2_with (go_at_call 41; (with_reducible refine (isBetween_any _ _ _ _).mono ?_); rintro e w' ⟨rfl, rfl⟩; rw [hb.out])
        go_ret2
        exact ⟨HX.out, .inr ⟨hr0.out, rfl⟩⟩
    · clear HC
      go_wp2
      go_ret2
      exact ⟨HX.out, .inr ⟨hr0.out, rfl⟩⟩
end Go.Proofs.YtecgajpjcaemmaaDoor
