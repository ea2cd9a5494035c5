/- The functions on lists that the program's rules and the model call. -/
import Derived.Test.YtbddjejpacaglaaGreatDoorVqa
namespace Go.Proofs.YtbddjejpacaglaaGreatDoor
open Go.RowKit

set_option maxHeartbeats 800000 in
set_option maxRecDepth 100000 in
theorem countBetween_any {w : World} {v : Value} {l : List Int} (h : IntSl w v l) (hs : l.length ≤ 1048576) (lo hi : Int) :
    Calls Tryz.prog 112 #[v, .int .i64 lo, .int .i64 hi] w fun e w' => e = .returned (.int .i64 (cbTo l lo hi l.length : Int)) ∧ w = w' := by
  obtain ⟨a, b, o, c, rfl, ha, hl, hm, hc⟩ := h
  unfold maxLen at hm
  have Hc := Lib.hid hc
  have Ha := Lib.hid ha
  clear hc ha
  obtain ⟨n, hn⟩ : ∃ n, n = l.length := ⟨_, rfl⟩
  have HN := Lib.hid hn
  rw [← hn] at hl hs ⊢
  clear hn
  go_enter Tryz.func112, Tryz.ntmps112
  go_wp2
  go_loopg [7, 12] n (fun g d i wr => ∃ k : Nat, k ≤ n ∧ g = n - k ∧ d = .int .i64 (cbTo l lo hi k : Int) ∧ i = .int .i64 (k : Int) ∧ w = wr)
  case atStart => exact ⟨0, Nat.zero_le _, rfl, rfl, rfl, rfl⟩
  case round =>
    obtain ⟨k, hk, rfl, rfl, rfl, rfl⟩ := hrel
    have hle := cbTo_le l lo hi k
    by_cases hlt : k < n
    · obtain ⟨x, hx, rfl, _⟩ := Hc.out k (by have := HN.out; omega)
      obtain rfl := Ha.out (by have := HN.out; omega)
      by_cases hb : InB (gi l k) lo hi
      · have E := Lib.hid (dec_true hb)
        have HS := Lib.hid (show cbTo l lo hi (k + 1) = cbTo l lo hi k + 1 from if_pos hb)
        clear hb
        go_wp2_with (go_at_call 39; (with_reducible refine (isBetweenK_any _ _ _ _).mono ?_); rintro e _ ⟨rfl, rfl⟩; rw [E.out])
        go_roundg (n - (k + 1))
        case measure => omega
        case rel => exact ⟨k + 1, by omega, rfl, by rw [HS.out]; go_num, by go_num, rfl⟩
      · have E := Lib.hid (dec_false hb)
        have HS := Lib.hid (show cbTo l lo hi (k + 1) = cbTo l lo hi k from if_neg hb)
        clear hb
        go_wp2_with (go_at_call 39; (with_reducible refine (isBetweenK_any _ _ _ _).mono ?_); rintro e _ ⟨rfl, rfl⟩; rw [E.out])
        go_roundg (n - (k + 1))
        case measure => omega
        case rel => exact ⟨k + 1, by omega, rfl, by rw [HS.out], by go_num, rfl⟩
    · obtain rfl : k = n := by omega
      go_wp2
      go_ret
      exact ⟨rfl, rfl⟩

set_option maxHeartbeats 800000 in
set_option maxRecDepth 100000 in
theorem sumOf_any {w : World} {v : Value} {l : List Int} (h : IntSl w v l) (hs : l.length ≤ 1048576) (hr : AllIn l (-1000000) 1000000) :
    Calls Tryz.prog 108 #[v] w fun e w' => e = .returned (.int .i64 (smTo l l.length)) ∧ w = w' := by
  obtain ⟨a, b, o, c, rfl, ha, hl, hm, hc⟩ := h
  unfold maxLen at hm
  have Hc := Lib.hid hc
  have Ha := Lib.hid ha
  have Hr := Lib.hid hr
  clear hc ha hr
  obtain ⟨n, hn⟩ : ∃ n, n = l.length := ⟨_, rfl⟩
  have HN := Lib.hid hn
  rw [← hn] at hl hs ⊢
  clear hn
  go_enter Tryz.func108, Tryz.ntmps108
  go_wp2
  go_loopg [3, 8] n (fun g d i wr => ∃ k : Nat, k ≤ n ∧ g = n - k ∧ d = .int .i64 (smTo l k) ∧ i = .int .i64 (k : Int) ∧ w = wr)
  case atStart => exact ⟨0, Nat.zero_le _, rfl, rfl, rfl, rfl⟩
  case round =>
    obtain ⟨k, hk, rfl, rfl, rfl, rfl⟩ := hrel
    by_cases hlt : k < n
    · obtain ⟨x, hx, rfl, _⟩ := Hc.out k (by have := HN.out; omega)
      obtain rfl := Ha.out (by have := HN.out; omega)
      have r1 := smTo_range Hr.out k (by have := HN.out; omega)
      have r2 := Hr.out k (by have := HN.out; omega)
      have HS := Lib.hid (show smTo l (k + 1) = smTo l k + gi l k from rfl)
      generalize gi l k = x at *
      generalize smTo l k = s at *
      go_wp2
      go_roundg (n - (k + 1))
      case measure => omega
      case rel => exact ⟨k + 1, by omega, rfl, by rw [HS.out], by go_num, rfl⟩
    · obtain rfl : k = n := by omega
      go_wp2
      go_ret
      exact ⟨rfl, rfl⟩

set_option maxHeartbeats 800000 in
set_option maxRecDepth 100000 in
theorem leastFree_any {w : World} {v : Value} {l : List Int} (h : IntSl w v l) (hr : AllIn l (-1000000) 1000000) :
    Calls Tryz.prog 110 #[v] w fun e w' => e = .returned (.int .i64 (fre l : Int)) ∧ w = w' := by
  have H := Lib.hid h
  have Hr := Lib.hid hr
  clear h hr
  go_enter Tryz.func110, Tryz.ntmps110
  go_wp2
  go_loopg [3] 1000001 (fun g i wr => ∃ k : Nat, k ≤ 1000001 ∧ g = 1000001 - k ∧ i = .int .i64 (k : Int) ∧ w = wr ∧ Hid (∀ j : Nat, j < k → Has l j))
  case atStart => exact ⟨0, Nat.zero_le _, rfl, rfl, rfl, fun j hj => absurd hj (by omega)⟩
  case round =>
    obtain ⟨k, hk, rfl, rfl, rfl, HK⟩ := hrel
    by_cases hh : Has l k
    · have E := Lib.hid (dec_true hh)
      have hlt : k < 1000001 := by
        obtain ⟨j, hj, e⟩ := hh
        have := Hr.out j hj
        omega
      have HH := Lib.hid hh
      clear hh
      go_wp2_with (go_at_call 94; (with_reducible refine (contains_any _ H.out).mono ?_); rintro e _ ⟨rfl, rfl⟩; rw [E.out])
      go_roundg (1000001 - (k + 1))
      case measure => omega
      case rel =>
        refine ⟨k + 1, by omega, rfl, by go_num, rfl, fun j hj => ?_⟩
        by_cases e : j = k
        · subst e; exact HH.out
        · exact HK.out j (by omega)
    · have E := Lib.hid (dec_false hh)
      have F := Lib.hid (fre_eq ⟨hh, HK.out⟩)
      clear hh
      go_wp2_with (go_at_call 94; (with_reducible refine (contains_any _ H.out).mono ?_); rintro e _ ⟨rfl, rfl⟩; rw [E.out])
      go_ret
      exact ⟨by rw [F.out]; rfl, rfl⟩

/-- A list of one number in a new block. -/
theorem one_sl {w : World} (x : Int) (hx : inI64 x) (t : Nat) : IntSl (w.alloc (.cells #[.int .i64 x] t)) (.slice (some ⟨w.heap.size, 0, none⟩) 1 1) [x] :=
  ⟨_, w.heap.size, 0, 1, rfl, fun _ => rfl, Nat.le_refl _, by unfold maxLen; omega, fun i hi => by
    obtain rfl : i = 0 := by simp at hi; omega
    exact ⟨_, cell_new1 w _ t, rfl, hx⟩⟩
def nearL (S : Sg) : List Int := if S.near.length = 0 then [S.own] else S.near
theorem nearL_len (S : Sg) : 0 < (nearL S).length := by
  unfold nearL
  split
  · exact Nat.one_pos
  · omega
theorem lessL_near (S : Sg) : lessL (nearL S) = leastV S := by unfold leastV nearL; split <;> rfl
theorem mostL_near (S : Sg) : mostL (nearL S) = greatV S := by unfold greatV nearL; split <;> rfl
set_option maxHeartbeats 800000 in
set_option maxRecDepth 100000 in
theorem nearOrOwn_any {w : World} {v : Value} {S : Sg} (h : SightAt w v S) (ho : SgOK S) :
    Calls Tryz.prog 104 #[v] w fun e w' => ∃ v', e = .returned v' ∧ Ext w w' ∧ IntSl w' v' (nearL S) := by
  obtain ⟨a, c, rfl, hn⟩ := h
  have HN := Lib.hid hn
  have HX := Lib.hid ((Ext.rfl' w).alloc' (.cells #[.int .i64 S.own, .int .i64 S.id, .int .i64 S.inp, .int .i64 S.rnd, .slice a S.near.length c] 100))
  obtain ⟨_, _, _, _, e, -, hl, hm, -⟩ := hn
  cases e
  have hln := ho.2.1
  unfold maxLen at hm
  by_cases h0 : S.near.length = 0
  · have b0 : ((S.near.length : Int) == 0) = true := beq_iff_eq.2 (by omega)
    have HL := Lib.hid (show nearL S = [S.own] from if_pos h0)
    have hr := ho.1
    have HO := Lib.hid (show inI64 S.own by unfold inI64; omega)
    clear h0 ho
    go_enter Tryz.func104, Tryz.ntmps104
    go_wp2
    go_ret
    exact ⟨_, rfl, HX.out.alloc' _, by rw [HL.out]; have := one_sl (w := w.alloc (.cells #[.int .i64 S.own, .int .i64 S.id, .int .i64 S.inp, .int .i64 S.rnd, .slice a S.near.length c] 100)) S.own HO.out 3; simpa using this⟩
  · have b0 : ((S.near.length : Int) == 0) = false := beq_eq_false_iff_ne.2 (by omega)
    have HL := Lib.hid (show nearL S = S.near from if_neg h0)
    clear h0 ho
    go_enter Tryz.func104, Tryz.ntmps104
    go_wp2
    go_ret
    exact ⟨_, rfl, HX.out, by rw [HL.out]; exact HN.out.ext HX.out⟩

theorem truthOf_any (b : Bool) (w : World) : Calls Tryz.prog 119 #[.bool b] w fun e w' => e = .returned (.int .i64 (tru b)) ∧ w = w' := by
  cases b
  · go_enter Tryz.func119, Tryz.ntmps119
    go_wp2
    go_ret
    exact ⟨rfl, rfl⟩
  · go_enter Tryz.func119, Tryz.ntmps119
    go_wp2
    go_ret
    exact ⟨rfl, rfl⟩
theorem vaIs_any (b : Bool) (w : World) : Calls Tryz.prog 90 #[.bool b] w fun e w' => e = .returned (.int .i64 (tru b)) ∧ w = w' := by
  cases b
  · go_enter Tryz.func90, Tryz.ntmps90
    go_wp2
    go_ret
    exact ⟨rfl, rfl⟩
  · go_enter Tryz.func90, Tryz.ntmps90
    go_wp2
    go_ret
    exact ⟨rfl, rfl⟩
end Go.Proofs.YtbddjejpacaglaaGreatDoor
