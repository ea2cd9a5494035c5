/- Texts of labelings: which lists have one (both sides). -/
import Derived.Test.YtecgajpjcaemmaaDoorSb
import Derived.Test.YtecgajpjcaemmaaDoorSe
namespace Go.Proofs.YtecgajpjcaemmaaDoor
open Go.RowKit

def LabRow (r : List Int) : Prop := r.length ≤ 6 ∧ AllIn r 0 99
def LbOK (l : List (List Int)) : Prop := l.length ≤ 40 ∧ ∀ i, i < l.length → LabRow (gr l i)

set_option maxHeartbeats 800000 in
set_option maxRecDepth 100000 in
theorem txLabels_any {w : World} {v : Value} {l : List (List Int)} (h : IntSS w v l) :
    Calls Tryd.prog 75 #[v] w fun e w' => e = .returned (.bool (dec (LbOK l))) ∧ w = w' := by
  obtain ⟨a, b, o, c, rfl, ha, hl, hm, hc⟩ := h
  unfold maxLen at hm
  have Hc := Lib.hid hc
  have Ha := Lib.hid ha
  clear hc ha
  go_enter Tryd.func75, Tryd.ntmps75
  go_wp2
  go_loopg [7] l.length (fun g i wr => ∃ k : Nat, k ≤ l.length ∧ g = l.length - k ∧ i = .int .i64 k ∧ Hid (w = wr ∧ ∀ j, j < k → LabRow (gr l j)))
  case atStart => exact ⟨0, Nat.zero_le _, rfl, rfl, rfl, fun j hj => absurd hj (by omega)⟩
  case round =>
    obtain ⟨k, hk, rfl, rfl, Hr⟩ := hrel
    obtain rfl := Hr.out.1
    by_cases hlt : k < l.length
    · obtain ⟨z, hz, hrow⟩ := Hc.out k hlt
      have HR := Lib.hid hrow
      obtain ⟨a1, b1, o1, c1, rfl, _, hl1, hm1, _⟩ := hrow
      unfold maxLen at hm1
      obtain rfl := Ha.out (by omega)
      by_cases h6 : (gr l k).length ≤ 6
      · have e6 : ¬ ((6 : Int) < (gr l k).length) := by omega
        by_cases hA : AllIn (gr l k) 0 99
        · have HA := Lib.hid (dec_true hA)
          have Hrow := Lib.hid (show LabRow (gr l k) from ⟨h6, hA⟩)
          clear hA
          go_wp2_with (go_at_call 64; (with_reducible refine (l1All_any _ _ HR.out).mono ?_); rintro e w' ⟨rfl, rfl⟩; rw [HA.out])
          go_roundg (l.length - (k + 1))
          case measure => omega
          case rel =>
            refine ⟨k + 1, by omega, rfl, by go_num, rfl, fun j hj => ?_⟩
            by_cases e : j = k
            · subst e; exact Hrow.out
            · exact Hr.out.2 j (by omega)
        · have HA := Lib.hid (dec_false hA)
          have Hn := Lib.hid (show ¬ LbOK l from fun h => hA (h.2 k hlt).2)
          clear hA
          go_wp2_with (go_at_call 64; (with_reducible refine (l1All_any _ _ HR.out).mono ?_); rintro e w' ⟨rfl, rfl⟩; rw [HA.out])
          go_ret
          exact ⟨ret_f Hn.out, rfl⟩
      · have e6 : (6 : Int) < (gr l k).length := by omega
        have Hn := Lib.hid (show ¬ LbOK l from fun h => h6 (h.2 k hlt).1)
        go_wp2
        go_ret
        exact ⟨ret_f Hn.out, rfl⟩
    · obtain rfl : k = l.length := by omega
      by_cases h40 : l.length ≤ 40
      · have e40 : (l.length : Int) ≤ 40 := by omega
        go_wp2
        go_ret
        exact ⟨ret_bool (by rw [dec_true (p := LbOK l) ⟨h40, Hr.out.2⟩]), rfl⟩
      · have e40 : ¬ ((l.length : Int) ≤ 40) := by omega
        go_wp2
        go_ret
        exact ⟨ret_bool (by rw [dec_false (p := LbOK l) (fun h => h40 h.1)]), rfl⟩

set_option maxHeartbeats 800000 in
set_option maxRecDepth 100000 in
theorem isLabeling_any {w : World} {v : Value} {l : List (List Int)} (h : IntSS w v l) :
    Calls Tryd.prog 77 #[v] w fun e w' => e = .returned (.bool (dec (LbOK l))) ∧ w = w' := by
  obtain ⟨a, b, o, c, rfl, ha, hl, hm, hc⟩ := h
  unfold maxLen at hm
  have Hc := Lib.hid hc
  have Ha := Lib.hid ha
  clear hc ha
  by_cases h40 : l.length ≤ 40
  · have e40 : ¬ ((40 : Int) < l.length) := by omega
    go_enter Tryd.func77, Tryd.ntmps77
    go_wp2
    go_loopg [12] l.length (fun g i wr => ∃ k : Nat, k ≤ l.length ∧ g = l.length - k ∧ i = .int .i64 k ∧ Hid (w = wr ∧ ∀ j, j < k → LabRow (gr l j)))
    case atStart => exact ⟨0, Nat.zero_le _, rfl, rfl, rfl, fun j hj => absurd hj (by omega)⟩
    case round =>
      obtain ⟨k, hk, rfl, rfl, Hr⟩ := hrel
      obtain rfl := Hr.out.1
      by_cases hlt : k < l.length
      · obtain ⟨z, hz, hrow⟩ := Hc.out k hlt
        obtain ⟨a1, b1, o1, c1, rfl, ha1, hl1, hm1, hc1⟩ := hrow
        unfold maxLen at hm1
        have Hc1 := Lib.hid hc1
        have Ha1 := Lib.hid ha1
        clear hc1 ha1
        obtain rfl := Ha.out (by omega)
        by_cases h6 : (gr l k).length ≤ 6
        · have e6 : ¬ ((6 : Int) < (gr l k).length) := by omega
          go_wp2
          have hw0 : ∃ wo : World, wo = w := ⟨_, rfl⟩
          obtain ⟨wo, hwo⟩ := hw0
          go_loopg [21] (gr l k).length (fun g i wx => ∃ j : Nat, j ≤ (gr l k).length ∧ g = (gr l k).length - j ∧ i = .int .i64 j ∧ Hid (w = wx ∧ ∀ i, i < j → InB (gi (gr l k) i) 0 99))
          case atStart => exact ⟨0, Nat.zero_le _, rfl, rfl, rfl, fun j hj => absurd hj (by omega)⟩
          case round =>
            obtain ⟨j, hj, rfl, rfl, Hs⟩ := hrel
            obtain rfl := Hs.out.1
            by_cases hjt : j < (gr l k).length
            · obtain ⟨x, hq, rfl, _⟩ := Hc1.out j hjt
              obtain rfl := Ha1.out (by omega)
              by_cases hb : InB (gi (gr l k) j) 0 99
              · have Hb := Lib.hid (dec_true hb)
                have Hb2 := Lib.hid hb
                clear hb
                go_wp2_with (go_at_call 41; (with_reducible refine (isBetween_any _ _ _ _).mono ?_); rintro e w' ⟨rfl, rfl⟩; rw [Hb.out])
                go_roundg ((gr l k).length - (j + 1))
                case measure => omega
                case rel =>
                  refine ⟨j + 1, by omega, rfl, by go_num, rfl, fun i hi => ?_⟩
                  by_cases e : i = j
                  · subst e; exact Hb2.out
                  · exact Hs.out.2 i (by omega)
              · have Hb := Lib.hid (dec_false hb)
                have Hn := Lib.hid (show ¬ LbOK l from fun h => hb ((h.2 k hlt).2 j hjt))
                clear hb
                go_wp2_with (go_at_call 41; (with_reducible refine (isBetween_any _ _ _ _).mono ?_); rintro e w' ⟨rfl, rfl⟩; rw [Hb.out])
                go_ret
                exact ⟨ret_f Hn.out, rfl⟩
            · obtain rfl : j = (gr l k).length := by omega
              have hjz : ¬ (((gr l k).length : Int) < ((gr l k).length : Int)) := by omega
              go_wp2
              go_roundg (l.length - (k + 1))
              case measure => omega
              case rel =>
                refine ⟨k + 1, by omega, rfl, by go_num, rfl, fun i hi => ?_⟩
                by_cases e : i = k
                · subst e; exact ⟨h6, Hs.out.2⟩
                · exact Hr.out.2 i (by omega)
        · have e6 : (6 : Int) < (gr l k).length := by omega
          have Hn := Lib.hid (show ¬ LbOK l from fun h => h6 (h.2 k hlt).1)
          go_wp2
          go_ret
          exact ⟨ret_f Hn.out, rfl⟩
      · obtain rfl : k = l.length := by omega
        go_wp2
        go_ret
        exact ⟨ret_t (p := LbOK l) ⟨h40, Hr.out.2⟩, rfl⟩
  · have e40 : (40 : Int) < l.length := by omega
    go_enter Tryd.func77, Tryd.ntmps77
    go_wp2
    go_ret
    exact ⟨ret_f (fun h => h40 h.1), rfl⟩
end Go.Proofs.YtecgajpjcaemmaaDoor
