/- The contract of hasPort. -/
import Derived.Test.YtndgbildkeglfaaIds2
namespace Go.Proofs.Ytndgbildkeglfaa
open Go.RowKit

theorem Ext.drewN' {a b : World} (h : Ext a b) (n : Nat) : Ext a (b.drewN n) := ⟨h.os, h.tape, h.output, h.size, h.block⟩
def PortOK (l : List (List (Int × Int))) (x y : Int) : Prop := 0 ≤ x ∧ x < l.length ∧ 0 ≤ y ∧ y < (gr l x.toNat).length

set_option maxHeartbeats 800000 in
set_option maxRecDepth 100000 in
theorem hasPort_any {w : World} {v : Value} {l : List (List (Int × Int))} (x y : Int) (h : EndSS w v l) :
    Calls Try.prog 78 #[v, .agg #[.int .i64 x, .int .i64 y]] w fun e w' => e = .returned (.bool (dec (PortOK l x y))) ∧ Ext w w' := by
  obtain ⟨a, b, o, c, rfl, ha, hl, hm, hc⟩ := h
  unfold maxLen at hm
  have Hc := Lib.hid hc
  have Ha := Lib.hid ha
  clear hc ha
  have hX := (Ext.rfl' w).alloc' (.cells #[.int .i64 x, .int .i64 y] 44)
  have HX := Lib.hid hX
  clear hX
  by_cases h1 : 0 ≤ x
  · have d1 : decide (0 ≤ x) = true := by simpa using h1
    by_cases h2 : x < l.length
    · have d2 : decide (x < (l.length : Int)) = true := by simpa using h2
      by_cases h3 : 0 ≤ y
      · have d3 : decide (0 ≤ y) = true := by simpa using h3
        obtain ⟨k, rfl⟩ := Int.eq_ofNat_of_zero_le h1
        have hk : k < l.length := by omega
        obtain ⟨z, hz, hz2⟩ := Hc.out k hk
        obtain ⟨a', b', o', c', rfl, _, hl', hm', _⟩ := hz2
        unfold maxLen at hm'
        obtain rfl := Ha.out (by omega)
        have hz' := HX.out.cell' hz
        have hlt := World.block_lt_of_cell? _ _ hz
        clear hz
        by_cases h4 : y < (gr l k).length
        · have d4 : decide (y < ((gr l k).length : Int)) = true := by simpa using h4
          have Hn := Lib.hid (dec_true (p := PortOK l k y) ⟨h1, h2, h3, by simpa using h4⟩)
          go_enter Try.func78, Try.ntmps78
          go_wp2
          go_quiet (fail)
          go_wp2
          go_ret
          exact ⟨ret_bool Hn.out.symm, HX.out.drewN' _⟩
        · have d4 : decide (y < ((gr l k).length : Int)) = false := by simpa using h4
          have Hn := Lib.hid (dec_false (p := PortOK l k y) (fun h => h4 (by simpa using h.2.2.2)))
          go_enter Try.func78, Try.ntmps78
          go_wp2
          go_quiet (fail)
          go_wp2
          go_ret
          exact ⟨ret_bool Hn.out.symm, HX.out.drewN' _⟩
      · have d3 : decide (0 ≤ y) = false := by simpa using h3
        have Hn := Lib.hid (dec_false (p := PortOK l x y) (fun h => h3 h.2.2.1))
        go_enter Try.func78, Try.ntmps78
        go_wp2
        go_quiet (fail)
        go_wp2
        go_ret
        exact ⟨ret_bool Hn.out.symm, HX.out.drewN' _⟩
    · have d2 : decide (x < (l.length : Int)) = false := by simpa using h2
      have Hn := Lib.hid (dec_false (p := PortOK l x y) (fun h => h2 h.2.1))
      go_enter Try.func78, Try.ntmps78
      go_wp2
      go_quiet (fail)
      go_wp2
      go_ret
      exact ⟨ret_bool Hn.out.symm, HX.out.drewN' _⟩
  · have d1 : decide (0 ≤ x) = false := by simpa using h1
    have Hn := Lib.hid (dec_false (p := PortOK l x y) (fun h => h1 h.1))
    go_enter Try.func78, Try.ntmps78
    go_wp2
    go_quiet (fail)
    go_wp2
    go_ret
    exact ⟨ret_bool Hn.out.symm, HX.out.drewN' _⟩
end Go.Proofs.Ytndgbildkeglfaa
