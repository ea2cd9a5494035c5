/- The contract of slices.EqualFunc at lists of ends, for any function value. -/
import Derived.Test.YtkpdbceglejbnaaVf
namespace Go.Proofs.Ytkpdbceglejbnaa
open Go.RowKit

/-- Equally long, and alike at each place. -/
def AllLike (n m : Nat) (r : Nat → Bool) : Prop := n = m ∧ ∀ i, i < n → r i = true

set_option maxHeartbeats 1600000 in
set_option maxRecDepth 100000 in
theorem equalFunc_any (K : Nat) (caps : Array Value) (eg : ∀ args w, (callFunc K args).run Try.prog w = .ok (.enter K args) w) (r : Nat → Bool) {w : World} {v1 v2 : Value} {l m : List (Int × Int)} (h1 : EndSl w v1 l) (h2 : EndSl w v2 m)
    (hs : ∀ W, Ext w W → ∀ i : Nat, i < l.length → i < m.length → Calls Try.prog K (#[.agg #[.int .i64 (gn l i), .int .i64 (gp l i)], .agg #[.int .i64 (gn m i), .int .i64 (gp m i)]] ++ caps) W fun e w' => e = .returned (.bool (r i)) ∧ Ext W w') :
    Calls Try.prog 170 #[v1, v2, .func (.func K) #[] caps] w fun e w' => e = .returned (.bool (dec (AllLike l.length m.length r))) ∧ Ext w w' := by
  obtain ⟨a1, b1, o1, c1, rfl, ha1, hn1, hm1, hc1⟩ := h1
  obtain ⟨a2, b2, o2, c2, rfl, ha2, hn2, hm2, hc2⟩ := h2
  unfold maxLen at hm1 hm2
  have HS := Lib.hid hs
  have Hc1 := Lib.hid hc1
  have Hc2 := Lib.hid hc2
  have Ha1 := Lib.hid ha1
  have Ha2 := Lib.hid ha2
  clear hs hc1 hc2 ha1 ha2
  by_cases hlen : l.length = m.length
  · have hlb : ((l.length : Int) != (m.length : Int)) = false := by simp; omega
    have HL := Lib.hid hlen
    clear hlen
    go_enter Try.func170, Try.ntmps170
    go_wp2
    go_loopg [17] l.length (fun g i wr => ∃ k : Nat, k ≤ l.length ∧ g = l.length - k ∧ i = .int .i64 k ∧ Hid (Ext w wr ∧ ∀ j, j < k → r j = true))
    case atStart => exact ⟨0, Nat.zero_le _, rfl, rfl, Ext.rfl' w, fun j hj => absurd hj (by omega)⟩
    case round =>
      obtain ⟨k, hk, rfl, rfl, Hr⟩ := hrel
      by_cases hlt : k < l.length
      · have hlt2 : k < m.length := by have := HL.out; omega
        obtain ⟨p1, p2, _, _⟩ := Hc1.out k hlt
        obtain ⟨q1, q2, _, _⟩ := Hc2.out k hlt2
        obtain rfl := Ha1.out (by omega)
        obtain rfl := Ha2.out (by omega)
        have p1' := Hr.out.1.cell' p1
        have p2' := Hr.out.1.cell' p2
        have HX := Lib.hid ((Ext.rfl' wr).alloc' (.cells #[.int .i64 (gn l k), .int .i64 (gp l k)] 95))
        have HX2 := Lib.hid (HX.out.alloc' (.cells #[.int .i64 (gn m k), .int .i64 (gp m k)] 95))
        have q1' := HX.out.cell' (Hr.out.1.cell' q1)
        have q2' := HX.out.cell' (Hr.out.1.cell' q2)
        have cS := HS.out _ (Hr.out.1.trans' HX2.out) k hlt hlt2
        clear p1 p2 q1 q2
        cases hsp : r k <;> rw [hsp] at cS
        · have Hn := Lib.hid (dec_false (p := AllLike l.length m.length r) fun h => by have := h.2 k hlt; rw [hsp] at this; exact absurd this (by simp))
          clear hsp
          go_wp2_with (go_at_fn K; refine cS.mono ?_; rintro e W' ⟨rfl, hx⟩; have HY := Lib.hid hx; clear hx)
          go_ret
          exact ⟨bool_of Hn.out.symm, (Hr.out.1.trans' HX2.out).trans' HY.out⟩
        · have Hsp := Lib.hid hsp
          clear hsp
          go_wp2_with (go_at_fn K; refine cS.mono ?_; rintro e W' ⟨rfl, hx⟩; have HY := Lib.hid hx; clear hx)
          go_roundg (l.length - (k + 1))
          case measure => omega
          case rel =>
            refine ⟨k + 1, by omega, rfl, by go_num, (Hr.out.1.trans' HX2.out).trans' HY.out, fun j hj => ?_⟩
            by_cases e : j = k
            · subst e; exact Hsp.out
            · exact Hr.out.2 j (by omega)
      · go_wp2
        go_ret
        obtain rfl : k = l.length := by omega
        exact ⟨bool_of (dec_true (p := AllLike l.length m.length r) ⟨HL.out, Hr.out.2⟩).symm, Hr.out.1⟩
  · have hlb : ((l.length : Int) != (m.length : Int)) = true := by simp; omega
    have Hn := Lib.hid (dec_false (p := AllLike l.length m.length r) fun h => hlen h.1)
    clear hlen
    go_enter Try.func170, Try.ntmps170
    go_wp2
    go_ret
    exact ⟨bool_of Hn.out.symm, Ext.rfl' w⟩
end Go.Proofs.Ytkpdbceglejbnaa
