/- The marks of a value program. -/
import Derived.Test.YtbddjejpacaglaaGreatDoorVpa
import Derived.Test.YtbddjejpacaglaaGreatDoorKc
namespace Go.Proofs.YtbddjejpacaglaaGreatDoor
open Go.RowKit

set_option maxHeartbeats 800000 in
set_option maxRecDepth 100000 in
theorem markValueOpS_any {w : World} {v : Value} {l : List (Int × Int)} {bs : List Nat} (k : Int) (h : OwnV w v l bs) (hs : l.length ≤ 1048576) (h0 : 0 ≤ k) (h1 : k ≤ 1125899906842624) :
    Calls Tryz.prog 17 #[v, .int .i64 k] w fun e w' => e = .returned (.int .i64 (k + 2 * l.length)) ∧ Chg w w' bs ∧ OwnV w' v (emarks k l.length) bs := by
  have hml := length_emarks k l.length
  obtain ⟨⟨c, hc1, hc2, h⟩, _⟩ := h
  rcases h with ⟨hn, rfl, a, hac, rfl⟩ | ⟨b, m, g, rfl, rfl, ⟨hm, hmc⟩, hrow, hg⟩
  · have HZ := Lib.hid hn
    have HAC := Lib.hid hac
    clear hn hac
    go_enter Tryz.func17, Tryz.ntmps17
    go_wp2
    go_loop [1, 5] (fun t i => i = .int .i64 0 ∧ t = .int .i64 k) (fun _ _ => 0)
    case atStart => exact ⟨rfl, rfl⟩
    case round =>
      obtain ⟨rfl, rfl⟩ := hrel
      go_wp2
      go_ret
      refine ⟨by rw [HZ.out]; simp, Chg.rfl' _ _, ⟨c, by rw [hml]; exact hc1, hc2, .inl ⟨by rw [hml]; exact HZ.out, rfl, a, HAC.out, rfl⟩⟩, fun i hi => absurd hi (by have := HZ.out; omega)⟩
  · unfold maxLen at hc2
    have HMC := Lib.hid hmc
    clear hmc
    have HR := Lib.hid hrow
    clear hrow
    go_enter Tryz.func17, Tryz.ntmps17
    go_wp2
    go_loopg [1, 5] l.length (fun gh t i wr => ∃ j : Nat, j ≤ l.length ∧ gh = l.length - j ∧ i = .int .i64 j ∧ t = .int .i64 (k + 2 * j) ∧ Hid (Chg w wr [b] ∧ wr.rowIs b 59 m (fun i => if i < j * 2 then .int .i64 (k + i) else g i)))
    case atStart => exact ⟨0, Nat.zero_le _, rfl, rfl, by simp, Chg.rfl' _ _, HR.out.congr fun i _ => by simp⟩
    case round =>
      obtain ⟨j, hj, rfl, rfl, rfl, Hr⟩ := hrel
      by_cases hlt : j < l.length
      · obtain ⟨f1, f2, f3, f4⟩ := row_two Hr.out.2 (i := j * 2) (by omega)
        have Hn : Hid (Chg w ((wr.setCell ⟨b, j * 2, none⟩ (.int .i64 (k + 2 * j))).setCell ⟨b, j * 2 + 1, none⟩ (.int .i64 (k + 2 * j + 1))) [b] ∧ ((wr.setCell ⟨b, j * 2, none⟩ (.int .i64 (k + 2 * j))).setCell ⟨b, j * 2 + 1, none⟩ (.int .i64 (k + 2 * j + 1))).rowIs b 59 m (fun i => if i < (j + 1) * 2 then .int .i64 (k + i) else g i)) := by
          refine ⟨(Hr.out.1.store (by simp) _).store (by simp) _, ((Hr.out.2.set (j * 2) _).set (j * 2 + 1) _).congr fun i _ => ?_⟩
          by_cases e : i = j * 2 + 1
          · subst e; rw [if_pos rfl, if_pos (by omega)]; congr 1; omega
          · rw [if_neg e]
            by_cases e' : i = j * 2
            · subst e'; rw [if_pos rfl, if_pos (by omega)]; congr 1; omega
            · rw [if_neg e']
              by_cases hij : i < j * 2
              · rw [if_pos hij, if_pos (by omega)]
              · rw [if_neg hij, if_neg (by omega)]
        go_wp2
        go_roundg (l.length - (j + 1))
        case measure => omega
        case rel => exact ⟨j + 1, by omega, rfl, by go_num, by simp; omega, Hn⟩
      · obtain rfl : j = l.length := by omega
        go_wp2
        go_ret
        refine ⟨rfl, Hr.out.1, ⟨c, by rw [hml]; exact hc1, by unfold maxLen; omega, .inr ⟨b, m, _, rfl, by rw [hml], by rw [hml]; exact ⟨hm, HMC.out⟩, Hr.out.2, fun i hi => ?_⟩⟩, fun i hi => ?_⟩
        · rw [hml] at hi
          rw [ecell_emarks _ _ _ hi, if_pos (by omega)]
        · rw [hml] at hi
          rw [gn_emarks _ _ _ hi, gp_emarks _ _ _ hi]
          exact ⟨⟨by omega, by omega⟩, ⟨by omega, by omega⟩⟩

theorem eqValueOpS_same {w : World} {v1 v2 : Value} {l : List (Int × Int)} (h1 : EndSl w v1 l) (h2 : EndSl w v2 l) : Calls Tryz.prog 15 #[v1, v2] w fun e w' => e = .returned (.bool true) ∧ Ext w w' :=
  (eqValueOpS_any h1 h2).mono fun e w' ⟨he, hx⟩ => ⟨by rw [he]; simp, hx⟩
end Go.Proofs.YtbddjejpacaglaaGreatDoor
