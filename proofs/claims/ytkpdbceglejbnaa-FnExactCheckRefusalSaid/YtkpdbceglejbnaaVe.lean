/- The contract of numberClasses, for any function value that says which numbers are alike. -/
import Derived.Test.YtkpdbceglejbnaaVc
import Derived.Shelf.Abstract
namespace Go.Proofs.Ytkpdbceglejbnaa
open Go.RowKit

theorem num_new {same : Nat → Nat → Bool} {v : Nat} (h : firstOf same v = v) : gi (num same (v + 1)) v = (cnt same v : Int) ∧ cnt same (v + 1) = cnt same v + 1 := ⟨cl_rep h, (num_succ_rep h).2⟩
theorem num_dup {same : Nat → Nat → Bool} {u v : Nat} (h : firstOf same v = u) (hu : u < v) : gi (num same (v + 1)) v = gi (num same v) u ∧ cnt same (v + 1) = cnt same v := by
  have e : firstOf same v ≠ v := by omega
  refine ⟨?_, (num_succ_old e).2⟩
  rw [(num_succ_old e).1, gi_app, if_neg (by rw [num_len]; omega), num_len, Nat.sub_self, h]; rfl
theorem num_fill {w : World} {b v n : Nat} {same : Nat → Nat → Bool} (h : w.rowIs b 3 n (copied (num same v) v)) :
    (w.setCell ⟨b, v, none⟩ (.int .i64 (gi (num same (v + 1)) v))).rowIs b 3 n (copied (num same (v + 1)) (v + 1)) :=
  (h.set v _).congr fun i _ => by
    simp only [copied]
    by_cases e : i = v
    · subst e; simp
    · rw [if_neg e]
      by_cases hlt : i < v
      · rw [if_pos hlt, if_pos (by omega), num_old hlt]
      · rw [if_neg hlt, if_neg (by omega)]

set_option maxHeartbeats 1600000 in
set_option maxRecDepth 100000 in
theorem numberClasses_any (K : Nat) (caps : Array Value) (eg : ∀ args w, (callFunc K args).run Try.prog w = .ok (.enter K args) w) (n : Nat) (hn : n ≤ 1048576) (same : Nat → Nat → Bool) {w : World}
    (hs : ∀ W, Ext w W → ∀ u v : Nat, u < v → v < n → Calls Try.prog K (#[.int .i64 u, .int .i64 v] ++ caps) W fun e w' => e = .returned (.bool (same u v)) ∧ Ext W w') :
    Calls Try.prog 124 #[.int .i64 n, .func (.func K) #[] caps] w fun e w' =>
      e = .returned (.slice (some ⟨w.heap.size, 0, none⟩) n n) ∧ Ext w w' ∧ w.heap.size < w'.heap.size ∧ w'.rowIs w.heap.size 3 n (copied (num same n) n) := by
  have hmk := run_make_row' (P := Try.prog) 26 3 (.int .i64 0) 8 Try.underlying26 Try.info3 rfl .i64 .i64 n (by omega) (by omega)
  have HS := Lib.hid hs
  clear hs
  go_enter Try.func124, Try.ntmps124
  go_wp2
  clear hmk
  go_loopg [6, 13] n (fun g c i wr => ∃ v : Nat, v ≤ n ∧ g = n - v ∧ c = .int .i64 (cnt same v) ∧ i = .int .i64 v ∧ Hid (Ext w wr ∧ w.heap.size < wr.heap.size ∧ wr.rowIs w.heap.size 3 n (copied (num same v) v)))
  case atStart => exact ⟨0, Nat.zero_le _, rfl, rfl, rfl, (Ext.rfl' w).alloc' _, by simp, (World.rowIs_made w _ _ _).congr fun i _ => by simp [copied]⟩
  case round =>
    obtain ⟨v, hv, rfl, rfl, rfl, Hr⟩ := hrel
    by_cases hlt : v < n
    · go_wp2
      have hw0 : ∃ wo : World, wo = wr := ⟨_, rfl⟩
      obtain ⟨wo, rfl⟩ := hw0
      go_loopg [8] (v + 1) (fun g f wx => ∃ u : Nat, u ≤ v ∧ g = v + 1 - u ∧ f = .int .i64 u ∧ Hid ((∀ k, k < u → same k v = false) ∧ Ext w wx ∧ w.heap.size < wx.heap.size ∧ wx.rowIs w.heap.size 3 n (copied (num same v) v)))
      case atStart => exact ⟨0, Nat.zero_le _, rfl, rfl, fun k hk => absurd hk (by omega), Hr.out⟩
      case round =>
        obtain ⟨u, hu, rfl, rfl, Hs⟩ := hrel
        by_cases hut : u < v
        · have cS := HS.out wr Hs.out.2.1 u v hut hlt
          have hne : ((u : Int) == (v : Int)) = false := by simp; omega
          cases hsp : same u v <;> rw [hsp] at cS
          · have Hsp := Lib.hid hsp
            clear hsp
            go_wp2_with (go_at_fn K; refine cS.mono ?_; rintro e W' ⟨rfl, hx⟩; have HX := Lib.hid hx; clear hx)
            go_roundg (v + 1 - (u + 1))
            case measure => omega
            case rel =>
              refine ⟨u + 1, by omega, rfl, by go_num, fun k hk => ?_, Hs.out.2.1.trans' HX.out, Nat.lt_of_lt_of_le Hs.out.2.2.1 HX.out.size, row_ext Hs.out.2.2.2 HX.out⟩
              by_cases e : k = u
              · subst e; exact Hsp.out
              · exact Hs.out.1 k (by omega)
          · have Hsp := Lib.hid hsp
            clear hsp
            have D := Lib.hid (num_dup (same := same) (firstOf_eq (Nat.le_of_lt hut) Hs.out.1 fun _ => Hsp.out) hut)
            go_wp2_with (go_at_fn K; refine cS.mono ?_; rintro e W' ⟨rfl, hx⟩; have hrow := row_ext Hs.out.2.2.2 hx; have hcu := (hrow.cell (show u < n by omega)).trans (show some (copied (num same v) v u) = some (.int .i64 (gi (num same v) u)) by simp [copied, hut]); have hcv := hrow.cell hlt; have hfr := hrow.frozen v; have Hrow := Lib.hid hrow; have HX := Lib.hid hx; clear hx hrow)
            go_roundg (n - (v + 1))
            case measure => omega
            case rel => exact ⟨v + 1, by omega, rfl, by rw [D.out.2], by go_num, (Hs.out.2.1.trans' HX.out).store (Nat.le_refl _) _, by simpa using Nat.lt_of_lt_of_le Hs.out.2.2.1 HX.out.size, by rw [← D.out.1]; exact num_fill Hrow.out⟩
        · obtain rfl : u = v := by omega
          have D := Lib.hid (num_new (same := same) (firstOf_eq (Nat.le_refl _) Hs.out.1 fun h => absurd h (by omega)))
          have hcl := cnt_le same u
          have hrow := Hs.out.2.2.2
          have hcv := hrow.cell hlt
          have hfr := hrow.frozen u
          clear hrow
          go_wp2
          go_roundg (n - (u + 1))
          case measure => omega
          case rel => exact ⟨u + 1, by omega, rfl, by rw [D.out.2]; go_num, by go_num, Hs.out.2.1.store (Nat.le_refl _) _, by simpa using Hs.out.2.2.1, by rw [← D.out.1]; exact num_fill Hs.out.2.2.2⟩
    · go_wp2
      go_ret
      obtain rfl : v = n := by omega
      exact ⟨rfl, Hr.out⟩
end Go.Proofs.Ytkpdbceglejbnaa
