/- The contracts of isBefore and l1Same that say: no cell is touched and no block made. -/
import Derived.Test.YtdoaopeegcakiaaAug
namespace Go.Proofs.Ytdoaopeegcakiaa
open Go.RowKit

def Drewn (w w' : World) : Prop := ∃ m, w' = w.drewN m
theorem Drewn.rfl' (w : World) : Drewn w w := ⟨0, rfl⟩
theorem Drewn.ext {w w' : World} (h : Drewn w w') : Ext w w' := by obtain ⟨m, rfl⟩ := h; exact (Ext.rfl' w).drewN' m
theorem Drewn.drewN' {w w' : World} (h : Drewn w w') (n : Nat) : Drewn w (w'.drewN n) := by obtain ⟨m, rfl⟩ := h; exact ⟨m + n, World.drewN_drewN ..⟩
theorem Drewn.drew' {w w' : World} (h : Drewn w w') : Drewn w w'.drew := by obtain ⟨m, rfl⟩ := h; exact ⟨m + 1, rfl⟩
theorem Calls.quiet_of_drewn {P : Program} {f : FuncId} {args : Array Value} {w : World} {n : Nat} {v : Value}
    (h : Calls P f args (w.drewN n) fun e w' => e = .returned v ∧ Drewn (w.drewN n) w') : Calls P f args (w.drewN n) fun e w'' => e = .returned v ∧ ∃ m, w'' = w.drewN m :=
  Calls.quiet_of h

set_option maxHeartbeats 1600000 in
set_option maxRecDepth 100000 in
theorem isBefore_q {w : World} {v1 v2 : Value} {l1 l2 : List Int} (h1 : IntSl w v1 l1) (h2 : IntSl w v2 l2) :
    Calls Try.prog 80 #[v1, v2] w fun e w' => e = .returned (.bool (before l1 l2)) ∧ Drewn w w' := by
  obtain ⟨a, b, o, c, rfl, ha, hl, hm, hc⟩ := h1
  obtain ⟨a2, b2, o2, c2, rfl, ha2, hl2, hm2, hc2⟩ := h2
  unfold maxLen at hm hm2
  have Ha := Lib.hid ha
  have Ha2 := Lib.hid ha2
  have Hc := Lib.hid hc
  have Hc2 := Lib.hid hc2
  clear ha ha2 hc hc2
  go_enter Try.func80, Try.ntmps80
  go_wp2
  go_loopg [5] l1.length (fun g i wr => ∃ k : Nat, k ≤ l1.length ∧ k ≤ l2.length ∧ g = l1.length - k ∧ i = .int .i64 (k : Int) ∧ Hid (Drewn w wr ∧ ∀ j, j < k → gi l1 j = gi l2 j))
  case atStart => exact ⟨0, Nat.zero_le _, Nat.zero_le _, rfl, rfl, Drewn.rfl' _, fun j hj => absurd hj (by omega)⟩
  case round =>
    obtain ⟨k, hk1, hk2, rfl, rfl, Hr⟩ := hrel
    by_cases x1 : k < l1.length
    · by_cases x2 : k < l2.length
      · obtain ⟨_, r1, rfl, _⟩ := Hc.out k x1
        obtain ⟨_, r2, rfl, _⟩ := Hc2.out k x2
        obtain rfl := Ha.out (by omega)
        obtain rfl := Ha2.out (by omega)
        have r1' := Hr.out.1.ext.cell' r1
        have r2' := Hr.out.1.ext.cell' r2
        clear r1 r2
        by_cases e : gi l1 k = gi l2 k
        · have e1 : (gi l1 k != gi l2 k) = false := by simp [e]
          have HE := Lib.hid e
          clear e
          go_wp2
          go_quiet (fail)
          go_wp2
          go_roundg (l1.length - (k + 1))
          case measure => omega
          case rel =>
            refine ⟨k + 1, by omega, by omega, rfl, by go_num, Hr.out.1.drewN' _, fun j hj => ?_⟩
            by_cases ej : j = k
            · subst ej; exact HE.out
            · exact Hr.out.2 j (by omega)
        · have e1 : (gi l1 k != gi l2 k) = true := by simp [e]
          have HB := Lib.hid (before_at x1 x2 Hr.out.2 e)
          clear e
          go_wp2
          go_quiet (fail)
          go_wp2
          go_quiet (fail)
          go_wp2
          go_ret
          exact ⟨bool_ofw HB.out.symm, (Hr.out.1.drewN' _).drewN' _⟩
      · have HB := Lib.hid (before_end (by omega) (by omega) (.inr (by omega)) Hr.out.2)
        go_wp2
        go_ret
        exact ⟨bool_ofw (by rw [HB.out]), Hr.out.1⟩
    · have HB := Lib.hid (before_end (by omega) (by omega) (.inl (by omega)) Hr.out.2)
      go_wp2
      go_ret
      exact ⟨bool_ofw (by rw [HB.out]), Hr.out.1⟩

set_option maxHeartbeats 400000 in
set_option maxRecDepth 100000 in
theorem l1Same_q {w : World} {v1 v2 : Value} {l1 l2 : List Int} (h1 : IntSl w v1 l1) (h2 : IntSl w v2 l2) :
    Calls Try.prog 46 #[v1, v2] w fun e w' => e = .returned (.bool (decide (l1 = l2))) ∧ Drewn w w' := by
  obtain ⟨a1, b1, o1, c1, rfl, ha1, hl1, hm1, hc1⟩ := h1
  obtain ⟨a2, b2, o2, c2, rfl, ha2, hl2, hm2, hc2⟩ := h2
  unfold maxLen at hm1 hm2
  have Hc1 := Lib.hid hc1
  have Ha1 := Lib.hid ha1
  have Hc2 := Lib.hid hc2
  have Ha2 := Lib.hid ha2
  clear hc1 ha1 hc2 ha2
  by_cases hn : l1.length = l2.length
  · have Hn := Lib.hid hn
    have hnb : ((l1.length : Int) != (l2.length : Int)) = false := by simp; omega
    clear hn
    go_enter Try.func46, Try.ntmps46
    go_wp2
    go_loopg [13] l1.length (fun g i wr => ∃ k : Nat, k ≤ l1.length ∧ g = l1.length - k ∧ i = .int .i64 k ∧ Hid (Drewn w wr ∧ ∀ j, j < k → gi l1 j = gi l2 j))
    case atStart => exact ⟨0, Nat.zero_le _, rfl, rfl, Drewn.rfl' w, fun j hj => absurd hj (by omega)⟩
    case round =>
      obtain ⟨k, hk, rfl, rfl, Hr⟩ := hrel
      by_cases hlt : k < l1.length
      · have hlt2 : k < l2.length := by have := Hn.out; omega
        obtain ⟨x1, hc1, rfl, _⟩ := Hc1.out k hlt
        obtain ⟨x2, hc2, rfl, _⟩ := Hc2.out k hlt2
        obtain rfl := Ha1.out (by omega)
        obtain rfl := Ha2.out (by omega)
        have q1 := Hr.out.1.ext.cell' hc1
        have q2 := Hr.out.1.ext.cell' hc2
        clear hc1 hc2
        by_cases he : gi l1 k = gi l2 k
        · have heb : (gi l1 k != gi l2 k) = false := by simp [he]
          have He := Lib.hid he
          clear he
          go_wp2
          go_region_held3 (fun w' => w'.cell? ⟨b1, o1 + k, none⟩ = some (.int .i64 (gi l1 k)) ∧ w'.cell? ⟨b2, o2 + k, none⟩ = some (.int .i64 (gi l2 k))) (go_keep) (fail)
          go_wp2
          go_roundg (l1.length - (k + 1))
          case measure => omega
          case rel =>
            refine ⟨k + 1, by omega, rfl, by go_num, Hr.out.1.drew', fun j hj => ?_⟩
            by_cases e : j = k
            · subst e; exact He.out
            · exact Hr.out.2 j (by omega)
        · have heb : (gi l1 k != gi l2 k) = true := by simp [he]
          go_wp2
          go_region_held3 (fun w' => w'.cell? ⟨b1, o1 + k, none⟩ = some (.int .i64 (gi l1 k)) ∧ w'.cell? ⟨b2, o2 + k, none⟩ = some (.int .i64 (gi l2 k))) (go_keep) (fail)
          go_wp2
          go_ret
          exact ⟨ret_bool (by rw [eq_comm, decide_eq_false_iff_not]; intro e; exact he (by rw [e])), Hr.out.1.drew'⟩
      · go_wp2
        go_ret
        obtain rfl : k = l1.length := by omega
        exact ⟨ret_bool (by rw [eq_comm, decide_eq_true_iff]; exact ints_eq Hn.out Hr.out.2), Hr.out.1⟩
  · have hnb : ((l1.length : Int) != (l2.length : Int)) = true := by simp; omega
    go_enter Try.func46, Try.ntmps46
    go_wp2
    go_ret
    exact ⟨ret_bool (by rw [eq_comm, decide_eq_false_iff_not]; intro e; exact hn (by rw [e])), Drewn.rfl' w⟩
theorem isBefore_quiet {w : World} {v1 v2 : Value} {l1 l2 : List Int} {n : Nat} {b : Bool} (h1 : IntSl w v1 l1) (h2 : IntSl w v2 l2) (hb : before l1 l2 = b) :
    Calls Try.prog 80 #[v1, v2] (w.drewN n) fun e w'' => e = .returned (.bool b) ∧ ∃ m, w'' = w.drewN m := by
  subst hb
  exact Calls.quiet_of_drewn (isBefore_q (h1.ext ((Ext.rfl' _).drewN' _)) (h2.ext ((Ext.rfl' _).drewN' _)))
theorem l1Same_quiet {w : World} {v1 v2 : Value} {l1 l2 : List Int} {n : Nat} {b : Bool} (h1 : IntSl w v1 l1) (h2 : IntSl w v2 l2) (hb : decide (l1 = l2) = b) :
    Calls Try.prog 46 #[v1, v2] (w.drewN n) fun e w'' => e = .returned (.bool b) ∧ ∃ m, w'' = w.drewN m := by
  subst hb
  exact Calls.quiet_of_drewn (l1Same_q (h1.ext ((Ext.rfl' _).drewN' _)) (h2.ext ((Ext.rfl' _).drewN' _)))
end Go.Proofs.Ytdoaopeegcakiaa
