/- The contracts of nePerm and isPermutation. -/
import Derived.Test.YtdcgpodjoalokaaPerm
namespace Go.Proofs.Ytdcgpodjoalokaa
open Go.RowKit

set_option maxHeartbeats 800000 in
set_option maxRecDepth 100000 in
theorem nePerm_any {w : World} {v : Value} {l : List Int} (n : Nat) (hn20 : n ≤ 1048576) (h : IntSl w v l) : Calls Try.prog 114 #[v, .int .i64 n] w fun e w' => e = .returned (.bool (dec (PermOK l n))) ∧ w = w' := by
  have HI := Lib.hid h
  obtain ⟨a, b, o, c, rfl, ha, hl, hm, hc⟩ := h
  unfold maxLen at hm
  have Hc := Lib.hid hc
  have Ha := Lib.hid ha
  clear hc ha
  go_enter Try.func114, Try.ntmps114
  go_wp2
  go_loop [9] (fun i => ∃ k : Nat, k ≤ l.length ∧ i = .int .i64 k ∧ Hid (∀ j, j < k → PermAt l n j)) (fun i => l.length - (intOf i).toNat)
  case atStart => exact ⟨0, Nat.zero_le _, rfl, fun j hj => absurd hj (by omega)⟩
  case round =>
    obtain ⟨k, hk, rfl, Hr⟩ := hrel
    by_cases hlt : k < l.length
    · obtain ⟨y, hc, rfl, _⟩ := Hc.out k hlt
      obtain rfl := Ha.out (by omega)
      by_cases he : InB (gi l k) 0 ((n : Int) - 1)
      · have Heb := Lib.hid (dec_true he)
        have He := Lib.hid he
        clear he
        by_cases hh : Has (l.take k) (gi l k)
        · have Hhb := Lib.hid (dec_true hh)
          have Hh := Lib.hid hh
          clear hh
          go_wp2_with (first | (go_at_call 93; (with_reducible refine (l1In_any _ _ _ _).mono ?_); rintro e w' ⟨rfl, rfl⟩; rw [Heb.out]) | (go_at_call 108; (with_reducible refine (l1Has_any _ (HI.out.take hk)).mono ?_); rintro e w' ⟨rfl, rfl⟩; rw [Hhb.out]))
          go_ret
          exact ⟨ret_f (fun h => (h.2 k hlt).2 Hh.out), rfl⟩
        · have Hhb := Lib.hid (dec_false hh)
          have Hh := Lib.hid hh
          clear hh
          go_wp2_with (first | (go_at_call 93; (with_reducible refine (l1In_any _ _ _ _).mono ?_); rintro e w' ⟨rfl, rfl⟩; rw [Heb.out]) | (go_at_call 108; (with_reducible refine (l1Has_any _ (HI.out.take hk)).mono ?_); rintro e w' ⟨rfl, rfl⟩; rw [Hhb.out]))
          go_round
          case rel =>
            refine ⟨k + 1, by omega, by go_num, fun j hj => ?_⟩
            by_cases e : j = k
            · subst e; exact ⟨He.out, Hh.out⟩
            · exact Hr.out j (by omega)
          case measure => simp [intOf]; omega
      · have Heb := Lib.hid (dec_false he)
        have He := Lib.hid he
        clear he
        go_wp2_with (first | (go_at_call 93; (with_reducible refine (l1In_any _ _ _ _).mono ?_); rintro e w' ⟨rfl, rfl⟩; rw [Heb.out]))
        go_ret
        exact ⟨ret_f (fun h => He.out (h.2 k hlt).1), rfl⟩
    · obtain rfl : k = l.length := by omega
      by_cases hn : l.length = n
      · have hnb : ((l.length : Int) == (n : Int)) = true := beq_iff_eq.2 (by omega)
        have Hn := Lib.hid hn
        clear hn
        go_wp2
        go_ret
        exact ⟨ret_t ⟨Hn.out, Hr.out⟩, rfl⟩
      · have hnb : ((l.length : Int) == (n : Int)) = false := beq_eq_false_iff_ne.2 (by omega)
        have Hn := Lib.hid hn
        clear hn
        go_wp2
        go_ret
        exact ⟨ret_f (fun h => Hn.out h.1), rfl⟩

set_option maxHeartbeats 1600000 in
set_option maxRecDepth 100000 in
theorem isPermutation_any {w : World} {v : Value} {l : List Int} (n : Nat) (hn20 : n ≤ 1048576) (h : IntSl w v l) : Calls Try.prog 156 #[v, .int .i64 n] w fun e w' => e = .returned (.bool (dec (PermOK l n))) ∧ Ext w w' := by
  obtain ⟨a, b, o, c, rfl, ha, hl, hm, hc⟩ := h
  unfold maxLen at hm
  have Hc := Lib.hid hc
  have Ha := Lib.hid ha
  clear hc ha
  by_cases hn : l.length = n
  · have hnb : ((l.length : Int) != (n : Int)) = false := by simp; omega
    have Hn := Lib.hid hn
    have hmk := run_make_row' (P := Try.prog) 188 4 (.bool false) 1 Try.underlying188 Try.info4 rfl .i64 .i64 n (by omega) (by omega)
    clear hn
    go_enter Try.func156, Try.ntmps156
    go_wp2
    clear hmk
    go_loopg [16] l.length (fun g i wr => ∃ k : Nat, k ≤ l.length ∧ g = l.length - k ∧ i = .int .i64 k ∧ Hid (Ext w wr ∧ wr.rowIs w.heap.size 4 n (seenRow l k) ∧ ∀ j, j < k → PermAt l n j))
    case atStart => exact ⟨0, Nat.zero_le _, rfl, rfl, (Ext.rfl' w).alloc' _, (World.rowIs_made w _ _ _).congr fun i _ => by unfold seenRow; rw [dec_false]; rintro ⟨j, h, _⟩; simp at h, fun j hj => absurd hj (by omega)⟩
    case round =>
      obtain ⟨k, hk, rfl, rfl, Hr⟩ := hrel
      by_cases hlt : k < l.length
      · obtain ⟨y, hc, rfl, _⟩ := Hc.out k hlt
        obtain rfl := Ha.out (by omega)
        have hcell := Hr.out.1.cell' hc
        clear hc
        by_cases he : InB (gi l k) 0 ((n : Int) - 1)
        · obtain ⟨y, hy⟩ := Int.eq_ofNat_of_zero_le he.1
          have hyn : y < n := by have := he.2; omega
          have He := Lib.hid he
          have Hy := Lib.hid hy
          rw [hy] at hcell
          have f1 := Hr.out.2.1.cell hyn
          have f2 := Hr.out.2.1.frozen y
          clear he hy
          by_cases hh : Has (l.take k) (gi l k)
          · have e1 : seenRow l k y = .bool true := by unfold seenRow; rw [dec_true]; rw [← Hy.out]; exact hh
            rw [e1] at f1
            have Hh := Lib.hid hh
            clear hh e1
            go_wp2
            go_ret
            exact ⟨ret_f (fun h => (h.2 k hlt).2 Hh.out), Hr.out.1⟩
          · have e1 : seenRow l k y = .bool false := by unfold seenRow; rw [dec_false]; rw [← Hy.out]; exact hh
            rw [e1] at f1
            have Hh := Lib.hid hh
            have HS := Lib.hid (seen_step hlt Hy.out Hr.out.2.1)
            clear hh e1
            go_wp2
            go_roundg (l.length - (k + 1))
            case measure => omega
            case rel =>
              refine ⟨k + 1, by omega, rfl, by go_num, Hr.out.1.store (Nat.le_refl _) _, HS.out, fun j hj => ?_⟩
              by_cases e : j = k
              · subst e; exact ⟨He.out, Hh.out⟩
              · exact Hr.out.2.2 j (by omega)
        · have He := Lib.hid he
          by_cases hneg : gi l k < 0
          · clear he
            go_wp2
            go_ret
            exact ⟨ret_f (fun h => He.out (h.2 k hlt).1), Hr.out.1⟩
          · have hge : (n : Int) ≤ gi l k := by unfold InB at he; omega
            clear he
            go_wp2
            go_ret
            exact ⟨ret_f (fun h => He.out (h.2 k hlt).1), Hr.out.1⟩
      · obtain rfl : k = l.length := by omega
        go_wp2
        go_ret
        exact ⟨ret_t ⟨Hn.out, Hr.out.2.2⟩, Hr.out.1⟩
  · have hnb : ((l.length : Int) != (n : Int)) = true := by simp; omega
    go_enter Try.func156, Try.ntmps156
    go_wp2
    go_ret
    exact ⟨ret_f (fun h => hn h.1), Ext.rfl' w⟩
end Go.Proofs.Ytdcgpodjoalokaa
