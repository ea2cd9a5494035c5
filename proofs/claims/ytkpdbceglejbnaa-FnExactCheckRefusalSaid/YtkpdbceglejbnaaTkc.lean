/- slices.IndexFunc and slices.Index over ints, countBetween, firstAlone. -/
import Derived.Test.YtkpdbceglejbnaaTkb
import Derived.Test.YtkpdbceglejbnaaCfbq
import Derived.Shelf.Abstract
namespace Go.Proofs.Ytkpdbceglejbnaa
open Go.RowKit

theorem ret_iT {a b : Int} (h : a = b) : Ending.returned (.int .i64 a) = .returned (.int .i64 b) := by rw [h]

set_option maxHeartbeats 1600000 in
set_option maxRecDepth 100000 in
theorem indexFuncI_any (K : Nat) (caps : Array Value) (eg : ∀ args w, (callFunc K args).run Try.prog w = .ok (.enter K args) w) (p : Nat → Bool) {w : World} {v : Value} {l : List Int} (h : IntSl w v l) (h6 : l.length ≤ 1048576)
    (hs : ∀ W, Ext w W → ∀ i : Nat, i < l.length → Calls Try.prog K (#[.int .i64 (gi l i)] ++ caps) W fun e w' => e = .returned (.bool (p i)) ∧ Ext W w') :
    Calls Try.prog 163 #[v, .func (.func K) #[] caps] w fun e w' => e = .returned (.int .i64 (ixP p l.length)) ∧ Ext w w' := by
  have HS := Lib.hid hs
  obtain ⟨a, b, o, c, rfl, ha, hl, hm, hc⟩ := h
  unfold maxLen at hm
  have HA := Lib.hid ha
  have HC := Lib.hid hc
  clear hs ha hc
  obtain ⟨n, hnn⟩ : ∃ n, n = l.length := ⟨_, rfl⟩
  have HNN := Lib.hid hnn
  rw [← hnn] at h6 hl HA HC HS ⊢
  clear hnn
  go_enter Try.func163, Try.ntmps163
  go_wp2
  go_loopg [8] n (fun g i wr => ∃ k : Nat, k ≤ n ∧ g = n - k ∧ i = .int .i64 k ∧ Hid (Ext w wr ∧ ∀ j, j < k → p j = false))
  case atStart => exact ⟨0, Nat.zero_le _, rfl, rfl, Ext.rfl' w, fun j hj => absurd hj (by omega)⟩
  case round =>
    obtain ⟨k, hk, rfl, rfl, Hr⟩ := hrel
    by_cases hlt : k < n
    · obtain rfl := HA.out (by omega)
      obtain ⟨y, f1, rfl, -⟩ := HC.out k hlt
      have s1 := Hr.out.1.cell' f1
      have cS := HS.out _ Hr.out.1 k hlt
      obtain ⟨x, hx⟩ : ∃ x, x = gi l k := ⟨_, rfl⟩
      rw [← hx] at s1 cS
      clear f1 hx
      cases hsp : p k <;> rw [hsp] at cS
      · have Hsp := Lib.hid hsp
        clear hsp
        go_wp2_with (go_at_fn K; refine cS.mono ?_; rintro e W' ⟨rfl, hx⟩; have HY := Lib.hid hx; clear hx)
        go_roundg (n - (k + 1))
        case measure => omega
        case rel =>
          refine ⟨k + 1, by omega, rfl, by go_num, Hr.out.1.trans' HY.out, fun j hj => ?_⟩
          by_cases e : j = k
          · subst e; exact Hsp.out
          · exact Hr.out.2 j (by omega)
      · have HI := Lib.hid (show ixP p n = (k : Int) from ixP_hit Hr.out.2 hsp n hlt)
        clear hsp
        go_wp2_with (go_at_fn K; refine cS.mono ?_; rintro e W' ⟨rfl, hx⟩; have HY := Lib.hid hx; clear hx)
        go_ret
        exact ⟨ret_iT HI.out.symm, Hr.out.1.trans' HY.out⟩
    · obtain rfl : k = n := by omega
      have HI := Lib.hid (show ixP p k = -1 from ixP_none k Hr.out.2)
      go_wp2
      go_ret
      exact ⟨ret_iT HI.out.symm, Hr.out.1⟩

set_option maxHeartbeats 800000 in
set_option maxRecDepth 100000 in
theorem cntBetween_any {w : World} {v : Value} {l : List Int} (h : IntSl w v l) (hs : l.length ≤ 1048576) (lo hi : Int) :
    Calls Try.prog 165 #[v, .int .i64 lo, .int .i64 hi] w fun e w' => e = .returned (.int .i64 (cbT l lo hi l.length : Int)) ∧ w = w' := by
  obtain ⟨a, b, o, c, rfl, ha, hl, hm, hc⟩ := h
  unfold maxLen at hm
  have Hc := Lib.hid hc
  have Ha := Lib.hid ha
  clear hc ha
  obtain ⟨n, hn⟩ : ∃ n, n = l.length := ⟨_, rfl⟩
  have HN := Lib.hid hn
  rw [← hn] at hl hs ⊢
  clear hn
  go_enter Try.func165, Try.ntmps165
  go_wp2
  go_loopg [7, 12] n (fun g d i wr => ∃ k : Nat, k ≤ n ∧ g = n - k ∧ d = .int .i64 (cbT l lo hi k : Int) ∧ i = .int .i64 (k : Int) ∧ w = wr)
  case atStart => exact ⟨0, Nat.zero_le _, rfl, rfl, rfl, rfl⟩
  case round =>
    obtain ⟨k, hk, rfl, rfl, rfl, rfl⟩ := hrel
    have hle := cbT_le l lo hi k
    by_cases hlt : k < n
    · obtain ⟨x, hx, rfl, _⟩ := Hc.out k (by have := HN.out; omega)
      obtain rfl := Ha.out (by have := HN.out; omega)
      by_cases hb : InB (gi l k) lo hi
      · have E := Lib.hid (dec_true hb)
        have HS := Lib.hid (show cbT l lo hi (k + 1) = cbT l lo hi k + 1 from if_pos hb)
        clear hb
        go_wp2_with (go_at_call 140; (with_reducible refine (isBetween_anyV _ _ _ _).mono ?_); rintro e _ ⟨rfl, rfl⟩; rw [E.out])
        go_roundg (n - (k + 1))
        case measure => omega
        case rel => exact ⟨k + 1, by omega, rfl, by rw [HS.out]; go_num, by go_num, rfl⟩
      · have E := Lib.hid (dec_false hb)
        have HS := Lib.hid (show cbT l lo hi (k + 1) = cbT l lo hi k from if_neg hb)
        clear hb
        go_wp2_with (go_at_call 140; (with_reducible refine (isBetween_anyV _ _ _ _).mono ?_); rintro e _ ⟨rfl, rfl⟩; rw [E.out])
        go_roundg (n - (k + 1))
        case measure => omega
        case rel => exact ⟨k + 1, by omega, rfl, by rw [HS.out], by go_num, rfl⟩
    · obtain rfl : k = n := by omega
      go_wp2
      go_ret
      exact ⟨rfl, rfl⟩

theorem enters_alone (args : Array Value) (w : World) : (callFunc 164 args).run Try.prog w = .ok (.enter 164 args) w := enters_of Try.func164 (by kernel_rfl) rfl args w

set_option maxHeartbeats 800000 in
set_option maxRecDepth 100000 in
theorem aloneClosure_any {W : World} {c : List Int} {vc : Value} {p v : Nat} (h : W.cell? ⟨p, 0, none⟩ = some vc) (hc : IntSl W vc c) (h6 : c.length ≤ 1048576) (hv : v < c.length) :
    Calls Try.prog 164 (#[.int .i64 (gi c v)] ++ #[.pointer (some ⟨p, 0, none⟩)]) W fun e w' => e = .returned (.bool (dec (Alone c v))) ∧ Ext W w' := by
  have HC := Lib.hid hc
  clear hc
  have hn : (((cbT c (gi c v) (gi c v) c.length : Nat) : Int) == 1) = dec (Alone c v) := by
    by_cases e : Alone c v
    · rw [dec_true e, (alone_cb hv).1 e]; rfl
    · rw [dec_false e]
      have : cbT c (gi c v) (gi c v) c.length ≠ 1 := fun k => e ((alone_cb hv).2 k)
      simp; omega
  have HN0 := Lib.hid hn
  clear hn
  go_enter Try.func164, Try.ntmps164
  go_wp2_with (go_at_call 165; (with_reducible refine (cntBetween_any HC.out h6 _ _).mono ?_); rintro e _ ⟨rfl, rfl⟩)
  go_ret
  exact ⟨ret_bool HN0.out, Ext.rfl' _⟩

set_option maxHeartbeats 800000 in
set_option maxRecDepth 100000 in
theorem firstAlone_any {w : World} {v : Value} {c : List Int} (h : IntSl w v c) (h6 : c.length ≤ 1048576) :
    Calls Try.prog 119 #[v] w fun e w' => e = .returned (.int .i64 (alV c)) ∧ Ext w w' := by
  have HC := Lib.hid h
  obtain ⟨a, b, o, d, rfl, -, -, -, -⟩ := h
  have HX := Lib.hid ((Ext.rfl' w).alloc' (.cells #[.slice a c.length d] 26))
  have hb : (w.alloc (.cells #[.slice a c.length d] 26)).cell? ⟨w.heap.size, 0, none⟩ = some (.slice a c.length d) := by simp
  have HB := Lib.hid hb
  have CA := Lib.hid (indexFuncI_any 164 #[.pointer (some ⟨w.heap.size, 0, none⟩)] enters_alone (fun v => dec (Alone c v)) (HC.out.ext HX.out) h6
    fun W hW i hi => aloneClosure_any (hW.cell' HB.out) (HC.out.ext (HX.out.trans' hW)) h6 hi)
  go_enter Try.func119, Try.ntmps119
  go_wp2_with (go_at_call 163; (with_reducible refine CA.out.mono ?_); rintro e w1 ⟨rfl, hx⟩; have K := Lib.hid (HX.out.trans' hx); clear hx)
  go_ret
  exact ⟨ret_iT (ix_alone c), K.out⟩
end Go.Proofs.Ytkpdbceglejbnaa
