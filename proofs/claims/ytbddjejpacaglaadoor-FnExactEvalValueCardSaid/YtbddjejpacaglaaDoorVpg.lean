/- The program's IsValueProgram, NeedsIds, NeedsRound. -/
import Derived.Test.YtbddjejpacaglaaDoorVpf
namespace Go.Proofs.YtbddjejpacaglaaDoor
open Go.RowKit

theorem isValueProgram_any {w : World} {v : Value} {l : List (Int × Int)} (h : EndSl w v l) (hP : Pw w) :
    Calls Tryd.prog 10 #[v] w fun e w' => e = .returned (.bool (dec (ProgOK l))) ∧ Ext w w' := by
  go_enter Tryd.func10, Tryd.ntmps10
  go_wp2_with (go_at_call 22; (with_reducible refine (rulesOf_any h hP).mono ?_); rintro e w1 ⟨rv, rfl, hx, -⟩; have HX := Lib.hid hx; clear hx)
  go_ret
  exact ⟨rfl, HX.out⟩

set_option maxHeartbeats 800000 in
set_option maxRecDepth 100000 in
theorem hasKind1_any (x y c : Int) (b : Nat) {w : World} (h : w.cell? ⟨b, 0, none⟩ = some (.int .i64 c)) :
    Calls Tryd.prog 35 #[.agg #[.int .i64 x, .int .i64 y], .pointer (some ⟨b, 0, none⟩)] w fun e w' => e = .returned (.bool (x == c)) ∧ Ext w w' := by
  have HX := Lib.hid ((Ext.rfl' w).alloc' (.cells #[.int .i64 x, .int .i64 y] 38))
  have h' := HX.out.cell' h
  clear h
  go_enter Tryd.func35, Tryd.ntmps35
  go_wp2
  go_ret
  exact ⟨rfl, HX.out⟩

set_option maxHeartbeats 1600000 in
set_option maxRecDepth 100000 in
theorem indexFuncO_any (K : Nat) (caps : Array Value) (eg : ∀ args w, (callFunc K args).run Tryd.prog w = .ok (.enter K args) w) (r : Nat → Bool) {w : World} {v : Value} {l : List (Int × Int)} (h : EndSl w v l)
    (hs : ∀ W, Ext w W → ∀ k : Nat, k < l.length → Calls Tryd.prog K (#[.agg #[.int .i64 (gn l k), .int .i64 (gp l k)]] ++ caps) W fun e w' => e = .returned (.bool (r k)) ∧ Ext W w') :
    Calls Tryd.prog 45 #[v, .func (.func K) #[] caps] w fun e w' => e = .returned (.int .i64 (fstP r l.length)) ∧ Ext w w' := by
  obtain ⟨a, b, o, c, rfl, ha, h3, h4, hc⟩ := h
  unfold maxLen at h4
  have Hc := Lib.hid hc
  have Ha := Lib.hid ha
  have HS := Lib.hid hs
  clear hc ha hs
  go_enter Tryd.func45, Tryd.ntmps45
  go_wp2
  go_loopg [8] l.length (fun g i wr => ∃ k : Nat, k ≤ l.length ∧ g = l.length - k ∧ i = .int .i64 (k : Int) ∧ Hid (Ext w wr ∧ ∀ j, j < k → r j = false))
  case atStart => exact ⟨0, Nat.zero_le _, rfl, rfl, Ext.rfl' w, fun j hj => absurd hj (by omega)⟩
  case round =>
    obtain ⟨k, hk, rfl, rfl, Hr⟩ := hrel
    by_cases hlt : k < l.length
    · obtain ⟨q1, q2, -, -⟩ := Hc.out k hlt
      obtain rfl := Ha.out (by omega)
      have s1 := Hr.out.1.cell' q1
      have s2 := Hr.out.1.cell' q2
      clear q1 q2
      have cS := HS.out _ Hr.out.1 k hlt
      cases hsp : r k <;> rw [hsp] at cS
      · have Hsp := Lib.hid hsp
        clear hsp
        go_wp2_with (go_at_fn K; refine cS.mono ?_; rintro e W' ⟨rfl, hx⟩; have HY := Lib.hid hx; clear hx)
        go_roundg (l.length - (k + 1))
        case measure => omega
        case rel =>
          refine ⟨k + 1, by omega, rfl, by go_num, Hr.out.1.trans' HY.out, fun j hj => ?_⟩
          by_cases e : j = k
          · subst e; exact Hsp.out
          · exact Hr.out.2 j (by omega)
      · have HI := Lib.hid (show fstP r l.length = (k : Int) from fstP_hit Hr.out.2 hsp l.length hlt)
        clear hsp
        go_wp2_with (go_at_fn K; refine cS.mono ?_; rintro e W' ⟨rfl, hx⟩; have HY := Lib.hid hx; clear hx)
        go_ret
        exact ⟨ret_i64 HI.out.symm, Hr.out.1.trans' HY.out⟩
    · obtain rfl : k = l.length := by omega
      have HI := Lib.hid (show fstP r l.length = -1 from fstP_none l.length Hr.out.2)
      go_wp2
      go_ret
      exact ⟨ret_i64 HI.out.symm, Hr.out.1⟩

theorem enters_hasKind (args : Array Value) (w : World) : (callFunc 35 args).run Tryd.prog w = .ok (.enter 35 args) w := enters_of Tryd.func35 (by kernel_rfl) rfl args w
set_option maxHeartbeats 800000 in
set_option maxRecDepth 100000 in
theorem containsO_any {w : World} {v : Value} {l : List (Int × Int)} (h : EndSl w v l) (c : Int) (b : Nat) (hb : w.cell? ⟨b, 0, none⟩ = some (.int .i64 c)) :
    Calls Tryd.prog 34 #[v, .func (.func 35) #[] #[.pointer (some ⟨b, 0, none⟩)]] w fun e w' => e = .returned (.bool (dec (Uses l c))) ∧ Ext w w' := by
  have HC := Lib.hid (indexFuncO_any 35 #[.pointer (some ⟨b, 0, none⟩)] enters_hasKind (fun k => gn l k == c) h (fun W hW k _ => by simpa using hasKind1_any (gn l k) (gp l k) c b (hW.cell' hb)))
  rcases fstP_cases (fun k => gn l k == c) l.length with ⟨f1, f2⟩ | ⟨k, hk, f1, f2, f3⟩
  · have F := Lib.hid f1
    have HN := Lib.hid (dec_false (p := Uses l c) fun ⟨j, hj, e⟩ => by have := f2 j hj; simp [e] at this)
    clear f1 f2
    go_enter Tryd.func34, Tryd.ntmps34
    go_wp2_with (go_at_call 45; (with_reducible refine (HC.out).mono ?_); rintro e w1 ⟨rfl, hx⟩; rw [F.out]; have HX := Lib.hid hx; clear hx)
    go_ret
    exact ⟨ret_bool HN.out.symm, HX.out⟩
  · have F := Lib.hid f1
    have HN := Lib.hid (dec_true (p := Uses l c) ⟨k, hk, by simpa using f2⟩)
    have b0 : decide (0 ≤ (k : Int)) = true := by simp
    clear f1 f2 f3 hk
    go_enter Tryd.func34, Tryd.ntmps34
    go_wp2_with (go_at_call 45; (with_reducible refine (HC.out).mono ?_); rintro e w1 ⟨rfl, hx⟩; rw [F.out]; have HX := Lib.hid hx; clear hx)
    go_ret
    exact ⟨ret_bool HN.out.symm, HX.out⟩

set_option maxHeartbeats 800000 in
set_option maxRecDepth 100000 in
theorem hasKind_any {w : World} {v : Value} {l : List (Int × Int)} (h : EndSl w v l) (hP : Pw w) (c : Int) :
    Calls Tryd.prog 25 #[v, .int .i64 c] w fun e w' => e = .returned (.tuple #[.bool (dec (ProgOK l) && dec (Uses l c)), .bool (dec (ProgOK l))]) ∧ Ext w w' := by
  have hA := (Ext.rfl' w).alloc' (.cells #[.int .i64 c] 3)
  have HA := Lib.hid hA
  have HC := Lib.hid (cell_new1 w (.int .i64 c) 3)
  clear hA
  by_cases hp : ProgOK l
  · have Hp := Lib.hid (dec_true hp)
    clear hp
    go_enter Tryd.func25, Tryd.ntmps25
    go_wp2_with (first | (go_at_call 10; (with_reducible refine (isValueProgram_any (h.ext HA.out) (hP.ext HA.out)).mono ?_); rintro e w1 ⟨rfl, hx⟩; rw [Hp.out]; have HX := Lib.hid (HA.out.trans' hx); have HD := Lib.hid (hx.cell' HC.out); clear hx) | (go_at_call 34; (with_reducible refine (containsO_any (h.ext HX.out) c w.heap.size HD.out).mono ?_); rintro e w2 ⟨rfl, hx⟩; have HY := Lib.hid (HX.out.trans' hx); clear hx))
    go_ret2
    exact ⟨by rw [Hp.out, Bool.true_and]; rfl, HY.out⟩
  · have Hp := Lib.hid (dec_false hp)
    clear hp
    go_enter Tryd.func25, Tryd.ntmps25
    go_wp2_with (go_at_call 10; (with_reducible refine (isValueProgram_any (h.ext HA.out) (hP.ext HA.out)).mono ?_); rintro e w1 ⟨rfl, hx⟩; rw [Hp.out]; have HX := Lib.hid (HA.out.trans' hx); have HD := Lib.hid (hx.cell' HC.out); clear hx)
    go_ret2
    exact ⟨by rw [Hp.out, Bool.false_and]; rfl, HX.out⟩

theorem implNeedsIds_any {w : World} {v : Value} {l : List (Int × Int)} (h : EndSl w v l) (hP : Pw w) :
    Calls Tryd.prog 13 #[v] w fun e w' => e = .returned (.tuple #[.bool (dec (ProgOK l) && dec (Uses l 3)), .bool (dec (ProgOK l))]) ∧ Ext w w' := by
  have HK := Lib.hid (hasKind_any h hP 3)
  go_enter Tryd.func13, Tryd.ntmps13
  go_wp2_with (go_at_call 25; (with_reducible refine (HK.out).mono ?_); rintro e w1 ⟨rfl, hx⟩; have HX := Lib.hid hx; clear hx)
  go_ret2
  exact ⟨rfl, HX.out⟩

theorem implNeedsRound_any {w : World} {v : Value} {l : List (Int × Int)} (h : EndSl w v l) (hP : Pw w) :
    Calls Tryd.prog 15 #[v] w fun e w' => e = .returned (.tuple #[.bool (dec (ProgOK l) && dec (Uses l 6)), .bool (dec (ProgOK l))]) ∧ Ext w w' := by
  have HK := Lib.hid (hasKind_any h hP 6)
  go_enter Tryd.func15, Tryd.ntmps15
  go_wp2_with (go_at_call 25; (with_reducible refine (HK.out).mono ?_); rintro e w1 ⟨rfl, hx⟩; have HX := Lib.hid hx; clear hx)
  go_ret2
  exact ⟨rfl, HX.out⟩
end Go.Proofs.YtbddjejpacaglaaDoor
