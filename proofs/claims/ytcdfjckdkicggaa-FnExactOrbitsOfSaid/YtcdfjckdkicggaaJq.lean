/- The contracts of slices.IndexFunc at walks, for any function value, and of the closure of IsomorphismOf. -/
import Derived.Test.YtcdfjckdkicggaaJo
namespace Go.Proofs.Ytcdfjckdkicggaa
open Go.RowKit

theorem ret_i {a b : Int} (h : a = b) : Ending.returned (.int .i64 a) = .returned (.int .i64 b) := by rw [h]
/-- What IndexFunc answers. -/
def idxAns (p : Nat → Bool) (n : Nat) : Int := match first p n with | some i => (i : Int) | none => -1

set_option maxHeartbeats 1600000 in
set_option maxRecDepth 100000 in
theorem indexFunc_any (K : Nat) (caps : Array Value) (eg : ∀ args w, (callFunc K args).run Try.prog w = .ok (.enter K args) w) (p : Nat → Bool) {w : World} {b : Nat} {M : Net} (h40 : M.ends.length ≤ 40) (h : WalkAt w b M M.ends.length)
    (hs : ∀ W, Ext w W → ∀ i : Nat, i < M.ends.length → ∀ na nc ca cc bn bc, OwnI W (.slice na (wk M (i : Int)).length nc) (wk M (i : Int)) bn → OwnI W (.slice ca (code M (i : Int)).length cc) (code M (i : Int)) bc →
      Calls Try.prog K (#[.agg #[.slice na (wk M (i : Int)).length nc, .slice ca (code M (i : Int)).length cc]] ++ caps) W fun e w' => e = .returned (.bool (p i)) ∧ Ext W w') :
    Calls Try.prog 57 #[.slice (some ⟨b, 0, none⟩) M.ends.length M.ends.length, .func (.func K) #[] caps] w fun e w' => e = .returned (.int .i64 (idxAns p M.ends.length)) ∧ Ext w w' := by
  have HS := Lib.hid hs
  have HW := Lib.hid h
  clear hs h
  obtain ⟨n, hnn⟩ : ∃ n, n = M.ends.length := ⟨_, rfl⟩
  have HNN := Lib.hid hnn
  rw [← hnn] at h40 HW HS ⊢
  clear hnn
  go_enter Try.func57, Try.ntmps57
  go_wp2
  go_loopg [8] n (fun g i wr => ∃ k : Nat, k ≤ n ∧ g = n - k ∧ i = .int .i64 k ∧ Hid (Ext w wr ∧ ∀ j, j < k → p j = false))
  case atStart => exact ⟨0, Nat.zero_le _, rfl, rfl, Ext.rfl' w, fun j hj => absurd hj (by omega)⟩
  case round =>
    obtain ⟨k, hk, rfl, rfl, Hr⟩ := hrel
    by_cases hlt : k < n
    · obtain ⟨na, nc, ca, cc, bn, bc, c1, c2, on, oc⟩ := (HW.out.ext Hr.out.1).at hlt (by have := HNN.out; omega)
      have cS := HS.out _ Hr.out.1 k hlt na nc ca cc bn bc on oc
      clear on oc
      cases hsp : p k <;> rw [hsp] at cS
      · have Hsp := Lib.hid hsp
        clear hsp
        go_wp2_with (go_at_fn K; refine cS.mono ?_; rintro e W' ⟨rfl, hx⟩; have HY := Lib.hid hx; clear hx)
        go_roundg (n - (k + 1))
        case measure => omega
        case rel =>
          refine ⟨k + 1, by omega, rfl, by go_num, Hr.out.1.trans' HY.out, fun j hj => ?_⟩
          by_cases e : j = k
          · subst e; exact Hsp.out
          · exact Hr.out.2 j (by omega)
      · have HA := Lib.hid (show idxAns p n = (k : Int) by unfold idxAns; rw [first_some hsp Hr.out.2 n hlt])
        clear hsp
        go_wp2_with (go_at_fn K; refine cS.mono ?_; rintro e W' ⟨rfl, hx⟩; have HY := Lib.hid hx; clear hx)
        go_ret
        exact ⟨ret_i HA.out.symm, Hr.out.1.trans' HY.out⟩
    · obtain rfl : k = n := by omega
      have HA := Lib.hid (show idxAns p k = -1 by unfold idxAns; rw [first_none k Hr.out.2])
      go_wp2
      go_ret
      exact ⟨ret_i HA.out.symm, Hr.out.1⟩

theorem enters_iso (args : Array Value) (w : World) : (callFunc 58 args).run Try.prog w = .ok (.enter 58 args) w := enters_of Try.func58 (by kernel_rfl) rfl args w

set_option maxHeartbeats 1600000 in
set_option maxRecDepth 100000 in
theorem isoClosure_any {W : World} {N M : Net} {f : List Int} {wb fb v i : Nat} {na ca : Option Addr} {nc cc : Nat} {bn bc : List Nat} {xc fa : Value}
    (h0 : W.cell? ⟨wb, 1, none⟩ = some xc) (h1 : IntSl W xc (code N (v : Int))) (h2 : W.cell? ⟨fb, 0, none⟩ = some fa) (h3 : IntSl W fa f)
    (hn : OwnI W (.slice na (wk M (i : Int)).length nc) (wk M (i : Int)) bn) (hc : OwnI W (.slice ca (code M (i : Int)).length cc) (code M (i : Int)) bc) :
    Calls Try.prog 58 (#[.agg #[.slice na (wk M (i : Int)).length nc, .slice ca (code M (i : Int)).length cc]] ++ #[.pointer (some ⟨wb, 0, none⟩), .pointer (some ⟨fb, 0, none⟩)]) W fun e w' => e = .returned (.bool (mayBe N M f v i)) ∧ Ext W w' := by
  have hpos : 0 < (wk M (i : Int)).length := wkTo_pos _ _ _
  have hfst : gi (wk M (i : Int)) 0 = (i : Int) := wkTo_first _ _ _
  obtain ⟨W1, hW1⟩ : ∃ W1, W1 = W.alloc (.cells #[.slice na (wk M (i : Int)).length nc, .slice ca (code M (i : Int)).length cc] 59) := ⟨_, rfl⟩
  have EW := Lib.hid (show Ext W W1 by rw [hW1]; exact (Ext.rfl' _).alloc' _)
  have RW := Lib.hid (show W1.rowIs W.heap.size 59 2 (duo (.slice na (wk M (i : Int)).length nc) (.slice ca (code M (i : Int)).length cc)) by rw [hW1]; exact duo_made _ _ _ _)
  have R1 := Lib.hid (h1.ext EW.out)
  have RF := Lib.hid (h3.ext EW.out)
  have RC := Lib.hid (hc.read.ext EW.out)
  obtain ⟨pa, pb, po, pc, e, hpa, hpl, hpm, hpc⟩ := hn.read.ext EW.out
  simp only [Value.slice.injEq] at e
  obtain ⟨rfl, -, rfl⟩ := e
  obtain rfl := hpa hpos
  obtain ⟨_, q0, rfl, _⟩ := hpc 0 hpos
  rw [hfst, Nat.add_zero] at q0
  unfold maxLen at hpm
  have q1 := EW.out.cell' h0
  have q2 := EW.out.cell' h2
  obtain ⟨a0, a1, -, -⟩ := duo_facts RW.out
  have P1 : ∀ x' : Wx W1, x'.w.cell? ⟨wb, 1, none⟩ = some xc := fun x' => x'.ok.cell' q1
  have P2 : ∀ x' : Wx W1, x'.w.cell? ⟨fb, 0, none⟩ = some fa := fun x' => x'.ok.cell' q2
  have P3 : ∀ x' : Wx W1, x'.w.cell? ⟨W.heap.size, 0, none⟩ = some (.slice (some ⟨pb, po, none⟩) (wk M (i : Int)).length nc) := fun x' => x'.ok.cell' a0
  have P4 : ∀ x' : Wx W1, x'.w.cell? ⟨W.heap.size, 1, none⟩ = some (.slice ca (code M (i : Int)).length cc) := fun x' => x'.ok.cell' a1
  have P5 : ∀ x' : Wx W1, x'.w.cell? ⟨pb, po, none⟩ = some (.int .i64 i) := fun x' => x'.ok.cell' q0
  clear a0 a1 q0 q1 q2
  by_cases hcd : code N (v : Int) = code M (i : Int)
  · have HE := Lib.hid (show decide (code N (v : Int) = code M (i : Int)) = true from decide_eq_true hcd)
    have HM := Lib.hid (show mayBe N M f v i = !(dec (Has f (i : Int))) by
      unfold mayBe; rw [HE.out, Bool.true_and]; congr 1
      rw [Bool.eq_iff_iff, dec_iff, decide_eq_true_iff, has_iff])
    clear hcd hpc
    rw [HM.out]
    go_enter Try.func58, Try.ntmps58
    go_wp2_with fail
    rw [← hW1]
    clear hW1
    refine wp_region_ext (by kernel_rfl) (by kernel_rfl) ?_
    repeat (go_big_quiet_step ((first | (go_at_call 48; exact in_ext_bool (sEqual_any (R1.out.ext (Wx.ok _)) (RC.out.ext (Wx.ok _))) HE.out) | (go_at_call 59; exact in_same_bool (contains_any _ (RF.out.ext (Wx.ok _))) rfl))))
    refine wpQuiet_nil ?_
    rintro _ ⟨⟨wq, hq⟩, rfl⟩
    have HY := Lib.hid hq
    clear hq
    go_wp2
    go_ret
    exact ⟨rfl, EW.out.trans' HY.out⟩
  · have HE := Lib.hid (show decide (code N (v : Int) = code M (i : Int)) = false from decide_eq_false hcd)
    have HM := Lib.hid (show mayBe N M f v i = false by unfold mayBe; rw [HE.out, Bool.false_and])
    clear hcd hpc
    rw [HM.out]
    go_enter Try.func58, Try.ntmps58
    go_wp2_with fail
    rw [← hW1]
    clear hW1
    refine wp_region_ext (by kernel_rfl) (by kernel_rfl) ?_
    repeat (go_big_quiet_step ((first | (go_at_call 48; exact in_ext_bool (sEqual_any (R1.out.ext (Wx.ok _)) (RC.out.ext (Wx.ok _))) HE.out) | (go_at_call 59; exact in_same_bool (contains_any _ (RF.out.ext (Wx.ok _))) rfl))))
    refine wpQuiet_nil ?_
    rintro _ ⟨⟨wq, hq⟩, rfl⟩
    have HY := Lib.hid hq
    clear hq
    go_wp2
    go_ret
    exact ⟨rfl, EW.out.trans' HY.out⟩
end Go.Proofs.Ytcdfjckdkicggaa
