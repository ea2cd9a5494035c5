/- The contracts of both sides' DepthOfView and IsView, and the walks of their laws. -/
import Derived.Test.YtdoaopeegcakiaaPvi
import Derived.Test.YtdoaopeegcakiaaPvd
namespace Go.Proofs.Ytdoaopeegcakiaa
open Go.RowKit

set_option maxRecDepth 100000 in
theorem specDepthOfView_any (B : Bs) (w : World) :
    Calls Try.prog 31 #[.string (bs B)] w fun e w' => e = .returned (.tuple #[.int .i64 (depV B), .bool (dec (IsV B))]) ∧ Ext w w' := by
  by_cases h : IsV B
  · have D := Lib.hid (dec_true h)
    have HV := Lib.hid h
    go_enter Try.func31, Try.ntmps31
    go_wp2_with fail
    (with_reducible refine (viParse_any B _).mono ?_)
    rintro e w1 ⟨v, rfl, hx, hk⟩
    obtain ⟨b, d, i, s, F, rfl, hpv, hvd, pv, qv, qs, -, hrow, -⟩ := hk HV.out
    rw [D.out]
    have X := Lib.hid hx
    have E := Lib.hid (depV_eq HV.out.1 hpv hvd)
    obtain ⟨-, -, -, -, t4⟩ := row5_facts hrow
    clear hx hk hpv hvd hrow
    go_wp2
    go_ret2
    exact ⟨ret_ib E.out.symm D.out.symm, X.out⟩
  · have D := Lib.hid (dec_false h)
    have E := Lib.hid (show depV B = 0 by unfold depV; rw [dec_false h]; rfl)
    clear h
    go_enter Try.func31, Try.ntmps31
    go_wp2_with (first | (go_at_call 61; (with_reducible refine (viParse_any B _).mono ?_); rintro e w1 ⟨v, rfl, hx, -⟩; rw [D.out]; have X := Lib.hid hx; clear hx))
    go_ret2
    exact ⟨ret_ib E.out.symm D.out.symm, X.out⟩
set_option maxRecDepth 100000 in
theorem specIsView_any (B : Bs) (w : World) :
    Calls Try.prog 29 #[.string (bs B)] w fun e w' => e = .returned (.bool (dec (IsV B))) ∧ Ext w w' := by
  go_enter Try.func29, Try.ntmps29
  go_wp2_with (first | (go_at_call 61; (with_reducible refine (viParse_any B _).mono ?_); rintro e w1 ⟨v, rfl, hx, -⟩; have X := Lib.hid hx; clear hx))
  go_ret
  exact ⟨rfl, X.out⟩
set_option maxRecDepth 100000 in
theorem isView_any (B : Bs) (w : World) :
    Calls Try.prog 30 #[.string (bs B)] w fun e w' => e = .returned (.bool (dec (IsV B))) ∧ Ext w w' := by
  go_enter Try.func30, Try.ntmps30
  go_wp2_with (first | (go_at_call 32; (with_reducible refine (depthOfView_any B _).mono ?_); rintro e w1 ⟨rfl, hx⟩; have X := Lib.hid hx; clear hx))
  go_ret
  exact ⟨rfl, X.out⟩

set_option maxRecDepth 100000 in
theorem walk_DepthOfView_bs (B : Bs) (w : World) : Calls Try.prog 9 #[.string (bs B)] w fun e w' => e = .returned (.bool true) ∧ Ext w w' := by
  have hsz := bs_size B
  have hmm : (depV B != depV B) = false := by simp
  have hbb : (dec (IsV B) != dec (IsV B)) = false := by simp
  by_cases hl : 1048576 < B.length
  · have hd : decide (1048576 < (B.length : Int)) = true := decide_eq_true (by omega)
    go_enter Try.func9, Try.ntmps9
    go_wp2
    go_ret
    exact ⟨rfl, Ext.rfl' _⟩
  · have hd : decide (1048576 < (B.length : Int)) = false := decide_eq_false (by omega)
    go_enter Try.func9, Try.ntmps9
    go_wp2_with (first | (go_at_call 31; (with_reducible refine (specDepthOfView_any B _).mono ?_); rintro e w1 ⟨rfl, hx⟩; have X1 := Lib.hid hx; clear hx) | (go_at_call 32; (with_reducible refine (depthOfView_any B _).mono ?_); rintro e w2 ⟨rfl, hx⟩; have X2 := Lib.hid (X1.out.trans' hx); clear hx))
    go_ret
    exact ⟨rfl, X2.out⟩
set_option maxRecDepth 100000 in
theorem walk_IsView_bs (B : Bs) (w : World) : Calls Try.prog 8 #[.string (bs B)] w fun e w' => e = .returned (.bool true) ∧ Ext w w' := by
  have hsz := bs_size B
  have hbb : (dec (IsV B) != dec (IsV B)) = false := by simp
  by_cases hl : 1048576 < B.length
  · have hd : decide (1048576 < (B.length : Int)) = true := decide_eq_true (by omega)
    go_enter Try.func8, Try.ntmps8
    go_wp2
    go_ret
    exact ⟨rfl, Ext.rfl' _⟩
  · have hd : decide (1048576 < (B.length : Int)) = false := decide_eq_false (by omega)
    go_enter Try.func8, Try.ntmps8
    go_wp2_with (first | (go_at_call 29; (with_reducible refine (specIsView_any B _).mono ?_); rintro e w1 ⟨rfl, hx⟩; have X1 := Lib.hid hx; clear hx) | (go_at_call 30; (with_reducible refine (isView_any B _).mono ?_); rintro e w2 ⟨rfl, hx⟩; have X2 := Lib.hid (X1.out.trans' hx); clear hx))
    go_ret
    exact ⟨rfl, X2.out⟩
theorem bs_of (s : ByteArray) : s = bs s.data.toList := (Go.Lib.mk_data s).symm
theorem walk_DepthOfView (s : ByteArray) (w : World) : Calls Try.prog 9 #[.string s] w fun e w' => e = .returned (.bool true) ∧ Ext w w' := by
  rw [bs_of s]; exact walk_DepthOfView_bs _ _
theorem walk_IsView (s : ByteArray) (w : World) : Calls Try.prog 8 #[.string s] w fun e w' => e = .returned (.bool true) ∧ Ext w w' := by
  rw [bs_of s]; exact walk_IsView_bs _ _
end Go.Proofs.Ytdoaopeegcakiaa
