/- The contracts of the program's take, takeDigit and takeHead. -/
import Derived.Test.YtdoaopeegcakiaaPvb
import Derived.Test.YtdoaopeegcakiaaKc
import Derived.Test.YtdoaopeegcakiaaVm
import Derived.Lib.Strings
namespace Go.Proofs.Ytdoaopeegcakiaa
open Go.RowKit

abbrev bs (l : Bs) : ByteArray := ⟨l.toArray⟩
theorem bs_data (l : Bs) : (bs l).data.toList = l := by simp
theorem bs_size (l : Bs) : (bs l).size = l.length := by simp [ByteArray.size]
theorem bs_list (l : Bs) : (bs l).toList = l := by rw [Go.Lib.toList_data, bs_data]
def bat (l : Bs) (k : Nat) : UInt8 := l.getD k 0
theorem bs_get (l : Bs) (k : Nat) (h : k < (bs l).size) : (bs l)[k] = bat l k := by
  have h' : k < l.length := by rw [bs_size] at h; exact h
  show l.toArray[k] = l.getD k 0
  simp [List.getD, h']
theorem extract_bs (l : Bs) (a b : Nat) : (bs l).extract a b = bs ((l.drop a).take (b - a)) := by rw [Go.Lib.extract_eq, bs_data]
theorem bool_ofv {b c : Bool} (h : b = c) : Ending.returned (.bool b) = .returned (.bool c) := by rw [h]
theorem isSome_cons (c x : UInt8) (t : Bs) : (tkM c (x :: t)).isSome = (x == c) := by
  simp only [tkM]
  by_cases h : x = c
  · rw [if_pos h]; simp [h]
  · rw [if_neg h]; simp [h]

set_option maxRecDepth 100000 in
theorem hasPrefix_any (r : Bs) (c : UInt8) (hl : r.length ≤ 1048576) (w : World) :
    Calls Try.prog 145 #[.string (bs r), .string (bs [c])] w fun e w' => e = .returned (.bool (tkM c r).isSome) ∧ w = w' := by
  have hsz := bs_size r
  have hsz1 : (bs [c]).size = 1 := bs_size [c]
  cases r with
  | nil =>
    go_enter Try.func145, Try.ntmps145
    go_wp2
    go_ret
    exact ⟨rfl, rfl⟩
  | cons x t =>
    have hx : (bs (x :: t)).extract 0 1 = bs [x] := by rw [extract_bs]; rfl
    have E := Lib.hid (isSome_cons c x t)
    rw [List.length_cons] at hl
    go_enter Try.func145, Try.ntmps145
    go_wp2
    go_ret
    exact ⟨bool_ofv E.out.symm, rfl⟩

set_option maxRecDepth 100000 in
theorem cutPrefixL_s {r r1 : Bs} {c : UInt8} (h : tkM c r = some r1) (hl : r.length ≤ 1048576) (w : World) :
    Calls Try.prog 126 #[.string (bs r), .string (bs [c])] w fun e w' => e = .returned (.tuple #[.string (bs r1), .bool true]) ∧ w = w' := by
  have H := Lib.hid (show (tkM c r).isSome = true by rw [h]; rfl)
  obtain rfl := tkM_some h
  have hsz := bs_size (c :: r1)
  have hsz1 : (bs [c]).size = 1 := bs_size [c]
  have hx : (bs (c :: r1)).extract 1 (r1.length + 1) = bs r1 := by rw [extract_bs]; simp
  have HL := Lib.hid hl
  rw [List.length_cons] at hl
  clear h
  go_enter Try.func126, Try.ntmps126
  go_wp2_with (first | (go_at_call 145; (with_reducible refine (hasPrefix_any _ _ HL.out _).mono ?_); rintro e w1 ⟨rfl, rfl⟩; rw [H.out]))
  go_ret2
  exact ⟨rfl, rfl⟩
set_option maxRecDepth 100000 in
theorem cutPrefixL_n {r : Bs} {c : UInt8} (h : tkM c r = none) (hl : r.length ≤ 1048576) (w : World) :
    Calls Try.prog 126 #[.string (bs r), .string (bs [c])] w fun e w' => e = .returned (.tuple #[.string (bs r), .bool false]) ∧ w = w' := by
  have H := Lib.hid (show (tkM c r).isSome = false by rw [h]; rfl)
  clear h
  go_enter Try.func126, Try.ntmps126
  go_wp2_with (first | (go_at_call 145; (with_reducible refine (hasPrefix_any _ _ hl _).mono ?_); rintro e w1 ⟨rfl, rfl⟩; rw [H.out]))
  go_ret2
  exact ⟨rfl, rfl⟩
set_option maxRecDepth 100000 in
theorem cutPrefix_s {r r1 : Bs} {c : UInt8} (h : tkM c r = some r1) (hl : r.length ≤ 1048576) (w : World) :
    Calls Try.prog 102 #[.string (bs r), .string (bs [c])] w fun e w' => e = .returned (.tuple #[.string (bs r1), .bool true]) ∧ w = w' := by
  go_enter Try.func102, Try.ntmps102
  go_wp2_with (first | (go_at_call 126; (with_reducible refine (cutPrefixL_s h hl _).mono ?_); rintro e w1 ⟨rfl, rfl⟩))
  go_ret2
  exact ⟨rfl, rfl⟩
set_option maxRecDepth 100000 in
theorem cutPrefix_n {r : Bs} {c : UInt8} (h : tkM c r = none) (hl : r.length ≤ 1048576) (w : World) :
    Calls Try.prog 102 #[.string (bs r), .string (bs [c])] w fun e w' => e = .returned (.tuple #[.string (bs r), .bool false]) ∧ w = w' := by
  go_enter Try.func102, Try.ntmps102
  go_wp2_with (first | (go_at_call 126; (with_reducible refine (cutPrefixL_n h hl _).mono ?_); rintro e w1 ⟨rfl, rfl⟩))
  go_ret2
  exact ⟨rfl, rfl⟩

/-- What is left of a text, in the block rb. -/
def RdS (w : World) (rb : Nat) (r : Bs) : Prop := w.rowIs rb 93 1 fun _ => .string (bs r)
theorem RdS.facts {w : World} {rb : Nat} {r : Bs} (h : RdS w rb r) : w.cell? ⟨rb, 0, none⟩ = some (.string (bs r)) ∧ w.frozen? ⟨rb, 0, none⟩ = false := ⟨World.rowIs.cell h (by decide), World.rowIs.frozen h _⟩
theorem RdS.set {w : World} {rb : Nat} {r : Bs} (h : RdS w rb r) (r1 : Bs) : RdS (w.setCell ⟨rb, 0, none⟩ (.string (bs r1))) rb r1 :=
  (World.rowIs.set h 0 (.string (bs r1))).congr fun i hi => by
    obtain rfl : i = 0 := by omega
    simp

set_option maxRecDepth 100000 in
theorem take_s {w : World} {rb : Nat} {r r1 : Bs} {c : UInt8} (hr : RdS w rb r) (h : tkM c r = some r1) (hl : r.length ≤ 1048576) :
    Calls Try.prog 63 #[.pointer (some ⟨rb, 0, none⟩), .string (bs [c])] w fun e w' => e = .returned (.bool true) ∧ Chg w w' [rb] ∧ RdS w' rb r1 := by
  obtain ⟨p0, p1⟩ := hr.facts
  have HR := Lib.hid hr
  clear hr
  go_enter Try.func63, Try.ntmps63
  go_wp2_with (first | (go_at_call 102; (with_reducible refine (cutPrefix_s h hl _).mono ?_); rintro e w1 ⟨rfl, rfl⟩))
  go_ret
  exact ⟨rfl, (Chg.rfl' _ _).store (by simp) _, HR.out.set _⟩
set_option maxRecDepth 100000 in
theorem take_n {w : World} {rb : Nat} {r : Bs} {c : UInt8} (hr : RdS w rb r) (h : tkM c r = none) (hl : r.length ≤ 1048576) :
    Calls Try.prog 63 #[.pointer (some ⟨rb, 0, none⟩), .string (bs [c])] w fun e w' => e = .returned (.bool false) ∧ Chg w w' [rb] ∧ RdS w' rb r := by
  obtain ⟨p0, p1⟩ := hr.facts
  have HR := Lib.hid hr
  clear hr
  go_enter Try.func63, Try.ntmps63
  go_wp2_with (first | (go_at_call 102; (with_reducible refine (cutPrefix_n h hl _).mono ?_); rintro e w1 ⟨rfl, rfl⟩))
  go_ret
  exact ⟨rfl, (Chg.rfl' _ _).store (by simp) _, HR.out.set _⟩

theorem ret_ib {x y : Int} {b c : Bool} (h0 : x = y) (h : b = c) : Ending.returned (.tuple #[.int .i64 x, .bool b]) = .returned (.tuple #[.int .i64 y, .bool c]) := by rw [h0, h]
set_option maxRecDepth 100000 in
theorem takeDigit_any {w : World} {rb : Nat} {r : Bs} (lo hi : Int) (hr : RdS w rb r) (hl : r.length ≤ 1048576) :
    Calls Try.prog 101 #[.pointer (some ⟨rb, 0, none⟩), .int .i64 lo, .int .i64 hi] w fun e w' => ∃ d r1, e = .returned (.tuple #[.int .i64 d, .bool (tkD lo hi r).isSome]) ∧ (∀ x, tkD lo hi r = some x → x = (d, r1)) ∧ Chg w w' [rb] ∧ RdS w' rb r1 ∧ r1.length ≤ r.length := by
  obtain ⟨p0, p1⟩ := hr.facts
  have HR := Lib.hid hr
  clear hr
  cases r with
  | nil =>
    have hb := bs_list []
    go_enter Try.func101, Try.ntmps101
    go_wp2
    go_ret2
    exact ⟨0, [], rfl, fun x hx => (by cases hx), Chg.rfl' _ _, HR.out, Nat.le_refl _⟩
  | cons x t =>
    have hb := bs_list (x :: t)
    have hsz := bs_size (x :: t)
    have hg := bs_get (x :: t)
    have hb0 : bat (x :: t) 0 = x := rfl
    have hx : (bs (x :: t)).extract 1 (t.length + 1) = bs t := by rw [extract_bs]; simp
    have hx8 : x.toNat < 256 := x.toNat_lt
    have E := Lib.hid (show dec (InB ((x.toNat : Int) - 48) lo hi) = (tkD lo hi (x :: t)).isSome by
      by_cases h : lo ≤ dgv x ∧ dgv x ≤ hi
      · rw [dec_true (show InB ((x.toNat : Int) - 48) lo hi from h)]; simp only [tkD, if_pos h]; rfl
      · rw [dec_false (show ¬ InB ((x.toNat : Int) - 48) lo hi from h)]; simp only [tkD, if_neg h]; rfl)
    have F := Lib.hid (show ∀ y, tkD lo hi (x :: t) = some y → y = ((x.toNat : Int) - 48, t) from fun y hy => by
      obtain ⟨d, r1⟩ := y
      obtain ⟨c, hc, hd, _⟩ := tkD_some hy
      cases hc
      rw [hd]; rfl)
    rw [List.length_cons] at hl
    go_enter Try.func101, Try.ntmps101
    go_wp2_with (first | (go_at_call 105; (with_reducible refine (isBetween_any _ _ _ _).mono ?_); rintro e w1 ⟨rfl, rfl⟩; rw [E.out]))
    go_ret2
    exact ⟨_, t, rfl, F.out, (Chg.rfl' _ _).store (by simp) _, HR.out.set _, by simp⟩
theorem takeDigit_s {w : World} {rb : Nat} {r r1 : Bs} {lo hi d : Int} (hr : RdS w rb r) (h : tkD lo hi r = some (d, r1)) (hl : r.length ≤ 1048576) :
    Calls Try.prog 101 #[.pointer (some ⟨rb, 0, none⟩), .int .i64 lo, .int .i64 hi] w fun e w' => e = .returned (.tuple #[.int .i64 d, .bool true]) ∧ Chg w w' [rb] ∧ RdS w' rb r1 :=
  (takeDigit_any lo hi hr hl).mono fun e w' ⟨d', r', he, hx, hc, hr', _⟩ => by
    have e1 := hx _ h
    rw [h] at he
    cases e1
    exact ⟨he, hc, hr'⟩
theorem takeDigit_n {w : World} {rb : Nat} {r : Bs} {lo hi : Int} (hr : RdS w rb r) (h : tkD lo hi r = none) (hl : r.length ≤ 1048576) :
    Calls Try.prog 101 #[.pointer (some ⟨rb, 0, none⟩), .int .i64 lo, .int .i64 hi] w fun e w' => ∃ d r1, e = .returned (.tuple #[.int .i64 d, .bool false]) ∧ Chg w w' [rb] ∧ RdS w' rb r1 :=
  (takeDigit_any lo hi hr hl).mono fun e w' ⟨d', r', he, hx, hc, hr', _⟩ => by
    rw [h] at he
    exact ⟨d', r', he, hc, hr'⟩

theorem th_len {b : Bool} {r r1 : Bs} {d : Int} (h : th b r = some (d, r1)) : r1.length + 3 ≤ r.length ∧ 0 ≤ d ∧ d ≤ 6 := by
  cases b with
  | false =>
    simp only [th] at h
    cases h1 : hd3 0 r with
    | none => rw [h1] at h; cases h
    | some x =>
      obtain ⟨⟨d', i⟩, r'⟩ := x
      rw [h1] at h
      cases h
      have := hd3_some h1
      omega
  | true =>
    simp only [th] at h
    cases h0 : tkD 0 5 r with
    | none => rw [h0] at h; cases h
    | some y =>
      obtain ⟨j, r0⟩ := y
      simp only [h0] at h
      cases h9 : tkM 58 r0 with
      | none => rw [h9] at h; cases h
      | some r9 =>
        simp only [h9] at h
        cases h1 : hd3 (j + 1) r9 with
        | none => rw [h1] at h; cases h
        | some x =>
          obtain ⟨⟨d', i⟩, r'⟩ := x
          rw [h1] at h
          cases h
          have := hd3_some h1
          obtain ⟨_, _, _, _, _⟩ := tkD_some h0
          have := tkD_len h0
          have := tkM_len h9
          omega

set_option maxHeartbeats 800000 in
set_option maxRecDepth 100000 in
theorem thF0 {w : World} {rb : Nat} {r : Bs}  (hr : RdS w rb r) (hl : r.length ≤ 1048576) (h1 : tkD 0 6 r = none) :
    Calls Try.prog 62 #[.pointer (some ⟨rb, 0, none⟩), .bool false] w fun e w' => ∃ d, e = .returned (.tuple #[.int .i64 d, .bool false]) ∧ Chg w w' [rb] := by
  have HR0 := Lib.hid hr
  have C0 := Lib.hid (Chg.rfl' w [rb])
  have H1 := Lib.hid h1
  clear hr h1
  go_enter Try.func62, Try.ntmps62
  go_wp2_with fail
  (with_reducible refine (takeDigit_n HR0.out H1.out hl).mono ?_)
  rintro e w1 ⟨_, _, rfl, hc, -⟩
  have C1 := Lib.hid (C0.out.trans' hc)
  clear hc
  go_wp2
  go_ret2
  exact ⟨_, rfl, C1.out⟩
set_option maxHeartbeats 800000 in
set_option maxRecDepth 100000 in
theorem thF1 {w : World} {rb : Nat} {r : Bs} {d1 : Int} {r1 : Bs} (hr : RdS w rb r) (hl : r.length ≤ 1048576) (h1 : tkD 0 6 r = some (d1, r1)) (h2 : tkM 46 r1 = none) :
    Calls Try.prog 62 #[.pointer (some ⟨rb, 0, none⟩), .bool false] w fun e w' => ∃ d, e = .returned (.tuple #[.int .i64 d, .bool false]) ∧ Chg w w' [rb] := by
  have HR0 := Lib.hid hr
  have C0 := Lib.hid (Chg.rfl' w [rb])
  have H1 := Lib.hid h1
  have hl1 : r1.length ≤ 1048576 := by have := tkD_len h1; omega
  obtain ⟨_, -, -, b1, c1⟩ := tkD_some h1
  have H2 := Lib.hid h2
  clear hr h1 h2
  go_enter Try.func62, Try.ntmps62
  go_wp2_with fail
  (with_reducible refine (takeDigit_s HR0.out H1.out hl).mono ?_)
  rintro e w1 ⟨rfl, hc, hr⟩
  have HR1 := Lib.hid hr
  clear hr
  have C1 := Lib.hid (C0.out.trans' hc)
  clear hc
  go_wp2_with fail
  (with_reducible refine (take_n HR1.out H2.out hl1).mono ?_)
  rintro e w2 ⟨rfl, hc, hr⟩
  have HR2 := Lib.hid hr
  clear hr
  have C2 := Lib.hid (C1.out.trans' hc)
  clear hc
  go_wp2
  go_ret2
  exact ⟨_, rfl, C2.out⟩
set_option maxHeartbeats 800000 in
set_option maxRecDepth 100000 in
theorem thF2 {w : World} {rb : Nat} {r : Bs} {d1 : Int} {r1 : Bs} {r2 : Bs} (hr : RdS w rb r) (hl : r.length ≤ 1048576) (h1 : tkD 0 6 r = some (d1, r1)) (h2 : tkM 46 r1 = some r2) (h3 : tkD 0 9 r2 = none) :
    Calls Try.prog 62 #[.pointer (some ⟨rb, 0, none⟩), .bool false] w fun e w' => ∃ d, e = .returned (.tuple #[.int .i64 d, .bool false]) ∧ Chg w w' [rb] := by
  have HR0 := Lib.hid hr
  have C0 := Lib.hid (Chg.rfl' w [rb])
  have H1 := Lib.hid h1
  have hl1 : r1.length ≤ 1048576 := by have := tkD_len h1; omega
  obtain ⟨_, -, -, b1, c1⟩ := tkD_some h1
  have H2 := Lib.hid h2
  have hl2 : r2.length ≤ 1048576 := by have := tkM_len h2; omega
  have H3 := Lib.hid h3
  clear hr h1 h2 h3
  go_enter Try.func62, Try.ntmps62
  go_wp2_with fail
  (with_reducible refine (takeDigit_s HR0.out H1.out hl).mono ?_)
  rintro e w1 ⟨rfl, hc, hr⟩
  have HR1 := Lib.hid hr
  clear hr
  have C1 := Lib.hid (C0.out.trans' hc)
  clear hc
  go_wp2_with fail
  (with_reducible refine (take_s HR1.out H2.out hl1).mono ?_)
  rintro e w2 ⟨rfl, hc, hr⟩
  have HR2 := Lib.hid hr
  clear hr
  have C2 := Lib.hid (C1.out.trans' hc)
  clear hc
  go_wp2_with fail
  (with_reducible refine (takeDigit_n HR2.out H3.out hl2).mono ?_)
  rintro e w3 ⟨_, _, rfl, hc, -⟩
  have C3 := Lib.hid (C2.out.trans' hc)
  clear hc
  go_wp2
  go_ret2
  exact ⟨_, rfl, C3.out⟩
set_option maxHeartbeats 800000 in
set_option maxRecDepth 100000 in
theorem thFs {w : World} {rb : Nat} {r : Bs} {d1 : Int} {r1 : Bs} {r2 : Bs} {d3 : Int} {r3 : Bs} (hr : RdS w rb r) (hl : r.length ≤ 1048576) (h1 : tkD 0 6 r = some (d1, r1)) (h2 : tkM 46 r1 = some r2) (h3 : tkD 0 9 r2 = some (d3, r3)) :
    Calls Try.prog 62 #[.pointer (some ⟨rb, 0, none⟩), .bool false] w fun e w' => e = .returned (.tuple #[.int .i64 d1, .bool true]) ∧ Chg w w' [rb] ∧ RdS w' rb r3 := by
  have HR0 := Lib.hid hr
  have C0 := Lib.hid (Chg.rfl' w [rb])
  have H1 := Lib.hid h1
  have hl1 : r1.length ≤ 1048576 := by have := tkD_len h1; omega
  obtain ⟨_, -, -, b1, c1⟩ := tkD_some h1
  have H2 := Lib.hid h2
  have hl2 : r2.length ≤ 1048576 := by have := tkM_len h2; omega
  have H3 := Lib.hid h3
  have hl3 : r3.length ≤ 1048576 := by have := tkD_len h3; omega
  obtain ⟨_, -, -, b3, c3⟩ := tkD_some h3
  clear hr h1 h2 h3
  go_enter Try.func62, Try.ntmps62
  go_wp2_with fail
  (with_reducible refine (takeDigit_s HR0.out H1.out hl).mono ?_)
  rintro e w1 ⟨rfl, hc, hr⟩
  have HR1 := Lib.hid hr
  clear hr
  have C1 := Lib.hid (C0.out.trans' hc)
  clear hc
  go_wp2_with fail
  (with_reducible refine (take_s HR1.out H2.out hl1).mono ?_)
  rintro e w2 ⟨rfl, hc, hr⟩
  have HR2 := Lib.hid hr
  clear hr
  have C2 := Lib.hid (C1.out.trans' hc)
  clear hc
  go_wp2_with fail
  (with_reducible refine (takeDigit_s HR2.out H3.out hl2).mono ?_)
  rintro e w3 ⟨rfl, hc, hr⟩
  have HR3 := Lib.hid hr
  clear hr
  have C3 := Lib.hid (C2.out.trans' hc)
  clear hc
  go_wp2
  go_ret2
  exact ⟨rfl, C3.out, HR3.out⟩
set_option maxHeartbeats 800000 in
set_option maxRecDepth 100000 in
theorem thT0 {w : World} {rb : Nat} {r : Bs}  (hr : RdS w rb r) (hl : r.length ≤ 1048576) (h1 : tkD 0 5 r = none) :
    Calls Try.prog 62 #[.pointer (some ⟨rb, 0, none⟩), .bool true] w fun e w' => ∃ d, e = .returned (.tuple #[.int .i64 d, .bool false]) ∧ Chg w w' [rb] := by
  have HR0 := Lib.hid hr
  have C0 := Lib.hid (Chg.rfl' w [rb])
  have H1 := Lib.hid h1
  clear hr h1
  go_enter Try.func62, Try.ntmps62
  go_wp2_with fail
  (with_reducible refine (takeDigit_n HR0.out H1.out hl).mono ?_)
  rintro e w1 ⟨_, _, rfl, hc, -⟩
  have C1 := Lib.hid (C0.out.trans' hc)
  clear hc
  go_wp2
  go_ret2
  exact ⟨_, rfl, C1.out⟩
set_option maxHeartbeats 800000 in
set_option maxRecDepth 100000 in
theorem thT1 {w : World} {rb : Nat} {r : Bs} {d1 : Int} {r1 : Bs} (hr : RdS w rb r) (hl : r.length ≤ 1048576) (h1 : tkD 0 5 r = some (d1, r1)) (h2 : tkM 58 r1 = none) :
    Calls Try.prog 62 #[.pointer (some ⟨rb, 0, none⟩), .bool true] w fun e w' => ∃ d, e = .returned (.tuple #[.int .i64 d, .bool false]) ∧ Chg w w' [rb] := by
  have HR0 := Lib.hid hr
  have C0 := Lib.hid (Chg.rfl' w [rb])
  have H1 := Lib.hid h1
  have hl1 : r1.length ≤ 1048576 := by have := tkD_len h1; omega
  obtain ⟨_, -, -, b1, c1⟩ := tkD_some h1
  have H2 := Lib.hid h2
  clear hr h1 h2
  go_enter Try.func62, Try.ntmps62
  go_wp2_with fail
  (with_reducible refine (takeDigit_s HR0.out H1.out hl).mono ?_)
  rintro e w1 ⟨rfl, hc, hr⟩
  have HR1 := Lib.hid hr
  clear hr
  have C1 := Lib.hid (C0.out.trans' hc)
  clear hc
  go_wp2_with fail
  (with_reducible refine (take_n HR1.out H2.out hl1).mono ?_)
  rintro e w2 ⟨rfl, hc, hr⟩
  have HR2 := Lib.hid hr
  clear hr
  have C2 := Lib.hid (C1.out.trans' hc)
  clear hc
  go_wp2
  go_ret2
  exact ⟨_, rfl, C2.out⟩
set_option maxHeartbeats 800000 in
set_option maxRecDepth 100000 in
theorem thT2 {w : World} {rb : Nat} {r : Bs} {d1 : Int} {r1 : Bs} {r2 : Bs} (hr : RdS w rb r) (hl : r.length ≤ 1048576) (h1 : tkD 0 5 r = some (d1, r1)) (h2 : tkM 58 r1 = some r2) (h3 : tkD (d1 + 1) 6 r2 = none) :
    Calls Try.prog 62 #[.pointer (some ⟨rb, 0, none⟩), .bool true] w fun e w' => ∃ d, e = .returned (.tuple #[.int .i64 d, .bool false]) ∧ Chg w w' [rb] := by
  have HR0 := Lib.hid hr
  have C0 := Lib.hid (Chg.rfl' w [rb])
  have H1 := Lib.hid h1
  have hl1 : r1.length ≤ 1048576 := by have := tkD_len h1; omega
  obtain ⟨_, -, -, b1, c1⟩ := tkD_some h1
  have H2 := Lib.hid h2
  have hl2 : r2.length ≤ 1048576 := by have := tkM_len h2; omega
  have H3 := Lib.hid h3
  clear hr h1 h2 h3
  go_enter Try.func62, Try.ntmps62
  go_wp2_with fail
  (with_reducible refine (takeDigit_s HR0.out H1.out hl).mono ?_)
  rintro e w1 ⟨rfl, hc, hr⟩
  have HR1 := Lib.hid hr
  clear hr
  have C1 := Lib.hid (C0.out.trans' hc)
  clear hc
  go_wp2_with fail
  (with_reducible refine (take_s HR1.out H2.out hl1).mono ?_)
  rintro e w2 ⟨rfl, hc, hr⟩
  have HR2 := Lib.hid hr
  clear hr
  have C2 := Lib.hid (C1.out.trans' hc)
  clear hc
  go_wp2_with fail
  (with_reducible refine (takeDigit_n HR2.out H3.out hl2).mono ?_)
  rintro e w3 ⟨_, _, rfl, hc, -⟩
  have C3 := Lib.hid (C2.out.trans' hc)
  clear hc
  go_wp2
  go_ret2
  exact ⟨_, rfl, C3.out⟩
set_option maxHeartbeats 800000 in
set_option maxRecDepth 100000 in
theorem thT3 {w : World} {rb : Nat} {r : Bs} {d1 : Int} {r1 : Bs} {r2 : Bs} {d3 : Int} {r3 : Bs} (hr : RdS w rb r) (hl : r.length ≤ 1048576) (h1 : tkD 0 5 r = some (d1, r1)) (h2 : tkM 58 r1 = some r2) (h3 : tkD (d1 + 1) 6 r2 = some (d3, r3)) (h4 : tkM 46 r3 = none) :
    Calls Try.prog 62 #[.pointer (some ⟨rb, 0, none⟩), .bool true] w fun e w' => ∃ d, e = .returned (.tuple #[.int .i64 d, .bool false]) ∧ Chg w w' [rb] := by
  have HR0 := Lib.hid hr
  have C0 := Lib.hid (Chg.rfl' w [rb])
  have H1 := Lib.hid h1
  have hl1 : r1.length ≤ 1048576 := by have := tkD_len h1; omega
  obtain ⟨_, -, -, b1, c1⟩ := tkD_some h1
  have H2 := Lib.hid h2
  have hl2 : r2.length ≤ 1048576 := by have := tkM_len h2; omega
  have H3 := Lib.hid h3
  have hl3 : r3.length ≤ 1048576 := by have := tkD_len h3; omega
  obtain ⟨_, -, -, b3, c3⟩ := tkD_some h3
  have H4 := Lib.hid h4
  clear hr h1 h2 h3 h4
  go_enter Try.func62, Try.ntmps62
  go_wp2_with fail
  (with_reducible refine (takeDigit_s HR0.out H1.out hl).mono ?_)
  rintro e w1 ⟨rfl, hc, hr⟩
  have HR1 := Lib.hid hr
  clear hr
  have C1 := Lib.hid (C0.out.trans' hc)
  clear hc
  go_wp2_with fail
  (with_reducible refine (take_s HR1.out H2.out hl1).mono ?_)
  rintro e w2 ⟨rfl, hc, hr⟩
  have HR2 := Lib.hid hr
  clear hr
  have C2 := Lib.hid (C1.out.trans' hc)
  clear hc
  go_wp2_with fail
  (with_reducible refine (takeDigit_s HR2.out H3.out hl2).mono ?_)
  rintro e w3 ⟨rfl, hc, hr⟩
  have HR3 := Lib.hid hr
  clear hr
  have C3 := Lib.hid (C2.out.trans' hc)
  clear hc
  go_wp2_with fail
  (with_reducible refine (take_n HR3.out H4.out hl3).mono ?_)
  rintro e w4 ⟨rfl, hc, hr⟩
  have HR4 := Lib.hid hr
  clear hr
  have C4 := Lib.hid (C3.out.trans' hc)
  clear hc
  go_wp2
  go_ret2
  exact ⟨_, rfl, C4.out⟩
set_option maxHeartbeats 800000 in
set_option maxRecDepth 100000 in
theorem thT4 {w : World} {rb : Nat} {r : Bs} {d1 : Int} {r1 : Bs} {r2 : Bs} {d3 : Int} {r3 : Bs} {r4 : Bs} (hr : RdS w rb r) (hl : r.length ≤ 1048576) (h1 : tkD 0 5 r = some (d1, r1)) (h2 : tkM 58 r1 = some r2) (h3 : tkD (d1 + 1) 6 r2 = some (d3, r3)) (h4 : tkM 46 r3 = some r4) (h5 : tkD 0 9 r4 = none) :
    Calls Try.prog 62 #[.pointer (some ⟨rb, 0, none⟩), .bool true] w fun e w' => ∃ d, e = .returned (.tuple #[.int .i64 d, .bool false]) ∧ Chg w w' [rb] := by
  have HR0 := Lib.hid hr
  have C0 := Lib.hid (Chg.rfl' w [rb])
  have H1 := Lib.hid h1
  have hl1 : r1.length ≤ 1048576 := by have := tkD_len h1; omega
  obtain ⟨_, -, -, b1, c1⟩ := tkD_some h1
  have H2 := Lib.hid h2
  have hl2 : r2.length ≤ 1048576 := by have := tkM_len h2; omega
  have H3 := Lib.hid h3
  have hl3 : r3.length ≤ 1048576 := by have := tkD_len h3; omega
  obtain ⟨_, -, -, b3, c3⟩ := tkD_some h3
  have H4 := Lib.hid h4
  have hl4 : r4.length ≤ 1048576 := by have := tkM_len h4; omega
  have H5 := Lib.hid h5
  clear hr h1 h2 h3 h4 h5
  go_enter Try.func62, Try.ntmps62
  go_wp2_with fail
  (with_reducible refine (takeDigit_s HR0.out H1.out hl).mono ?_)
  rintro e w1 ⟨rfl, hc, hr⟩
  have HR1 := Lib.hid hr
  clear hr
  have C1 := Lib.hid (C0.out.trans' hc)
  clear hc
  go_wp2_with fail
  (with_reducible refine (take_s HR1.out H2.out hl1).mono ?_)
  rintro e w2 ⟨rfl, hc, hr⟩
  have HR2 := Lib.hid hr
  clear hr
  have C2 := Lib.hid (C1.out.trans' hc)
  clear hc
  go_wp2_with fail
  (with_reducible refine (takeDigit_s HR2.out H3.out hl2).mono ?_)
  rintro e w3 ⟨rfl, hc, hr⟩
  have HR3 := Lib.hid hr
  clear hr
  have C3 := Lib.hid (C2.out.trans' hc)
  clear hc
  go_wp2_with fail
  (with_reducible refine (take_s HR3.out H4.out hl3).mono ?_)
  rintro e w4 ⟨rfl, hc, hr⟩
  have HR4 := Lib.hid hr
  clear hr
  have C4 := Lib.hid (C3.out.trans' hc)
  clear hc
  go_wp2_with fail
  (with_reducible refine (takeDigit_n HR4.out H5.out hl4).mono ?_)
  rintro e w5 ⟨_, _, rfl, hc, -⟩
  have C5 := Lib.hid (C4.out.trans' hc)
  clear hc
  go_wp2
  go_ret2
  exact ⟨_, rfl, C5.out⟩
set_option maxHeartbeats 800000 in
set_option maxRecDepth 100000 in
theorem thTs {w : World} {rb : Nat} {r : Bs} {d1 : Int} {r1 : Bs} {r2 : Bs} {d3 : Int} {r3 : Bs} {r4 : Bs} {d5 : Int} {r5 : Bs} (hr : RdS w rb r) (hl : r.length ≤ 1048576) (h1 : tkD 0 5 r = some (d1, r1)) (h2 : tkM 58 r1 = some r2) (h3 : tkD (d1 + 1) 6 r2 = some (d3, r3)) (h4 : tkM 46 r3 = some r4) (h5 : tkD 0 9 r4 = some (d5, r5)) :
    Calls Try.prog 62 #[.pointer (some ⟨rb, 0, none⟩), .bool true] w fun e w' => e = .returned (.tuple #[.int .i64 d3, .bool true]) ∧ Chg w w' [rb] ∧ RdS w' rb r5 := by
  have HR0 := Lib.hid hr
  have C0 := Lib.hid (Chg.rfl' w [rb])
  have H1 := Lib.hid h1
  have hl1 : r1.length ≤ 1048576 := by have := tkD_len h1; omega
  obtain ⟨_, -, -, b1, c1⟩ := tkD_some h1
  have H2 := Lib.hid h2
  have hl2 : r2.length ≤ 1048576 := by have := tkM_len h2; omega
  have H3 := Lib.hid h3
  have hl3 : r3.length ≤ 1048576 := by have := tkD_len h3; omega
  obtain ⟨_, -, -, b3, c3⟩ := tkD_some h3
  have H4 := Lib.hid h4
  have hl4 : r4.length ≤ 1048576 := by have := tkM_len h4; omega
  have H5 := Lib.hid h5
  have hl5 : r5.length ≤ 1048576 := by have := tkD_len h5; omega
  obtain ⟨_, -, -, b5, c5⟩ := tkD_some h5
  clear hr h1 h2 h3 h4 h5
  go_enter Try.func62, Try.ntmps62
  go_wp2_with fail
  (with_reducible refine (takeDigit_s HR0.out H1.out hl).mono ?_)
  rintro e w1 ⟨rfl, hc, hr⟩
  have HR1 := Lib.hid hr
  clear hr
  have C1 := Lib.hid (C0.out.trans' hc)
  clear hc
  go_wp2_with fail
  (with_reducible refine (take_s HR1.out H2.out hl1).mono ?_)
  rintro e w2 ⟨rfl, hc, hr⟩
  have HR2 := Lib.hid hr
  clear hr
  have C2 := Lib.hid (C1.out.trans' hc)
  clear hc
  go_wp2_with fail
  (with_reducible refine (takeDigit_s HR2.out H3.out hl2).mono ?_)
  rintro e w3 ⟨rfl, hc, hr⟩
  have HR3 := Lib.hid hr
  clear hr
  have C3 := Lib.hid (C2.out.trans' hc)
  clear hc
  go_wp2_with fail
  (with_reducible refine (take_s HR3.out H4.out hl3).mono ?_)
  rintro e w4 ⟨rfl, hc, hr⟩
  have HR4 := Lib.hid hr
  clear hr
  have C4 := Lib.hid (C3.out.trans' hc)
  clear hc
  go_wp2_with fail
  (with_reducible refine (takeDigit_s HR4.out H5.out hl4).mono ?_)
  rintro e w5 ⟨rfl, hc, hr⟩
  have HR5 := Lib.hid hr
  clear hr
  have C5 := Lib.hid (C4.out.trans' hc)
  clear hc
  go_wp2
  go_ret2
  exact ⟨rfl, C5.out, HR5.out⟩
theorem takeHead_s {w : World} {rb : Nat} {r r1 : Bs} {b : Bool} {d : Int} (hr : RdS w rb r) (hl : r.length ≤ 1048576) (h : th b r = some (d, r1)) :
    Calls Try.prog 62 #[.pointer (some ⟨rb, 0, none⟩), .bool b] w fun e w' => e = .returned (.tuple #[.int .i64 d, .bool true]) ∧ Chg w w' [rb] ∧ RdS w' rb r1 := by
  cases b with
  | false =>
    simp only [th, hd3] at h
    cases h1 : tkD 0 6 r with
    | none => rw [h1] at h; cases h
    | some x =>
      obtain ⟨d1, s1⟩ := x
      simp only [h1] at h
      cases h2 : tkM 46 s1 with
      | none => rw [h2] at h; cases h
      | some s2 =>
        simp only [h2] at h
        cases h3 : tkD 0 9 s2 with
        | none => rw [h3] at h; cases h
        | some y =>
          obtain ⟨i, s3⟩ := y
          rw [h3] at h
          cases h
          exact thFs hr hl h1 h2 h3
  | true =>
    simp only [th] at h
    cases h4 : tkD 0 5 r with
    | none => rw [h4] at h; cases h
    | some z =>
      obtain ⟨j, q⟩ := z
      simp only [h4] at h
      cases h5 : tkM 58 q with
      | none => rw [h5] at h; cases h
      | some q1 =>
        simp only [h5, hd3] at h
        cases h1 : tkD (j + 1) 6 q1 with
        | none => rw [h1] at h; cases h
        | some x =>
          obtain ⟨d1, s1⟩ := x
          simp only [h1] at h
          cases h2 : tkM 46 s1 with
          | none => rw [h2] at h; cases h
          | some s2 =>
            simp only [h2] at h
            cases h3 : tkD 0 9 s2 with
            | none => rw [h3] at h; cases h
            | some y =>
              obtain ⟨i, s3⟩ := y
              rw [h3] at h
              cases h
              exact thTs hr hl h4 h5 h1 h2 h3
theorem takeHead_n {w : World} {rb : Nat} {r : Bs} {b : Bool} (hr : RdS w rb r) (hl : r.length ≤ 1048576) (h : th b r = none) :
    Calls Try.prog 62 #[.pointer (some ⟨rb, 0, none⟩), .bool b] w fun e w' => ∃ d, e = .returned (.tuple #[.int .i64 d, .bool false]) ∧ Chg w w' [rb] := by
  cases b with
  | false =>
    simp only [th, hd3] at h
    cases h1 : tkD 0 6 r with
    | none => exact thF0 hr hl h1
    | some x =>
      obtain ⟨d1, s1⟩ := x
      simp only [h1] at h
      cases h2 : tkM 46 s1 with
      | none => exact thF1 hr hl h1 h2
      | some s2 =>
        simp only [h2] at h
        cases h3 : tkD 0 9 s2 with
        | none => exact thF2 hr hl h1 h2 h3
        | some y =>
          obtain ⟨i, s3⟩ := y
          rw [h3] at h
          cases h
  | true =>
    simp only [th] at h
    cases h4 : tkD 0 5 r with
    | none => exact thT0 hr hl h4
    | some z =>
      obtain ⟨j, q⟩ := z
      simp only [h4] at h
      cases h5 : tkM 58 q with
      | none => exact thT1 hr hl h4 h5
      | some q1 =>
        simp only [h5, hd3] at h
        cases h1 : tkD (j + 1) 6 q1 with
        | none => exact thT2 hr hl h4 h5 h1
        | some x =>
          obtain ⟨d1, s1⟩ := x
          simp only [h1] at h
          cases h2 : tkM 46 s1 with
          | none => exact thT3 hr hl h4 h5 h1 h2
          | some s2 =>
            simp only [h2] at h
            cases h3 : tkD 0 9 s2 with
            | none => exact thT4 hr hl h4 h5 h1 h2 h3
            | some y =>
              obtain ⟨i, s3⟩ := y
              rw [h3] at h
              cases h
end Go.Proofs.Ytdoaopeegcakiaa
