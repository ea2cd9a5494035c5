/- PlaceOf: the model and the program count lines and bytes alike. -/
import Derived.Test.YtecgajpjcaemmaaRows
import Derived.Test.YtecgajpjcaemmaaProg
import Derived.Test.YtecgajpjcaemmaaShelf
import Derived.WalkKit
import Derived.Lib.Hide
import Derived.WalkSpells
import Derived.WalkLawsBesides
import Derived.Deep.OwnRows
import Derived.Deep.LoopGhost
import Derived.Deep.Light
import Derived.Deep.QuietTactic
import Derived.BigQuiet
import Derived.ProofKit
import Derived.OpenShut
import Derived.Lib.SmallJoins
import Derived.WideKeyArgs
import Derived.Lib.LastIndexLaws
namespace Go.Proofs.Ytecgajpjcaemmaa
open Go.RowKit

abbrev Ext (w w' : World) : Prop := w.Since w.heap.size w'
theorem Ext.rfl' (w : World) : Ext w w := World.Since.refl _ _
abbrev Bs := List UInt8
abbrev bs (l : Bs) : ByteArray := ⟨l.toArray⟩
theorem bs_data (l : Bs) : (bs l).data.toList = l := by simp
theorem bs_size (l : Bs) : (bs l).size = l.length := by simp [ByteArray.size]
def bat (l : Bs) (k : Nat) : UInt8 := l.getD k 0
theorem bs_get (l : Bs) (k : Nat) (h : k < (bs l).size) : (bs l)[k] = bat l k := by
  have h' : k < l.length := by rw [bs_size] at h; exact h
  show l.toArray[k] = l.getD k 0
  simp [List.getD, h']
theorem bat_at {l : Bs} {k : Nat} (h : k < l.length) : l[k]? = some (bat l k) := by simp [bat, List.getD, h]
theorem take_succ_bat {l : Bs} {k : Nat} (h : k < l.length) : l.take (k + 1) = l.take k ++ [bat l k] := by rw [List.take_add_one, bat_at h]; rfl
theorem byte_int {b c : UInt8} (h : b ≠ c) : ¬ ((b.toNat : Int) = (c.toNat : Int)) := fun e => h (UInt8.toNat_inj.1 (by omega))
theorem extract_bs (l : Bs) (a b : Nat) : (bs l).extract a b = bs ((l.drop a).take (b - a)) := by rw [Go.Lib.extract_eq, bs_data]
theorem ret_bool {a b : Bool} (h : a = b) : Ending.returned (.bool a) = .returned (.bool b) := by rw [h]
noncomputable def dec (p : Prop) : Bool := @decide p (Classical.propDecidable p)
theorem dec_true {p : Prop} (h : p) : dec p = true := @decide_eq_true p (Classical.propDecidable p) h
theorem dec_false {p : Prop} (h : ¬p) : dec p = false := @decide_eq_false p (Classical.propDecidable p) h
def InB (n lo hi : Int) : Prop := lo ≤ n ∧ n ≤ hi
theorem l1In_any (n lo hi : Int) (w : World) : Calls Try.prog 6 #[.int .i64 n, .int .i64 lo, .int .i64 hi] w fun e w' => e = .returned (.bool (dec (InB n lo hi))) ∧ w = w' := by
  by_cases h1 : lo ≤ n
  · by_cases h2 : n ≤ hi
    · have e := Lib.hid (dec_true (p := InB n lo hi) ⟨h1, h2⟩)
      go_enter Try.func6, Try.ntmps6
      go_wp2
      go_ret
      exact ⟨ret_bool e.out.symm, rfl⟩
    · have e := Lib.hid (dec_false (p := InB n lo hi) (fun h => h2 h.2))
      go_enter Try.func6, Try.ntmps6
      go_wp2
      go_ret
      exact ⟨ret_bool e.out.symm, rfl⟩
  · have e := Lib.hid (dec_false (p := InB n lo hi) (fun h => h1 h.1))
    go_enter Try.func6, Try.ntmps6
    go_wp2
    go_ret
    exact ⟨ret_bool e.out.symm, rfl⟩

theorem isBetween_any (n lo hi : Int) (w : World) : Calls Try.prog 7 #[.int .i64 n, .int .i64 lo, .int .i64 hi] w fun e w' => e = .returned (.bool (dec (InB n lo hi))) ∧ w = w' := by
  by_cases h1 : lo ≤ n
  · by_cases h2 : n ≤ hi
    · have e := Lib.hid (dec_true (p := InB n lo hi) ⟨h1, h2⟩)
      go_enter Try.func7, Try.ntmps7
      go_wp2
      go_ret
      exact ⟨ret_bool e.out.symm, rfl⟩
    · have e := Lib.hid (dec_false (p := InB n lo hi) (fun h => h2 h.2))
      go_enter Try.func7, Try.ntmps7
      go_wp2
      go_ret
      exact ⟨ret_bool e.out.symm, rfl⟩
  · have e := Lib.hid (dec_false (p := InB n lo hi) (fun h => h1 h.1))
    go_enter Try.func7, Try.ntmps7
    go_wp2
    go_ret
    exact ⟨ret_bool e.out.symm, rfl⟩

theorem occ_one (s : Bs) (c : UInt8) (j : Nat) : Go.Lib.occAt s [c] j = decide (s[j]? = some c) := by
  unfold Go.Lib.occAt
  rw [← List.head?_drop]
  cases s.drop j with
  | nil => simp
  | cons b t =>
    simp only [List.isPrefixOf, List.head?_cons, Bool.and_true, Option.some.injEq]
    by_cases h : c = b
    · subst h; simp
    · rw [decide_eq_false (fun e => h e.symm)]; exact beq_eq_false_iff_ne.2 h

/-! The last place of a byte. -/
theorem last_eq (s : Bs) (c : UInt8) : Go.Lib.lastIndex s [c] = Go.Lib.lastOcc s [c] s.length := by
  unfold Go.Lib.lastIndex
  cases s with
  | nil => rfl
  | cons b t => rw [if_pos (by simp)]; rfl
theorem lastOcc_app (l : Bs) (b c : UInt8) (k : Nat) (h : k ≤ l.length) : Go.Lib.lastOcc (l ++ [b]) [c] k = Go.Lib.lastOcc l [c] k := by
  induction k with
  | zero => rfl
  | succ k ih =>
    have e : Go.Lib.occAt (l ++ [b]) [c] k = Go.Lib.occAt l [c] k := by
      rw [occ_one, occ_one, List.getElem?_append_left (by omega)]
    cases g : Go.Lib.occAt l [c] k with
    | true => rw [Go.Lib.lastOcc_hit _ _ _ g, Go.Lib.lastOcc_hit _ _ _ (e.trans g)]
    | false => rw [Go.Lib.lastOcc_miss _ _ _ g, Go.Lib.lastOcc_miss _ _ _ (e.trans g), ih (by omega)]
theorem last_nil (c : UInt8) : Go.Lib.lastIndex [] [c] = -1 := rfl
theorem last_hit (l : Bs) (c : UInt8) : Go.Lib.lastIndex (l ++ [c]) [c] = l.length := by
  rw [last_eq, List.length_append, List.length_singleton]
  exact Go.Lib.lastOcc_hit _ _ _ (by rw [occ_one]; simp)
theorem last_miss (l : Bs) (b c : UInt8) (h : b ≠ c) : Go.Lib.lastIndex (l ++ [b]) [c] = Go.Lib.lastIndex l [c] := by
  rw [last_eq, last_eq, List.length_append, List.length_singleton, Go.Lib.lastOcc_miss _ _ _ (by rw [occ_one]; simp [h]), lastOcc_app _ _ _ _ (Nat.le_refl _)]
theorem count_snoc (l : Bs) (b c : UInt8) : Go.Lib.countByte (l ++ [b]) c = Go.Lib.countByte l c + (if b = c then 1 else 0) := by
  unfold Go.Lib.countByte
  rw [List.count_append]
  by_cases h : b = c
  · subst h; simp
  · rw [if_neg h, show [b].count c = 0 from List.count_eq_zero.2 (fun e => h (List.mem_singleton.1 e).symm)]
theorem last_bounds (l : Bs) (c : UInt8) : -1 ≤ Go.Lib.lastIndex l [c] ∧ Go.Lib.lastIndex l [c] < l.length := by
  rw [last_eq]
  rcases Go.Lib.lastOcc_spec l [c] l.length with ⟨h, _⟩ | ⟨i, h1, h2, _⟩
  · rw [h]; omega
  · rw [h2]; omega


/-- Line and column of an offset. -/
def lineAt (l : Bs) (k : Nat) : Int := 1 + (Go.Lib.countByte (l.take k) 10 : Nat)
def colAt (l : Bs) (k : Nat) : Int := (k : Int) - Go.Lib.lastIndex (l.take k) [10]
theorem line_hit {l : Bs} {k : Nat} (h : k < l.length) (e : bat l k = 10) : lineAt l (k + 1) = lineAt l k + 1 := by
  unfold lineAt; rw [take_succ_bat h, count_snoc, if_pos e]; omega
theorem line_miss {l : Bs} {k : Nat} (h : k < l.length) (e : bat l k ≠ 10) : lineAt l (k + 1) = lineAt l k := by
  unfold lineAt; rw [take_succ_bat h, count_snoc, if_neg e]; omega
theorem col_hit {l : Bs} {k : Nat} (h : k < l.length) (e : bat l k = 10) : colAt l (k + 1) = 1 := by
  unfold colAt; rw [take_succ_bat h, e, last_hit, List.length_take]; omega
theorem col_miss {l : Bs} {k : Nat} (h : k < l.length) (e : bat l k ≠ 10) : colAt l (k + 1) = colAt l k + 1 := by
  unfold colAt; rw [take_succ_bat h, last_miss _ _ _ e]; omega
theorem line_zero (l : Bs) : lineAt l 0 = 1 := by unfold lineAt; rw [List.take_zero]; rfl
theorem col_zero (l : Bs) : colAt l 0 = 1 := by unfold colAt; rw [List.take_zero, last_nil]; rfl
theorem count_le_s (l : Bs) (c : UInt8) : Go.Lib.countByte l c ≤ l.length := List.count_le_length
theorem line_bounds (l : Bs) (k : Nat) : 1 ≤ lineAt l k ∧ lineAt l k ≤ k + 1 := by
  have h := count_le_s (l.take k) 10
  rw [List.length_take] at h
  unfold lineAt; omega
theorem col_bounds (l : Bs) (k : Nat) (h : k ≤ l.length) : 1 ≤ colAt l k ∧ colAt l k ≤ k + 1 := by
  obtain ⟨a, b⟩ := last_bounds (l.take k) 10
  rw [List.length_take] at b
  unfold colAt; omega

set_option maxHeartbeats 800000 in
set_option maxRecDepth 100000 in
theorem specPlace_any (l : Bs) (k0 : Nat) (hl : l.length ≤ 1048576) (hk0 : k0 ≤ l.length) (w : World) :
    Calls Try.prog 4 #[.string (bs l), .int .i64 k0] w fun e w' => e = .returned (.tuple #[.int .i64 (lineAt l k0), .int .i64 (colAt l k0), .bool true]) ∧ w = w' := by
  have hsz := bs_size l
  have hg := bs_get l
  have hb := Lib.hid (dec_true (p := InB (k0 : Int) 0 l.length) ⟨by omega, by omega⟩)
  go_enter Try.func4, Try.ntmps4
  go_wp2_with (go_at_call 6; (with_reducible refine (l1In_any _ _ _ _).mono ?_); rintro e w' ⟨rfl, rfl⟩; rw [hb.out])
  go_loopg [7, 8, 9] k0 (fun g v7 v8 v9 wr => ∃ k : Nat, k ≤ k0 ∧ g = k0 - k ∧ v7 = .int .i64 (lineAt l k) ∧ v8 = .int .i64 (colAt l k) ∧ v9 = .int .i64 k ∧ Hid (w = wr))
  case atStart => exact ⟨0, Nat.zero_le _, rfl, by rw [line_zero], by rw [col_zero], rfl, rfl⟩
  case round =>
    obtain ⟨k, hk, rfl, rfl, rfl, rfl, Hr⟩ := hrel
    obtain ⟨a1, a2⟩ := line_bounds l k
    obtain ⟨b1, b2⟩ := col_bounds l k (by omega)
    by_cases hlt : k < k0
    · have hkl : k < l.length := by omega
      by_cases e : bat l k = 10
      · have e0 : ((bat l k).toNat : Int) = 10 := by rw [e]; rfl
        have H1 := Lib.hid (line_hit hkl e)
        have H2 := Lib.hid (col_hit hkl e)
        clear e
        go_wp2
        go_roundg (k0 - (k + 1))
        case measure => omega
        case rel => exact ⟨k + 1, by omega, rfl, by rw [H1.out], by rw [H2.out], by go_num, Hr.out⟩
      · have e0 : ¬ ((bat l k).toNat : Int) = 10 := byte_int e
        have H1 := Lib.hid (line_miss hkl e)
        have H2 := Lib.hid (col_miss hkl e)
        clear e
        go_wp2
        go_roundg (k0 - (k + 1))
        case measure => omega
        case rel => exact ⟨k + 1, by omega, rfl, by rw [H1.out], by rw [H2.out], by go_num, Hr.out⟩
    · obtain rfl : k = k0 := by omega
      go_wp2
      refine bodyPost_ret (v := .tuple #[.int .i64 (lineAt l k), .int .i64 (colAt l k), .bool true]) (by simp [results, Try.results4, go_sem]) rfl ⟨rfl, Hr.out⟩
set_option maxHeartbeats 800000 in
set_option maxRecDepth 100000 in
theorem specPlace_no (l : Bs) (x : Int) (_hl : l.length ≤ 1048576) (hx : ¬ InB x 0 l.length) (w : World) :
    Calls Try.prog 4 #[.string (bs l), .int .i64 x] w fun e w' => e = .returned (.tuple #[.int .i64 0, .int .i64 0, .bool false]) ∧ w = w' := by
  have hsz := bs_size l
  have hb := Lib.hid (dec_false hx)
  clear hx
  go_enter Try.func4, Try.ntmps4
  go_wp2_with (go_at_call 6; (with_reducible refine (l1In_any _ _ _ _).mono ?_); rintro e w' ⟨rfl, rfl⟩; rw [hb.out])
  refine bodyPost_ret (v := .tuple #[.int .i64 0, .int .i64 0, .bool false]) (by simp [results, Try.results4, go_sem]) rfl ⟨rfl, rfl⟩
set_option maxHeartbeats 800000 in
set_option maxRecDepth 100000 in
theorem implPlace_any (l : Bs) (k : Nat) (hl : l.length ≤ 1048576) (hk : k ≤ l.length) (w : World) :
    Calls Try.prog 5 #[.string (bs l), .int .i64 k] w fun e w' => e = .returned (.tuple #[.int .i64 (lineAt l k), .int .i64 (colAt l k), .bool true]) ∧ w = w' := by
  have hsz := bs_size l
  have hb := Lib.hid (dec_true (p := InB (k : Int) 0 l.length) ⟨by omega, by omega⟩)
  have hex : (bs l).extract 0 k = bs (l.take k) := by rw [extract_bs]; simp
  have hlt : (l.take k).length ≤ 1048576 := by rw [List.length_take]; omega
  obtain ⟨b1, b2⟩ := last_bounds (l.take k) 10
  have b3 := count_le_s (l.take k) 10
  have HC := Lib.hid (Try.strings_Count_one (bs (l.take k)) 10 w)
  have HI := Lib.hid (Try.strings_LastIndex (bs (l.take k)) (bs [10]) (by rw [bs_size]; omega) w)
  rw [bs_data] at HC HI
  rw [bs_data] at HI
  have hL : lineAt l k = 1 + (Go.Lib.countByte (l.take k) 10 : Nat) := rfl
  have hC : colAt l k = (k : Int) - Go.Lib.lastIndex (l.take k) [10] := rfl
  generalize hcv : Go.Lib.countByte (l.take k) 10 = cv at HC hL b3
  generalize hiv : Go.Lib.lastIndex (l.take k) [10] = iv at HI hC b1 b2
  rw [hL, hC]
  go_enter Try.func5, Try.ntmps5
  go_wp2_with (first | (go_at_call 7; (with_reducible refine (isBetween_any _ _ _ _).mono ?_); rintro e w' ⟨rfl, rfl⟩; rw [hb.out]) | (go_at_call 8; refine (HC.out).mono ?_; rintro e w' ⟨rfl, rfl⟩) | (go_at_call 9; refine (HI.out).mono ?_; rintro e w' ⟨rfl, rfl⟩))
  refine bodyPost_ret (v := .tuple #[.int .i64 (1 + (cv : Int)), .int .i64 ((k : Int) - iv), .bool true]) (by simp [results, Try.results5, go_sem]) rfl ⟨rfl, rfl⟩
set_option maxHeartbeats 800000 in
set_option maxRecDepth 100000 in
theorem implPlace_no (l : Bs) (x : Int) (_hl : l.length ≤ 1048576) (hx : ¬ InB x 0 l.length) (w : World) :
    Calls Try.prog 5 #[.string (bs l), .int .i64 x] w fun e w' => e = .returned (.tuple #[.int .i64 0, .int .i64 0, .bool false]) ∧ w = w' := by
  have hsz := bs_size l
  have hb := Lib.hid (dec_false hx)
  clear hx
  go_enter Try.func5, Try.ntmps5
  go_wp2_with (go_at_call 7; (with_reducible refine (isBetween_any _ _ _ _).mono ?_); rintro e w' ⟨rfl, rfl⟩; rw [hb.out])
  refine bodyPost_ret (v := .tuple #[.int .i64 0, .int .i64 0, .bool false]) (by simp [results, Try.results5, go_sem]) rfl ⟨rfl, rfl⟩
set_option maxHeartbeats 800000 in
set_option maxRecDepth 100000 in
theorem walk_PlaceOf (s : ByteArray) (x : Int) (hs : s.size ≤ 9223372036854775807) (w : World) :
    Calls Try.prog 3 #[.string s, .int .i64 x] w fun e w' => e = .returned (.bool true) ∧ Ext w w' := by
  obtain ⟨l, rfl⟩ : ∃ l, s = bs l := ⟨s.data.toList, (Go.Lib.mk_data s).symm⟩
  have hsz := bs_size l
  rw [hsz] at hs
  by_cases hl : l.length ≤ 1048576
  · by_cases hx : InB x 0 l.length
    · obtain ⟨k, rfl⟩ := Int.eq_ofNat_of_zero_le hx.1
      have hk : k ≤ l.length := by have := hx.2; omega
      have HS := Lib.hid (specPlace_any l k hl hk w)
      have HP := Lib.hid (implPlace_any l k hl hk w)
      generalize lineAt l k = p at HS HP
      generalize colAt l k = q at HS HP
      clear hx
      go_enter Try.func3, Try.ntmps3
      go_wp2_with (first | (go_at_call 4; refine (HS.out).mono ?_; rintro e w' ⟨rfl, rfl⟩) | (go_at_call 5; refine (HP.out).mono ?_; rintro e w' ⟨rfl, rfl⟩))
      go_ret
      exact ⟨rfl, Ext.rfl' _⟩
    · have HS := Lib.hid (specPlace_no l x hl hx w)
      have HP := Lib.hid (implPlace_no l x hl hx w)
      clear hx
      go_enter Try.func3, Try.ntmps3
      go_wp2_with (first | (go_at_call 4; refine (HS.out).mono ?_; rintro e w' ⟨rfl, rfl⟩) | (go_at_call 5; refine (HP.out).mono ?_; rintro e w' ⟨rfl, rfl⟩))
      go_ret
      exact ⟨rfl, Ext.rfl' _⟩
  · have hl' : (1048576 : Int) < l.length := by omega
    go_enter Try.func3, Try.ntmps3
    go_wp2
    go_ret
    exact ⟨rfl, Ext.rfl' _⟩
end Go.Proofs.Ytecgajpjcaemmaa
