/- Subsets with a given rank: the model and the program collect the same list. -/
import Derived.Test.YtcjiejbndmnjaaaI5
import Derived.Test.YtcjiejbndmnjaaaB3
namespace Go.Proofs.Ytcjiejbndmnjaaa
open Go.RowKit

theorem owns_ext {w w' : World} {B t k n : Nat} {v : Value} {xs : List Value} (h : w.ownsRow B t k v n xs) (he : Ext w w') : w'.ownsRow B t k v n xs := by
  refine ⟨h.1, ?_⟩
  rcases h.2 with h | ⟨g, cap, cur, rfl, hb, hh, rest⟩
  · exact .inl h
  · exact .inr ⟨g, cap, cur, rfl, hb, by rw [he.block g (Array.getElem?_eq_some_iff.1 hh).1]; exact hh, rest⟩
theorem owns_slice {w : World} {B t k n : Nat} {v : Value} {xs : List Value} (h : w.ownsRow B t k v n xs) : ∃ a c, v = .slice a n c := by
  rcases h.2 with ⟨rfl, rfl⟩ | ⟨g, cap, cur, rfl, _⟩
  · exact ⟨none, 0, rfl⟩
  · exact ⟨_, cap, rfl⟩
/-- A row that make has made with the length 0. -/
theorem owns_made (w : World) (z : Value) (n t : Nat) (hn : n ≤ maxLen) : (w.alloc (.cells (madeCells #[z] n) t)).ownsRow w.heap.size t 1 (.slice (some ⟨w.heap.size, 0, none⟩) 0 n) 0 [] :=
  ⟨by simp, .inr ⟨w.heap.size, n, _, rfl, Nat.le_refl _, Go.Deep.blk_alloc_new _ _, by omega, hn, by rw [size_madeCells, Nat.mul_one], by simp⟩⟩
theorem src_new (w : World) (x : Value) (t : Nat) : ∀ (j : Nat) (u : Value), [x][j]? = some u → (w.alloc (.cells #[x] t)).cell? ((⟨w.heap.size, 0, none⟩ : Addr).add j) = some u := by
  intro j u hu
  cases j with
  | zero =>
    obtain rfl : x = u := by simpa using hu
    have h : (w.alloc (.cells #[x] t)).rowIs w.heap.size t 1 (fun _ => x) := World.rowIs_alloc w #[x] t _ fun i hi => by
      have h1 : i < 1 := hi
      obtain rfl : i = 0 := by omega
      rfl
    rw [add_plain]
    exact h.cell (by omega)
  | succ j => simp at hu
theorem intCells_snoc (l : List Int) (x : Int) : intCells l ++ [.int .i64 x] = intCells (l ++ [x]) := by simp [intCells]

/-- What has been collected, and what is still to come. -/
def SubSt (w wr : World) (n k r0 : Nat) (out : Value) (x m len j r : Nat) : Prop :=
  ∃ pre : List Int, Ext w wr ∧ wr.ownsRow w.heap.size 3 1 out len (intCells pre) ∧ pre ++ sub x m j r = sub 0 n k r0 ∧ pre.length = len ∧ r < ch m j ∧ x + m = n ∧ len + j = k
theorem SubSt.take {w wr w1 : World} {n k r0 x m len j r : Nat} {out v' : Value} (h : SubSt w wr n k r0 out x (m + 1) len (j + 1) r) (hr : r < ch m j) (hx : Ext w w1) (ho : ∀ pre, wr.ownsRow w.heap.size 3 1 out len (intCells pre) → w1.ownsRow w.heap.size 3 1 v' (len + 1) (intCells pre ++ [.int .i64 x])) : SubSt w w1 n k r0 v' (x + 1) m (len + 1) j r := by
  obtain ⟨pre, h1, h2, h3, h4, h5, h6, h7⟩ := h
  refine ⟨pre ++ [(x : Int)], hx, by rw [← intCells_snoc]; exact ho pre h2, ?_, by simp [h4], hr, by omega, by omega⟩
  rw [← h3, sub_take hr]; simp
theorem SubSt.skip {w wr w1 : World} {n k r0 x m len j r : Nat} {out : Value} (h : SubSt w wr n k r0 out x (m + 1) len (j + 1) r) (hr : ¬r < ch m j) (hx : Ext wr w1) : SubSt w w1 n k r0 out (x + 1) m len (j + 1) (r - ch m j) := by
  obtain ⟨pre, h1, h2, h3, h4, h5, h6, h7⟩ := h
  refine ⟨pre, h1.trans' hx, owns_ext h2 hx, ?_, h4, by rw [ch_succ] at h5; omega, by omega, by omega⟩
  rw [← h3, sub_skip hr]
theorem SubSt.done {w wr : World} {n k r0 x m len r : Nat} {out : Value} (h : SubSt w wr n k r0 out x m len 0 r) (hn : n ≤ 60) : ∃ bs, Ext w wr ∧ OwnI wr out (sub 0 n k r0) bs ∧ Fresh w bs := by
  obtain ⟨pre, h1, h2, h3, h4, h5, h6, h7⟩ := h
  rw [sub_nil, List.append_nil] at h3
  subst h3
  obtain ⟨bs, ho, hnd, hge⟩ := own_of_row (l := sub 0 n k r0) (by rw [h4]; exact h2) (fun i hi => intCells_get _ i hi) (fun i hi => by
    have := sub_range n 0 k r0 (gi (sub 0 n k r0) i) (by simp [gi, hi])
    exact ⟨by omega, by omega⟩)
  exact ⟨bs, h1, ho, hnd, hge⟩

set_option maxHeartbeats 1600000 in
set_option maxRecDepth 100000 in
theorem nuAt_any (n k r : Nat) (hn : n ≤ 60) (hk : k ≤ 60) (hr : r < ch n k) (w : World) :
    Calls Try.prog 60 #[.int .i64 n, .int .i64 k, .int .i64 r] w fun e w' => ∃ v' bs, e = .returned v' ∧ Ext w w' ∧ OwnI w' v' (sub 0 n k r) bs ∧ Fresh w bs := by
  obtain ⟨i0, hi, hz0, hz1, hz2⟩ := info_parts Try.info3
  have I0 := Lib.hid (And.intro hi (And.intro hz0 (And.intro hz1 hz2)))
  have HB := Lib.hid (ch_bound (n := n) (k := k) hn)
  have HR := Lib.hid hr
  clear hi hz0 hz1 hz2 hr
  go_enter Try.func60, Try.ntmps60
  go_wp2
  go_loopg [2, 7, 8] n (fun g rr out xx wr => ∃ x m len j q : Nat, x ≤ 60 ∧ len ≤ 60 ∧ q ≤ 9000000000000000000 ∧ g = m ∧ rr = .int .i64 q ∧ xx = .int .i64 x ∧ Hid (SubSt w wr n k r out x m len j q))
  case atStart => exact ⟨0, n, 0, k, r, by omega, by omega, by have := HB.out; have := HR.out; omega, rfl, rfl, rfl, [], Ext.rfl' w, World.ownsRow_nil _ _ _ _, rfl, rfl, HR.out, by omega, by omega⟩
  case round =>
    obtain ⟨x, m, len, j, q, hx, hlen, hq, hg, rfl, rfl, Hr⟩ := hrel
    have HG := Lib.hid hg
    clear hg
    have hout : ∃ a c, u7 = .slice a len c := by obtain ⟨_, _, h, _⟩ := Hr.out; exact owns_slice h
    obtain ⟨a, c, rfl⟩ := hout
    cases j with
    | zero =>
      have hlk : ¬len < k := by obtain ⟨_, _, _, _, _, _, _, h⟩ := Hr.out; omega
      go_wp2
      go_ret
      obtain ⟨bs, h1, h2, h3⟩ := Hr.out.done hn
      exact ⟨_, bs, rfl, h1, h2, h3⟩
    | succ j =>
      have hlk : len < k := by obtain ⟨_, _, _, _, _, _, _, h⟩ := Hr.out; omega
      have hm : 0 < m := by
        obtain ⟨_, _, _, _, _, h, _⟩ := Hr.out
        cases m with
        | zero => rw [ch_none] at h; omega
        | succ m => omega
      obtain ⟨m, rfl⟩ : ∃ m', m = m' + 1 := ⟨m - 1, by omega⟩
      have en : (n : Int) - (x : Int) - 1 = (m : Int) := by obtain ⟨_, _, _, _, _, _, h, _⟩ := Hr.out; omega
      have ek : (k : Int) - (len : Int) - 1 = (j : Int) := by obtain ⟨_, _, _, _, _, _, _, h⟩ := Hr.out; omega
      have hx1 : x + 1 ≤ 60 := by obtain ⟨_, _, _, _, _, _, h, _⟩ := Hr.out; omega
      have hm60 : m ≤ 60 := by obtain ⟨_, _, _, _, _, _, h, _⟩ := Hr.out; omega
      have hj60 : j ≤ 60 := by obtain ⟨_, _, _, _, _, _, _, h⟩ := Hr.out; omega
      have hb := ch_bound (n := m) (k := j) hm60
      have EN := Lib.hid en
      have EK := Lib.hid ek
      clear hm
      by_cases hr : q < ch m j
      · have Hq := Lib.hid hr
        obtain ⟨pre, hs⟩ := Hr.out
        have HP := Lib.hid hs
        clear hs
        go_wp2_with (first | (go_at_call 58; (with_reducible refine (nuChoose_any _ _ hm60 (by omega) _).mono ?_); rintro e w1 ⟨rfl, hw⟩; rw [Int.toNat_natCast]; have K1 := Lib.hid hw; clear hw en ek; have HW := Lib.hid ((owns_ext HP.out.2.1 K1.out).alloc (.cells #[.int .i64 (x : Int)] 3)); have hB : w.heap.size ≤ w1.heap.size := by have := HP.out.1.size; have := K1.out.size; omega) | (at_builtin; refine wpList_append_own _ rfl _ _ 27 rfl w.heap.size 3 i0 (.int .i64 0) 1 8 Try.underlying27 I0.out.1 I0.out.2.1 I0.out.2.2.1 I0.out.2.2.2 rfl (by decide) _ _ _ rfl HW.out ⟨w1.heap.size, 0, none⟩ 1 1 [.int .i64 (x : Int)] rfl rfl ?c1 ?c2 ?c3 ?c4 ?c5 ?_))
        case c1 => exact src_new _ _ _
        case c2 => simp [Value.oneCell']
        case c3 => unfold maxLen; omega
        case c4 => omega
        case c5 => first | omega | (simp; omega)
        intro v' w2 hown' hgrow _
        have HN : Hid (SubSt w w2 n k r v' (x + 1) m (len + 1) j q) := by
          have hs := HP.out
          refine ⟨pre ++ [(x : Int)], ?_, by rw [← intCells_snoc]; exact hown', ?_, by simp [hs.2.2.2.1], Hq.out, by have := hs.2.2.2.2.2.1; omega, by have := hs.2.2.2.2.2.2; omega⟩
          · exact grown_ext ((hs.1.trans' K1.out).alloc' _) (Nat.le_refl _) HW.out hgrow
          · rw [← hs.2.2.1, sub_take Hq.out]; simp
        clear hown' hgrow
        go_wp2
        go_roundg m
        case measure => have := HG.out; omega
        case rel => exact ⟨x + 1, m, len + 1, j, q, by omega, by omega, by omega, rfl, rfl, by go_num, HN⟩
      · have Hq := Lib.hid hr
        go_wp2_with (go_at_call 58; (with_reducible refine (nuChoose_any _ _ hm60 (by omega) _).mono ?_); rintro e w1 ⟨rfl, hw⟩; rw [Int.toNat_natCast]; have K1 := Lib.hid hw; clear hw en ek)
        have HN := Lib.hid (Hr.out.skip Hq.out K1.out)
        go_wp2
        go_roundg m
        case measure => have := HG.out; omega
        case rel => exact ⟨x + 1, m, len, j + 1, q - ch m j, by omega, by omega, by omega, rfl, by go_num, by go_num, HN⟩

set_option maxHeartbeats 1600000 in
set_option maxRecDepth 100000 in
theorem subsetWithRank_any (n k r : Nat) (hn : n ≤ 60) (hk : k ≤ 60) (hr : r < ch n k) (w : World) :
    Calls Try.prog 61 #[.int .i64 n, .int .i64 k, .int .i64 r] w fun e w' => ∃ v' bs, e = .returned v' ∧ Ext w w' ∧ OwnI w' v' (sub 0 n k r) bs ∧ Fresh w bs := by
  obtain ⟨i0, hi, hz0, hz1, hz2⟩ := info_parts Try.info3
  have I0 := Lib.hid (And.intro hi (And.intro hz0 (And.intro hz1 hz2)))
  have HB := Lib.hid (ch_bound (n := n) (k := k) hn)
  have HR := Lib.hid hr
  have hmk : ∀ u : World, (Instr.makeSlice 27 (.int .i64 0) (.int .i64 (k : Int))).run Try.prog u = .ok (.slice (some ⟨u.heap.size, 0, none⟩) 0 k) (u.alloc (.cells (madeCells #[.int .i64 0] k) 3)) := fun u => by
    have h := run_make (P := Try.prog) (w := u) 27 3 i0 _ Try.underlying27 hi hz0 .i64 .i64 0 k (by omega) (by omega) (by rw [hz2]; omega) (by omega)
    simpa [hz1, Value.cells] using h
  clear hi hz0 hz1 hz2 hr
  go_enter Try.func61, Try.ntmps61
  go_wp2
  clear hmk
  go_loopg [2, 7, 8] n (fun g rr out xx wr => ∃ x m len j q : Nat, x ≤ 60 ∧ len ≤ 60 ∧ q ≤ 9000000000000000000 ∧ g = m ∧ rr = .int .i64 q ∧ xx = .int .i64 x ∧ Hid (SubSt w wr n k r out x m len j q))
  case atStart => exact ⟨0, n, 0, k, r, by omega, by omega, by have := HB.out; have := HR.out; omega, rfl, rfl, rfl, [], (Ext.rfl' w).alloc' _, owns_made w _ _ _ (by unfold maxLen; omega), rfl, rfl, HR.out, by omega, by omega⟩
  case round =>
    obtain ⟨x, m, len, j, q, hx, hlen, hq, hg, rfl, rfl, Hr⟩ := hrel
    have HG := Lib.hid hg
    clear hg
    have hout : ∃ a c, u7 = .slice a len c := by obtain ⟨_, _, h, _⟩ := Hr.out; exact owns_slice h
    obtain ⟨a, c, rfl⟩ := hout
    cases j with
    | zero =>
      have hlk : ¬len < k := by obtain ⟨_, _, _, _, _, _, _, h⟩ := Hr.out; omega
      go_wp2
      go_ret
      obtain ⟨bs, h1, h2, h3⟩ := Hr.out.done hn
      exact ⟨_, bs, rfl, h1, h2, h3⟩
    | succ j =>
      have hlk : len < k := by obtain ⟨_, _, _, _, _, _, _, h⟩ := Hr.out; omega
      have hm : 0 < m := by
        obtain ⟨_, _, _, _, _, h, _⟩ := Hr.out
        cases m with
        | zero => rw [ch_none] at h; omega
        | succ m => omega
      obtain ⟨m, rfl⟩ : ∃ m', m = m' + 1 := ⟨m - 1, by omega⟩
      have en : (n : Int) - 1 - (x : Int) = (m : Int) := by obtain ⟨_, _, _, _, _, _, h, _⟩ := Hr.out; omega
      have ek : (k : Int) - 1 - (len : Int) = (j : Int) := by obtain ⟨_, _, _, _, _, _, _, h⟩ := Hr.out; omega
      have hx1 : x + 1 ≤ 60 := by obtain ⟨_, _, _, _, _, _, h, _⟩ := Hr.out; omega
      have hm60 : m ≤ 60 := by obtain ⟨_, _, _, _, _, _, h, _⟩ := Hr.out; omega
      have hj60 : j ≤ 60 := by obtain ⟨_, _, _, _, _, _, _, h⟩ := Hr.out; omega
      have hb := ch_bound (n := m) (k := j) hm60
      have EN := Lib.hid en
      have EK := Lib.hid ek
      clear hm
      by_cases hr : q < ch m j
      · have Hq := Lib.hid hr
        obtain ⟨pre, hs⟩ := Hr.out
        have HP := Lib.hid hs
        clear hs
        go_wp2_with (first | (go_at_call 59; (with_reducible refine (countSubsets_any _ _ hm60 hj60 _).mono ?_); rintro e w1 ⟨rfl, hw⟩; have K1 := Lib.hid (Ext.of_eq hw); clear hw en ek; have HW := Lib.hid ((owns_ext HP.out.2.1 K1.out).alloc (.cells #[.int .i64 (x : Int)] 3)); have hB : w.heap.size ≤ w1.heap.size := by have := HP.out.1.size; have := K1.out.size; omega) | (at_builtin; refine wpList_append_own _ rfl _ _ 27 rfl w.heap.size 3 i0 (.int .i64 0) 1 8 Try.underlying27 I0.out.1 I0.out.2.1 I0.out.2.2.1 I0.out.2.2.2 rfl (by decide) _ _ _ rfl HW.out ⟨w1.heap.size, 0, none⟩ 1 1 [.int .i64 (x : Int)] rfl rfl ?c1 ?c2 ?c3 ?c4 ?c5 ?_))
        case c1 => exact src_new _ _ _
        case c2 => simp [Value.oneCell']
        case c3 => unfold maxLen; omega
        case c4 => omega
        case c5 => first | omega | (simp; omega)
        intro v' w2 hown' hgrow _
        have HN : Hid (SubSt w w2 n k r v' (x + 1) m (len + 1) j q) := by
          have hs := HP.out
          refine ⟨pre ++ [(x : Int)], ?_, by rw [← intCells_snoc]; exact hown', ?_, by simp [hs.2.2.2.1], Hq.out, by have := hs.2.2.2.2.2.1; omega, by have := hs.2.2.2.2.2.2; omega⟩
          · exact grown_ext ((hs.1.trans' K1.out).alloc' _) (Nat.le_refl _) HW.out hgrow
          · rw [← hs.2.2.1, sub_take Hq.out]; simp
        clear hown' hgrow
        go_wp2
        go_roundg m
        case measure => have := HG.out; omega
        case rel => exact ⟨x + 1, m, len + 1, j, q, by omega, by omega, by omega, rfl, rfl, by go_num, HN⟩
      · have Hq := Lib.hid hr
        go_wp2_with (go_at_call 59; (with_reducible refine (countSubsets_any _ _ hm60 hj60 _).mono ?_); rintro e w1 ⟨rfl, hw⟩; have K1 := Lib.hid (Ext.of_eq hw); clear hw en ek)
        have HN := Lib.hid (Hr.out.skip Hq.out K1.out)
        go_wp2
        go_roundg m
        case measure => have := HG.out; omega
        case rel => exact ⟨x + 1, m, len, j + 1, q - ch m j, by omega, by omega, by omega, rfl, by go_num, by go_num, HN⟩
end Go.Proofs.Ytcjiejbndmnjaaa
