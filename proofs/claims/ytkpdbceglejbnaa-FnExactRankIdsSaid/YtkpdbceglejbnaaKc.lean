/- Several texts in one: Mark, Mark2, Mark3, Hold, Hold2, App2, Cp, Build. -/
import Derived.Test.YtkpdbceglejbnaaKb
import Derived.Deep.RegionLaw
import Derived.Deep.RegionHeldLaw
/- Contracts of the functions that write marks into memory of its own, and that look whether they are still there: integers. -/
namespace Go.Proofs.Ytkpdbceglejbnaa
open Go.RowKit

/-- Nothing that was there has changed but the blocks in bs. -/
structure Chg (w w' : World) (bs : List Nat) : Prop where
  os : w'.os = w.os
  tape : w'.tape = w.tape
  output : w'.output = w.output
  size : w.heap.size ≤ w'.heap.size
  block : ∀ k, k < w.heap.size → k ∉ bs → w'.heap[k]? = w.heap[k]?

theorem Chg.rfl' (w : World) (bs : List Nat) : Chg w w bs := ⟨rfl, rfl, rfl, Nat.le_refl _, fun _ _ _ => rfl⟩
theorem Chg.of_ext {w w' : World} (h : Ext w w') (bs : List Nat) : Chg w w' bs := ⟨h.os, h.tape, h.output, h.size, fun k hk _ => h.block k hk⟩
theorem Chg.mono {w w' : World} {bs cs : List Nat} (h : Chg w w' bs) (hs : ∀ b ∈ bs, b ∈ cs) : Chg w w' cs := ⟨h.os, h.tape, h.output, h.size, fun k hk hn => h.block k hk fun hb => hn (hs k hb)⟩
theorem Chg.trans' {a b c : World} {bs : List Nat} (h : Chg a b bs) (k : Chg b c bs) : Chg a c bs :=
  ⟨k.os.trans h.os, k.tape.trans h.tape, k.output.trans h.output, Nat.le_trans h.size k.size, fun i hi hn => (k.block i (Nat.lt_of_lt_of_le hi h.size) hn).trans (h.block i hi hn)⟩
theorem Chg.store {a b : World} {bs : List Nat} (h : Chg a b bs) {p : Addr} (hp : p.block ∈ bs) (v : Value) : Chg a (b.setCell p v) bs :=
  ⟨h.os, h.tape, h.output, by simp [World.setCell]; exact h.size, fun k hk hn => (Below.heap_setCell _ _ _ _ (fun e => hn (by rw [e]; exact hp))).trans (h.block k hk hn)⟩
/-- New blocks alone have changed: nothing that was there. -/
theorem Chg.ext {W w w' : World} {bs : List Nat} (he : Ext W w) (h : Chg w w' bs) (hb : ∀ b ∈ bs, W.heap.size ≤ b) : Ext W w' :=
  ⟨h.os.trans he.os, h.tape.trans he.tape, h.output.trans he.output, Nat.le_trans he.size h.size, fun k hk => (h.block k (Nat.lt_of_lt_of_le hk he.size) (fun hn => by have := hb k hn; omega)).trans (he.block k hk)⟩

def marks (k : Int) (n : Nat) : List Int := (List.range n).map fun (i : Nat) => k + (i : Int)
theorem length_marks (k : Int) (n : Nat) : (marks k n).length = n := by simp [marks]
theorem gi_marks (k : Int) (n i : Nat) (h : i < n) : gi (marks k n) i = k + i := by simp [gi, marks, h]

set_option maxHeartbeats 800000 in
set_option maxRecDepth 100000 in
theorem markIntS_any {w : World} {v : Value} {l : List Int} {bs : List Nat} (k : Int) (h : OwnI w v l bs) (hs : l.length ≤ 1048576) (h0 : 0 ≤ k) (h1 : k ≤ 1125899906842624) :
    Calls Try.prog 29 #[v, .int .i64 k] w fun e w' => e = .returned (.int .i64 (k + l.length)) ∧ Chg w w' bs ∧ OwnI w' v (marks k l.length) bs := by
  have hml := length_marks k l.length
  obtain ⟨⟨c, hc1, hc2, h⟩, _⟩ := h
  rcases h with ⟨hn, rfl, a, hac, rfl⟩ | ⟨b, m, g, rfl, rfl, ⟨hm, hmc⟩, hrow, hg⟩
  · have HZ := Lib.hid hn
    have HAC := Lib.hid hac
    clear hn hac
    go_enter Try.func29, Try.ntmps29
    go_wp2
    go_loop [1, 5] (fun t i => i = .int .i64 0 ∧ t = .int .i64 k) (fun _ _ => 0)
    case atStart => exact ⟨rfl, rfl⟩
    case round =>
      obtain ⟨rfl, rfl⟩ := hrel
      go_wp2
      go_ret
      refine ⟨by rw [HZ.out]; simp, Chg.rfl' _ _, ⟨c, by rw [hml]; exact hc1, hc2, .inl ⟨by rw [hml]; exact HZ.out, rfl, a, HAC.out, rfl⟩⟩, fun i hi => absurd hi (by have := HZ.out; omega)⟩
  · unfold maxLen at hc2
    have HMC := Lib.hid hmc
    clear hmc
    have HR := Lib.hid hrow
    clear hrow
    go_enter Try.func29, Try.ntmps29
    go_wp2
    go_loopg [1, 5] l.length (fun gh t i wr => ∃ j : Nat, j ≤ l.length ∧ gh = l.length - j ∧ i = .int .i64 j ∧ t = .int .i64 (k + j) ∧ Hid (Chg w wr [b] ∧ wr.rowIs b 3 m (fun i => if i < j then .int .i64 (k + i) else g i)))
    case atStart => exact ⟨0, Nat.zero_le _, rfl, rfl, by simp, Chg.rfl' _ _, HR.out.congr fun i _ => by simp⟩
    case round =>
      obtain ⟨j, hj, rfl, rfl, rfl, Hr⟩ := hrel
      by_cases hlt : j < l.length
      · have f1 := Hr.out.2.cell (i := j) (by omega)
        have f2 := Hr.out.2.frozen j
        have Hn : Hid (Chg w (wr.setCell ⟨b, j, none⟩ (.int .i64 (k + j))) [b] ∧ (wr.setCell ⟨b, j, none⟩ (.int .i64 (k + j))).rowIs b 3 m (fun i => if i < j + 1 then .int .i64 (k + i) else g i)) := by
          refine ⟨Hr.out.1.store (by simp) _, (Hr.out.2.set j _).congr fun i _ => ?_⟩
          by_cases e : i = j
          · subst e; rw [if_pos rfl, if_pos (by omega)]
          · rw [if_neg e]
            by_cases hij : i < j
            · rw [if_pos hij, if_pos (by omega)]
            · rw [if_neg hij, if_neg (by omega)]
        go_wp2
        go_roundg (l.length - (j + 1))
        case measure => omega
        case rel => exact ⟨j + 1, by omega, rfl, by go_num, by simp; omega, Hn⟩
      · obtain rfl : j = l.length := by omega
        go_wp2
        go_ret
        refine ⟨rfl, Hr.out.1, ⟨c, by rw [hml]; exact hc1, by unfold maxLen; omega, .inr ⟨b, m, _, rfl, by rw [hml], by rw [hml]; exact ⟨hm, HMC.out⟩, Hr.out.2, fun i hi => ?_⟩⟩, fun i hi => ?_⟩
        · rw [hml] at hi
          rw [if_pos (by omega)]
          show _ = Value.int .i64 (gi (marks k l.length) i)
          rw [gi_marks _ _ _ (by omega)]
        · rw [hml] at hi
          rw [gi_marks _ _ _ (by omega)]
          exact ⟨by omega, by omega⟩

set_option maxHeartbeats 800000 in
set_option maxRecDepth 100000 in
theorem heldIntS_any {w : World} {v : Value} (k : Int) (n : Nat) (h : IntSl w v (marks k n)) (hs : n ≤ 1048576) (h0 : 0 ≤ k) (h1 : k ≤ 1125899906842624) :
    Calls Try.prog 30 #[v, .int .i64 k] w fun e w' => e = .returned (.int .i64 (k + n)) ∧ w = w' := by
  obtain ⟨a, b, o, c, rfl, ha, hl, hm, hc⟩ := h
  unfold maxLen at hm
  rw [length_marks] at ha hl hc ⊢
  have Hc := Lib.hid hc
  have Ha := Lib.hid ha
  clear hc ha
  go_enter Try.func30, Try.ntmps30
  go_wp2
  go_loop [1, 5] (fun t i => ∃ j : Nat, j ≤ n ∧ i = .int .i64 j ∧ t = .int .i64 (k + j)) (fun _ i => n - (intOf i).toNat)
  case atStart => exact ⟨0, Nat.zero_le _, rfl, by simp⟩
  case round =>
    obtain ⟨j, hj, rfl, rfl⟩ := hrel
    by_cases hlt : j < n
    · obtain ⟨x, hx, rfl, _⟩ := Hc.out j hlt
      rw [gi_marks _ _ _ hlt] at hx
      obtain rfl := Ha.out (by omega)
      go_wp2
      go_round
      case rel => exact ⟨j + 1, by omega, by go_num, by simp; omega⟩
      case measure => simp [intOf]; omega
    · obtain rfl : j = n := by omega
      go_wp2
      go_ret
      exact ⟨rfl, rfl⟩
end Go.Proofs.Ytkpdbceglejbnaa

/- Contracts of the functions that write marks into a network of its own. -/
namespace Go.Proofs.Ytkpdbceglejbnaa
open Go.RowKit

def emarks (k : Int) (n : Nat) : List (Int × Int) := (List.range n).map fun (i : Nat) => (k + 2 * (i : Int), k + 2 * (i : Int) + 1)
theorem length_emarks (k : Int) (n : Nat) : (emarks k n).length = n := by simp [emarks]
theorem gn_emarks (k : Int) (n i : Nat) (h : i < n) : gn (emarks k n) i = k + 2 * i := by simp [gn, emarks, h]
theorem gp_emarks (k : Int) (n i : Nat) (h : i < n) : gp (emarks k n) i = k + 2 * i + 1 := by simp [gp, emarks, h]
theorem ecell_emarks (k : Int) (n j : Nat) (h : j < n * 2) : ecell (emarks k n) j = .int .i64 (k + j) := by
  simp only [ecell]
  by_cases e : j % 2 = 0
  · rw [if_pos e, gn_emarks _ _ _ (by omega)]; congr 1; omega
  · rw [if_neg e, gp_emarks _ _ _ (by omega)]; congr 1; omega

set_option maxHeartbeats 800000 in
set_option maxRecDepth 100000 in
theorem markEndS_any {w : World} {v : Value} {l : List (Int × Int)} {bs : List Nat} (k : Int) (h : OwnE w v l bs) (hs : l.length ≤ 1048576) (h0 : 0 ≤ k) (h1 : k ≤ 1125899906842624) :
    Calls Try.prog 120 #[v, .int .i64 k] w fun e w' => e = .returned (.int .i64 (k + 2 * l.length)) ∧ Chg w w' bs ∧ OwnE w' v (emarks k l.length) bs := by
  have hml := length_emarks k l.length
  obtain ⟨⟨c, hc1, hc2, h⟩, _⟩ := h
  rcases h with ⟨hn, rfl, a, hac, rfl⟩ | ⟨b, m, g, rfl, rfl, ⟨hm, hmc⟩, hrow, hg⟩
  · have HZ := Lib.hid hn
    have HAC := Lib.hid hac
    clear hn hac
    go_enter Try.func120, Try.ntmps120
    go_wp2
    go_loop [1, 5] (fun t i => i = .int .i64 0 ∧ t = .int .i64 k) (fun _ _ => 0)
    case atStart => exact ⟨rfl, rfl⟩
    case round =>
      obtain ⟨rfl, rfl⟩ := hrel
      go_wp2
      go_ret
      refine ⟨by rw [HZ.out]; simp, Chg.rfl' _ _, ⟨c, by rw [hml]; exact hc1, hc2, .inl ⟨by rw [hml]; exact HZ.out, rfl, a, HAC.out, rfl⟩⟩, fun i hi => absurd hi (by have := HZ.out; omega)⟩
  · unfold maxLen at hc2
    have HMC := Lib.hid hmc
    clear hmc
    have HR := Lib.hid hrow
    clear hrow
    go_enter Try.func120, Try.ntmps120
    go_wp2
    go_loopg [1, 5] l.length (fun gh t i wr => ∃ j : Nat, j ≤ l.length ∧ gh = l.length - j ∧ i = .int .i64 j ∧ t = .int .i64 (k + 2 * j) ∧ Hid (Chg w wr [b] ∧ wr.rowIs b 95 m (fun i => if i < j * 2 then .int .i64 (k + i) else g i)))
    case atStart => exact ⟨0, Nat.zero_le _, rfl, rfl, by simp, Chg.rfl' _ _, HR.out.congr fun i _ => by simp⟩
    case round =>
      obtain ⟨j, hj, rfl, rfl, rfl, Hr⟩ := hrel
      by_cases hlt : j < l.length
      · obtain ⟨f1, f2, f3, f4⟩ := row_two Hr.out.2 (i := j * 2) (by omega)
        have Hn : Hid (Chg w ((wr.setCell ⟨b, j * 2, none⟩ (.int .i64 (k + 2 * j))).setCell ⟨b, j * 2 + 1, none⟩ (.int .i64 (k + 2 * j + 1))) [b] ∧ ((wr.setCell ⟨b, j * 2, none⟩ (.int .i64 (k + 2 * j))).setCell ⟨b, j * 2 + 1, none⟩ (.int .i64 (k + 2 * j + 1))).rowIs b 95 m (fun i => if i < (j + 1) * 2 then .int .i64 (k + i) else g i)) := by
          refine ⟨(Hr.out.1.store (by simp) _).store (by simp) _, ((Hr.out.2.set (j * 2) _).set (j * 2 + 1) _).congr fun i _ => ?_⟩
          by_cases e : i = j * 2 + 1
          · subst e; rw [if_pos rfl, if_pos (by omega)]; congr 1; omega
          · rw [if_neg e]
            by_cases e' : i = j * 2
            · subst e'; rw [if_pos rfl, if_pos (by omega)]; congr 1; omega
            · rw [if_neg e']
              by_cases hij : i < j * 2
              · rw [if_pos hij, if_pos (by omega)]
              · rw [if_neg hij, if_neg (by omega)]
        go_wp2
        go_roundg (l.length - (j + 1))
        case measure => omega
        case rel => exact ⟨j + 1, by omega, rfl, by go_num, by simp; omega, Hn⟩
      · obtain rfl : j = l.length := by omega
        go_wp2
        go_ret
        refine ⟨rfl, Hr.out.1, ⟨c, by rw [hml]; exact hc1, by unfold maxLen; omega, .inr ⟨b, m, _, rfl, by rw [hml], by rw [hml]; exact ⟨hm, HMC.out⟩, Hr.out.2, fun i hi => ?_⟩⟩, fun i hi => ?_⟩
        · rw [hml] at hi
          rw [ecell_emarks _ _ _ hi, if_pos (by omega)]
        · rw [hml] at hi
          rw [gn_emarks _ _ _ hi, gp_emarks _ _ _ hi]
          exact ⟨⟨by omega, by omega⟩, ⟨by omega, by omega⟩⟩

theorem nodup_rows {b0 : List Nat} {n : Nat} {T : Nat → List Nat} (h : (b0 ++ (List.range n).flatMap T).Nodup) :
    (∀ i, i < n → ∀ b ∈ b0, b ∉ T i) ∧ ∀ i j, i < n → j < n → i ≠ j → ∀ b ∈ T i, b ∉ T j := by
  obtain ⟨h1, h2, h3⟩ := List.nodup_append.1 h
  refine ⟨fun i hi b hb hb' => h3 b hb b (List.mem_flatMap.2 ⟨i, List.mem_range.2 hi, hb'⟩) rfl, fun i j hi hj hne b hb hb' => ?_⟩
  have h4 := List.pairwise_flatMap.1 h2
  have h5 := List.pairwise_iff_getElem.1 h4.2
  rcases Nat.lt_or_gt_of_ne hne with hlt | hgt
  · have := h5 i j (by simpa using hi) (by simpa using hj) hlt
    simp only [List.getElem_range] at this
    exact this b hb b hb' rfl
  · have := h5 j i (by simpa using hj) (by simpa using hi) hgt
    simp only [List.getElem_range] at this
    exact this b hb' b hb rfl

set_option maxHeartbeats 1600000 in
set_option maxRecDepth 100000 in
theorem markEndSS_any {w : World} {v : Value} {l : List (List (Int × Int))} {bs : List Nat} (k : Int) (h : OwnSS w v l bs) (hnd : bs.Nodup) (hs : l.length ≤ 1048576) (hs2 : ∀ i, (gr l i).length ≤ 1048576) (h0 : 0 ≤ k) (h1 : k ≤ 1) :
    Calls Try.prog 72 #[v, .int .i64 k] w fun e w' => ∃ r : Int, e = .returned (.int .i64 r) ∧ k ≤ r ∧ r ≤ k + 2097152 * l.length ∧ Chg w w' bs := by
  obtain ⟨R, b0, T, ⟨c, hc1, hc2, h⟩, hrows, rfl⟩ := h
  rcases h with ⟨hn, rfl, a, hac, rfl⟩ | ⟨b, m, g, rfl, rfl, ⟨hm, hmc⟩, hrow, hg⟩
  · have HZ := Lib.hid hn
    have HAC := Lib.hid hac
    clear hn hac
    go_enter Try.func72, Try.ntmps72
    go_wp2
    go_loop [1, 5] (fun t i => i = .int .i64 0 ∧ t = .int .i64 k) (fun _ _ => 0)
    case atStart => exact ⟨rfl, rfl⟩
    case round =>
      obtain ⟨rfl, rfl⟩ := hrel
      go_wp2
      go_ret
      exact ⟨k, rfl, by omega, by omega, Chg.rfl' _ _⟩
  · unfold maxLen at hc2
    have HMC := Lib.hid hmc
    clear hmc
    have HR := Lib.hid hrow
    have HT := Lib.hid hrows
    have HD := Lib.hid (nodup_rows hnd)
    have HS := Lib.hid hs2
    have Hg := Lib.hid hg
    clear hrow hrows hnd hs2 hg
    go_enter Try.func72, Try.ntmps72
    go_wp2
    go_loopg [1, 5] l.length (fun gh t i wr => ∃ (j : Nat) (r : Int), j ≤ l.length ∧ gh = l.length - j ∧ i = .int .i64 j ∧ t = .int .i64 r ∧ k ≤ r ∧ r ≤ k + 2097152 * j ∧ Hid (Chg w wr ([b] ++ (List.range l.length).flatMap T) ∧ wr.rowIs b 93 m g ∧ ∀ i, j ≤ i → i < l.length → OwnE wr (R i) (gr l i) (T i)))
    case atStart => exact ⟨0, k, Nat.zero_le _, rfl, rfl, rfl, by omega, by omega, Chg.rfl' _ _, HR.out, fun i _ hi => HT.out i hi⟩
    case round =>
      obtain ⟨j, r, hj, rfl, rfl, rfl, hr1, hr2, Hr⟩ := hrel
      by_cases hlt : j < l.length
      · have f1 := Hr.out.2.1.cell (i := j) (by omega)
        rw [Hg.out j (by omega)] at f1
        go_wp2_with (go_at_call 120; (with_reducible refine (markEndS_any _ (Hr.out.2.2 j (Nat.le_refl _) hlt) (HS.out _) (by omega) (by omega)).mono ?_); rintro e w1 ⟨rfl, hch, _⟩; have HC := Lib.hid hch; clear hch)
        have hl := HS.out j
        go_roundg (l.length - (j + 1))
        case measure => omega
        case rel =>
          refine ⟨j + 1, r + 2 * (gr l j).length, by omega, rfl, by go_num, rfl, by omega, by omega, ?_, ?_, fun i hi1 hi2 => ?_⟩
          · exact Hr.out.1.trans' (HC.out.mono fun x hx => List.mem_append.2 (.inr (List.mem_flatMap.2 ⟨j, List.mem_range.2 hlt, hx⟩)))
          · exact Hr.out.2.1.of_block (HC.out.block b Hr.out.2.1.lt (HD.out.1 j hlt b (by simp)))
          · have ho := Hr.out.2.2 i (by omega) hi2
            exact ho.keep fun x hx => HC.out.block x (ho.1.lt x hx) (HD.out.2 i j hi2 hlt (by omega) x hx)
      · obtain rfl : j = l.length := by omega
        go_wp2
        go_ret
        exact ⟨r, rfl, hr1, hr2, Hr.out.1⟩
end Go.Proofs.Ytkpdbceglejbnaa

/- The contract of markNetwork. -/
namespace Go.Proofs.Ytkpdbceglejbnaa
open Go.RowKit

/-- Two readings of one list are equal. -/
theorem eqIntS_same {w : World} {v1 v2 : Value} {l : List Int} (h1 : IntSl w v1 l) (h2 : IntSl w v2 l) : Calls Try.prog 23 #[v1, v2] w fun e w' => e = .returned (.bool true) ∧ Ext w w' :=
  (eqIntS_any h1 h2).mono fun _ _ ⟨he, hx⟩ => ⟨by rw [he]; simp, hx⟩

set_option maxHeartbeats 1600000 in
set_option maxRecDepth 100000 in
theorem markNetwork_any {w : World} {v : Value} {N : Net} {bs : List Nat} (h : OwnNet w v N bs) (hnd : bs.Nodup) (hs : N.small) :
    Calls Try.prog 28 #[v, .int .i64 1] w fun e w' => ∃ r : Int, e = .returned (.int .i64 r) ∧ 0 ≤ r ∧ Chg w w' bs := by
  obtain ⟨v0, v1, v2, b0, b1, b2, rfl, hE, hI, hP, rfl⟩ := h
  obtain ⟨s1, s2, s3, s4⟩ := hs
  have hnd0 := (List.nodup_append.1 hnd).1
  have hd0 : ∀ x ∈ b1 ++ b2, x ∉ b0 := fun x hx hx' => (List.nodup_append.1 hnd).2.2 x hx' x hx rfl
  have hd1 : ∀ x ∈ b2, x ∉ b1 := fun x hx hx' => (List.nodup_append.1 (List.nodup_append.1 hnd).2.1).2.2 x hx' x hx rfl
  have hX := (Ext.rfl' w).alloc' (.cells #[v0, v1, v2] 34)
  have A := Lib.hid (hE.ext hX)
  have B := Lib.hid (hI.ext hX)
  have C := Lib.hid (hP.ext hX)
  have LA := Lib.hid hE.lt
  have LB := Lib.hid hI.1.lt
  have LC := Lib.hid hP.1.lt
  have HX := Lib.hid (Chg.of_ext hX (b0 ++ (b1 ++ b2)))
  have HR := Lib.hid (row3_made w v0 v1 v2 34)
  have HD := Lib.hid (And.intro hnd0 (And.intro hd0 hd1))
  have S := Lib.hid s2
  clear hE hI hP hX hnd0 hd0 hd1 hnd s2
  go_enter Try.func28, Try.ntmps28
  go_wp2_with fail
  (with_reducible refine (markEndSS_any _ A.out HD.out.1 s1 S.out (by omega) (by omega)).mono ?_)
  rintro e w1 ⟨r1, rfl, h11, h12, hc1⟩
  have K1 := Lib.hid (HX.out.trans' (hc1.mono fun x hx => by simp [hx]))
  have R1 := Lib.hid (HR.out.of_block (hc1.block _ HR.out.lt fun hx => by have := LA.out _ hx; omega))
  have B1 := Lib.hid (B.out.keep fun x hx => hc1.block x (B.out.1.lt x hx) (HD.out.2.1 x (by simp [hx])))
  have C1 := Lib.hid (C.out.keep fun x hx => hc1.block x (C.out.1.lt x hx) (HD.out.2.1 x (by simp [hx])))
  obtain ⟨p0, p1, p2, _, _, _⟩ := row3_facts R1.out
  clear hc1
  go_wp2_with fail
  (with_reducible refine (markIntS_any _ B1.out s3 (by omega) (by omega)).mono ?_)
  rintro e w2 ⟨rfl, hc2, _⟩
  have K2 := Lib.hid (K1.out.trans' (hc2.mono fun x hx => by simp [hx]))
  have R2 := Lib.hid (R1.out.of_block (hc2.block _ R1.out.lt fun hx => by have := LB.out _ hx; omega))
  have C2 := Lib.hid (C1.out.keep fun x hx => hc2.block x (C1.out.1.lt x hx) (HD.out.2.2 x hx))
  clear hc2 p0 p1 p2
  obtain ⟨p0, p1, p2, _, _, _⟩ := row3_facts R2.out
  go_wp2_with fail
  (with_reducible refine (markIntS_any _ C2.out s4 (by omega) (by omega)).mono ?_)
  rintro e w3 ⟨rfl, hc3, _⟩
  have K3 := Lib.hid (K2.out.trans' (hc3.mono fun x hx => by simp [hx]))
  clear hc3
  go_wp2
  go_ret
  exact ⟨_, rfl, by omega, K3.out⟩
end Go.Proofs.Ytkpdbceglejbnaa

/- Marks of networks: what markNetwork leaves, and that heldNetwork finds it. -/
namespace Go.Proofs.Ytkpdbceglejbnaa
open Go.RowKit

/-- The mark with which row i begins. -/
def kAt (k : Int) (l : List (List (Int × Int))) : Nat → Int
  | 0 => k
  | i + 1 => kAt k l i + 2 * (gr l i).length
theorem kAt_le (k : Int) (l : List (List (Int × Int))) (hs : ∀ i, (gr l i).length ≤ 1048576) : ∀ i, k ≤ kAt k l i ∧ kAt k l i ≤ k + 2097152 * i
  | 0 => by simp [kAt]
  | i + 1 => by
    have h1 := kAt_le k l hs i
    have h2 := hs i
    simp only [kAt]
    omega
def smarks (k : Int) (l : List (List (Int × Int))) : List (List (Int × Int)) := (List.range l.length).map fun i => emarks (kAt k l i) (gr l i).length
theorem length_smarks (k : Int) (l : List (List (Int × Int))) : (smarks k l).length = l.length := by simp [smarks]
theorem gr_smarks (k : Int) (l : List (List (Int × Int))) (i : Nat) (h : i < l.length) : gr (smarks k l) i = emarks (kAt k l i) (gr l i).length := by simp [gr, smarks, h]

set_option maxHeartbeats 1600000 in
set_option maxRecDepth 100000 in
theorem markEndSS_own {w : World} {v : Value} {l : List (List (Int × Int))} {bs : List Nat} (h : OwnSS w v l bs) (hnd : bs.Nodup) (hs : l.length ≤ 1048576) (hs2 : ∀ i, (gr l i).length ≤ 1048576) :
    Calls Try.prog 72 #[v, .int .i64 1] w fun e w' => e = .returned (.int .i64 (kAt 1 l l.length)) ∧ Chg w w' bs ∧ OwnSS w' v (smarks 1 l) bs := by
  have hml := length_smarks 1 l
  obtain ⟨R, b0, T, ⟨c, hc1, hc2, h⟩, hrows, rfl⟩ := h
  rcases h with ⟨hn, rfl, a, hac, rfl⟩ | ⟨b, m, g, rfl, rfl, ⟨hm, hmc⟩, hrow, hg⟩
  · have HZ := Lib.hid hn
    have HAC := Lib.hid hac
    clear hn hac
    go_enter Try.func72, Try.ntmps72
    go_wp2
    go_loop [1, 5] (fun t i => i = .int .i64 0 ∧ t = .int .i64 1) (fun _ _ => 0)
    case atStart => exact ⟨rfl, rfl⟩
    case round =>
      obtain ⟨rfl, rfl⟩ := hrel
      go_wp2
      go_ret
      refine ⟨by rw [HZ.out]; rfl, Chg.rfl' _ _, R, [], T, ⟨c, by rw [hml]; exact hc1, hc2, .inl ⟨by rw [hml]; exact HZ.out, rfl, a, HAC.out, rfl⟩⟩, fun i hi => absurd hi (by have := HZ.out; omega), by rw [hml]; rfl⟩
  · unfold maxLen at hc2
    have HMC := Lib.hid hmc
    clear hmc
    have HR := Lib.hid hrow
    have HT := Lib.hid hrows
    have HD := Lib.hid (nodup_rows hnd)
    have HS := Lib.hid hs2
    have Hg := Lib.hid hg
    have HK := Lib.hid (kAt_le 1 l hs2)
    clear hrow hrows hnd hs2 hg
    go_enter Try.func72, Try.ntmps72
    go_wp2
    go_loopg [1, 5] l.length (fun gh t i wr => ∃ j : Nat, j ≤ l.length ∧ gh = l.length - j ∧ i = .int .i64 j ∧ t = .int .i64 (kAt 1 l j) ∧ Hid (Chg w wr ([b] ++ (List.range l.length).flatMap T) ∧ wr.rowIs b 93 m g ∧ (∀ i, j ≤ i → i < l.length → OwnE wr (R i) (gr l i) (T i)) ∧ ∀ i, i < j → OwnE wr (R i) (emarks (kAt 1 l i) (gr l i).length) (T i)))
    case atStart => exact ⟨0, Nat.zero_le _, rfl, rfl, rfl, Chg.rfl' _ _, HR.out, fun i _ hi => HT.out i hi, fun i hi => absurd hi (by omega)⟩
    case round =>
      obtain ⟨j, hj, rfl, rfl, rfl, Hr⟩ := hrel
      by_cases hlt : j < l.length
      · have f1 := Hr.out.2.1.cell (i := j) (by omega)
        rw [Hg.out j (by omega)] at f1
        obtain ⟨hk1, hk2⟩ := HK.out j
        go_wp2_with (go_at_call 120; (with_reducible refine (markEndS_any _ (Hr.out.2.2.1 j (Nat.le_refl _) hlt) (HS.out _) (by omega) (by omega)).mono ?_); rintro e w1 ⟨rfl, hch, hmk⟩; have HC := Lib.hid hch; have HM := Lib.hid hmk; clear hch hmk)
        go_roundg (l.length - (j + 1))
        case measure => omega
        case rel =>
          refine ⟨j + 1, by omega, rfl, by go_num, rfl, ?_, ?_, fun i hi1 hi2 => ?_, fun i hi => ?_⟩
          · exact Hr.out.1.trans' (HC.out.mono fun x hx => List.mem_append.2 (.inr (List.mem_flatMap.2 ⟨j, List.mem_range.2 hlt, hx⟩)))
          · exact Hr.out.2.1.of_block (HC.out.block b Hr.out.2.1.lt (HD.out.1 j hlt b (by simp)))
          · have ho := Hr.out.2.2.1 i (by omega) hi2
            exact ho.keep fun x hx => HC.out.block x (ho.1.lt x hx) (HD.out.2 i j hi2 hlt (by omega) x hx)
          · by_cases e : i = j
            · subst e; exact HM.out
            · have ho := Hr.out.2.2.2 i (by omega)
              exact ho.keep fun x hx => HC.out.block x (ho.1.lt x hx) (HD.out.2 i j (by omega) hlt e x hx)
      · obtain rfl : j = l.length := by omega
        go_wp2
        go_ret
        refine ⟨rfl, Hr.out.1, R, [b], T, ⟨c, by rw [hml]; exact hc1, by unfold maxLen; omega, .inr ⟨b, m, g, rfl, by rw [hml], by rw [hml]; exact ⟨hm, HMC.out⟩, Hr.out.2.1, fun i hi => by rw [hml] at hi; exact Hg.out i hi⟩⟩, fun i hi => ?_, by rw [hml]; rfl⟩
        rw [hml] at hi
        rw [gr_smarks _ _ _ hi]
        exact Hr.out.2.2.2 i hi

/-- The network with marks in the place of its values, the first of them 1. -/
def netMarks (N : Net) : Net where
  ends := smarks 1 N.ends
  ids := marks (kAt 1 N.ends N.ends.length) N.ids.length
  inputs := marks (kAt 1 N.ends N.ends.length + N.ids.length) N.inputs.length
/-- The mark behind the last one. -/
def netLast (N : Net) : Int := kAt 1 N.ends N.ends.length + N.ids.length + N.inputs.length

set_option maxHeartbeats 1600000 in
set_option maxRecDepth 100000 in
theorem markNetwork_own {w : World} {v : Value} {N : Net} {bs : List Nat} (h : OwnNet w v N bs) (hnd : bs.Nodup) (hs : N.small) :
    Calls Try.prog 28 #[v, .int .i64 1] w fun e w' => e = .returned (.int .i64 (netLast N)) ∧ Chg w w' bs ∧ OwnNet w' v (netMarks N) bs := by
  obtain ⟨v0, v1, v2, b0, b1, b2, rfl, hE, hI, hP, rfl⟩ := h
  obtain ⟨s1, s2, s3, s4⟩ := hs
  have hnd0 := (List.nodup_append.1 hnd).1
  have hd0 : ∀ x ∈ b1 ++ b2, x ∉ b0 := fun x hx hx' => (List.nodup_append.1 hnd).2.2 x hx' x hx rfl
  have hd1 : ∀ x ∈ b2, x ∉ b1 := fun x hx hx' => (List.nodup_append.1 (List.nodup_append.1 hnd).2.1).2.2 x hx' x hx rfl
  have hX := (Ext.rfl' w).alloc' (.cells #[v0, v1, v2] 34)
  have A := Lib.hid (hE.ext hX)
  have B := Lib.hid (hI.ext hX)
  have C := Lib.hid (hP.ext hX)
  have LA := Lib.hid hE.lt
  have LB := Lib.hid hI.1.lt
  have LC := Lib.hid hP.1.lt
  have HX := Lib.hid (Chg.of_ext hX (b0 ++ (b1 ++ b2)))
  have HR := Lib.hid (row3_made w v0 v1 v2 34)
  have HD := Lib.hid (And.intro hnd0 (And.intro hd0 hd1))
  have S := Lib.hid s2
  have hk := (kAt_le 1 N.ends s2 N.ends.length)
  obtain ⟨hk1, hk2⟩ := hk
  clear hE hI hP hX hnd0 hd0 hd1 hnd s2
  go_enter Try.func28, Try.ntmps28
  go_wp2_with fail
  (with_reducible refine (markEndSS_own A.out HD.out.1 s1 S.out).mono ?_)
  rintro e w1 ⟨rfl, hc1, hm1⟩
  have K1 := Lib.hid (HX.out.trans' (hc1.mono fun x hx => by simp [hx]))
  have R1 := Lib.hid (HR.out.of_block (hc1.block _ HR.out.lt fun hx => by have := LA.out _ hx; omega))
  have A1 := Lib.hid hm1
  have B1 := Lib.hid (B.out.keep fun x hx => hc1.block x (B.out.1.lt x hx) (HD.out.2.1 x (by simp [hx])))
  have C1 := Lib.hid (C.out.keep fun x hx => hc1.block x (C.out.1.lt x hx) (HD.out.2.1 x (by simp [hx])))
  obtain ⟨p0, p1, p2, _, _, _⟩ := row3_facts R1.out
  clear hc1 hm1
  go_wp2_with fail
  (with_reducible refine (markIntS_any _ B1.out s3 (by omega) (by omega)).mono ?_)
  rintro e w2 ⟨rfl, hc2, hm2⟩
  have K2 := Lib.hid (K1.out.trans' (hc2.mono fun x hx => by simp [hx]))
  have R2 := Lib.hid (R1.out.of_block (hc2.block _ R1.out.lt fun hx => by have := LB.out _ hx; omega))
  have A2 := Lib.hid (A1.out.keep fun x hx => hc2.block x (A1.out.lt x hx) fun hb => HD.out.2.1 x (by simp [hb]) hx)
  have B2 := Lib.hid hm2
  have C2 := Lib.hid (C1.out.keep fun x hx => hc2.block x (C1.out.1.lt x hx) (HD.out.2.2 x hx))
  clear hc2 hm2 p0 p1 p2
  obtain ⟨p0, p1, p2, _, _, _⟩ := row3_facts R2.out
  go_wp2_with fail
  (with_reducible refine (markIntS_any _ C2.out s4 (by omega) (by omega)).mono ?_)
  rintro e w3 ⟨rfl, hc3, hm3⟩
  have K3 := Lib.hid (K2.out.trans' (hc3.mono fun x hx => by simp [hx]))
  have A3 := Lib.hid (A2.out.keep fun x hx => hc3.block x (A2.out.lt x hx) fun hb => HD.out.2.1 x (by simp [hb]) hx)
  have B3 := Lib.hid (B2.out.keep fun x hx => hc3.block x (B2.out.1.lt x hx) fun hb => HD.out.2.2 x hb hx)
  have C3 := Lib.hid hm3
  clear hc3 hm3
  go_wp2
  go_ret
  exact ⟨rfl, K3.out, v0, v1, v2, b0, b1, b2, rfl, A3.out, B3.out, C3.out, rfl⟩
end Go.Proofs.Ytkpdbceglejbnaa

/- heldNetwork finds the marks that markNetwork leaves. -/
namespace Go.Proofs.Ytkpdbceglejbnaa
open Go.RowKit

set_option maxHeartbeats 800000 in
set_option maxRecDepth 100000 in
theorem heldEndS_any {w : World} {v : Value} (k : Int) (n : Nat) (h : EndSl w v (emarks k n)) (hs : n ≤ 1048576) (h0 : 0 ≤ k) (h1 : k ≤ 1125899906842624) :
    Calls Try.prog 144 #[v, .int .i64 k] w fun e w' => e = .returned (.int .i64 (k + 2 * n)) ∧ w = w' := by
  obtain ⟨a, b, o, c, rfl, ha, hl, hm, hc⟩ := h
  unfold maxLen at hm
  rw [length_emarks] at ha hl hc ⊢
  have Hc := Lib.hid hc
  have Ha := Lib.hid ha
  clear hc ha
  go_enter Try.func144, Try.ntmps144
  go_wp2
  go_loop [1, 5] (fun t i => ∃ j : Nat, j ≤ n ∧ i = .int .i64 j ∧ t = .int .i64 (k + 2 * j)) (fun _ i => n - (intOf i).toNat)
  case atStart => exact ⟨0, Nat.zero_le _, rfl, by simp⟩
  case round =>
    obtain ⟨j, hj, rfl, rfl⟩ := hrel
    by_cases hlt : j < n
    · obtain ⟨q1, q2, _⟩ := Hc.out j hlt
      rw [gn_emarks _ _ _ hlt] at q1
      rw [gp_emarks _ _ _ hlt] at q2
      obtain rfl := Ha.out (by omega)
      go_wp2
      go_round
      case rel => exact ⟨j + 1, by omega, by go_num, by simp; omega⟩
      case measure => simp [intOf]; omega
    · obtain rfl : j = n := by omega
      go_wp2
      go_ret
      exact ⟨rfl, rfl⟩

set_option maxHeartbeats 800000 in
set_option maxRecDepth 100000 in
theorem heldEndSS_any {w : World} {v : Value} {l : List (List (Int × Int))} (h : EndSS w v (smarks 1 l)) (hs : l.length ≤ 1048576) (hs2 : ∀ i, (gr l i).length ≤ 1048576) :
    Calls Try.prog 95 #[v, .int .i64 1] w fun e w' => e = .returned (.int .i64 (kAt 1 l l.length)) ∧ w = w' := by
  obtain ⟨a, b, o, c, rfl, ha, hl, hm, hc⟩ := h
  unfold maxLen at hm
  rw [length_smarks] at ha hl hc ⊢
  have Hc := Lib.hid hc
  have Ha := Lib.hid ha
  have HS := Lib.hid hs2
  have HK := Lib.hid (kAt_le 1 l hs2)
  clear hc ha hs2
  go_enter Try.func95, Try.ntmps95
  go_wp2
  go_loop [1, 5] (fun t i => ∃ j : Nat, j ≤ l.length ∧ i = .int .i64 j ∧ t = .int .i64 (kAt 1 l j)) (fun _ i => l.length - (intOf i).toNat)
  case atStart => exact ⟨0, Nat.zero_le _, rfl, rfl⟩
  case round =>
    obtain ⟨j, hj, rfl, rfl⟩ := hrel
    by_cases hlt : j < l.length
    · obtain ⟨x, hx, hrow⟩ := Hc.out j hlt
      rw [gr_smarks _ _ _ hlt] at hrow
      have HR := Lib.hid hrow
      obtain rfl := Ha.out (by omega)
      obtain ⟨hk1, hk2⟩ := HK.out j
      have hlen := HS.out j
      clear hrow
      go_wp2_with (go_at_call 144; (with_reducible refine (heldEndS_any _ _ HR.out (HS.out _) (by omega) (by omega)).mono ?_); rintro e w1 ⟨rfl, rfl⟩)
      go_round
      case rel => exact ⟨j + 1, by omega, by go_num, rfl⟩
      case measure => simp [intOf]; omega
    · obtain rfl : j = l.length := by omega
      go_wp2
      go_ret
      exact ⟨rfl, rfl⟩

set_option maxHeartbeats 1600000 in
set_option maxRecDepth 100000 in
theorem heldNetwork_any {w : World} {v : Value} {N : Net} (h : NetAt w v (netMarks N)) (hs : N.small) :
    Calls Try.prog 46 #[v, .int .i64 1] w fun e w' => e = .returned (.int .i64 (netLast N)) ∧ Ext w w' := by
  obtain ⟨v0, v1, v2, rfl, hE, hI, hP⟩ := h
  obtain ⟨s1, s2, s3, s4⟩ := hs
  have hX := (Ext.rfl' w).alloc' (.cells #[v0, v1, v2] 34)
  have A := Lib.hid (hE.ext hX)
  have B := Lib.hid (hI.ext hX)
  have C := Lib.hid (hP.ext hX)
  have HX := Lib.hid hX
  have S := Lib.hid s2
  obtain ⟨hk1, hk2⟩ := kAt_le 1 N.ends s2 N.ends.length
  clear hE hI hP hX s2
  go_enter Try.func46, Try.ntmps46
  go_wp2_with (first | (go_at_call 95; (with_reducible refine (heldEndSS_any A.out s1 S.out).mono ?_); rintro e w1 ⟨rfl, rfl⟩) | (go_at_call 30; (with_reducible refine (heldIntS_any _ _ B.out s3 (by omega) (by omega)).mono ?_); rintro e w1 ⟨rfl, rfl⟩) | (go_at_call 30; (with_reducible refine (heldIntS_any _ _ C.out s4 (by omega) (by omega)).mono ?_); rintro e w1 ⟨rfl, rfl⟩))
  go_ret
  exact ⟨rfl, HX.out⟩
end Go.Proofs.Ytkpdbceglejbnaa

/- append onto a slice of the call's own, of a slice whatever its address: as a law for the walk and for regions that draw their order. -/
namespace Go.Proofs.Ytkpdbceglejbnaa
open Go.RowKit

theorem run_append_owned_nil {P : Program} {w : World} (base : Nat) (t ty e : TypeId) (i : TypeInfo) (size : Nat) (ht : P.underlying t = some (.slice e)) (hi : P.info? e = some i)
    (v : Value) (n c : Nat) (xs : List Value) (hown : w.ownsRow base e size v n xs) :
    (Builtin.append_ #[t, t] ty #[v, .slice none 0 c]).run P w = .ok v w := by
  rcases hown.2 with ⟨rfl, rfl⟩ | ⟨g, cap, cur, rfl, _, _, hnc, _⟩
  · simp [Builtin.append_, run_underlying ht, sizeOf, typeInfo, hi, Builtin.lenOf, Builtin.firstCells]
  · simp [Builtin.append_, run_underlying ht, sizeOf, typeInfo, hi, Builtin.lenOf, Builtin.firstCells, hnc, storeCells]

/-- What is appended: m elements of k cells each behind the address, if there is one. -/
def SrcAt (w : World) (ao : Option Addr) (m k : Nat) (news : List Value) : Prop :=
  news.length = m * k ∧ (ao = none → m = 0) ∧ (∀ ad, ao = some ad → ∀ j u, news[j]? = some u → w.cell? (ad.add j) = some u) ∧ ∀ u ∈ news, u.oneCell' = true

/-- What the call leaves. -/
def Grew (w w' : World) (base : Nat) (e : TypeId) (size : Nat) (v v' : Value) (n : Nat) (xs : List Value) : Prop :=
  w'.ownsRow base e size v' n xs ∧ w.grownBy w' v.ownBlock ∧ w.heap.size ≤ w'.heap.size

theorem run_app {P : Program} (w : World) (base : Nat) (t ty e : TypeId) (i : TypeInfo) (z : Value) (size bytes : Nat) (ht : P.underlying t = some (.slice e)) (hi : P.info? e = some i) (hz : i.zero = some z)
    (hsize : i.size = size) (hby : i.bytes = bytes) (hzs : z.cells.size = size) (hsz : 0 < size)
    (v : Value) (n : Nat) (xs : List Value) (hown : w.ownsRow base e size v n xs)
    (ao : Option Addr) (m c : Nat) (news : List Value) (hsrc : SrcAt w ao m size news)
    (h63 : n + m ≤ maxLen) (hbytes : (n + m) * bytes ≤ 140737488355328) (hbase : base ≤ w.heap.size) :
    ∃ v' w', (Builtin.append_ #[t, t] ty #[v, .slice ao m c]).run P w = .ok v' w' ∧ Grew w w' base e size v v' (n + m) (xs ++ news) := by
  obtain ⟨hl, hnone, hnews, h1⟩ := hsrc
  cases ao with
  | some ad =>
    obtain ⟨v', w', hr, h2, h3, _⟩ := run_append_own (P := P) w base t ty e i z size bytes ht hi hz hsize hby hzs hsz v n xs hown ad m c news hl (hnews ad rfl) h1 h63 hbytes hbase
    exact ⟨v', w', hr, h2, h3, h3.size⟩
  | none =>
    obtain rfl := hnone rfl
    have hn : news = [] := List.eq_nil_of_length_eq_zero (by simpa using hl)
    subst hn
    exact ⟨v, w, run_append_owned_nil base t ty e i size ht hi v n c xs hown, by simpa using hown, World.grownBy.refl _ _, Nat.le_refl _⟩

theorem wp_app {P : Program} {w : World} {o : Oper} {a : Act} {K : Act → World → Prop} {Q : Exit → Act → World → Prop} (s x : Operand) (t : TypeId)
    (ho : o.op = .call { callee := .builtin .append, args := #[s, x], argTypes := #[t, t] })
    (base : Nat) (e : TypeId) (i : TypeInfo) (z : Value) (size bytes : Nat) (ht : P.underlying t = some (.slice e)) (hi : P.info? e = some i) (hz : i.zero = some z)
    (hsize : i.size = size) (hby : i.bytes = bytes) (hzs : z.cells.size = size) (hsz : 0 < size)
    (v : Value) (n : Nat) (xs : List Value) (hs : a.eval s = v) (hown : w.ownsRow base e size v n xs)
    (ao : Option Addr) (m c : Nat) (news : List Value) (hx : a.eval x = .slice ao m c) (hsrc : SrcAt w ao m size news)
    (h63 : n + m ≤ maxLen) (hbytes : (n + m) * bytes ≤ 140737488355328) (hbase : base ≤ w.heap.size)
    (h : ∀ v' w', Grew w w' base e size v v' (n + m) (xs ++ news) → K (a.put o.dst v') w') : o.wp P a w K Q := by
  obtain ⟨v', w', hr, h2⟩ := run_app (P := P) w base t o.type e i z size bytes ht hi hz hsize hby hzs hsz v n xs hown ao m c news hsrc h63 hbytes hbase
  unfold Oper.wp execOp
  simp only [ho, resolve, invoke, builtin, Sem.run_bind, Sem.run_pure, Result.andThen_ok, List.map_toArray, List.map_cons, List.map_nil, hs, hx, hr]
  exact h v' w' h2

/-- For the walk. -/
theorem wpList_app {P : Program} {w : World} {ops : Array Oper} {rest : List Oper} {o : Oper} {a : Act} {Q : Exit → Act → World → Prop} (hgd : o.guard = none) (s x : Operand) (t : TypeId)
    (ho : o.op = .call { callee := .builtin .append, args := #[s, x], argTypes := #[t, t] })
    (base : Nat) (e : TypeId) (i : TypeInfo) (z : Value) (size bytes : Nat) (ht : P.underlying t = some (.slice e)) (hi : P.info? e = some i) (hz : i.zero = some z)
    (hsize : i.size = size) (hby : i.bytes = bytes) (hzs : z.cells.size = size) (hsz : 0 < size)
    (v : Value) (n : Nat) (xs : List Value) (hs : a.eval s = v) (hown : w.ownsRow base e size v n xs)
    (ao : Option Addr) (m c : Nat) (news : List Value) (hx : a.eval x = .slice ao m c) (hsrc : SrcAt w ao m size news)
    (h63 : n + m ≤ maxLen) (hbytes : (n + m) * bytes ≤ 140737488355328) (hbase : base ≤ w.heap.size)
    (h : ∀ v' w', Grew w w' base e size v v' (n + m) (xs ++ news) → wpList P ops Q rest (a.put o.dst v') w') : wpList P ops Q (o :: rest) a w :=
  wpList_plain hgd fun _ hK => wp_app s x t ho base e i z size bytes ht hi hz hsize hby hzs hsz v n xs hs hown ao m c news hx hsrc h63 hbytes hbase fun v' w' h2 => hK _ _ (h v' w' h2)

/-- For a region that draws its order. -/
theorem step_app {P : Program} {w : World} {ops : Array Oper} {o : Oper} {a : Act} {K : Act → World → Prop} {Q : Exit → Act → World → Prop} {E : Prop} (hgd : o.guard = none) (s x : Operand) (t : TypeId)
    (ho : o.op = .call { callee := .builtin .append, args := #[s, x], argTypes := #[t, t] })
    (base : Nat) (e : TypeId) (i : TypeInfo) (z : Value) (size bytes : Nat) (ht : P.underlying t = some (.slice e)) (hi : P.info? e = some i) (hz : i.zero = some z)
    (hsize : i.size = size) (hby : i.bytes = bytes) (hzs : z.cells.size = size) (hsz : 0 < size)
    (v : Value) (n : Nat) (xs : List Value) (hs : a.eval s = v) (hown : w.ownsRow base e size v n xs)
    (ao : Option Addr) (m c : Nat) (news : List Value) (hx : a.eval x = .slice ao m c) (hsrc : SrcAt w ao m size news)
    (h63 : n + m ≤ maxLen) (hbytes : (n + m) * bytes ≤ 140737488355328) (hbase : base ≤ w.heap.size)
    (h : ∀ v' w', Grew w w' base e size v v' (n + m) (xs ++ news) → K (a.put o.dst v') w') : if Region.wanted o (yielded ops a.tmps) = true then Oper.wp P o a w K Q else E := by
  have hw : Region.wanted o (yielded ops a.tmps) = true := by simp [Region.wanted, hgd]
  rw [if_pos hw]
  exact wp_app s x t ho base e i z size bytes ht hi hz hsize hby hzs hsz v n xs hs hown ao m c news hx hsrc h63 hbytes hbase h

theorem Grew.ext {W w w' : World} {B n k t : Nat} {v v' : Value} {xs : List Value} (h : Grew w w' B t k v v' n xs) (he : Ext W w) (hB : ∀ b, v.ownBlock = some b → W.heap.size ≤ b) : Ext W w' :=
  he.grown h.2.1 he.size hB

theorem add_plain (b o j : Nat) : (⟨b, o, none⟩ : Addr).add j = ⟨b, o + j, none⟩ := Addr.add_lit _ _ _

def intCells (l : List Int) : List Value := l.map (.int .i64)
theorem intCells_get (l : List Int) (i : Nat) (h : i < l.length) : (intCells l)[i]? = some (.int .i64 (gi l i)) := by simp [intCells, gi, h]
def endCells (l : List (Int × Int)) : List Value := (List.range (l.length * 2)).map (ecell l)
theorem endCells_get (l : List (Int × Int)) (i : Nat) (h : i < l.length * 2) : (endCells l)[i]? = some (ecell l i) := by simp [endCells, h]

theorem IntSl.src {w w' : World} {a : Option Addr} {n c : Nat} {l : List Int} (h : IntSl w (.slice a n c) l) (he : ∀ p v, w.cell? p = some v → w'.cell? p = some v) : n = l.length ∧ SrcAt w' a l.length 1 (intCells l) := by
  obtain ⟨a', b, o, c', h1, h2, h3, h4, h5⟩ := h
  obtain ⟨rfl, rfl, rfl⟩ : a = a' ∧ n = l.length ∧ c = c' := by simpa using h1
  refine ⟨rfl, by simp [intCells], fun e => ?_, fun ad e j u hu => ?_, fun u hu => ?_⟩
  · by_cases h0 : 0 < l.length
    · rw [h2 h0] at e; cases e
    · omega
  · have hj : j < l.length := by have := (List.getElem?_eq_some_iff.1 hu).1; simpa [intCells] using this
    rw [intCells_get l j hj] at hu
    obtain rfl := Option.some.inj hu
    rw [h2 (by omega)] at e
    obtain rfl := Option.some.inj e
    obtain ⟨x, hx, rfl, _⟩ := h5 j hj
    rw [add_plain]
    exact he _ _ hx
  · obtain ⟨y, _, rfl⟩ := List.mem_map.1 hu
    rfl

theorem EndSl.src {w w' : World} {a : Option Addr} {n c : Nat} {l : List (Int × Int)} (h : EndSl w (.slice a n c) l) (he : ∀ p v, w.cell? p = some v → w'.cell? p = some v) : n = l.length ∧ SrcAt w' a l.length 2 (endCells l) := by
  obtain ⟨a', b, o, c', h1, h2, h3, h4, h5⟩ := h
  obtain ⟨rfl, rfl, rfl⟩ : a = a' ∧ n = l.length ∧ c = c' := by simpa using h1
  refine ⟨rfl, by simp [endCells], fun e => ?_, fun ad e j u hu => ?_, fun u hu => ?_⟩
  · by_cases h0 : 0 < l.length
    · rw [h2 h0] at e; cases e
    · omega
  · have hj : j < l.length * 2 := by have := (List.getElem?_eq_some_iff.1 hu).1; simpa [endCells] using this
    rw [endCells_get l j hj] at hu
    obtain rfl := Option.some.inj hu
    rw [h2 (by omega)] at e
    obtain rfl := Option.some.inj e
    obtain ⟨q1, q2, _⟩ := h5 (j / 2) (by omega)
    rw [add_plain]
    simp only [ecell]
    split
    · rw [show o + j = o + j / 2 * 2 by omega]; exact he _ _ q1
    · rw [show o + j = o + j / 2 * 2 + 1 by omega]; exact he _ _ q2
  · obtain ⟨y, _, rfl⟩ := List.mem_map.1 hu
    simp only [ecell]
    split <;> rfl

theorem end_own_of_row {w : World} {B : Nat} {v : Value} {l : List (Int × Int)} {xs : List Value} (h : w.ownsRow B 95 2 v l.length xs) (hx : ∀ i, i < l.length * 2 → xs[i]? = some (ecell l i)) (hr : ∀ i, i < l.length → inI64 (gn l i) ∧ inI64 (gp l i)) :
    ∃ bs, OwnE w v l bs ∧ bs.Nodup ∧ ∀ b ∈ bs, B ≤ b := by
  obtain ⟨hl, h⟩ := h
  rcases h with ⟨rfl, hn⟩ | ⟨g, cap, cur, rfl, hb, hh, hc1, hc2, hs, ht⟩
  · exact ⟨[], ⟨⟨0, by omega, by unfold maxLen; omega, .inl ⟨hn, rfl, none, ⟨rfl, rfl⟩, rfl⟩⟩, hr⟩, List.nodup_nil, by simp⟩
  · refine ⟨[g], ⟨⟨cap, hc1, hc2, .inr ⟨g, cap * 2, fun i => cur.getD i undef, rfl, rfl, by omega, ⟨cur, hh, by omega, fun i hi => ?_⟩, fun i hi => ?_⟩⟩, hr⟩, by simp, by simpa using hb⟩
    · have hlt : i < cur.size := by omega
      simp [hlt]
    · have e := hx i (by omega)
      rw [← ht, List.getElem?_take, if_pos (by omega)] at e
      have hlt : i < cur.size := by omega
      simp only [Array.getElem?_toList] at e
      simp [Array.getD, hlt]
      simpa [hlt] using e
end Go.Proofs.Ytkpdbceglejbnaa

/- The contract of l1Own: a copy in memory of its own. -/
namespace Go.Proofs.Ytkpdbceglejbnaa
open Go.RowKit

theorem own_of_cells {w : World} {B : Nat} {v : Value} {l : List Int} (h : w.ownsRow B 3 1 v l.length (intCells l)) (hr : ∀ i, i < l.length → inI64 (gi l i)) :
    ∃ bs, OwnI w v l bs ∧ bs.Nodup ∧ ∀ b ∈ bs, B ≤ b := own_of_row h (fun i hi => intCells_get l i hi) hr
theorem OwnSl.slice {w : World} {v : Value} {n k t : Nat} {f : Nat → Value} {bs : List Nat} (h : OwnSl w v n k t f bs) : ∃ a c, v = .slice a n c := by
  obtain ⟨c, h1, h2, h3⟩ := h
  rcases h3 with ⟨rfl, rfl, a, _, rfl⟩ | ⟨b, m, g, rfl, rfl, _⟩
  · exact ⟨a, c, rfl⟩
  · exact ⟨_, c, rfl⟩

set_option maxHeartbeats 800000 in
set_option maxRecDepth 100000 in
theorem l1Own_any {w : World} {v : Value} {l : List Int} (h : IntSl w v l) (hs : l.length ≤ 1048576) :
    Calls Try.prog 148 #[v] w fun e w' => ∃ a c bs, e = .returned (.slice a l.length c) ∧ Ext w w' ∧ OwnI w' (.slice a l.length c) l bs ∧ Fresh w bs := by
  have HI := Lib.hid h
  have HG := Lib.hid h.range
  obtain ⟨a, b, o, c, rfl, ha, hl, hm, hc⟩ := h
  unfold maxLen at hm
  obtain ⟨i0, hi, hz0, hz1, hz2⟩ := info_parts Try.info3
  have I0 := Lib.hid (And.intro hi (And.intro hz0 (And.intro hz1 hz2)))
  clear hi hz0 hz1 hz2 hc ha
  go_enter Try.func148, Try.ntmps148
  go_wp2_with (at_builtin; refine wpList_app rfl _ _ 26 rfl w.heap.size 3 i0 (.int .i64 0) 1 8 Try.underlying26 I0.out.1 I0.out.2.1 I0.out.2.2.1 I0.out.2.2.2 rfl (by decide) _ 0 [] rfl (World.ownsRow_lit w #[] 0 (Nat.le_refl _) (by decide) rfl) a l.length c (intCells l) rfl ((HI.out.src fun p v hp => ((Ext.rfl' w).alloc' _).cell' hp).2) ?c1 ?c2 ?c3 ?_)
  case c1 => unfold maxLen; omega
  case c2 => omega
  case c3 => simp
  intro v' w1 hg
  have hx : Ext w w1 := hg.ext ((Ext.rfl' w).alloc' _) (by intro b hb; simp [Value.ownBlock] at hb; omega)
  obtain ⟨bs, ho, hnd, hge⟩ := own_of_cells (l := l) (by simpa using hg.1) HG.out
  clear hg
  obtain ⟨a', c', rfl⟩ := ho.1.slice
  have H := Lib.hid (And.intro hx (And.intro ho (And.intro hnd hge)))
  clear hx ho hnd hge
  go_wp2
  go_ret
  exact ⟨a', c', bs, rfl, H.out.1, H.out.2.1, H.out.2.2.1, H.out.2.2.2⟩
end Go.Proofs.Ytkpdbceglejbnaa

/- A list of rows that grows by append, each row in memory of its own; blocks of unlike types are apart. -/
namespace Go.Proofs.Ytkpdbceglejbnaa
open Go.RowKit

/-- The blocks hold cells of type t. -/
def Typed (w : World) (t : Nat) (bs : List Nat) : Prop := ∀ b ∈ bs, ∃ cur, w.heap[b]? = some (.cells cur t (0, 0))

theorem Typed.apart {w : World} {t t' : Nat} {bs cs : List Nat} (h : Typed w t bs) (k : Typed w t' cs) (hne : t ≠ t') : ∀ b ∈ bs, b ∉ cs := by
  intro b hb hc
  obtain ⟨c1, e1⟩ := h b hb
  obtain ⟨c2, e2⟩ := k b hc
  rw [e1] at e2
  simp only [Option.some.injEq, Obj.cells.injEq] at e2
  exact hne e2.2.1
theorem Typed.one {w : World} {b t n : Nat} {f : Nat → Value} (h : w.rowIs b t n f) : Typed w t [b] := by
  intro x hx
  obtain rfl := List.mem_singleton.1 hx
  obtain ⟨cur, e, _⟩ := h
  exact ⟨cur, e⟩
theorem OwnSl.typed {w : World} {v : Value} {n k t : Nat} {f : Nat → Value} {bs : List Nat} (h : OwnSl w v n k t f bs) : Typed w t bs := by
  obtain ⟨c, h1, h2, h3⟩ := h
  rcases h3 with ⟨_, rfl, _⟩ | ⟨b', m, g, rfl, hv, hm, hr, hf⟩
  · intro b hb; simp at hb
  · exact Typed.one hr
theorem owns_typed {w : World} {B t k n : Nat} {v : Value} {xs : List Value} (h : w.ownsRow B t k v n xs) : ∀ b, v.ownBlock = some b → ∃ cur, w.heap[b]? = some (.cells cur t (0, 0)) := by
  intro b hb
  rcases h.2 with ⟨rfl, _⟩ | ⟨g, cap, cur, rfl, _, hg, _⟩
  · simp [Value.ownBlock] at hb
  · simp [Value.ownBlock] at hb
    subst hb
    exact ⟨cur, hg⟩
theorem type_ne {w : World} {b b' t t' : Nat} {c c' : Array Value} (h : w.heap[b]? = some (.cells c t (0, 0))) (h' : w.heap[b']? = some (.cells c' t' (0, 0))) (hne : t ≠ t') : b ≠ b' := by
  rintro rfl
  rw [h] at h'
  simp only [Option.some.injEq, Obj.cells.injEq] at h'
  exact hne h'.2.1

/-- What lies in blocks of another type stays where a row grows. -/
theorem kept_grown {w w' : World} {B t k n t' : Nat} {v : Value} {xs : List Value} {bs : List Nat} (ho : w.ownsRow B t k v n xs) (hg : w.grownBy w' v.ownBlock) (ht : Typed w t' bs) (hne : t' ≠ t) : ∀ b ∈ bs, w'.heap[b]? = w.heap[b]? := by
  intro b hb
  obtain ⟨cur, hc⟩ := ht b hb
  have hlt : b < w.heap.size := (Array.getElem?_eq_some_iff.1 hc).1
  refine hg.block b hlt fun e => ?_
  obtain ⟨cur', hc'⟩ := owns_typed ho b e.symm
  exact type_ne hc hc' hne rfl
/-- .. and where a cell of a block of another type is stored. -/
theorem kept_store {w : World} {p : Addr} {u : Value} {t t' : Nat} {c : Array Value} {bs : List Nat} (hp : w.heap[p.block]? = some (.cells c t (0, 0))) (ht : Typed w t' bs) (hne : t' ≠ t) : ∀ b ∈ bs, (w.setCell p u).heap[b]? = w.heap[b]? := by
  intro b hb
  obtain ⟨cur, hc⟩ := ht b hb
  exact Below.heap_setCell _ _ _ _ (type_ne hc hp hne)
theorem rowIs.blk {w : World} {b t n : Nat} {f : Nat → Value} (h : w.rowIs b t n f) : ∃ cur, w.heap[b]? = some (.cells cur t (0, 0)) := by
  obtain ⟨cur, e, _⟩ := h
  exact ⟨cur, e⟩

/-- The first k rows of l are built in the slice v; all blocks are behind B. -/
def GrowL (B : Nat) (w : World) (v : Value) (l : List (List (Int × Int))) (k : Nat) : Prop :=
  ∃ (R : Nat → Value) (T : Nat → List Nat), w.ownsRow B 93 1 v k ((List.range k).map R) ∧ (∀ i, i < k → OwnE w (R i) (gr l i) (T i)) ∧ ((List.range k).flatMap T).Nodup ∧ ∀ b ∈ (List.range k).flatMap T, B ≤ b

theorem GrowL.nil (B : Nat) (w : World) (l : List (List (Int × Int))) : GrowL B w (.slice none 0 0) l 0 :=
  ⟨fun _ => undef, fun _ => [], World.ownsRow_nil _ _ _ _, fun i hi => absurd hi (by omega), by simp, by simp⟩
theorem GrowL.lt {B : Nat} {w : World} {v : Value} {l : List (List (Int × Int))} {k : Nat} (h : GrowL B w v l k) : ∀ b, v.ownBlock = some b → B ≤ b ∧ b < w.heap.size := by
  obtain ⟨R, T, h1, _⟩ := h
  exact h1.lt
theorem GrowL.keep {B : Nat} {w w' : World} {v : Value} {l : List (List (Int × Int))} {k : Nat} (h : GrowL B w v l k) (he : ∀ b, B ≤ b → b < w.heap.size → w'.heap[b]? = w.heap[b]?) : GrowL B w' v l k := by
  obtain ⟨R, T, h1, h2, h3, h4⟩ := h
  refine ⟨R, T, ⟨h1.1, ?_⟩, fun i hi => (h2 i hi).keep fun b hb => he b (h4 b (List.mem_flatMap.2 ⟨i, List.mem_range.2 hi, hb⟩)) ((h2 i hi).1.lt b hb), h3, h4⟩
  rcases h1.2 with ⟨rfl, hn⟩ | ⟨g, cap, cur, rfl, hb, hh, rest⟩
  · exact .inl ⟨rfl, hn⟩
  · exact .inr ⟨g, cap, cur, rfl, hb, by rw [he g hb (Array.getElem?_eq_some_iff.1 hh).1]; exact hh, rest⟩
theorem GrowL.ext {B : Nat} {w w' : World} {v : Value} {l : List (List (Int × Int))} {k : Nat} (h : GrowL B w v l k) (he : Ext w w') : GrowL B w' v l k := h.keep fun b _ hb => he.block b hb

theorem map_range_succ (R : Nat → Value) (k : Nat) : (List.range k).map R ++ [R k] = (List.range (k + 1)).map R := by simp [List.range_succ]

/-- A further row. (w: the world at the append; x: the row.) -/
theorem GrowL.step {B : Nat} {w w' : World} {v v' x : Value} {l : List (List (Int × Int))} {k : Nat} {R : Nat → Value} {T : Nat → List Nat} {bs : List Nat}
    (h1 : w.ownsRow B 93 1 v k ((List.range k).map R)) (h2 : ∀ i, i < k → OwnE w (R i) (gr l i) (T i)) (h3 : ((List.range k).flatMap T).Nodup) (h4 : ∀ b ∈ (List.range k).flatMap T, B ≤ b)
    (ho : OwnE w x (gr l k) bs) (hnew : ∀ b ∈ bs, B ≤ b ∧ b ∉ (List.range k).flatMap T) (hg : Grew w w' B 93 1 v v' (k + 1) ((List.range k).map R ++ [x])) : GrowL B w' v' l (k + 1) := by
  have hcong : (List.range k).flatMap (fun i => if i = k then bs else T i) = (List.range k).flatMap T := by
    rw [List.flatMap_def, List.flatMap_def]
    congr 1
    exact List.map_congr_left fun i hi => if_neg (by have := List.mem_range.1 hi; omega)
  have hcongR : (List.range k).map (fun i => if i = k then x else R i) = (List.range k).map R :=
    List.map_congr_left fun i hi => if_neg (by have := List.mem_range.1 hi; omega)
  have hfl : (List.range (k + 1)).flatMap (fun i => if i = k then bs else T i) = (List.range k).flatMap T ++ bs := by
    rw [List.range_succ, List.flatMap_append, hcong]
    simp
  refine ⟨fun i => if i = k then x else R i, fun i => if i = k then bs else T i, ?_, fun i hi => ?_, ?_, ?_⟩
  · rw [← map_range_succ, hcongR]
    simpa using hg.1
  · by_cases e : i = k
    · subst e
      simp only [if_true]
      exact ho.keep (kept_grown h1 hg.2.1 ho.1.typed (by decide))
    · simp only [if_neg e]
      exact (h2 i (by omega)).keep (kept_grown h1 hg.2.1 (h2 i (by omega)).1.typed (by decide))
  · rw [hfl]
    exact List.nodup_append.2 ⟨h3, ho.1.nodup, fun a ha b hb e => (hnew b hb).2 (e ▸ ha)⟩
  · rw [hfl]
    intro b hb
    rcases List.mem_append.1 hb with hb | hb
    · exact h4 b hb
    · exact (hnew b hb).1

/-- .. where a cell of a block of type 30 is stored. -/
theorem GrowL.keepT {B : Nat} {w : World} {v u : Value} {l : List (List (Int × Int))} {k p q : Nat} {c : Array Value} (h : GrowL B w v l k) (hp : w.heap[p]? = some (.cells c 34 (0, 0))) : GrowL B (w.setCell ⟨p, q, none⟩ u) v l k := by
  obtain ⟨R, T, h1, h2, h3, h4⟩ := h
  refine ⟨R, T, ⟨h1.1, ?_⟩, fun i hi => (h2 i hi).keep (kept_store hp (h2 i hi).1.typed (by decide)), h3, h4⟩
  rcases h1.2 with ⟨rfl, hn⟩ | ⟨g, cap, cur, rfl, hb, hh, rest⟩
  · exact .inl ⟨rfl, hn⟩
  · exact .inr ⟨g, cap, cur, rfl, hb, by rw [Below.heap_setCell _ _ _ _ (type_ne hh hp (by decide))]; exact hh, rest⟩

/-- All rows are built. -/
theorem GrowL.done {B : Nat} {w : World} {v : Value} {l : List (List (Int × Int))} (h : GrowL B w v l l.length) : ∃ bs, OwnSS w v l bs ∧ bs.Nodup ∧ ∀ b ∈ bs, B ≤ b := by
  obtain ⟨R, T, ⟨hl, h1⟩, h2, h3, h4⟩ := h
  rcases h1 with ⟨rfl, hn⟩ | ⟨g, cap, cur, rfl, hb, hh, hc1, hc2, hs, ht⟩
  · refine ⟨[], ⟨R, [], T, ⟨0, by omega, by unfold maxLen; omega, .inl ⟨hn, rfl, none, ⟨rfl, rfl⟩, rfl⟩⟩, h2, ?_⟩, List.nodup_nil, by simp⟩
    rw [hn]; rfl
  · refine ⟨[g] ++ (List.range l.length).flatMap T, ⟨R, [g], T, ⟨cap, hc1, hc2, .inr ⟨g, cap * 1, fun i => cur.getD i undef, rfl, rfl, by omega, ⟨cur, hh, by omega, fun i hi => ?_⟩, fun i hi => ?_⟩⟩, h2, rfl⟩, ?_, ?_⟩
    · have hlt : i < cur.size := by omega
      simp [hlt]
    · have hlt : i < cur.size := by omega
      have e : ((List.range l.length).map R)[i]? = some (R i) := by simp [show i < l.length by omega]
      rw [← ht, List.getElem?_take, if_pos (by omega)] at e
      simp only [Array.getElem?_toList] at e
      simp [Array.getD, hlt]
      simpa [hlt] using e
    · refine List.nodup_append.2 ⟨by simp, h3, fun a ha b hb e => ?_⟩
      obtain rfl := List.mem_singleton.1 ha
      subst e
      obtain ⟨i, hi, hbi⟩ := List.mem_flatMap.1 hb
      obtain ⟨cur', hc'⟩ := (h2 i (List.mem_range.1 hi)).1.typed _ hbi
      exact type_ne hh hc' (by decide) rfl
    · intro b hb'
      rcases List.mem_append.1 hb' with hb' | hb'
      · obtain rfl := List.mem_singleton.1 hb'; exact hb
      · exact h4 b hb'

theorem OwnSS.apart {w : World} {v : Value} {l : List (List (Int × Int))} {bs cs : List Nat} {t : Nat} (h : OwnSS w v l bs) (k : Typed w t cs) (h1 : t ≠ 93) (h2 : t ≠ 95) : ∀ b ∈ bs, b ∉ cs := by
  obtain ⟨R, b0, T, ho, hr, rfl⟩ := h
  intro b hb hc
  rcases List.mem_append.1 hb with hb | hb
  · exact ho.typed.apart k (Ne.symm h1) b hb hc
  · obtain ⟨i, hi, hb⟩ := List.mem_flatMap.1 hb
    exact (hr i (List.mem_range.1 hi)).1.typed.apart k (Ne.symm h2) b hb hc

/-- The three parts make a network in memory of its own. -/
theorem net_of_parts {W w : World} {v0 v1 v2 : Value} {N : Net} {b0 b1 b2 : List Nat} (h0 : OwnSS w v0 N.ends b0) (h1 : OwnI w v1 N.ids b1) (h2 : OwnI w v2 N.inputs b2) (n0 : b0.Nodup) (n12 : (b1 ++ b2).Nodup)
    (g0 : ∀ b ∈ b0, W.heap.size ≤ b) (g12 : ∀ b ∈ b1 ++ b2, W.heap.size ≤ b) : OwnNet w (.agg #[v0, v1, v2]) N (b0 ++ (b1 ++ b2)) ∧ Fresh W (b0 ++ (b1 ++ b2)) := by
  refine ⟨⟨v0, v1, v2, b0, b1, b2, rfl, h0, h1, h2, rfl⟩, List.nodup_append.2 ⟨n0, n12, fun a ha b hb e => ?_⟩, fun b hb => ?_⟩
  · subst e
    have ht : Typed w 3 (b1 ++ b2) := fun x hx => by
      rcases List.mem_append.1 hx with hx | hx
      · exact h1.1.typed x hx
      · exact h2.1.typed x hx
    exact h0.apart ht (by decide) (by decide) a ha hb
  · rcases List.mem_append.1 hb with hb | hb
    · exact g0 b hb
    · exact g12 b hb
end Go.Proofs.Ytkpdbceglejbnaa
