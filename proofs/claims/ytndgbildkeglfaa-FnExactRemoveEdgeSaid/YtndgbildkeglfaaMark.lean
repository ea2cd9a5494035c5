/- Contracts of the functions that write marks into memory of its own, and that look whether they are still there: integers. -/
import Derived.Test.YtndgbildkeglfaaApp
namespace Go.Proofs.Ytndgbildkeglfaa
open Go.RowKit

/-- Nothing that was there has changed but the blocks in bs. -/
structure Chg (w w' : World) (bs : List Nat) : Prop where
  os : w'.os = w.os
  tape : w'.tape = w.tape
  output : w'.output = w.output
  size : w.heap.size ≤ w'.heap.size
  block : ∀ k, k < w.heap.size → k ∉ bs → w'.heap[k]? = w.heap[k]?

theorem Chg.rfl' (w : World) (bs : List Nat) : Chg w w bs := ⟨rfl, rfl, rfl, Nat.le_refl _, fun _ _ _ => rfl⟩
theorem Chg.of_ext {w w' : World} (h : Ext w w') (bs : List Nat) : Chg w w' bs := ⟨h.os, h.tape, h.output, h.size, fun k hk _ => h.block k hk⟩
theorem Chg.mono {w w' : World} {bs cs : List Nat} (h : Chg w w' bs) (hs : ∀ b ∈ bs, b ∈ cs) : Chg w w' cs := ⟨h.os, h.tape, h.output, h.size, fun k hk hn => h.block k hk fun hb => hn (hs k hb)⟩
theorem Chg.trans' {a b c : World} {bs : List Nat} (h : Chg a b bs) (k : Chg b c bs) : Chg a c bs :=
  ⟨k.os.trans h.os, k.tape.trans h.tape, k.output.trans h.output, Nat.le_trans h.size k.size, fun i hi hn => (k.block i (Nat.lt_of_lt_of_le hi h.size) hn).trans (h.block i hi hn)⟩
theorem Chg.store {a b : World} {bs : List Nat} (h : Chg a b bs) {p : Addr} (hp : p.block ∈ bs) (v : Value) : Chg a (b.setCell p v) bs :=
  ⟨h.os, h.tape, h.output, by simp [World.setCell]; exact h.size, fun k hk hn => (Below.heap_setCell _ _ _ _ (fun e => hn (by rw [e]; exact hp))).trans (h.block k hk hn)⟩
/-- New blocks alone have changed: nothing that was there. -/
theorem Chg.ext {W w w' : World} {bs : List Nat} (he : Ext W w) (h : Chg w w' bs) (hb : ∀ b ∈ bs, W.heap.size ≤ b) : Ext W w' :=
  ⟨h.os.trans he.os, h.tape.trans he.tape, h.output.trans he.output, Nat.le_trans he.size h.size, fun k hk => (h.block k (Nat.lt_of_lt_of_le hk he.size) (fun hn => by have := hb k hn; omega)).trans (he.block k hk)⟩

def marks (k : Int) (n : Nat) : List Int := (List.range n).map fun (i : Nat) => k + (i : Int)
theorem length_marks (k : Int) (n : Nat) : (marks k n).length = n := by simp [marks]
theorem gi_marks (k : Int) (n i : Nat) (h : i < n) : gi (marks k n) i = k + i := by simp [gi, marks, h]

set_option maxHeartbeats 800000 in
set_option maxRecDepth 100000 in
theorem markIntS_any {w : World} {v : Value} {l : List Int} {bs : List Nat} (k : Int) (h : OwnI w v l bs) (hs : l.length ≤ 1048576) (h0 : 0 ≤ k) (h1 : k ≤ 1125899906842624) :
    Calls Try.prog 32 #[v, .int .i64 k] w fun e w' => e = .returned (.int .i64 (k + l.length)) ∧ Chg w w' bs ∧ OwnI w' v (marks k l.length) bs := by
  have hml := length_marks k l.length
  obtain ⟨⟨c, hc1, hc2, h⟩, _⟩ := h
  rcases h with ⟨hn, rfl, a, hac, rfl⟩ | ⟨b, m, g, rfl, rfl, ⟨hm, hmc⟩, hrow, hg⟩
  · have HZ := Lib.hid hn
    have HAC := Lib.hid hac
    clear hn hac
    go_enter Try.func32, Try.ntmps32
    go_wp2
    go_loop [1, 5] (fun t i => i = .int .i64 0 ∧ t = .int .i64 k) (fun _ _ => 0)
    case atStart => exact ⟨rfl, rfl⟩
    case round =>
      obtain ⟨rfl, rfl⟩ := hrel
      go_wp2
      go_ret
      refine ⟨by rw [HZ.out]; simp, Chg.rfl' _ _, ⟨c, by rw [hml]; exact hc1, hc2, .inl ⟨by rw [hml]; exact HZ.out, rfl, a, HAC.out, rfl⟩⟩, fun i hi => absurd hi (by have := HZ.out; omega)⟩
  · unfold maxLen at hc2
    have HMC := Lib.hid hmc
    clear hmc
    have HR := Lib.hid hrow
    clear hrow
    go_enter Try.func32, Try.ntmps32
    go_wp2
    go_loopg [1, 5] l.length (fun gh t i wr => ∃ j : Nat, j ≤ l.length ∧ gh = l.length - j ∧ i = .int .i64 j ∧ t = .int .i64 (k + j) ∧ Hid (Chg w wr [b] ∧ wr.rowIs b 3 m (fun i => if i < j then .int .i64 (k + i) else g i)))
    case atStart => exact ⟨0, Nat.zero_le _, rfl, rfl, by simp, Chg.rfl' _ _, HR.out.congr fun i _ => by simp⟩
    case round =>
      obtain ⟨j, hj, rfl, rfl, rfl, Hr⟩ := hrel
      by_cases hlt : j < l.length
      · have f1 := Hr.out.2.cell (i := j) (by omega)
        have f2 := Hr.out.2.frozen j
        have Hn : Hid (Chg w (wr.setCell ⟨b, j, none⟩ (.int .i64 (k + j))) [b] ∧ (wr.setCell ⟨b, j, none⟩ (.int .i64 (k + j))).rowIs b 3 m (fun i => if i < j + 1 then .int .i64 (k + i) else g i)) := by
          refine ⟨Hr.out.1.store (by simp) _, (Hr.out.2.set j _).congr fun i _ => ?_⟩
          by_cases e : i = j
          · subst e; rw [if_pos rfl, if_pos (by omega)]
          · rw [if_neg e]
            by_cases hij : i < j
            · rw [if_pos hij, if_pos (by omega)]
            · rw [if_neg hij, if_neg (by omega)]
        go_wp2
        go_roundg (l.length - (j + 1))
        case measure => omega
        case rel => exact ⟨j + 1, by omega, rfl, by go_num, by simp; omega, Hn⟩
      · obtain rfl : j = l.length := by omega
        go_wp2
        go_ret
        refine ⟨rfl, Hr.out.1, ⟨c, by rw [hml]; exact hc1, by unfold maxLen; omega, .inr ⟨b, m, _, rfl, by rw [hml], by rw [hml]; exact ⟨hm, HMC.out⟩, Hr.out.2, fun i hi => ?_⟩⟩, fun i hi => ?_⟩
        · rw [hml] at hi
          rw [if_pos (by omega)]
          show _ = Value.int .i64 (gi (marks k l.length) i)
          rw [gi_marks _ _ _ (by omega)]
        · rw [hml] at hi
          rw [gi_marks _ _ _ (by omega)]
          exact ⟨by omega, by omega⟩

set_option maxHeartbeats 800000 in
set_option maxRecDepth 100000 in
theorem heldIntS_any {w : World} {v : Value} (k : Int) (n : Nat) (h : IntSl w v (marks k n)) (hs : n ≤ 1048576) (h0 : 0 ≤ k) (h1 : k ≤ 1125899906842624) :
    Calls Try.prog 33 #[v, .int .i64 k] w fun e w' => e = .returned (.int .i64 (k + n)) ∧ w = w' := by
  obtain ⟨a, b, o, c, rfl, ha, hl, hm, hc⟩ := h
  unfold maxLen at hm
  rw [length_marks] at ha hl hc ⊢
  have Hc := Lib.hid hc
  have Ha := Lib.hid ha
  clear hc ha
  go_enter Try.func33, Try.ntmps33
  go_wp2
  go_loop [1, 5] (fun t i => ∃ j : Nat, j ≤ n ∧ i = .int .i64 j ∧ t = .int .i64 (k + j)) (fun _ i => n - (intOf i).toNat)
  case atStart => exact ⟨0, Nat.zero_le _, rfl, by simp⟩
  case round =>
    obtain ⟨j, hj, rfl, rfl⟩ := hrel
    by_cases hlt : j < n
    · obtain ⟨x, hx, rfl, _⟩ := Hc.out j hlt
      rw [gi_marks _ _ _ hlt] at hx
      obtain rfl := Ha.out (by omega)
      go_wp2
      go_round
      case rel => exact ⟨j + 1, by omega, by go_num, by simp; omega⟩
      case measure => simp [intOf]; omega
    · obtain rfl : j = n := by omega
      go_wp2
      go_ret
      exact ⟨rfl, rfl⟩
end Go.Proofs.Ytndgbildkeglfaa
