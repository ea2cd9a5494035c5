/- The contract of the program's own NeighboursOf. -/
import Derived.Test.YtndgbildkeglfaaNb
namespace Go.Proofs.Ytndgbildkeglfaa
open Go.RowKit

/-- The first k neighbours, the others zero. -/
def nbRow (l : List (Int × Int)) (k : Nat) (i : Nat) : Value := if i < k then .int .i64 (gn l i) else .int .i64 0

set_option maxHeartbeats 1600000 in
set_option maxRecDepth 100000 in
theorem neighboursOf_any {w : World} {v : Value} {N : Net} (x : Int) (h : NetAt w v N) :
    Calls Try.prog 38 #[v, .int .i64 x] w fun e w' => ∃ v' bs, e = .returned (.tuple #[v', .bool (dec (NodeAns N x))]) ∧ Ext w w' ∧ OwnI w' v' (nbAns N x) bs ∧ Fresh w bs := by
  have HN := Lib.hid h
  obtain ⟨v0, v1, v2, rfl, hE, hI, hP⟩ := h
  clear hI hP
  obtain ⟨a, b, o, c, rfl, ha, hl, hm, hc⟩ := hE
  unfold maxLen at hm
  have HX := Lib.hid (boxed_ext w (.slice a N.ends.length c) v1 v2 30)
  have HR := Lib.hid (boxed_row w (.slice a N.ends.length c) v1 v2 30)
  by_cases hg : NodeAns N x
  · have G := Lib.hid (dec_true hg)
    have G1 := Lib.hid (dec_true hg.1)
    have G2 := Lib.hid (dec_true hg.2)
    have A := Lib.hid (nbAns_t hg)
    have hlen := (hg.1.2.1 x.toNat (by have := hg.2.1; have := hg.2.2; omega)).1
    obtain ⟨xx, rfl⟩ := Int.eq_ofNat_of_zero_le hg.2.1
    have hxl : xx < N.ends.length := by have := hg.2.2; omega
    rw [Int.toNat_natCast] at hlen A
    obtain ⟨z, hz, hz2⟩ := hc xx hxl
    have HE := Lib.hid hz2
    obtain ⟨a', b', o', c', rfl, ha', hl', hm', hc'⟩ := hz2
    unfold maxLen at hm'
    obtain rfl := ha (by omega)
    have HZ := Lib.hid hz
    have Hc := Lib.hid hc'
    have Ha := Lib.hid ha'
    clear hg ha hc ha' hc' hz
    have hmk := run_make_row' (P := Try.prog) 23 3 (.int .i64 0) 8 Try.underlying23 Try.info3 rfl .i64 .i64 (gr N.ends xx).length (by omega) (by omega)
    go_enter Try.func38, Try.ntmps38
    go_wp2_with (first | (go_at_call 22; (with_reducible refine (isNetwork_any (HN.out.ext HX.out)).mono ?_); rintro e w1 ⟨rfl, hw⟩; rw [G1.out]; have K1 := Lib.hid (HX.out.trans' hw); have R1 := Lib.hid (row_ext HR.out hw); obtain ⟨p0, p1, p2, _, _, _⟩ := row3_facts R1.out; clear hw) | (go_at_call 81; (with_reducible refine (hasNode_any _ (HN.out.ext K1.out)).mono ?_); rintro e w2 ⟨rfl, hw⟩; rw [G2.out]; have K2 := Lib.hid (K1.out.trans' hw); have hz2 := K2.out.cell' HZ.out; have hz3 := (Ext.alloc' K2.out (.cells (madeCells #[.int .i64 0] (gr N.ends xx).length) 3)).cell' HZ.out; obtain ⟨q0, q1, q2, _, _, _⟩ := row3_facts (row_ext R1.out hw); obtain ⟨t0, t1, t2, _, _, _⟩ := row3_facts ((row_ext R1.out hw).alloc (.cells (madeCells #[.int .i64 0] (gr N.ends xx).length) 3)); clear hw))
    clear hmk p0 p1 p2 q0 q1 q2 t0 t1 t2 hz2 hz3
    have hge := Lib.hid K2.out.size
    go_loopg [31] (gr N.ends xx).length (fun g i wr => ∃ k : Nat, k ≤ (gr N.ends xx).length ∧ g = (gr N.ends xx).length - k ∧ i = .int .i64 k ∧ Hid (Ext w wr ∧ w2.heap.size + 1 ≤ wr.heap.size ∧ wr.rowIs w2.heap.size 3 (gr N.ends xx).length (nbRow (gr N.ends xx) k)))
    case atStart => exact ⟨0, Nat.zero_le _, rfl, rfl, K2.out.alloc' _, by simp, (World.rowIs_made w2 _ _ _).congr fun i _ => by simp [nbRow]⟩
    case round =>
      obtain ⟨k, hk, rfl, rfl, Hr⟩ := hrel
      by_cases hlt : k < (gr N.ends xx).length
      · obtain ⟨hc1, hc2, _⟩ := Hc.out k hlt
        obtain rfl := Ha.out (by omega)
        have q1 := Hr.out.1.cell' hc1
        have q2 := Hr.out.1.cell' hc2
        have f1 := (Hr.out.2.2.alloc (.cells #[.int .i64 (gn (gr N.ends xx) k), .int .i64 (gp (gr N.ends xx) k)] 44)).cell hlt
        have f2 := (Hr.out.2.2.alloc (.cells #[.int .i64 (gn (gr N.ends xx) k), .int .i64 (gp (gr N.ends xx) k)] 44)).frozen k
        have Hn : Hid (Ext w ((wr.alloc (.cells #[.int .i64 (gn (gr N.ends xx) k), .int .i64 (gp (gr N.ends xx) k)] 44)).setCell ⟨w2.heap.size, k, none⟩ (.int .i64 (gn (gr N.ends xx) k))) ∧ w2.heap.size + 1 ≤ ((wr.alloc (.cells #[.int .i64 (gn (gr N.ends xx) k), .int .i64 (gp (gr N.ends xx) k)] 44)).setCell ⟨w2.heap.size, k, none⟩ (.int .i64 (gn (gr N.ends xx) k))).heap.size ∧
            ((wr.alloc (.cells #[.int .i64 (gn (gr N.ends xx) k), .int .i64 (gp (gr N.ends xx) k)] 44)).setCell ⟨w2.heap.size, k, none⟩ (.int .i64 (gn (gr N.ends xx) k))).rowIs w2.heap.size 3 (gr N.ends xx).length (nbRow (gr N.ends xx) (k + 1))) := by
          refine ⟨(Hr.out.1.alloc' _).store hge.out _, by have := Hr.out.2.1; simp; omega, ((Hr.out.2.2.alloc _).set k _).congr fun i _ => ?_⟩
          simp only [nbRow]
          by_cases e : i = k
          · subst e; rw [if_pos rfl, if_pos (by omega)]
          · rw [if_neg e]
            by_cases hik : i < k
            · rw [if_pos hik, if_pos (by omega)]
            · rw [if_neg hik, if_neg (by omega)]
        clear hc1 hc2
        go_wp2
        go_roundg ((gr N.ends xx).length - (k + 1))
        case measure => omega
        case rel => exact ⟨k + 1, by omega, rfl, by go_num, Hn⟩
      · obtain rfl : k = (gr N.ends xx).length := by omega
        go_wp2
        go_ret2
        have hdl := length_nears (gr N.ends xx)
        refine ⟨_, [w2.heap.size], ret_sl G.out.symm, Hr.out.1, ?_, by simp, fun b hb => by have := hge.out; simp at hb; omega⟩
        rw [A.out]
        refine ⟨?_, fun i hi => ?_⟩
        · have := own_made (k := 1) (f := fun i => .int .i64 (gi (nears (gr N.ends xx)) i)) (by simpa using Hr.out.2.2) (small_max (by omega)) (fun i hi => by simp only [nbRow]; rw [if_pos (by omega), gi_nears _ i (by omega)])
          rw [hdl]; exact this
        · rw [gi_nears _ i (by omega)]; exact HE.out.range i (by omega) |>.1
  · have G := Lib.hid (dec_false hg)
    have A := Lib.hid (nbAns_f hg)
    clear ha hc
    by_cases h1 : Good N
    · have G1 := Lib.hid (dec_true h1)
      have G2 := Lib.hid (dec_false (p := NodeOK N x) fun h => hg ⟨h1, h⟩)
      clear hg h1
      go_enter Try.func38, Try.ntmps38
      go_wp2_with (first | (go_at_call 22; (with_reducible refine (isNetwork_any (HN.out.ext HX.out)).mono ?_); rintro e w1 ⟨rfl, hw⟩; rw [G1.out]; have K1 := Lib.hid (HX.out.trans' hw); obtain ⟨p0, p1, p2, _, _, _⟩ := row3_facts (row_ext HR.out hw); clear hw) | (go_at_call 81; (with_reducible refine (hasNode_any _ (HN.out.ext K1.out)).mono ?_); rintro e w2 ⟨rfl, hw⟩; rw [G2.out]; have K2 := Lib.hid (K1.out.trans' hw); clear hw))
      go_ret2
      exact ⟨_, [], ret_sl G.out.symm, K2.out, by rw [A.out]; exact own_nil _, Fresh.nil _⟩
    · have G1 := Lib.hid (dec_false h1)
      clear hg h1
      go_enter Try.func38, Try.ntmps38
      go_wp2_with (first | (go_at_call 22; (with_reducible refine (isNetwork_any (HN.out.ext HX.out)).mono ?_); rintro e w1 ⟨rfl, hw⟩; rw [G1.out]; have K1 := Lib.hid (HX.out.trans' hw); clear hw))
      go_ret2
      exact ⟨_, [], ret_sl G.out.symm, K1.out, by rw [A.out]; exact own_nil _, Fresh.nil _⟩
end Go.Proofs.Ytndgbildkeglfaa
