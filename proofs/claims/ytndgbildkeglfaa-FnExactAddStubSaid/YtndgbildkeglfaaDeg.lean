/- Contracts of both DegreesOf. -/
import Derived.Test.YtndgbildkeglfaaMark
namespace Go.Proofs.Ytndgbildkeglfaa
open Go.RowKit

/-- The degrees where there is a network, nothing elsewhere. -/
noncomputable def degAns (N : Net) : List Int := if dec (Good N) = true then degs N else []
theorem degAns_t {N : Net} (h : Good N) : degAns N = degs N := by simp [degAns, dec_true h]
theorem degAns_f {N : Net} (h : ¬ Good N) : degAns N = [] := by simp [degAns, dec_false h]
theorem degAns_len (N : Net) : (degAns N).length ≤ 1048576 := by
  by_cases h : Good N
  · rw [degAns_t h]; have := h.1.2; simp [degs]; omega
  · rw [degAns_f h]; simp
theorem own_nil (w : World) : OwnI w (.slice none 0 0) [] [] := ⟨⟨0, Nat.le_refl _, by unfold maxLen; omega, .inl ⟨rfl, rfl, none, ⟨rfl, rfl⟩, rfl⟩⟩, fun i hi => absurd hi (by simp)⟩
theorem ret_sl {v : Value} {b c : Bool} (h : b = c) : Ending.returned (.tuple #[v, .bool b]) = .returned (.tuple #[v, .bool c]) := by rw [h]

set_option maxHeartbeats 1600000 in
set_option maxRecDepth 100000 in
theorem specDegreesOf_any {w : World} {v : Value} {N : Net} (h : NetAt w v N) :
    Calls Try.prog 28 #[v] w fun e w' => ∃ v' bs, e = .returned (.tuple #[v', .bool (dec (Good N))]) ∧ Ext w w' ∧ OwnI w' v' (degAns N) bs ∧ Fresh w bs := by
  have HN := Lib.hid h
  obtain ⟨v0, v1, v2, rfl, hE, hI, hP⟩ := h
  clear hE hI hP
  have HX := Lib.hid (boxed_ext w v0 v1 v2 30)
  have HR := Lib.hid (boxed_row w v0 v1 v2 30)
  by_cases hg : Good N
  · have G := Lib.hid (dec_true hg)
    have A := Lib.hid (degAns_t hg)
    have Hs := Lib.hid (show N.ends.length ≤ 1048576 by have := hg.1.2; omega)
    clear hg
    go_enter Try.func28, Try.ntmps28
    go_wp2_with (first | (go_at_call 66; (with_reducible refine (neGood_any (HN.out.ext HX.out)).mono ?_); rintro e w1 ⟨rfl, hw⟩; rw [G.out]; have K1 := Lib.hid (HX.out.trans' hw); obtain ⟨p0, p1, p2, _, _, _⟩ := row3_facts (row_ext HR.out hw); clear hw) | (go_at_call 75; (with_reducible refine (neDegrees_any (HN.out.ext K1.out) Hs.out).mono ?_); rintro e w2 ⟨z, bs, rfl, hw, ho, hf⟩; have K2 := Lib.hid (K1.out.trans' hw); have O2 := Lib.hid ho; have F2 := Lib.hid (hf.of K1.out.size); clear hw ho hf))
    go_ret2
    exact ⟨_, bs, ret_sl G.out.symm, K2.out, by rw [A.out]; exact O2.out, F2.out⟩
  · have G := Lib.hid (dec_false hg)
    have A := Lib.hid (degAns_f hg)
    clear hg
    go_enter Try.func28, Try.ntmps28
    go_wp2_with (first | (go_at_call 66; (with_reducible refine (neGood_any (HN.out.ext HX.out)).mono ?_); rintro e w1 ⟨rfl, hw⟩; rw [G.out]; have K1 := Lib.hid (HX.out.trans' hw); clear hw))
    go_ret2
    exact ⟨_, [], ret_sl G.out.symm, K1.out, by rw [A.out]; exact own_nil _, Fresh.nil _⟩

/-- The first k degrees, the others zero. -/
def degRow (N : Net) (k : Nat) (i : Nat) : Value := if i < k then .int .i64 ((gr N.ends i).length : Int) else .int .i64 0

set_option maxHeartbeats 1600000 in
set_option maxRecDepth 100000 in
theorem degreesOf_any {w : World} {v : Value} {N : Net} (h : NetAt w v N) :
    Calls Try.prog 29 #[v] w fun e w' => ∃ v' bs, e = .returned (.tuple #[v', .bool (dec (Good N))]) ∧ Ext w w' ∧ OwnI w' v' (degAns N) bs ∧ Fresh w bs := by
  have HN := Lib.hid h
  obtain ⟨v0, v1, v2, rfl, hE, hI, hP⟩ := h
  clear hI hP
  obtain ⟨a, b, o, c, rfl, ha, hl, hm, hc⟩ := hE
  unfold maxLen at hm
  have Hc := Lib.hid hc
  have Ha := Lib.hid ha
  clear hc ha
  have HX := Lib.hid (boxed_ext w (.slice a N.ends.length c) v1 v2 30)
  have HR := Lib.hid (boxed_row w (.slice a N.ends.length c) v1 v2 30)
  by_cases hg : Good N
  · have G := Lib.hid (dec_true hg)
    have HG := Lib.hid hg
    have A := Lib.hid (degAns_t hg)
    have h40 : N.ends.length ≤ 40 := hg.1.2
    clear hg
    have hmk := run_make_row' (P := Try.prog) 23 3 (.int .i64 0) 8 Try.underlying23 Try.info3 rfl .i64 .i64 N.ends.length (by omega) (by omega)
    go_enter Try.func29, Try.ntmps29
    go_wp2_with (first | (go_at_call 22; (with_reducible refine (isNetwork_any (HN.out.ext HX.out)).mono ?_); rintro e w1 ⟨rfl, hw⟩; rw [G.out]; have K1 := Lib.hid (HX.out.trans' hw); obtain ⟨p0, p1, p2, _, _, _⟩ := row3_facts (row_ext HR.out hw); obtain ⟨t0, t1, t2, _, _, _⟩ := row3_facts ((row_ext HR.out hw).alloc (.cells (madeCells #[.int .i64 0] N.ends.length) 3)); clear hw))
    clear hmk p0 p1 p2 t0 t1 t2
    have hge := Lib.hid K1.out.size
    go_loopg [17] N.ends.length (fun g i wr => ∃ k : Nat, k ≤ N.ends.length ∧ g = N.ends.length - k ∧ i = .int .i64 k ∧ Hid (Ext w wr ∧ wr.rowIs w1.heap.size 3 N.ends.length (degRow N k)))
    case atStart => exact ⟨0, Nat.zero_le _, rfl, rfl, K1.out.alloc' _, (World.rowIs_made w1 _ _ _).congr fun i _ => by simp [degRow]⟩
    case round =>
      obtain ⟨k, hk, rfl, rfl, Hr⟩ := hrel
      by_cases hlt : k < N.ends.length
      · obtain ⟨z, hz, hz2⟩ := Hc.out k hlt
        obtain ⟨a', b', o', c', rfl, _, hl', hm', _⟩ := hz2
        unfold maxLen at hm'
        obtain rfl := Ha.out (by omega)
        have hz1 := Hr.out.1.cell' hz
        have f1 := Hr.out.2.cell hlt
        have f2 := Hr.out.2.frozen k
        have Hn : Hid (Ext w (wr.setCell ⟨w1.heap.size, k, none⟩ (.int .i64 ((gr N.ends k).length : Int))) ∧ (wr.setCell ⟨w1.heap.size, k, none⟩ (.int .i64 ((gr N.ends k).length : Int))).rowIs w1.heap.size 3 N.ends.length (degRow N (k + 1))) := by
          refine ⟨Hr.out.1.store hge.out _, (Hr.out.2.set k _).congr fun i _ => ?_⟩
          simp only [degRow]
          by_cases e : i = k
          · subst e; rw [if_pos rfl, if_pos (by omega)]
          · rw [if_neg e]
            by_cases hik : i < k
            · rw [if_pos hik, if_pos (by omega)]
            · rw [if_neg hik, if_neg (by omega)]
        clear hz
        go_wp2
        go_roundg (N.ends.length - (k + 1))
        case measure => omega
        case rel => exact ⟨k + 1, by omega, rfl, by go_num, Hn⟩
      · obtain rfl : k = N.ends.length := by omega
        go_wp2
        go_ret2
        have hdl : (degs N).length = N.ends.length := by simp [degs]
        refine ⟨_, [w1.heap.size], ret_sl G.out.symm, Hr.out.1, ?_, by simp, fun b hb => by have := hge.out; simp at hb; omega⟩
        rw [A.out]
        refine ⟨?_, fun i hi => ?_⟩
        · have := own_made (k := 1) (f := fun i => .int .i64 (gi (degs N) i)) (by simpa using Hr.out.2) (small_max (by omega)) (fun i hi => by simp only [degRow]; rw [if_pos (by omega), gi_degs N i (by omega)])
          rw [hdl]; exact this
        · rw [gi_degs N i (by omega)]
          obtain ⟨z, _, a', b', o', c', _, _, h3, h4, _⟩ := Hc.out i (by omega)
          unfold maxLen at h4
          exact ⟨by omega, by omega⟩
  · have G := Lib.hid (dec_false hg)
    have A := Lib.hid (degAns_f hg)
    clear hg
    go_enter Try.func29, Try.ntmps29
    go_wp2_with (first | (go_at_call 22; (with_reducible refine (isNetwork_any (HN.out.ext HX.out)).mono ?_); rintro e w1 ⟨rfl, hw⟩; rw [G.out]; have K1 := Lib.hid (HX.out.trans' hw); clear hw))
    go_ret2
    exact ⟨_, [], ret_sl G.out.symm, K1.out, by rw [A.out]; exact own_nil _, Fresh.nil _⟩
end Go.Proofs.Ytndgbildkeglfaa
