/- LabelingText: the program's and the model's. -/
import Derived.Test.YtecgajpjcaemmaaDoorSl
namespace Go.Proofs.YtecgajpjcaemmaaDoor
open Go.RowKit

theorem row_six {r : List Int} (h : LabRow r) : ∀ x ∈ r, Six x := fun x hx => by
  obtain ⟨j, hj, rfl⟩ := List.getElem_of_mem hx
  have := h.2 j hj
  have e : gi r j = r[j] := by simp [gi, List.getD, hj]
  rw [e] at this
  exact ⟨this.1, by omega⟩
theorem getD_rows (l : List (List Int)) (k : Nat) (h : k < l.length) : (l.map (ints 44)).getD k [] = ints 44 (gr l k) := by simp [List.getD, h, gr]
theorem rows_len (l : List (List Int)) (h : LbOK l) (k : Nat) : (Go.Lib.join ((l.take k).map (ints 44)) [124]).length ≤ 43 * 40 := by
  have h1 := join_len_le ((l.take k).map (ints 44)) [124] 42 (fun x hx => by
    obtain ⟨r, hr, rfl⟩ := List.mem_map.1 hx
    obtain ⟨j, hj, rfl⟩ := List.getElem_of_mem (List.mem_of_mem_take hr)
    have hrow : LabRow (gr l j) := h.2 j hj
    have e : gr l j = l[j] := by simp [gr, List.getD, hj]
    rw [e] at hrow
    have := ints_len 44 _ (row_six hrow)
    have := hrow.1
    omega)
  rw [List.length_map, List.length_take] at h1
  have h2 : (([124] : Bs).length + 42) * min k l.length ≤ 43 * 40 := Nat.mul_le_mul (by simp) (by have := h.1; omega)
  omega

noncomputable def lbAns (l : List (List Int)) : Ending := if dec (LbOK l) then .returned (.tuple #[.string (bs (labT l)), .bool true]) else .returned (.tuple #[.string (bs []), .bool false])
theorem lbAns_t {l : List (List Int)} (h : LbOK l) : lbAns l = .returned (.tuple #[.string (bs (labT l)), .bool true]) := by unfold lbAns; rw [dec_true h]; rfl
theorem lbAns_f {l : List (List Int)} (h : ¬ LbOK l) : lbAns l = .returned (.tuple #[.string (bs []), .bool false]) := by unfold lbAns; rw [dec_false h]; rfl
theorem labT_nil : labT [] = [45] := by unfold labT; rw [if_pos rfl]
theorem labT_some {l : List (List Int)} (h : 1 ≤ l.length) : labT l = Go.Lib.join (l.map (ints 44)) [124] := by unfold labT; rw [if_neg (fun e => by rw [e] at h; simp at h)]

set_option maxHeartbeats 800000 in
set_option maxRecDepth 100000 in
theorem implLabeling_any {w : World} {v : Value} {l : List (List Int)} (h : IntSS w v l) (hL : Pw w) :
    Calls Tryd.prog 33 #[v] w fun e w' => e = lbAns l ∧ Ext w w' := by
  have HI := Lib.hid h
  have H := Lib.hid hL
  obtain ⟨a, b, o, c, rfl, ha, hl, hm, hc⟩ := h
  unfold maxLen at hm
  have Hc := Lib.hid hc
  have Ha := Lib.hid ha
  clear hc ha hL
  by_cases hok : LbOK l
  · have Hb := Lib.hid (dec_true hok)
    have Han := Lib.hid (lbAns_t hok)
    have Hok := Lib.hid hok
    have h40 := hok.1
    clear hok
    by_cases h0 : l.length = 0
    · have hl0 : l = [] := List.eq_nil_of_length_eq_zero h0
      have Han2 := Lib.hid (show lbAns l = .returned (.tuple #[.string (bs [45]), .bool true]) by rw [Han.out, hl0, labT_nil])
      have e0 : ((l.length : Int) == 0) = true := by rw [h0]; rfl
      clear hl0 h0
      go_enter Tryd.func33, Tryd.ntmps33
      go_wp2_with (go_at_call 77; (with_reducible refine (isLabeling_any HI.out).mono ?_); rintro e w' ⟨rfl, rfl⟩; rw [Hb.out])
      go_ret2
      exact ⟨Han2.out.symm, Ext.rfl' _⟩
    · have e0 : ((l.length : Int) == 0) = false := beq_eq_false_iff_ne.2 (by omega)
      have Hlen := Lib.hid (show (Go.Lib.join (l.map (ints 44)) [124]).length ≤ 140737488355328 by have := rows_len l Hok.out l.length; rw [List.take_length] at this; omega)
      have Hl := Lib.hid (labT_some (l := l) (by omega))
      have hmk := run_make_row' (P := Tryd.prog) 72 9 (.string ByteArray.empty) 16 Tryd.underlying72 Tryd.infoS rfl .i64 .i64 l.length (by omega) (by omega)
      go_enter Tryd.func33, Tryd.ntmps33
      go_wp2_with (go_at_call 77; (with_reducible refine (isLabeling_any HI.out).mono ?_); rintro e w' ⟨rfl, rfl⟩; rw [Hb.out])
      clear hmk
      go_loopg [18] l.length (fun g i wr => ∃ k : Nat, k ≤ l.length ∧ g = l.length - k ∧ i = .int .i64 k ∧ Hid (Ext w wr ∧ wr.rowIs w.heap.size 9 l.length (scell (l.map (ints 44)) k)))
      case atStart => exact ⟨0, Nat.zero_le _, rfl, rfl, (Ext.rfl' w).alloc' _, (World.rowIs_made w _ _ _).congr fun i _ => by simp [scell]⟩
      case round =>
        obtain ⟨k, hk, rfl, rfl, Hr⟩ := hrel
        by_cases hlt : k < l.length
        · obtain ⟨x, hc, hrow⟩ := Hc.out k hlt
          have HR := Lib.hid hrow
          have hrl := (Hok.out.2 k hlt).1
          have HS := Lib.hid (row_six (Hok.out.2 k hlt))
          obtain rfl := Ha.out (by omega)
          have hc' := Hr.out.1.cell' hc
          clear hc hrow
          go_wp2_with (go_at_call 42; (with_reducible refine (joinNumbers_any 44 (HR.out.ext Hr.out.1) (by omega) HS.out (H.out.ext Hr.out.1)).mono ?_); rintro e wy ⟨rfl, hy⟩; have HY := Lib.hid (Hr.out.1.trans' hy); have HRw := Lib.hid (row_ext Hr.out.2 hy); have hst := HRw.out.cell hlt; have hfr := HRw.out.frozen k; clear hy)
          go_roundg (l.length - (k + 1))
          case measure => omega
          case rel => exact ⟨k + 1, by omega, rfl, by go_num, HY.out.store (Nat.le_refl _) _, scell_step HRw.out (getD_rows l k hlt)⟩
        · obtain rfl : k = l.length := by omega
          have HJ := Lib.hid (show ∀ j, j < (l.map (ints 44)).length → wr.cell? ⟨w.heap.size, j, none⟩ = some (.string (bs ((l.map (ints 44)).getD j []))) from fun j hj => by
            have hj' : j < l.length := by simpa using hj
            have := Hr.out.2.cell hj'
            simpa [scell, hj'] using this)
          have HC := join_row (l.map (ints 44)) [124] wr w.heap.size l.length HJ.out Hr.out.2.lt (by simp) (by rw [List.length_map]; omega) Hlen.out
          rw [List.length_map] at HC
          have HC2 := Lib.hid HC
          clear HC
          go_wp2_with (go_at_call 54; (with_reducible refine (HC2.out).mono ?_); rintro e wy ⟨rfl, hy⟩; have HY := Lib.hid (Hr.out.1.trans' hy); clear hy)
          go_ret2
          exact ⟨by rw [Han.out, Hl.out]; rfl, HY.out⟩
  · have Hb := Lib.hid (dec_false hok)
    have Han := Lib.hid (lbAns_f hok)
    clear hok
    go_enter Tryd.func33, Tryd.ntmps33
    go_wp2_with (go_at_call 77; (with_reducible refine (isLabeling_any HI.out).mono ?_); rintro e w' ⟨rfl, rfl⟩; rw [Hb.out])
    go_ret2
    exact ⟨Han.out.symm, Ext.rfl' _⟩
end Go.Proofs.YtecgajpjcaemmaaDoor
