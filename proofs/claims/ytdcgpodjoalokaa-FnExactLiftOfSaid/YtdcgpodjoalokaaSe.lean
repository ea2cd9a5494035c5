/- The contract of the program's SubdivideEdges. -/
import Derived.Test.YtdcgpodjoalokaaSd
import Derived.Test.YtdcgpodjoalokaaSj
namespace Go.Proofs.Ytdcgpodjoalokaa
open Go.RowKit

theorem Try.infoSE : (Try.prog.info? 89).map (fun i => (i.zero, i.size, i.bytes)) = some (some (.slice none 0 0), 1, 24) := by kernel_rfl
def SubOK (N : Net) : Prop := Good N ∧ Good (subTo N (edgesTo N N.ends.length) (edgesTo N N.ends.length).length)
noncomputable def subAns (N : Net) : Net := if dec (SubOK N) = true then subTo N (edgesTo N N.ends.length) (edgesTo N N.ends.length).length else zeroNet
theorem subAns_t {N : Net} (h : SubOK N) : subAns N = subTo N (edgesTo N N.ends.length) (edgesTo N N.ends.length).length := by simp [subAns, dec_true h]
theorem subAns_f {N : Net} (h : ¬ SubOK N) : subAns N = zeroNet := by simp [subAns, dec_false h]
theorem subAns_small (N : Net) : (subAns N).small := by
  by_cases h : SubOK N
  · rw [subAns_t h]; exact good_small h.2
  · rw [subAns_f h]; exact zero_small
theorem subAns_or {N : Net} (h : Good N) : subAns N = goodOr (subTo N (edgesTo N N.ends.length) (edgesTo N N.ends.length).length) ∧ dec (SubOK N) = dec (Good (subTo N (edgesTo N N.ends.length) (edgesTo N N.ends.length).length)) := by
  by_cases k : Good (subTo N (edgesTo N N.ends.length) (edgesTo N N.ends.length).length)
  · exact ⟨by rw [subAns_t ⟨h, k⟩, goodOr_t k], by rw [dec_true k, dec_true (show SubOK N from ⟨h, k⟩)]⟩
  · exact ⟨by rw [subAns_f (fun x => k x.2), goodOr_f k], by rw [dec_false k, dec_false (show ¬ SubOK N from fun x => k x.2)]⟩

/-- Two ends in boxes of their own. -/
structure PP (w3 wx : World) (k i l j : Nat) (pb qb : Nat) : Prop where
  ext : Ext w3 wx
  pge : w3.heap.size ≤ pb
  qge : w3.heap.size ≤ qb
  p : wx.rowIs pb 123 2 (duo (.int .i64 k) (.int .i64 i))
  q : wx.rowIs qb 123 2 (duo (.int .i64 l) (.int .i64 j))
theorem pp_one (w3 : World) (k i l j : Nat) :
    PP w3 ((w3.alloc (.cells #[.int .i64 k, .int .i64 i] 123)).alloc (.cells #[.int .i64 l, .int .i64 j] 123)) k i l j w3.heap.size (w3.heap.size + 1) :=
  ⟨((Ext.rfl' w3).alloc' _).alloc' _, Nat.le_refl _, by omega, (duo_made w3 _ _ 123).alloc _, by simpa using duo_made (w3.alloc (.cells #[.int .i64 k, .int .i64 i] 123)) (.int .i64 l) (.int .i64 j) 123⟩
theorem pp_two (w3 : World) (k i l j : Nat) :
    PP w3 ((w3.alloc (.cells #[.int .i64 l, .int .i64 j] 123)).alloc (.cells #[.int .i64 k, .int .i64 i] 123)) k i l j (w3.heap.size + 1) w3.heap.size :=
  ⟨((Ext.rfl' w3).alloc' _).alloc' _, by omega, Nat.le_refl _, by simpa using duo_made (w3.alloc (.cells #[.int .i64 l, .int .i64 j] 123)) (.int .i64 k) (.int .i64 i) 123, (duo_made w3 _ _ 123).alloc _⟩
theorem PP.drew {w3 wx : World} {k i l j pb qb : Nat} (h : PP w3 wx k i l j pb qb) : PP w3 wx.drew k i l j pb qb := ⟨h.ext.drew', h.pge, h.qge, row_ext h.p (Ext.rfl' _).drew', row_ext h.q (Ext.rfl' _).drew'⟩

theorem PP.mono {w3 wx wy : World} {k i l j pb qb : Nat} (h : PP w3 wx k i l j pb qb) (he : Ext wx wy) : PP w3 wy k i l j pb qb := ⟨h.ext.trans' he, h.pge, h.qge, row_ext h.p he, row_ext h.q he⟩

set_option maxHeartbeats 3200000 in
set_option maxRecDepth 100000 in
theorem isStub_any {w : World} {v : Value} {u p x q : Int} (h : IntSl w v [u, p, x, q]) :
    Calls Try.prog 157 #[v] w fun e w' => e = .returned (.bool (decide (u = x ∧ p = q))) ∧ Ext w w' := by
  obtain ⟨a, b, o, c, rfl, ha, hl, hm, hc⟩ := h
  obtain rfl := ha (by simp)
  unfold maxLen at hm
  obtain ⟨_, c0, rfl, -⟩ := hc 0 (by simp)
  obtain ⟨_, c1, rfl, -⟩ := hc 1 (by simp)
  obtain ⟨_, c2, rfl, -⟩ := hc 2 (by simp)
  obtain ⟨_, c3, rfl, -⟩ := hc 3 (by simp)
  simp only [List.length_cons, List.length_nil, Nat.zero_add, Nat.add_zero] at hl c0 c1 c2 c3 ⊢
  have P0 : ∀ x' : Wx w, x'.w.cell? ⟨b, o, none⟩ = some (.int .i64 u) := fun x' => x'.ok.cell' c0
  have P1 : ∀ x' : Wx w, x'.w.cell? ⟨b, o + 1, none⟩ = some (.int .i64 p) := fun x' => x'.ok.cell' c1
  have P2 : ∀ x' : Wx w, x'.w.cell? ⟨b, o + 2, none⟩ = some (.int .i64 x) := fun x' => x'.ok.cell' c2
  have P3 : ∀ x' : Wx w, x'.w.cell? ⟨b, o + 3, none⟩ = some (.int .i64 q) := fun x' => x'.ok.cell' c3
  clear hc c0 c1 c2 c3 ha
  by_cases h1 : u = x
  · have b1 : (u == x) = true := by simpa using h1
    by_cases h2 : p = q
    · have b2 : (p == q) = true := by simpa using h2
      have E := Lib.hid (show decide (u = x ∧ p = q) = true from decide_eq_true ⟨h1, h2⟩)
      clear h1 h2
      go_enter Try.func157, Try.ntmps157
      go_wp2_with fail
      refine wp_region_ext (by kernel_rfl) (by kernel_rfl) ?_
      repeat (go_big_quiet_step (fail))
      refine wpQuiet_nil ?_
      rintro wq ⟨⟨_, hz2⟩, rfl⟩
      have E3 := Lib.hid hz2
      clear hz2 P0 P1 P2 P3
      go_wp2
      go_ret
      exact ⟨ret_bool E.out.symm, E3.out⟩
    · have b2 : (p == q) = false := beq_eq_false_iff_ne.2 h2
      have E := Lib.hid (show decide (u = x ∧ p = q) = false from decide_eq_false fun h => h2 h.2)
      clear h1 h2
      go_enter Try.func157, Try.ntmps157
      go_wp2_with fail
      refine wp_region_ext (by kernel_rfl) (by kernel_rfl) ?_
      repeat (go_big_quiet_step (fail))
      refine wpQuiet_nil ?_
      rintro wq ⟨⟨_, hz2⟩, rfl⟩
      have E3 := Lib.hid hz2
      clear hz2 P0 P1 P2 P3
      go_wp2
      go_ret
      exact ⟨ret_bool E.out.symm, E3.out⟩
  · have b1 : (u == x) = false := beq_eq_false_iff_ne.2 h1
    have E := Lib.hid (show decide (u = x ∧ p = q) = false from decide_eq_false fun h => h1 h.1)
    clear h1
    go_enter Try.func157, Try.ntmps157
    go_wp2_with fail
    refine wp_region_ext (by kernel_rfl) (by kernel_rfl) ?_
    repeat (go_big_quiet_step (fail))
    refine wpQuiet_nil ?_
    rintro wq ⟨⟨_, hz2⟩, rfl⟩
    have E3 := Lib.hid hz2
    clear hz2 P0 P1 P2 P3
    go_wp2
    go_ret
    exact ⟨ret_bool E.out.symm, E3.out⟩

end Go.Proofs.Ytdcgpodjoalokaa
