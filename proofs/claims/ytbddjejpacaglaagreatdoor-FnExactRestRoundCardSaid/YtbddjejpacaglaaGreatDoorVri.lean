/- slices.Clone of a list of ints. -/
import Derived.Test.YtbddjejpacaglaaGreatDoorKd
import Derived.Laws.Cover3
namespace Go.Proofs.YtbddjejpacaglaaGreatDoor
open Go.RowKit
theorem not_nil (w : World) (p : Addr) (n c : Nat) : (binOp .eql 24 (.slice (some p) n c) (.slice none 0 0)).run Tryz.prog w = .ok (.bool false) w := by
  simp [binOp, go_sem, run_equal_slice_nil w 24 3 (some p) n c Tryz.underlying24]
set_option maxHeartbeats 1600000 in
set_option maxRecDepth 100000 in
theorem cloneI_any {w : World} {v : Value} {l : List Int} (h : IntSl w v l) (h0 : 0 < l.length) (hs : l.length ≤ 1048576) :
    Calls Tryz.prog 69 #[v] w fun e w' => ∃ a c bs, e = .returned (.slice a l.length c) ∧ Ext w w' ∧ OwnI w' (.slice a l.length c) l bs ∧ Fresh w bs := by
  have HI := Lib.hid h
  have HG := Lib.hid h.range
  obtain ⟨a, b, o, c, rfl, ha, hl, hm, hc⟩ := h
  obtain rfl := ha h0
  unfold maxLen at hm
  obtain ⟨i0, hi, hz0, hz1, hz2⟩ := info_parts Tryz.info3
  have I0 := Lib.hid (And.intro hi (And.intro hz0 (And.intro hz1 hz2)))
  clear hi hz0 hz1 hz2 hc ha
  have NN := not_nil w ⟨b, o, none⟩ l.length c
  go_enter Tryz.func69, Tryz.ntmps69
  go_wp2_with (at_builtin; refine wpList_app rfl _ _ 24 rfl w.heap.size 3 i0 (.int .i64 0) 1 8 Tryz.underlying24 I0.out.1 I0.out.2.1 I0.out.2.2.1 I0.out.2.2.2 rfl (by decide) _ 0 [] rfl (World.ownsRow_lit w #[] 0 (Nat.le_refl _) (by decide) rfl) (some ⟨b, o, none⟩) l.length c (intCells l) rfl ((HI.out.src fun p v hp => ((Ext.rfl' w).alloc' _).cell' hp).2) ?c1 ?c2 ?c3 ?_)
  case c1 => unfold maxLen; omega
  case c2 => omega
  case c3 => simp
  intro v' w1 hg
  have hx : Ext w w1 := hg.ext ((Ext.rfl' w).alloc' _) (by intro b hb; simp [Value.ownBlock] at hb; omega)
  obtain ⟨bs, ho, hnd, hge⟩ := own_of_cells (l := l) (by simpa using hg.1) HG.out
  clear hg
  obtain ⟨a', c', rfl⟩ := ho.1.slice
  have H := Lib.hid (And.intro hx (And.intro ho (And.intro hnd hge)))
  clear hx ho hnd hge
  go_wp2
  go_ret
  exact ⟨a', c', bs, rfl, H.out.1, H.out.2.1, H.out.2.2.1, H.out.2.2.2⟩
end Go.Proofs.YtbddjejpacaglaaGreatDoor
