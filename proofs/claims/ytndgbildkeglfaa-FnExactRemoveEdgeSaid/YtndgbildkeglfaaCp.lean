/- The contract of l1Own: a copy in memory of its own. -/
import Derived.Test.YtndgbildkeglfaaApp2
namespace Go.Proofs.Ytndgbildkeglfaa
open Go.RowKit

theorem own_of_cells {w : World} {B : Nat} {v : Value} {l : List Int} (h : w.ownsRow B 3 1 v l.length (intCells l)) (hr : ∀ i, i < l.length → inI64 (gi l i)) :
    ∃ bs, OwnI w v l bs ∧ bs.Nodup ∧ ∀ b ∈ bs, B ≤ b := own_of_row h (fun i hi => intCells_get l i hi) hr
theorem OwnSl.slice {w : World} {v : Value} {n k t : Nat} {f : Nat → Value} {bs : List Nat} (h : OwnSl w v n k t f bs) : ∃ a c, v = .slice a n c := by
  obtain ⟨c, h1, h2, h3⟩ := h
  rcases h3 with ⟨rfl, rfl, a, _, rfl⟩ | ⟨b, m, g, rfl, rfl, _⟩
  · exact ⟨a, c, rfl⟩
  · exact ⟨_, c, rfl⟩

set_option maxHeartbeats 800000 in
set_option maxRecDepth 100000 in
theorem l1Own_any {w : World} {v : Value} {l : List Int} (h : IntSl w v l) (hs : l.length ≤ 1048576) :
    Calls Try.prog 102 #[v] w fun e w' => ∃ a c bs, e = .returned (.slice a l.length c) ∧ Ext w w' ∧ OwnI w' (.slice a l.length c) l bs ∧ Fresh w bs := by
  have HI := Lib.hid h
  have HG := Lib.hid h.range
  obtain ⟨a, b, o, c, rfl, ha, hl, hm, hc⟩ := h
  unfold maxLen at hm
  obtain ⟨i0, hi, hz0, hz1, hz2⟩ := info_parts Try.info3
  have I0 := Lib.hid (And.intro hi (And.intro hz0 (And.intro hz1 hz2)))
  clear hi hz0 hz1 hz2 hc ha
  go_enter Try.func102, Try.ntmps102
  go_wp2_with (at_builtin; refine wpList_app rfl _ _ 23 rfl w.heap.size 3 i0 (.int .i64 0) 1 8 Try.underlying23 I0.out.1 I0.out.2.1 I0.out.2.2.1 I0.out.2.2.2 rfl (by decide) _ 0 [] rfl (World.ownsRow_lit w #[] 0 (Nat.le_refl _) (by decide) rfl) a l.length c (intCells l) rfl ((HI.out.src fun p v hp => ((Ext.rfl' w).alloc' _).cell' hp).2) ?c1 ?c2 ?c3 ?_)
  case c1 => unfold maxLen; omega
  case c2 => omega
  case c3 => simp
  intro v' w1 hg
  have hx : Ext w w1 := hg.ext ((Ext.rfl' w).alloc' _) (by intro b hb; simp [Value.ownBlock] at hb; omega)
  obtain ⟨bs, ho, hnd, hge⟩ := own_of_cells (l := l) (by simpa using hg.1) HG.out
  clear hg
  obtain ⟨a', c', rfl⟩ := ho.1.slice
  have H := Lib.hid (And.intro hx (And.intro ho (And.intro hnd hge)))
  clear hx ho hnd hge
  go_wp2
  go_ret
  exact ⟨a', c', bs, rfl, H.out.1, H.out.2.1, H.out.2.2.1, H.out.2.2.2⟩
end Go.Proofs.Ytndgbildkeglfaa
