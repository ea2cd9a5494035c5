/- slices.AppendSeq and slices.Collect over an iterator that hands on numbers. -/
import Derived.Test.YtkpdbceglejbnaaRkb
namespace Go.Proofs.Ytkpdbceglejbnaa
open Go.RowKit Go.Shelf
attribute [local go_sem] Oper.semAt_some

theorem KpI.of_grow {B t k n : Nat} {X : List Nat} {W W' : World} {v : Value} {xs : List Value} (ho : W.ownsRow B t k v n xs) (hg : W.grownBy W' v.ownBlock) (hB : B ≤ W.heap.size) : KpI B X W W' := by
  refine ⟨hg.os, hg.tape, hg.output, hg.size, fun b hb _ => hg.block b (by omega) fun e => ?_⟩
  have := (ho.lt b e.symm).1
  omega
theorem KeepsOthers.of_owns {B t k n : Nat} {W W' : World} {v : Value} {xs : List Value} (ho : W.ownsRow B t k v n xs) (hg : W.grownBy W' v.ownBlock) : KeepsOthers W W' :=
  KeepsOthers.of_grownBy hg fun j o hj hh => by
    rcases ho.2 with ⟨rfl, -⟩ | ⟨g, cap, cur, rfl, -, h, -⟩
    · cases hj
    · simp only [Value.ownBlock, Option.some.injEq] at hj
      subst hj
      rw [h] at hh
      cases hh
      rfl
theorem Kc.rowI {B : Nat} {W W' : World} {b t n : Nat} {f : Nat → Value} (h : Kc B W W') (hr : W.rowIs b t n f) : W'.rowIs b t n f := hr.of_block (by obtain ⟨cur, hc, -⟩ := hr; rw [h.cells b _ hc rfl, hc])
theorem owns_kcI {B0 B t k n : Nat} {W W' : World} {v : Value} {xs : List Value} (hk : Kc B0 W W') (h : W.ownsRow B t k v n xs) : W'.ownsRow B t k v n xs := by
  obtain ⟨h0, h1⟩ := h
  refine ⟨h0, ?_⟩
  rcases h1 with h1 | ⟨g, cap, cur, e, hb, hh, r⟩
  · exact .inl h1
  · exact .inr ⟨g, cap, cur, e, hb, hk.cells g _ hh rfl, r⟩
theorem owns_off {B t k n : Nat} {W : World} {v : Value} {xs : List Value} (h : W.ownsRow B t k v n xs) {p : Addr} (hp : p.block < B) (x : Value) : (W.setCell p x).ownsRow B t k v n xs := by
  obtain ⟨h0, h1⟩ := h
  refine ⟨h0, ?_⟩
  rcases h1 with h1 | ⟨g, cap, cur, e, hb, hh, r⟩
  · exact .inl h1
  · exact .inr ⟨g, cap, cur, e, hb, (Below.heap_setCell _ _ _ _ (fun e' => by omega)).trans hh, r⟩
theorem row1_madeI (w : World) (x : Value) (t : Nat) : (w.alloc (.cells #[x] t)).rowIs w.heap.size t 1 (fun _ => x) :=
  World.rowIs_alloc w #[x] t _ fun i hi => by
    have h : i < 1 := hi
    match i, h with
    | 0, _ => rfl
theorem row1_setI {w : World} {b t : Nat} {x : Value} (h : w.rowIs b t 1 (fun _ => x)) (y : Value) : (w.setCell ⟨b, 0, none⟩ y).rowIs b t 1 (fun _ => y) :=
  (h.set 0 y).congr fun i hi => by
    have h : i < 1 := hi
    match i, h with
    | 0, _ => rfl
/-- The first cells of a list. -/
def preR (l : List Int) (k : Nat) : List Value := (List.range k).map fun j => .int .i64 (gi l j)
theorem preR_succ (l : List Int) (k : Nat) : preR l k ++ [.int .i64 (gi l k)] = preR l (k + 1) := by simp [preR, List.range_succ]

/-- The box of the row when k numbers have come. -/
def RowAt (w : World) (l : List Int) (B : Nat) (k : Nat) (W : World) : Prop :=
  Ext w W ∧ B ≤ W.heap.size ∧ ∃ v, W.rowIs w.heap.size 26 1 (fun _ => v) ∧ W.ownsRow B 3 1 v k (preR l k)
theorem RowAt.kc {w : World} {l : List Int} {B k : Nat} {W W' : World} (h : RowAt w l B k W) (hk : Kc B W W') (hB : w.heap.size ≤ B) : RowAt w l B k W' := by
  obtain ⟨h1, h0, v, h2, h3⟩ := h
  exact ⟨hk.ext h1 hB, Nat.le_trans h0 hk.size, v, hk.rowI h2, owns_kcI hk h3⟩

set_option maxHeartbeats 6400000 in
set_option maxRecDepth 100000 in
theorem appendSeq_any {w : World} {gf : Nat} {lb : Array Value} {l : List Int} (eg : ∀ args w, (callFunc gf args).run Try.prog w = .ok (.enter gf args) w)
    (hseq : ∀ W1, Ext w W1 → W1.heap.size = w.heap.size + 1 → SeqRun1 4 Try.prog gf lb W1.heap.size [w.heap.size] l.length (fun k => .int .i64 (gi l k)) W1) (hl : l.length ≤ 1000000) :
    Calls Try.prog 184 #[.slice none 0 0, .func (.func gf) #[] lb] w fun e w' => ∃ v', e = .returned v' ∧ Ext w w' ∧ w'.ownsRow (w.heap.size + 1) 3 1 v' l.length (preR l l.length) := by
  obtain ⟨W1, hW1⟩ : ∃ W1, W1 = w.alloc (.cells #[.slice none 0 0] 26) := ⟨_, rfl⟩
  have EW := Lib.hid (show Ext w W1 by rw [hW1]; exact (Ext.rfl' w).alloc' _)
  have ZW := Lib.hid (show W1.heap.size = w.heap.size + 1 by rw [hW1]; simp)
  have RL := Lib.hid (show W1.rowIs w.heap.size 26 1 (fun _ => .slice none 0 0) by rw [hW1]; exact row1_madeI _ _ _)
  have HSQ := Lib.hid hseq
  have EG := Lib.hid eg
  obtain ⟨i0, hi, hz0, hz1, hz2⟩ := info_parts Try.info3
  have I0 := Lib.hid (And.intro hi (And.intro hz0 (And.intro hz1 hz2)))
  obtain ⟨c, hc⟩ : ∃ c, c = l.length := ⟨_, rfl⟩
  have HC := Lib.hid hc
  rw [← hc] at HSQ hl ⊢
  clear hseq eg hi hz0 hz1 hz2 hc
  refine (callsIn_wide (n := 5)).1 ?_
  refine callsIn_of_wp_marks Try.func184 rfl trivial ?_ rfl
  simp only [Try.ntmps184, List.size_toArray, List.length_cons, List.length_nil, Nat.reduceAdd, Nat.reduceSub, Array.replicate_succ, Array.replicate_zero, List.push_toArray, List.append_toArray, List.nil_append, List.cons_append]
  gi_wp2_with fail
  rw [← hW1]
  clear hW1
  refine' rangeRun1 (n := 5) (gf := gf) (X := [w.heap.size]) (c := c) (Vf := fun k => .int .i64 (gi l k)) (by omega) rfl EG.out (HSQ.out W1 EW.out ZW.out)
    (RowAt w l W1.heap.size) (fun _ _ _ => False) (fun k W W' hi hk => hi.kc hk (by have := ZW.out; omega)) (fun _ _ _ _ hs _ => hs)
    ⟨EW.out, Nat.le_refl _, .slice none 0 0, RL.out, World.ownsRow_nil _ _ _ _⟩ _ ?assign ?body ?done ?stop
  case assign =>
    intro l' k W K hK
    gi_wp2
    exact hK
  case body =>
    rintro l' k W0 W hk hi0 hkc
    obtain ⟨hx0, hb0, u, hrow0, hu0⟩ := hi0
    have hxW := hkc.ext hx0 (by have := ZW.out; omega)
    have hrow := hkc.rowI hrow0
    have hR3 := owns_kcI hkc hu0
    obtain ⟨ua, uc, rfl⟩ := owns_slice hR3
    obtain ⟨x, hx⟩ : ∃ x, x = gi l k := ⟨_, rfl⟩
    have HXX := Lib.hid hx
    rw [← hx]
    have c1 := (row_ext hrow ((Ext.rfl' W).alloc' (.cells #[.int .i64 x] 3))).cell (i := 0) (by omega)
    have c0 := hrow.cell (i := 0) (by omega)
    have hWB : W1.heap.size ≤ W.heap.size := Nat.le_trans hb0 hkc.size
    have HX := Lib.hid hxW
    have HR := Lib.hid hrow
    have HO := Lib.hid hR3
    clear hxW hrow hkc hx0 hrow0 hu0 hR3 c1 hx
    gi_wp2_with (gi_at_builtin; refine wpListIn_append_own _ rfl _ _ 26 rfl W1.heap.size 3 i0 (.int .i64 0) 1 8 Try.underlying26 I0.out.1 I0.out.2.1 I0.out.2.2.1 I0.out.2.2.2 rfl (by decide) (.slice ua k uc) k (preR l k) rfl (owns_ext HO.out ((Ext.rfl' W).alloc' _)) ⟨W.heap.size, 0, none⟩ 1 1 [.int .i64 x] rfl rfl (fun j u hu => by match j, hu with | 0, hu => (simp at hu; subst hu; simp [Addr.add]) | j + 1, hu => simp at hu) (by intro u hu; obtain rfl := List.mem_singleton.1 hu; rfl) (by unfold maxLen; omega) (by omega) (by simp; omega) ?_; intro v' w4 hown hgb _; obtain ⟨va, vq, rfl⟩ := owns_slice hown; have HW := Lib.hid hown; have HB := Lib.hid hgb; clear hown hgb; have RL4 := Lib.hid (show w4.rowIs w.heap.size 26 1 (fun _ => .slice ua k uc) from (row_ext HR.out ((Ext.rfl' W).alloc' (.cells #[.int .i64 x] 3))).of_block (HB.out.block _ (by have := ZW.out; simp; omega) fun e => by have := (World.ownsRow.lt HO.out _ e.symm).1; have := ZW.out; omega)); have c2 := RL4.out.cell (i := 0) (by omega); have c3' := RL4.out.frozen 0)
    have KA := Lib.hid (KpI.of_ext (B := W1.heap.size) (X := [w.heap.size]) ((Ext.rfl' W).alloc' (.cells #[.int .i64 x] 3)) hWB)
    have KB := Lib.hid (KA.out.trans' (KpI.of_grow (owns_ext HO.out ((Ext.rfl' W).alloc' _)) HB.out (by simp; omega)))
    have KC := Lib.hid (KB.out.trans' (KpI.store (p := ⟨w.heap.size, 0, none⟩) (by simp) (.slice va (k + 1) vq)))
    exact ⟨((KeepsOthers.alloc W _).trans (KeepsOthers.of_owns (owns_ext HO.out ((Ext.rfl' W).alloc' _)) HB.out)).trans (KeepsOthers.setCell _ _ _), KC.out, KC.out.ext HX.out (by have := ZW.out; omega) (by intro b hb; simp at hb; omega), Nat.le_trans hWB KC.out.size, _, row1_setI RL4.out _, by rw [← preR_succ, ← HXX.out]; exact owns_off HW.out (by have := ZW.out; show w.heap.size < _; omega) _⟩
  case done =>
    rintro D W hD hi hK
    obtain ⟨hx, hb0, u, hrow, hu⟩ := hi
    have c1 := hrow.cell (i := 0) (by omega)
    obtain ⟨a, q, rfl⟩ := owns_slice hu
    have HX := Lib.hid hx
    have HU := Lib.hid hu
    clear hx hrow hu hb0
    gi_wp2
    have KK := Lib.hid (Kc.put (B := W1.heap.size) (o' := .deferred none) hD hK rfl)
    refine ⟨by simp, .inl ⟨_, _, rfl, run_takeDeferred hK, ?_⟩⟩
    exact ⟨_, results_tmp rfl _ _ _, _, rfl, KK.out.ext HX.out (by have := ZW.out; omega), by rw [← ZW.out]; exact owns_kcI KK.out HU.out⟩
  case stop =>
    rintro D cd k W _ _ hh _
    exact hh.elim
end Go.Proofs.Ytkpdbceglejbnaa
