/- lastOf: the last list of a range. -/
import Derived.Test.YtbddjejpacaglaaGreatDoorVrg
namespace Go.Proofs.YtbddjejpacaglaaGreatDoor
open Go.RowKit Go.Shelf
attribute [local go_sem] Oper.semAt_some

theorem KpT.storeL {B : Nat} {X : List Nat} {W : World} {p : Addr} (hX : p.block ∈ X) (hB : p.block < B) (v : Value) : KpT B X W (W.setCell p v) := by
  have h := (Chg.rfl' W [p.block]).store (p := p) (by simp) v
  refine ⟨h.os, h.tape, h.output, h.size, fun b _ hm => Below.heap_setCell _ _ _ _ (fun e => hm (e ▸ hX)), fun b c z hb _ => Below.heap_setCell _ _ _ _ (fun e => by omega)⟩
theorem Kc.rowL {B : Nat} {W W' : World} {b t n : Nat} {f : Nat → Value} (h : Kc B W W') (hr : W.rowIs b t n f) : W'.rowIs b t n f := hr.of_block (by obtain ⟨cur, hc, -⟩ := hr; rw [h.cells b _ hc rfl, hc])
theorem row1_setL {w : World} {b t : Nat} {x : Value} (h : w.rowIs b t 1 (fun _ => x)) (y : Value) : (w.setCell ⟨b, 0, none⟩ y).rowIs b t 1 (fun _ => y) :=
  (h.set 0 y).congr fun i hi => by
    have h : i < 1 := hi
    match i, h with
    | 0, _ => rfl

/-- The variables last and found, when k lists have come. -/
def LastL (w : World) (F0 : List Nat) (N : Nat) (L : Nat → List Int) (k : Nat) (W : World) : Prop :=
  Ext w W ∧ ∃ v bs, W.rowIs w.heap.size 24 1 (fun _ => v) ∧ W.rowIs (w.heap.size + 1) 4 1 (fun _ => .bool (decide (0 < k))) ∧ (k = 0 → v = .slice none 0 0) ∧
    (0 < k → (∃ a q, v = .slice a N q) ∧ OwnI W v (L (k - 1)) bs ∧ bs.Nodup ∧ ∀ b ∈ bs, b ≠ w.heap.size ∧ b ≠ w.heap.size + 1 ∧ (b ∈ F0 ∨ w.heap.size ≤ b))
theorem LastL.kc {w : World} {F0 : List Nat} {N : Nat} {L : Nat → List Int} {k B : Nat} {W W' : World} (h : LastL w F0 N L k W) (hk : Kc B W W') (hB : w.heap.size ≤ B) : LastL w F0 N L k W' := by
  obtain ⟨h1, v, bs, h2, h3, h4, h5⟩ := h
  exact ⟨hk.ext h1 hB, v, bs, hk.rowL h2, hk.rowL h3, h4, fun hp => ⟨(h5 hp).1, hk.keepI (h5 hp).2.1, (h5 hp).2.2⟩⟩

set_option maxHeartbeats 6400000 in
set_option maxRecDepth 100000 in
theorem lastOf_any {w : World} {gf c N : Nat} {lb : Array Value} {F0 : List Nat} {L : Nat → List Int} (eg : ∀ args w, (callFunc gf args).run Tryz.prog w = .ok (.enter gf args) w)
    (hseq : ∀ W1, Ext w W1 → W1.heap.size = w.heap.size + 2 → SeqRun 4 Tryz.prog gf lb W1.heap.size [w.heap.size, w.heap.size + 1] c (RdL F0 N L) W1) (hF : ∀ b ∈ F0, b < w.heap.size) :
    Calls Tryz.prog 49 #[.func (.func gf) #[] lb] w fun e w' => ∃ v' bs, e = .returned (.tuple #[v', .bool (decide (0 < c))]) ∧ Ext w w' ∧ (c = 0 → v' = .slice none 0 0) ∧
      (0 < c → OwnI w' v' (L (c - 1)) bs ∧ ∀ b ∈ bs, b ∈ F0 ∨ w.heap.size ≤ b) := by
  obtain ⟨W1, hW1⟩ : ∃ W1, W1 = ((w.alloc (.cells #[.slice none 0 0] 24)).alloc (.cells #[.bool false] 4)) := ⟨_, rfl⟩
  have EW := Lib.hid (show Ext w W1 by rw [hW1]; exact ((Ext.rfl' w).alloc' _).alloc' _)
  have ZW := Lib.hid (show W1.heap.size = w.heap.size + 2 by rw [hW1]; simp)
  have RL := Lib.hid (show W1.rowIs w.heap.size 24 1 (fun _ => .slice none 0 0) by rw [hW1]; exact (row1_madeL _ _ _).alloc _)
  have RF := Lib.hid (show W1.rowIs (w.heap.size + 1) 4 1 (fun _ => .bool false) by
    rw [hW1]
    have := row1_madeL (w.alloc (.cells #[.slice none 0 0] 24)) (.bool false) 4
    rw [World.size_alloc] at this
    exact this)
  have HSQ := Lib.hid hseq
  have HF := Lib.hid hF
  have EG := Lib.hid eg
  clear hseq hF eg
  refine (callsIn_wide (n := 5)).1 ?_
  refine callsIn_of_wp_marks Tryz.func49 rfl trivial ?_ rfl
  simp only [Tryz.ntmps49, List.size_toArray, List.length_cons, List.length_nil, Nat.reduceAdd, Nat.reduceSub, Array.replicate_succ, Array.replicate_zero, List.push_toArray, List.append_toArray, List.nil_append, List.cons_append]
  gi_wp2_with fail
  rw [← hW1]
  clear hW1
  refine' rangeRun (n := 5) (gf := gf) (X := [w.heap.size, w.heap.size + 1]) (c := c) (Rd := RdL F0 N L) (by omega) rfl EG.out (HSQ.out W1 EW.out ZW.out)
    (LastL w F0 N L) (fun _ _ _ => False) (fun k W W' hi hk => hi.kc hk (by have := ZW.out; omega)) (fun _ _ _ _ hs _ => hs) (fun k v W0 W W' hr hk => hr.kc hk)
    ⟨EW.out, .slice none 0 0, [], RL.out, RF.out, fun _ => rfl, fun hp => absurd hp (by omega)⟩ _ ?assign ?body ?done ?stop
  case assign =>
    intro l k v W K hK
    gi_wp2
    exact hK
  case body =>
    rintro l k v W0 W hk hi0 hkc hr
    obtain ⟨a, q, bs, rfl, ho, hge⟩ := hr
    have hiW := LastL.kc (B := W1.heap.size) hi0 hkc (by have := ZW.out; omega)
    obtain ⟨hx0, u0, bs0, hrow0, hrowf0, -⟩ := hi0
    have hL0 := hrowf0.lt
    have hbb : ∀ b ∈ bs, b ≠ w.heap.size ∧ b ≠ w.heap.size + 1 ∧ (b ∈ F0 ∨ w.heap.size ≤ b) := fun b hb => by
      have h1 := hge b hb
      rcases Nat.eq_zero_or_pos k with h | h
      · have := HF.out b (h1.1 h)
        exact ⟨by omega, by omega, .inl (h1.1 h)⟩
      · have := h1.2 h
        exact ⟨by omega, by omega, .inr (by omega)⟩
    obtain ⟨hx, u, bs1, hrow, hrowf, -⟩ := hiW
    have c1 := hrow.cell (i := 0) (by omega)
    have c2 := hrow.frozen 0
    have c3 := hrowf.cell (i := 0) (by omega)
    have c4 := hrowf.frozen 0
    have c5 : (W.setCell ⟨w.heap.size, 0, none⟩ (.slice a N q)).cell? ⟨w.heap.size + 1, 0, none⟩ = some (.bool (decide (0 < k))) := by rw [World.cell?_setCell_far _ _ _ _ (by show w.heap.size ≠ w.heap.size + 1; omega)]; exact c3
    have r5 := hrowf.of_block (w' := W.setCell ⟨w.heap.size, 0, none⟩ (.slice a N q)) (Below.heap_setCell _ _ _ _ (by show w.heap.size + 1 ≠ w.heap.size; omega))
    have c6 := r5.frozen 0
    have HX := Lib.hid hx
    have HR := Lib.hid hrow
    have HR5 := Lib.hid r5
    have HO := Lib.hid ho
    have HG := Lib.hid hbb
    clear hx hrow hrowf ho hge hkc hx0 hrow0 hrowf0 hbb r5
    gi_wp2
    refine ⟨(KeepsOthers.setCell _ _ _).trans (KeepsOthers.setCell _ _ _), (KpT.storeL (by simp) (by have := ZW.out; show w.heap.size < W1.heap.size; omega) _).trans' (KpT.storeL (by simp) (by have := ZW.out; show w.heap.size + 1 < W1.heap.size; omega) _), (HX.out.store (by show w.heap.size ≤ w.heap.size; omega) _).store (by show w.heap.size ≤ w.heap.size + 1; omega) _, _, bs,
      (row1_setL HR.out _).of_block (Below.heap_setCell _ _ _ _ (by show w.heap.size ≠ w.heap.size + 1; omega)), ?_, fun h => absurd h (by omega), fun _ => ⟨⟨a, q, rfl⟩, ?_, ?_, HG.out⟩⟩
    · rw [decide_eq_true (show 0 < k + 1 by omega)]
      exact row1_setL HR5.out _
    · have h1 := HO.out.keep (w' := W.setCell ⟨w.heap.size, 0, none⟩ (.slice a N q)) fun b hb => Below.heap_setCell _ _ _ _ (HG.out b hb).1
      exact h1.keep fun b hb => Below.heap_setCell _ _ _ _ (HG.out b hb).2.1
    · exact HO.out.1.nodup
  case done =>
    rintro D W hD hi hK
    obtain ⟨hx, u, bs, hrow, hrowf, hu0, hu1⟩ := hi
    have c1 := hrow.cell (i := 0) (by omega)
    have c3 := hrowf.cell (i := 0) (by omega)
    by_cases hl : 0 < c
    · obtain ⟨⟨a, q, rfl⟩, ho, hnd, hb⟩ := hu1 hl
      rw [decide_eq_true hl] at c3
      have DD := Lib.hid (decide_eq_true hl)
      have HX := Lib.hid hx
      have HO := Lib.hid ho
      have HB := Lib.hid hb
      have HLc := Lib.hid hl
      clear hx hrow hrowf hu0 hu1 ho hb hl
      gi_wp2
      refine wpIn_wide.2 ?_
      go_quiet (fail)
      gi_wp2
      have hK' : (W.drewN nq).heap[D]? = some (.deferred (some [])) := by simpa using hK
      have KK := Lib.hid (Kc.put (B := W1.heap.size) (o' := .deferred none) hD hK' rfl)
      have KE := Lib.hid ((Ext.rfl' W).drewN' nq)
      refine ⟨by simp, .inl ⟨_, _, rfl, run_takeDeferred hK', ?_⟩⟩
      exact ⟨_, results_tmp2 rfl _ _ _, _, bs, by rw [DD.out]; rfl, KK.out.ext (HX.out.trans' KE.out) (by have := ZW.out; omega), fun h => absurd h (by have := HLc.out; omega), fun _ => ⟨KK.out.keepI (HO.out.ext KE.out), fun b hb => (HB.out b hb).2.2⟩⟩
    · obtain rfl := hu0 (by omega)
      rw [decide_eq_false hl] at c3
      have DD := Lib.hid (decide_eq_false hl)
      have HX := Lib.hid hx
      have HLc := Lib.hid hl
      clear hx hrow hrowf hu0 hu1 hl
      gi_wp2
      refine wpIn_wide.2 ?_
      go_quiet (fail)
      gi_wp2
      have hK' : (W.drewN nq).heap[D]? = some (.deferred (some [])) := by simpa using hK
      have KK := Lib.hid (Kc.put (B := W1.heap.size) (o' := .deferred none) hD hK' rfl)
      have KE := Lib.hid ((Ext.rfl' W).drewN' nq)
      refine ⟨by simp, .inl ⟨_, _, rfl, run_takeDeferred hK', ?_⟩⟩
      exact ⟨_, results_tmp2 rfl _ _ _, _, [], by rw [DD.out]; rfl, KK.out.ext (HX.out.trans' KE.out) (by have := ZW.out; omega), fun _ => rfl, fun h => absurd h HLc.out⟩
  case stop =>
    rintro D cd k W _ _ hh _
    exact hh.elim
end Go.Proofs.YtbddjejpacaglaaGreatDoor
