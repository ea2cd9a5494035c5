/- valueRunOf once more: a round may turn what was made between the arguments and the call. -/
import Derived.Test.YtbddjejpacaglaaGreatDoorVrj
namespace Go.Proofs.YtbddjejpacaglaaGreatDoor
open Go.RowKit Go.Shelf

theorem RuleIs.move {B z : Nat} {w w' : World} {x y : Int} {v : Value} (h : RuleIs B w x y v) (hk : ∀ i, z ≤ i → i < w.heap.size → w'.heap[i]? = w.heap[i]?) (hB : z ≤ B) : RuleIs B w' x y v := by
  obtain ⟨k, p, h1, h2, h3, h4, h5⟩ := h
  refine ⟨k, p, h1, h2, h3, ?_, h5⟩
  have h6 := World.block_lt_of_cell? _ _ h4
  have h7 := hk p (Nat.le_trans hB h5) h6
  rw [← h4]
  simp only [World.cell?, h7]
theorem RGrow.move {B z : Nat} {w w' : World} {b n k : Nat} {l : List (Int × Int)} (h : RGrow B w b n l k) (hk : ∀ i, z ≤ i → i < w.heap.size → w'.heap[i]? = w.heap[i]?) (hb : z ≤ b) (hB : z ≤ B) : RGrow B w' b n l k := by
  obtain ⟨f, h1, h2⟩ := h
  exact ⟨f, h1.of_block (hk b hb h1.lt), fun j hj => (h2 j hj).move hk hB⟩

/-- What valueRunOf hands back: a range over the lists. -/
def RunAt2 (w0 w w' : World) (gf : Nat) (lb : Array Value) (F0 : List Nat) (l : List (Int × Int)) (N : Net) (s : List Int) (m : Nat) : Prop :=
  (∀ args u, (callFunc gf args).run Tryz.prog u = .ok (.enter gf args) u) ∧ (∀ b ∈ F0, w.heap.size ≤ b ∧ b < w'.heap.size) ∧
    ∀ (n : Nat) (Wst : World) (X : List Nat), 1 ≤ n → Ext w' Wst → (∀ b ∈ X, b < Wst.heap.size ∧ w0.heap.size ≤ b ∧ (b < w.heap.size ∨ w'.heap.size ≤ b)) → SeqRun n Tryz.prog gf lb Wst.heap.size X (cntV l N s m) (RdL F0 N.ends.length (runV l N s)) Wst

set_option maxHeartbeats 3200000 in
set_option maxRecDepth 100000 in
theorem valueRunOf2_any {w0 w : World} {pv vn vs : Value} {l : List (Int × Int)} {N : Net} {s : List Int} (m : Nat) (hm : m ≤ 2001) (hx0 : Ext w0 w) (h0 : EndSl w pv l) (h : NetAt w0 vn N) (hs : IntSl w vs s) (hP : Pw w) :
    Calls Tryz.prog 46 #[pv, vn, vs, .int .i64 (m : Int)] w fun e w' => ∃ gf lb F0, e = .returned (.func (.func gf) #[] lb) ∧ Ext w w' ∧ RunAt2 w0 w w' gf lb F0 l N s m := by
  have HPV := Lib.hid h0
  have HN0 := Lib.hid h
  have E0 := Lib.hid hx0
  have HN := Lib.hid (h.ext hx0)
  clear hx0
  have HS := Lib.hid hs
  obtain ⟨v0, v1, v2, rfl, -, -, -⟩ := h
  have HX := Lib.hid ((Ext.rfl' w).alloc' (.cells #[v0, v1, v2] 35))
  have R := Lib.hid (row3_made w v0 v1 v2 35)
  obtain ⟨e0, e1, e2, -, -, -⟩ := row3_facts R.out
  have HPW := Lib.hid hP
  by_cases hp : ProgOK l
  · have P := Lib.hid (dec_true hp)
    have HP := Lib.hid hp
    by_cases hv : ValsOK N s
    · have A := Lib.hid (dec_true hv)
      have HVL := Lib.hid hv
      clear hp hv
      go_enter Tryz.func46, Tryz.ntmps46
      go_wp2_with fail
      (with_reducible refine (rulesOf_any (HPV.out.ext HX.out) (HPW.out.ext HX.out)).mono ?_)
      rintro e w1 ⟨rv, rfl, hx, hr⟩
      rw [P.out]
      have K1 := Lib.hid (HX.out.trans' hx)
      obtain ⟨b, B, rfl, hbB, hbz, hR⟩ := hr HP.out
      have HBZ := Lib.hid (show w.heap.size ≤ b ∧ w.heap.size ≤ B from ⟨Nat.le_trans HX.out.size hbz, by have := HX.out.size; omega⟩)
      have S1 := Lib.hid K1.out.size
      clear hbB hbz
      have HB := Lib.hid ((Ext.rfl' w1).alloc' (.cells #[.slice (some ⟨b, 0, none⟩) l.length l.length] 63))
      have RB := Lib.hid (row1_madeL w1 (.slice (some ⟨b, 0, none⟩) l.length l.length) 63)
      have K2 := Lib.hid (K1.out.trans' HB.out)
      have RN2 := Lib.hid ((row_ext R.out hx).alloc (.cells #[.slice (some ⟨b, 0, none⟩) l.length l.length] 63))
      have HR2 := Lib.hid (hR.ext HB.out)
      have ZB := Lib.hid (World.size_alloc w1 (.cells #[.slice (some ⟨b, 0, none⟩) l.length l.length] 63))
      obtain ⟨f0, f1, f2, -, -, -⟩ := row3_facts RN2.out
      clear hx hr hR e0 e1 e2
      go_wp2_with (go_at_call 38; (with_reducible refine (hasValues_any (HN.out.ext K2.out) (HS.out.ext K2.out)).mono ?_))
      rintro e w3 ⟨rfl, hx⟩
      rw [A.out]
      have K3 := Lib.hid (K2.out.trans' hx)
      have RB3 := Lib.hid (row_ext RB.out hx)
      have RN3 := Lib.hid (row_ext RN2.out hx)
      have HR3 := Lib.hid (HR2.out.ext hx)
      clear hx f0 f1 f2 RB RN2 HR2
      go_wp2_with fail
      have hpos : 0 < s.length := by have := HVL.out.2.1; have := HVL.out.1.1.1; omega
      have hsml : s.length ≤ 1048576 := by have := HVL.out.2.1; have := HVL.out.1.1.2; omega
      (with_reducible refine (cloneI_any (HS.out.ext K3.out) hpos hsml).mono ?_)
      rintro e w4 ⟨ca, cq, bs, rfl, hx, ho, hf⟩
      rw [HVL.out.2.1] at ho ⊢
      have K4 := Lib.hid (K3.out.trans' hx)
      have HO4 := Lib.hid ho
      have HF4 := Lib.hid (Fresh.of hf K3.out.size)
      have RB4 := Lib.hid (row_ext RB3.out hx)
      have RN4 := Lib.hid (row_ext RN3.out hx)
      have HR4 := Lib.hid (HR3.out.ext hx)
      clear hx ho hf RB3 RN3 HR3
      go_wp2_with fail
      (with_reducible refine listsFrom_any.mono ?_)
      rintro e w5 ⟨rfl, hx, hz, hc⟩
      have Z5 := Lib.hid hz
      have C5 := Lib.hid hc
      have X5 := Lib.hid hx
      clear hx hz hc
      go_wp2
      go_ret
      refine ⟨_, _, bs, rfl, K4.out.trans' X5.out, enters_lf, fun b hb => ⟨HF4.out.2 b hb, ?_⟩, fun n Wst X hn hw hX => ?_⟩
      · obtain ⟨cur, hc⟩ := HO4.out.1.typed b hb
        have := (Array.getElem?_eq_some_iff.1 hc).1
        have := Z5.out
        omega
      · rw [cntV_t ⟨HP.out, HVL.out⟩]
        have hE5 := K4.out.trans' X5.out
        have hbs : ∀ b ∈ bs, w.heap.size ≤ b ∧ b < w5.heap.size := fun b hb => by
          obtain ⟨cur, hc⟩ := HO4.out.1.typed b hb
          have := (Array.getElem?_eq_some_iff.1 hc).1
          have := Z5.out
          exact ⟨HF4.out.2 b hb, by omega⟩
        have hcs : ∀ i, i < 3 → w4.heap.size + i < Wst.heap.size ∧ w4.heap.size + i ∉ X := fun i hi => by
          have := Z5.out
          have := hw.size
          have := K4.out.size
          exact ⟨by omega, fun h => by have := (hX _ h).2.2; omega⟩
        have RB5 := row_ext RB4.out X5.out
        have RN5 := row_ext RN4.out X5.out
        have HR5 := HR4.out.ext X5.out
        refine listsFrom_stops (C := fun W => Ext w0 W ∧ ∀ b, w.heap.size ≤ b → b < w5.heap.size → W.heap[b]? = w5.heap[b]?) hn enters_vr ⟨(E0.out.trans' hE5).trans' hw, fun b _ hb => hw.block b hb⟩ (fun W W' h1 h2 => ⟨h1.1.trans' h2, fun b hb hb5 => ?_⟩)
          (fun W W' h1 h2 => ⟨h2.ext h1.1 (Nat.le_trans E0.out.size (Nat.le_trans hE5.size hw.size)) fun b hb => (hX b hb).2.1, fun b hb hb5 => (h2.low b (Nat.lt_of_lt_of_le hb5 hw.size) fun h => by have := (hX _ h).2.2; omega).trans (h1.2 b hb hb5)⟩) (length_runV HP.out HVL.out) hm ?_ (C5.out.ext hw) (HO4.out.ext (X5.out.trans' hw)) (fun b hb hx => by have := hbs b hb; have := (hX b hx).2.2; omega) (Nat.le_refl _) (fun b hb => (hX b hb).1) (hcs 0 (by omega)) (hcs 1 (by omega)) (hcs 2 (by omega))
        · have h3 := h1.2 b hb hb5
          have h4 : b < W.heap.size := by
            rcases Nat.lt_or_ge b W.heap.size with h | h
            · exact h
            · rw [Array.getElem?_eq_none h, Array.getElem?_eq_getElem hb5] at h3; cases h3
          exact (h2.block b h4).trans h3
        · intro k W v bs' hk hW hov
          exact stepFn_any (RB5.of_block (hW.2 _ S1.out RB5.lt)) (RN5.of_block (hW.2 _ (Nat.le_refl _) RN5.lt)) (HR5.move hW.2 HBZ.out.1 HBZ.out.2) HP.out (HN0.out.ext hW.1) hov.read (runV_ok HP.out HVL.out k) _
    · have A := Lib.hid (dec_false hv)
      have D := Lib.hid (cntV_f (l := l) (N := N) (s := s) (m := m) fun h => hv h.2)
      clear hp hv
      go_enter Tryz.func46, Tryz.ntmps46
      go_wp2_with fail
      (with_reducible refine (rulesOf_any (HPV.out.ext HX.out) (HPW.out.ext HX.out)).mono ?_)
      rintro e w1 ⟨rv, rfl, hx, hr⟩
      rw [P.out]
      have K1 := Lib.hid (HX.out.trans' hx)
      obtain ⟨b, B, rfl, -, -, hR⟩ := hr HP.out
      have HB := Lib.hid ((Ext.rfl' w1).alloc' (.cells #[.slice (some ⟨b, 0, none⟩) l.length l.length] 63))
      have K2 := Lib.hid (K1.out.trans' HB.out)
      have RN2 := Lib.hid ((row_ext R.out hx).alloc (.cells #[.slice (some ⟨b, 0, none⟩) l.length l.length] 63))
      obtain ⟨f0, f1, f2, -, -, -⟩ := row3_facts RN2.out
      clear hx hr hR e0 e1 e2
      go_wp2_with (go_at_call 38; (with_reducible refine (hasValues_any (HN.out.ext K2.out) (HS.out.ext K2.out)).mono ?_))
      rintro e w3 ⟨rfl, hx⟩
      rw [A.out]
      have K3 := Lib.hid (K2.out.trans' hx)
      clear hx f0 f1 f2
      go_wp2_with fail
      go_ret
      exact ⟨_, #[], [], rfl, K3.out, enters_no, by simp, fun n Wst X hn _ _ => by rw [D.out]; exact noLists_stops _ _ _ _ _⟩
  · have P := Lib.hid (dec_false hp)
    have D := Lib.hid (cntV_f (l := l) (N := N) (s := s) (m := m) fun h => hp h.1)
    clear hp
    go_enter Tryz.func46, Tryz.ntmps46
    go_wp2_with fail
    (with_reducible refine (rulesOfS_any (HPV.out.ext HX.out) (HPW.out.ext HX.out)).mono ?_)
    rintro e w1 ⟨ra, rn, rc, rfl, hx, -⟩
    rw [P.out]
    have K1 := Lib.hid (HX.out.trans' hx)
    have HB := Lib.hid ((Ext.rfl' w1).alloc' (.cells #[.slice ra rn rc] 63))
    have K2 := Lib.hid (K1.out.trans' HB.out)
    clear hx e0 e1 e2
    go_wp2_with fail
    go_ret
    exact ⟨_, #[], [], rfl, K2.out, enters_no, by simp, fun n Wst X hn _ _ => by rw [D.out]; exact noLists_stops _ _ _ _ _⟩
end Go.Proofs.YtbddjejpacaglaaGreatDoor
