/- valueRunOf: the program's range over the values behind some rounds. -/
import Derived.Test.YtbddjejpacaglaaGreatDoorVrf
import Derived.Test.YtbddjejpacaglaaGreatDoorVrh
import Derived.Test.YtbddjejpacaglaaGreatDoorVri
import Derived.Test.YtbddjejpacaglaaGreatDoorVrs
namespace Go.Proofs.YtbddjejpacaglaaGreatDoor
open Go.RowKit Go.Shelf

theorem enters_no (args : Array Value) (w : World) : (callFunc 67 args).run Tryz.prog w = .ok (.enter 67 args) w := enters_of Tryz.func67 (by kernel_rfl) rfl args w
theorem enters_lf (args : Array Value) (w : World) : (callFunc 86 args).run Tryz.prog w = .ok (.enter 86 args) w := enters_of Tryz.func86 (by kernel_rfl) rfl args w
theorem enters_vr (args : Array Value) (w : World) : (callFunc 70 args).run Tryz.prog w = .ok (.enter 70 args) w := enters_of Tryz.func70 (by kernel_rfl) rfl args w

set_option maxHeartbeats 1600000 in
set_option maxRecDepth 100000 in
theorem stepFn_any {w : World} {v0 v1 v2 vs : Value} {l : List (Int × Int)} {N : Net} {s : List Int} {b B b0 b1 : Nat} (h0 : w.rowIs b0 63 1 (fun _ => .slice (some ⟨b, 0, none⟩) l.length l.length)) (h1 : w.rowIs b1 35 3 (tri v0 v1 v2))
    (hR : RGrow B w b l.length l l.length) (hp : ProgOK l) (h : NetAt w (.agg #[v0, v1, v2]) N) (hs : IntSl w vs s) (hv : ValsOK N s) (r : Int) :
    Calls Tryz.prog 70 #[.int .i64 r, vs, .pointer (some ⟨b0, 0, none⟩), .pointer (some ⟨b1, 0, none⟩)] w fun e w' => ∃ v' bs, e = .returned v' ∧ Ext w w' ∧ OwnI w' v' (stepV l N r s) bs ∧ Fresh w bs := by
  have HN := Lib.hid h
  have HS := Lib.hid hs
  have HRR := Lib.hid hR
  have HP := Lib.hid hp
  have HV := Lib.hid hv
  have e0 := h0.cell (i := 0) (by omega)
  obtain ⟨f0, f1, f2, -, -, -⟩ := row3_facts h1
  clear h0 h1 hR hp h hs hv
  go_enter Tryz.func70, Tryz.ntmps70
  go_wp2_with fail
  (with_reducible refine (nextValues_any HRR.out HP.out HN.out HS.out HV.out r).mono ?_)
  rintro e w3 ⟨v', bs, rfl, hx, ho, hf⟩
  have K := Lib.hid (And.intro hx (And.intro ho hf))
  clear hx ho hf e0 f0 f1 f2
  go_wp2
  go_ret
  exact ⟨_, bs, rfl, K.out⟩

noncomputable def cntV (l : List (Int × Int)) (N : Net) (s : List Int) (m : Nat) : Nat := if dec (AskB l N s) = true then m + 1 else 0
theorem cntV_t {l : List (Int × Int)} {N : Net} {s : List Int} {m : Nat} (h : AskB l N s) : cntV l N s m = m + 1 := by unfold cntV; rw [if_pos (dec_true h)]
theorem cntV_f {l : List (Int × Int)} {N : Net} {s : List Int} {m : Nat} (h : ¬ AskB l N s) : cntV l N s m = 0 := by unfold cntV; rw [dec_false h]; rfl

/-- What valueRunOf hands back: a range over the lists. -/
def RunAt (w w' : World) (gf : Nat) (lb : Array Value) (F0 : List Nat) (l : List (Int × Int)) (N : Net) (s : List Int) (m : Nat) : Prop :=
  (∀ args u, (callFunc gf args).run Tryz.prog u = .ok (.enter gf args) u) ∧ (∀ b ∈ F0, w.heap.size ≤ b ∧ b < w'.heap.size) ∧
    ∀ (n : Nat) (Wst : World) (X : List Nat), 1 ≤ n → Ext w' Wst → (∀ b ∈ X, w'.heap.size ≤ b ∧ b < Wst.heap.size) → SeqRun n Tryz.prog gf lb Wst.heap.size X (cntV l N s m) (RdL F0 N.ends.length (runV l N s)) Wst

set_option maxHeartbeats 3200000 in
set_option maxRecDepth 100000 in
theorem valueRunOf_any {w : World} {pv vn vs : Value} {l : List (Int × Int)} {N : Net} {s : List Int} (m : Nat) (hm : m ≤ 2001) (h0 : EndSl w pv l) (h : NetAt w vn N) (hs : IntSl w vs s) (hP : Pw w) :
    Calls Tryz.prog 46 #[pv, vn, vs, .int .i64 (m : Int)] w fun e w' => ∃ gf lb F0, e = .returned (.func (.func gf) #[] lb) ∧ Ext w w' ∧ RunAt w w' gf lb F0 l N s m := by
  have HPV := Lib.hid h0
  have HN := Lib.hid h
  have HS := Lib.hid hs
  obtain ⟨v0, v1, v2, rfl, -, -, -⟩ := h
  have HX := Lib.hid ((Ext.rfl' w).alloc' (.cells #[v0, v1, v2] 35))
  have R := Lib.hid (row3_made w v0 v1 v2 35)
  obtain ⟨e0, e1, e2, -, -, -⟩ := row3_facts R.out
  have HPW := Lib.hid hP
  by_cases hp : ProgOK l
  · have P := Lib.hid (dec_true hp)
    have HP := Lib.hid hp
    by_cases hv : ValsOK N s
    · have A := Lib.hid (dec_true hv)
      have HVL := Lib.hid hv
      clear hp hv
      go_enter Tryz.func46, Tryz.ntmps46
      go_wp2_with fail
      (with_reducible refine (rulesOf_any (HPV.out.ext HX.out) (HPW.out.ext HX.out)).mono ?_)
      rintro e w1 ⟨rv, rfl, hx, hr⟩
      rw [P.out]
      have K1 := Lib.hid (HX.out.trans' hx)
      obtain ⟨b, B, rfl, -, -, hR⟩ := hr HP.out
      have HB := Lib.hid ((Ext.rfl' w1).alloc' (.cells #[.slice (some ⟨b, 0, none⟩) l.length l.length] 63))
      have RB := Lib.hid (row1_madeL w1 (.slice (some ⟨b, 0, none⟩) l.length l.length) 63)
      have K2 := Lib.hid (K1.out.trans' HB.out)
      have RN2 := Lib.hid ((row_ext R.out hx).alloc (.cells #[.slice (some ⟨b, 0, none⟩) l.length l.length] 63))
      have HR2 := Lib.hid (hR.ext HB.out)
      have ZB := Lib.hid (World.size_alloc w1 (.cells #[.slice (some ⟨b, 0, none⟩) l.length l.length] 63))
      obtain ⟨f0, f1, f2, -, -, -⟩ := row3_facts RN2.out
      clear hx hr hR e0 e1 e2
      go_wp2_with (go_at_call 38; (with_reducible refine (hasValues_any (HN.out.ext K2.out) (HS.out.ext K2.out)).mono ?_))
      rintro e w3 ⟨rfl, hx⟩
      rw [A.out]
      have K3 := Lib.hid (K2.out.trans' hx)
      have RB3 := Lib.hid (row_ext RB.out hx)
      have RN3 := Lib.hid (row_ext RN2.out hx)
      have HR3 := Lib.hid (HR2.out.ext hx)
      clear hx f0 f1 f2 RB RN2 HR2
      go_wp2_with fail
      have hpos : 0 < s.length := by have := HVL.out.2.1; have := HVL.out.1.1.1; omega
      have hsml : s.length ≤ 1048576 := by have := HVL.out.2.1; have := HVL.out.1.1.2; omega
      (with_reducible refine (cloneI_any (HS.out.ext K3.out) hpos hsml).mono ?_)
      rintro e w4 ⟨ca, cq, bs, rfl, hx, ho, hf⟩
      rw [HVL.out.2.1] at ho ⊢
      have K4 := Lib.hid (K3.out.trans' hx)
      have HO4 := Lib.hid ho
      have HF4 := Lib.hid (Fresh.of hf K3.out.size)
      have RB4 := Lib.hid (row_ext RB3.out hx)
      have RN4 := Lib.hid (row_ext RN3.out hx)
      have HR4 := Lib.hid (HR3.out.ext hx)
      clear hx ho hf RB3 RN3 HR3
      go_wp2_with fail
      (with_reducible refine listsFrom_any.mono ?_)
      rintro e w5 ⟨rfl, hx, hz, hc⟩
      have Z5 := Lib.hid hz
      have C5 := Lib.hid hc
      have X5 := Lib.hid hx
      clear hx hz hc
      go_wp2
      go_ret
      refine ⟨_, _, bs, rfl, K4.out.trans' X5.out, enters_lf, fun b hb => ⟨HF4.out.2 b hb, ?_⟩, fun n Wst X hn hw hX => ?_⟩
      · obtain ⟨cur, hc⟩ := HO4.out.1.typed b hb
        have := (Array.getElem?_eq_some_iff.1 hc).1
        have := Z5.out
        omega
      · rw [cntV_t ⟨HP.out, HVL.out⟩]
        refine listsFrom_stops (C := fun W => Ext w5 W) hn enters_vr hw (fun W W' h1 h2 => h1.trans' h2) (fun W W' h1 h2 => h2.ext h1 hw.size fun b hb => (hX b hb).1) (length_runV HP.out HVL.out) hm ?_ (C5.out.ext hw) (HO4.out.ext (X5.out.trans' hw)) (fun b hb hx => ?_) (Nat.le_refl _) (fun b hb => (hX b hb).2) ?_ ?_ ?_
        · intro k W v bs' hk hW hov
          have hE := (X5.out.trans' hW)
          exact stepFn_any (row_ext RB4.out hE) (row_ext RN4.out hE) (HR4.out.ext hE) HP.out (HN.out.ext (K4.out.trans' hE)) hov.read (runV_ok HP.out HVL.out k) _
        · obtain ⟨cur, hc⟩ := HO4.out.1.typed b hb
          have := (Array.getElem?_eq_some_iff.1 hc).1
          have := Z5.out
          have := (hX b hx).1
          omega
        · have := Z5.out
          have := hw.size
          exact ⟨by omega, fun h => by have := (hX _ h).1; omega⟩
        · have := Z5.out
          have := hw.size
          exact ⟨by omega, fun h => by have := (hX _ h).1; omega⟩
        · have := Z5.out
          have := hw.size
          exact ⟨by omega, fun h => by have := (hX _ h).1; omega⟩
    · have A := Lib.hid (dec_false hv)
      have D := Lib.hid (cntV_f (l := l) (N := N) (s := s) (m := m) fun h => hv h.2)
      clear hp hv
      go_enter Tryz.func46, Tryz.ntmps46
      go_wp2_with fail
      (with_reducible refine (rulesOf_any (HPV.out.ext HX.out) (HPW.out.ext HX.out)).mono ?_)
      rintro e w1 ⟨rv, rfl, hx, hr⟩
      rw [P.out]
      have K1 := Lib.hid (HX.out.trans' hx)
      obtain ⟨b, B, rfl, -, -, hR⟩ := hr HP.out
      have HB := Lib.hid ((Ext.rfl' w1).alloc' (.cells #[.slice (some ⟨b, 0, none⟩) l.length l.length] 63))
      have K2 := Lib.hid (K1.out.trans' HB.out)
      have RN2 := Lib.hid ((row_ext R.out hx).alloc (.cells #[.slice (some ⟨b, 0, none⟩) l.length l.length] 63))
      obtain ⟨f0, f1, f2, -, -, -⟩ := row3_facts RN2.out
      clear hx hr hR e0 e1 e2
      go_wp2_with (go_at_call 38; (with_reducible refine (hasValues_any (HN.out.ext K2.out) (HS.out.ext K2.out)).mono ?_))
      rintro e w3 ⟨rfl, hx⟩
      rw [A.out]
      have K3 := Lib.hid (K2.out.trans' hx)
      clear hx f0 f1 f2
      go_wp2_with fail
      go_ret
      exact ⟨_, #[], [], rfl, K3.out, enters_no, by simp, fun n Wst X hn _ _ => by rw [D.out]; exact noLists_stops _ _ _ _ _⟩
  · have P := Lib.hid (dec_false hp)
    have D := Lib.hid (cntV_f (l := l) (N := N) (s := s) (m := m) fun h => hp h.1)
    clear hp
    go_enter Tryz.func46, Tryz.ntmps46
    go_wp2_with fail
    (with_reducible refine (rulesOfS_any (HPV.out.ext HX.out) (HPW.out.ext HX.out)).mono ?_)
    rintro e w1 ⟨ra, rn, rc, rfl, hx, -⟩
    rw [P.out]
    have K1 := Lib.hid (HX.out.trans' hx)
    have HB := Lib.hid ((Ext.rfl' w1).alloc' (.cells #[.slice ra rn rc] 63))
    have K2 := Lib.hid (K1.out.trans' HB.out)
    clear hx e0 e1 e2
    go_wp2_with fail
    go_ret
    exact ⟨_, #[], [], rfl, K2.out, enters_no, by simp, fun n Wst X hn _ _ => by rw [D.out]; exact noLists_stops _ _ _ _ _⟩
end Go.Proofs.YtbddjejpacaglaaGreatDoor
