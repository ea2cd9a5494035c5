/- The program's removal of an edge: after answers cutNet. -/
import Derived.Test.YtkeiaahlifdbiaaCh0
namespace Go.Proofs.Ytkeiaahlifdbiaa
open Go.RowKit

set_option maxHeartbeats 800000 in
set_option maxRecDepth 100000 in
theorem nodeKept_any {w : World} {c : Value} {N : Net} {x y kk : Int} {l : List Int} (v : Nat) (h : ChgAt w c kk N x y l) (hk2 : (kk == 2) = false) (hk3 : (kk == 3) = false) :
    Calls Try.prog 160 #[c, .int .i64 v] w fun e w' => e = .returned (.int .i64 v) ∧ Ext w w' := by
  obtain ⟨v0, v1, v2, v3, rfl, _, _⟩ := h
  have HX := Lib.hid ((Ext.rfl' w).alloc' (.cells #[.int .i64 kk, v0, v1, v2, .int .i64 x, .int .i64 y, v3] 119))
  obtain ⟨c0, c1, c2, c3, c4, c5, c6⟩ := chg_cells w kk v0 v1 v2 v3 x y
  go_enter Try.func160, Try.ntmps160
  go_wp2
  go_ret
  exact ⟨rfl, HX.out⟩

set_option maxHeartbeats 800000 in
set_option maxRecDepth 100000 in
theorem portAfterG_any {w : World} {c : Value} {N : Net} {x y kk : Int} {l : List Int} (v i m : Nat) (h : ChgAt w c kk N x y l) (hk1 : (kk == 1) = false)
    (hcnt : ∀ w' : World, Ext w w' → Calls Try.prog 164 #[c, .int .i64 v, .int .i64 i] w' fun e w'' => e = .returned (.int .i64 m) ∧ Ext w' w'') :
    Calls Try.prog 166 #[c, .agg #[.int .i64 v, .int .i64 i]] w fun e w' => e = .returned (.int .i64 m) ∧ Ext w w' := by
  obtain ⟨v0, v1, v2, v3, rfl, _, _⟩ := h
  have HCN := Lib.hid hcnt
  clear hcnt
  have hX := ((Ext.rfl' w).alloc' (.cells #[.int .i64 kk, v0, v1, v2, .int .i64 x, .int .i64 y, v3] 119)).alloc' (.cells #[.int .i64 v, .int .i64 i] 66)
  have HX := Lib.hid hX
  have hY := (Ext.rfl' (w.alloc (.cells #[.int .i64 kk, v0, v1, v2, .int .i64 x, .int .i64 y, v3] 119))).alloc' (.cells #[.int .i64 v, .int .i64 i] 66)
  obtain ⟨c0, c1, c2, c3, c4, c5, c6⟩ := chg_cells w kk v0 v1 v2 v3 x y
  have c0 := hY.cell' c0
  have c1 := hY.cell' c1
  have c2 := hY.cell' c2
  have c3 := hY.cell' c3
  have c4 := hY.cell' c4
  have c5 := hY.cell' c5
  have c6 := hY.cell' c6
  have d0 : ((w.alloc (.cells #[.int .i64 kk, v0, v1, v2, .int .i64 x, .int .i64 y, v3] 119)).alloc (.cells #[.int .i64 v, .int .i64 i] 66)).cell? ⟨w.heap.size + 1, 0, none⟩ = some (.int .i64 v) := by simp
  have d1 : ((w.alloc (.cells #[.int .i64 kk, v0, v1, v2, .int .i64 x, .int .i64 y, v3] 119)).alloc (.cells #[.int .i64 v, .int .i64 i] 66)).cell? ⟨w.heap.size + 1, 1, none⟩ = some (.int .i64 i) := by simp
  clear hX hY
  go_enter Try.func166, Try.ntmps166
  go_wp2_with (go_at_call 164; (with_reducible refine (HCN.out _ HX.out).mono ?_); rintro e w1 ⟨rfl, hw⟩; have K1 := Lib.hid (HX.out.trans' hw); clear hw)
  go_ret
  exact ⟨rfl, K1.out⟩

/-- The network with the ports for which st holds, whose other sides stay, too. -/
def cutRow (N : Net) (st : Nat → Nat → Bool) (v : Nat) : List (Int × Int) := planRow (cnt (st v) (gr N.ends v).length) (nth (st v) (gr N.ends v).length) (gn (gr N.ends v)) (fun i => (cnt (st (gn (gr N.ends v) i).toNat) (gp (gr N.ends v) i).toNat : Nat))
def cutNet (N : Net) (st : Nat → Nat → Bool) : Net := { N with ends := (List.range N.ends.length).map (cutRow N st) }

theorem portsAfter0_any {w : World} {c : Value} {N : Net} {x y : Int} {l : List Int} (v : Nat) (h : ChgAt w c 0 N x y l) (hg : Good N) (hv : v < N.ends.length) :
    Calls Try.prog 161 #[c, .int .i64 v] w fun e w' => ∃ v' bs, e = .returned v' ∧ Ext w w' ∧ OwnE w' v' (cutRow N (st0 N x y) v) bs ∧ Fresh w bs := by
  have hG : ∀ i, i < (gr N.ends v).length → ∃ en ep : Nat, gn (gr N.ends v) i = en ∧ gp (gr N.ends v) i = ep ∧ en < N.ends.length ∧ ep < (gr N.ends en).length := fun i hi => by
    obtain ⟨⟨g1, g2, g3, g4⟩, _⟩ := (hg.2.1 v hv).2 i hi
    obtain ⟨en, hen⟩ := Int.eq_ofNat_of_zero_le g1
    obtain ⟨ep, hep⟩ := Int.eq_ofNat_of_zero_le g3
    rw [hen] at g2 g4
    rw [hep, Int.toNat_natCast] at g4
    exact ⟨en, ep, hen, hep, by omega, by omega⟩
  have h6 : ∀ u, u < N.ends.length → (gr N.ends u).length ≤ 6 := fun u hu => (hg.2.1 u hu).1
  have h40 := hg.1.2
  have hc : ∀ (w' : World) (u n : Nat), Ext w w' → u < N.ends.length → n ≤ (gr N.ends u).length → Calls Try.prog 164 #[c, .int .i64 u, .int .i64 n] w' fun e w'' => e = .returned (.int .i64 (cnt (st0 N x y u) n)) ∧ Ext w' w'' := fun w' u n hw hu hn =>
    stayingG_any u n (h.ext hw) (by have := h6 u hu; omega) (fun w'' i hw' hi => stays0_any u i (h.ext (hw.trans' hw')) hu (by omega))
  refine portsAfterG_any v _ h hg hv (cnt_plan (st0 N x y v) _) (nn := gn (gr N.ends v)) (pp := fun i => (cnt (st0 N x y (gn (gr N.ends v) i).toNat) (gp (gr N.ends v) i).toNat : Nat)) (fun i hi _ => ?_) (fun w' hw => ?_) (fun w' i hw hi => ?_) (fun w' i hw hi _ => ?_) (fun w' i hw hi _ => ?_) (fun w' i hw hi _ => ?_)
  · obtain ⟨en, ep, e1, e2, e3, e4⟩ := hG i hi
    have := h6 en e3
    have := cnt_le (st0 N x y (gn (gr N.ends v) i).toNat) (gp (gr N.ends v) i).toNat
    rw [e1] at *
    rw [e2] at *
    simp only [Int.toNat_natCast] at *
    unfold inI64
    omega
  · exact hc w' v _ hw hv (Nat.le_refl _)
  · exact stays0_any v i (h.ext hw) hv hi
  · exact portAfterG_any v i _ (h.ext hw) rfl (fun w'' hw' => hc w'' v i (hw.trans' hw') hv (by omega))
  · obtain ⟨en, ep, e1, e2, e3, e4⟩ := hG i hi
    rw [e1]
    exact nodeKept_any en (h.ext hw) rfl rfl
  · obtain ⟨en, ep, e1, e2, e3, e4⟩ := hG i hi
    rw [e1, e2]
    exact portAfterG_any en ep _ (h.ext hw) rfl (fun w'' hw' => hc w'' en ep (hw.trans' hw') e3 (by omega))

theorem after0_any {w : World} {c : Value} {N : Net} {x y : Int} {l : List Int} (h : ChgAt w c 0 N x y l) (hg : Good N) :
    Calls Try.prog 145 #[c] w fun e w' => ∃ v' bs, e = .returned v' ∧ Ext w w' ∧ OwnNet w' v' (cutNet N (st0 N x y)) bs ∧ Fresh w bs := by
  have hi : N.inputs.length = N.ends.length := by have := hg.2.2.2.1; omega
  have hd : N.ids.length = 0 ∨ N.ids.length = N.ends.length := by have := hg.2.2.1.1; omega
  have k := afterG_any (l := idl N.ends.length) (ro := cutRow N (st0 N x y)) h rfl hg (idl_perm _) (fun w' v hw hv => by rw [gi_idl hv]; exact nodeKept_any v (h.ext hw) rfl rfl) (fun w' v hw hv => portsAfter0_any v (h.ext hw) hg hv)
  rw [rowNet_idl _ hi hd] at k
  exact k
end Go.Proofs.Ytkeiaahlifdbiaa
