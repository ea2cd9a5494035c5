/- Kept nodes: what the answer is; the contracts of stays, nodeAfter and portsAfter for this kind of change. -/
import Derived.Test.YtpkgghkibgadnaaChR
import Derived.Test.YtpkgghkibgadnaaIa
import Derived.Test.YtpkgghkibgadnaaRi
import Derived.RegionTactic
namespace Go.Proofs.Ytpkgghkibgadnaa
open Go.RowKit

theorem hasIn (l : List Int) (x : Int) : Has l x ↔ x ∈ l := ⟨fun ⟨_, hj, e⟩ => e ▸ gi_in hj, fun h => let ⟨i, hi, e⟩ := in_gi h; ⟨i, hi, e⟩⟩
/-- The place of a number in a list, -1 if it is not there. -/
noncomputable def ixK (l : List Int) (x : Int) : Int := if dec (Has l x) = true then (l.idxOf x : Int) else -1
theorem ixK_t {l : List Int} {x : Int} (h : Has l x) : ixK l x = (l.idxOf x : Int) := by simp [ixK, dec_true h]
theorem ixK_f {l : List Int} {x : Int} (h : ¬ Has l x) : ixK l x = -1 := by simp [ixK, dec_false h]
theorem first_ix {l : List Int} {x r : Int} (h : FirstAt l x r) : r = ixK l x := by
  rcases h with ⟨rfl, h⟩ | ⟨k, rfl, hk, he, hj⟩
  · rw [ixK_f h]
  · have hm : x ∈ l := by rw [← he]; exact gi_in hk
    rw [ixK_t ((hasIn _ _).2 hm)]
    have h1 := gi_idx hm
    have h2 := List.idxOf_lt_length_of_mem hm
    congr 1
    by_cases e : l.idxOf x < k
    · exact absurd h1 (hj _ e)
    · by_cases e2 : k < l.idxOf x
      · exfalso
        have := List.not_of_lt_findIdx (p := (· == x)) (xs := l) (i := k) (by simpa [List.idxOf] using e2)
        simp only [gi, List.getD, hk, List.getElem?_eq_getElem, Option.getD_some] at he
        simp [he] at this
      · omega
/-- Whether a port stays. -/
noncomputable def stK (N : Net) (l : List Int) (v i : Nat) : Bool := dec (Has l (v : Int)) && dec (Has l (gn (gr N.ends v) i))
noncomputable def keepRow (N : Net) (l : List Int) (v : Nat) : List (Int × Int) := planRow (cnt (stK N l v) (gr N.ends v).length) (nth (stK N l v) (gr N.ends v).length) (fun i => ixK l (gn (gr N.ends v) i)) (fun i => (cnt (stK N l (gn (gr N.ends v) i).toNat) (gp (gr N.ends v) i).toNat : Nat))
noncomputable def keepNet (N : Net) (l : List Int) : Net := ⟨l.map fun x => keepRow N l x.toNat, if N.ids.length = 0 then [] else l.map fun x => gi N.ids x.toNat, l.map fun x => gi N.inputs x.toNat⟩

set_option maxHeartbeats 1600000 in
set_option maxRecDepth 100000 in
theorem stays3_any {w : World} {c : Value} {N : Net} {x y : Int} {l : List Int} (v i : Nat) (h : ChgAt w c 3 N x y l) (hv : v < N.ends.length) (hi : i < (gr N.ends v).length) :
    Calls Try.prog 86 #[c, .agg #[.int .i64 v, .int .i64 i]] w fun e w' => e = .returned (.bool (stK N l v i)) ∧ Ext w w' := by
  obtain ⟨v0, v1, v2, v3, rfl, ⟨_, _, _, h0, hE, hI, hP⟩, hL⟩ := h
  cases h0
  have HL := Lib.hid hL
  clear hI hP hL
  obtain ⟨a, b, o, c, rfl, ha, hl, hm, hc⟩ := hE
  unfold maxLen at hm
  obtain ⟨z, hz, hz2⟩ := hc v hv
  obtain ⟨a', b', o', c', rfl, ha', hl', hm', hc'⟩ := hz2
  unfold maxLen at hm'
  obtain ⟨q1, q2, _, _⟩ := hc' i hi
  obtain rfl := ha (by omega)
  obtain rfl := ha' (by omega)
  have hX := ((Ext.rfl' w).alloc' (.cells #[.int .i64 3, .slice (some ⟨b, o, none⟩) N.ends.length c, v1, v2, .int .i64 x, .int .i64 y, v3] 54)).alloc' (.cells #[.int .i64 v, .int .i64 i] 52)
  have z1 := hX.cell' hz
  have z2 := hX.cell' q1
  have z3 := hX.cell' q2
  have hY := (Ext.rfl' (w.alloc (.cells #[.int .i64 3, .slice (some ⟨b, o, none⟩) N.ends.length c, v1, v2, .int .i64 x, .int .i64 y, v3] 54))).alloc' (.cells #[.int .i64 v, .int .i64 i] 52)
  obtain ⟨c0, c1, -, -, -, -, c6⟩ := chg_cells w 3 (.slice (some ⟨b, o, none⟩) N.ends.length c) v1 v2 v3 x y
  have c0 := hY.cell' c0
  have c1 := hY.cell' c1
  have c6 := hY.cell' c6
  have d0 : ((w.alloc (.cells #[.int .i64 3, .slice (some ⟨b, o, none⟩) N.ends.length c, v1, v2, .int .i64 x, .int .i64 y, v3] 54)).alloc (.cells #[.int .i64 v, .int .i64 i] 52)).cell? ⟨w.heap.size + 1, 0, none⟩ = some (.int .i64 v) := by simp
  have d1 : ((w.alloc (.cells #[.int .i64 3, .slice (some ⟨b, o, none⟩) N.ends.length c, v1, v2, .int .i64 x, .int .i64 y, v3] 54)).alloc (.cells #[.int .i64 v, .int .i64 i] 52)).cell? ⟨w.heap.size + 1, 1, none⟩ = some (.int .i64 i) := by simp
  have HX := Lib.hid hX
  clear hc hc' ha ha' hX hY hz q1 q2
  unfold stK
  obtain ⟨b1, hb1⟩ : ∃ b, dec (Has l (v : Int)) = b := ⟨_, rfl⟩
  obtain ⟨b2, hb2⟩ : ∃ b, dec (Has l (gn (gr N.ends v) i)) = b := ⟨_, rfl⟩
  rw [hb1, hb2]
  have D1 := Lib.hid hb1
  have D2 := Lib.hid hb2
  clear hb1 hb2
  go_enter Try.func86, Try.ntmps86
  go_wp2_with fail
  generalize (w.alloc (.cells #[.int .i64 3, .slice (some ⟨b, o, none⟩) N.ends.length c, v1, v2, .int .i64 x, .int .i64 y, v3] 54)).alloc (.cells #[.int .i64 v, .int .i64 i] 52) = W0 at *
  have hA := (Ext.rfl' W0).alloc' (.cells #[.int .i64 0, .int .i64 0] 52)
  have hB := (Ext.rfl' W0).alloc' (.cells #[.int .i64 (gn (gr N.ends v) i), .int .i64 (gp (gr N.ends v) i)] 52)
  have f1 := hA.cell' c1
  have f2 := hA.cell' d0
  have f3 := hA.cell' d1
  have f4 := hA.cell' z1
  have f5 := hA.cell' z2
  have f6 := hA.cell' z3
  have hB := hB.drew'
  have g0 := hB.cell' c0
  have g5 := hB.cell' c6
  have g6 := hB.cell' d0
  have g7 := hB.cell' d1
  have e0 : (W0.alloc (.cells #[.int .i64 (gn (gr N.ends v) i), .int .i64 (gp (gr N.ends v) i)] 52)).drew.cell? ⟨W0.heap.size, 0, none⟩ = some (.int .i64 (gn (gr N.ends v) i)) := by simp
  have e1 : (W0.alloc (.cells #[.int .i64 (gn (gr N.ends v) i), .int .i64 (gp (gr N.ends v) i)] 52)).drew.cell? ⟨W0.heap.size, 1, none⟩ = some (.int .i64 (gp (gr N.ends v) i)) := by simp
  have HY := Lib.hid (HX.out.trans' hB)
  clear hA hB
  go_region
  clear f1 f2 f3 f4 f5 f6 c0 c1 c6 d0 d1 z1 z2 z3
  revert g0 g5 g6 g7 e0 e1 HY
  generalize (W0.alloc (.cells #[.int .i64 (gn (gr N.ends v) i), .int .i64 (gp (gr N.ends v) i)] 52)).drew = W1
  intro g0 g5 g6 g7 e0 e1 HY
  have RL := Lib.hid (HL.out.ext HY.out)
  cases b1
  · go_wp2_with (go_at_call 83; (with_reducible refine (contains_any (v : Int) RL.out).mono ?_); rintro e w' ⟨rfl, rfl⟩; rw [D1.out])
    go_ret
    exact ⟨by simp, HY.out⟩
  · go_wp2_with (go_at_call 83; first | ((with_reducible refine (contains_any (v : Int) RL.out).mono ?_); rintro e w' ⟨rfl, rfl⟩; rw [D1.out]) | ((with_reducible refine (contains_any (gn (gr N.ends v) i) RL.out).mono ?_); rintro e w' ⟨rfl, rfl⟩; rw [D2.out]))
    go_ret
    exact ⟨by simp, HY.out⟩

set_option maxHeartbeats 800000 in
set_option maxRecDepth 100000 in
theorem nodeAfter3_any {w : World} {c : Value} {N : Net} {x y : Int} {l : List Int} (v : Int) (h : ChgAt w c 3 N x y l) :
    Calls Try.prog 62 #[c, .int .i64 v] w fun e w' => e = .returned (.int .i64 (ixK l v)) ∧ Ext w w' := by
  obtain ⟨v0, v1, v2, v3, rfl, _, hL⟩ := h
  have HL := Lib.hid hL
  have HX := Lib.hid ((Ext.rfl' w).alloc' (.cells #[.int .i64 3, v0, v1, v2, .int .i64 x, .int .i64 y, v3] 54))
  obtain ⟨c0, c1, c2, c3, c4, c5, c6⟩ := chg_cells w 3 v0 v1 v2 v3 x y
  clear hL
  go_enter Try.func62, Try.ntmps62
  go_wp2_with (go_at_call 84; (with_reducible refine (index_any v (HL.out.ext HX.out)).mono ?_); rintro e w' ⟨r, rfl, rfl, hr⟩; have HFA := Lib.hid (first_ix hr); clear hr)
  go_ret
  exact ⟨by rw [HFA.out]; rfl, HX.out⟩

theorem portsAfter3_any {w : World} {c : Value} {N : Net} {x y : Int} {l : List Int} (v : Nat) (h : ChgAt w c 3 N x y l) (hg : Good N) (hv : v < N.ends.length) (hl : l.length ≤ 40) :
    Calls Try.prog 63 #[c, .int .i64 v] w fun e w' => ∃ v' bs, e = .returned v' ∧ Ext w w' ∧ OwnE w' v' (keepRow N l v) bs ∧ Fresh w bs := by
  have hG : ∀ i, i < (gr N.ends v).length → ∃ en ep : Nat, gn (gr N.ends v) i = en ∧ gp (gr N.ends v) i = ep ∧ en < N.ends.length ∧ ep < (gr N.ends en).length := fun i hi => by
    obtain ⟨⟨g1, g2, g3, g4⟩, _⟩ := (hg.2.1 v hv).2 i hi
    obtain ⟨en, hen⟩ := Int.eq_ofNat_of_zero_le g1
    obtain ⟨ep, hep⟩ := Int.eq_ofNat_of_zero_le g3
    rw [hen] at g2 g4
    rw [hep, Int.toNat_natCast] at g4
    exact ⟨en, ep, hen, hep, by omega, by omega⟩
  have h6 : ∀ u, u < N.ends.length → (gr N.ends u).length ≤ 6 := fun u hu => (hg.2.1 u hu).1
  have h40 := hg.1.2
  have hc : ∀ (w' : World) (u n : Nat), Ext w w' → u < N.ends.length → n ≤ (gr N.ends u).length → Calls Try.prog 85 #[c, .int .i64 u, .int .i64 n] w' fun e w'' => e = .returned (.int .i64 (cnt (stK N l u) n)) ∧ Ext w' w'' := fun w' u n hw hu hn =>
    stayingG_any u n (h.ext hw) (by have := h6 u hu; omega) (fun w'' i hw' hi => stays3_any u i (h.ext (hw.trans' hw')) hu (by omega))
  refine portsAfterG_any v _ h hg hv (cnt_plan (stK N l v) _) (nn := fun i => ixK l (gn (gr N.ends v) i)) (pp := fun i => (cnt (stK N l (gn (gr N.ends v) i).toNat) (gp (gr N.ends v) i).toNat : Nat)) (fun i hi hs => ?_) (fun w' hw => ?_) (fun w' i hw hi => ?_) (fun w' i hw hi _ => ?_) (fun w' i hw hi _ => ?_) (fun w' i hw hi _ => ?_)
  · obtain ⟨en, ep, e1, e2, e3, e4⟩ := hG i hi
    have := h6 en e3
    have := cnt_le (stK N l (gn (gr N.ends v) i).toNat) (gp (gr N.ends v) i).toNat
    have hix : -1 ≤ ixK l (gn (gr N.ends v) i) ∧ ixK l (gn (gr N.ends v) i) ≤ 40 := by
      by_cases hh : Has l (gn (gr N.ends v) i)
      · rw [ixK_t hh]
        have := List.idxOf_le_length (a := gn (gr N.ends v) i) (l := l)
        omega
      · rw [ixK_f hh]; omega
    rw [e1] at *
    rw [e2] at *
    simp only [Int.toNat_natCast] at *
    unfold inI64
    omega
  · exact hc w' v _ hw hv (Nat.le_refl _)
  · exact stays3_any v i (h.ext hw) hv hi
  · exact portAfterG_any v i _ (h.ext hw) rfl (fun w'' hw' => hc w'' v i (hw.trans' hw') hv (by omega))
  · exact nodeAfter3_any _ (h.ext hw)
  · obtain ⟨en, ep, e1, e2, e3, e4⟩ := hG i hi
    rw [e1, e2]
    exact portAfterG_any en ep _ (h.ext hw) rfl (fun w'' hw' => hc w'' en ep (hw.trans' hw') e3 (by omega))
end Go.Proofs.Ytpkgghkibgadnaa
