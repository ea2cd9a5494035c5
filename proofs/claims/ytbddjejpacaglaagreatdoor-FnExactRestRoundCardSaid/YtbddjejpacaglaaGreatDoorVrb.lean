/- A round of a network: what the nodes see, and the values behind it. -/
import Derived.Test.YtbddjejpacaglaaGreatDoorVrv
namespace Go.Proofs.YtbddjejpacaglaaGreatDoor
open Go.RowKit

def idV (N : Net) (v : Nat) : Int := if N.ids.length = 0 then 0 else gi N.ids v
/-- What a node sees in a round. -/
def sgV (N : Net) (r : Int) (s : List Int) (v : Nat) : Sg := ⟨gi s v, idV N v, gi N.inputs v, r, thr s (nears (gr N.ends v))⟩
/-- The values of the first k nodes behind a round. -/
noncomputable def stepTo (l : List (Int × Int)) (N : Net) (r : Int) (s : List Int) (k : Nat) : List Int := (List.range k).map fun v => evl (sgV N r s v) l
noncomputable def stepV (l : List (Int × Int)) (N : Net) (r : Int) (s : List Int) : List Int := stepTo l N r s N.ends.length
theorem length_stepTo (l : List (Int × Int)) (N : Net) (r : Int) (s : List Int) (k : Nat) : (stepTo l N r s k).length = k := by simp [stepTo]
theorem length_stepV (l : List (Int × Int)) (N : Net) (r : Int) (s : List Int) : (stepV l N r s).length = N.ends.length := length_stepTo _ _ _ _ _
theorem gi_stepTo (l : List (Int × Int)) (N : Net) (r : Int) (s : List Int) (k i : Nat) (h : i < k) : gi (stepTo l N r s k) i = evl (sgV N r s i) l := by simp [gi, stepTo, h]
theorem stepTo_succ (l : List (Int × Int)) (N : Net) (r : Int) (s : List Int) (k : Nat) : stepTo l N r s (k + 1) = stepTo l N r s k ++ [evl (sgV N r s k) l] := by simp [stepTo, List.range_succ]
/-- There is a value for each node of a network. -/
def ValsOK (N : Net) (s : List Int) : Prop := Good N ∧ s.length = N.ends.length ∧ AllIn s (-1000000) 1000000
theorem stepV_ok {l : List (Int × Int)} {N : Net} {r : Int} {s : List Int} (hp : ProgOK l) (h : ValsOK N s) : ValsOK N (stepV l N r s) :=
  ⟨h.1, length_stepV _ _ _ _, fun j hj => by
    rw [length_stepV] at hj
    show _ ≤ gi (stepTo l N r s N.ends.length) j ∧ gi (stepTo l N r s N.ends.length) j ≤ _
    rw [gi_stepTo _ _ _ _ _ _ hj]
    exact evl_range _ hp⟩
theorem near_im {N : Net} {s : List Int} (h : ValsOK N s) {v : Nat} (hv : v < N.ends.length) : ImIn (nears (gr N.ends v)) s.length := fun i hi => by
  rw [length_nears] at hi
  rw [gi_nears _ _ hi, h.2.1]
  obtain ⟨-, h2, -, -⟩ := h.1
  have := ((h2 v hv).2 i hi).1
  exact ⟨this.1, this.2.1⟩
theorem near_len {N : Net} {s : List Int} (h : ValsOK N s) {v : Nat} (hv : v < N.ends.length) : (gr N.ends v).length ≤ 6 := by
  obtain ⟨-, h2, -, -⟩ := h.1
  exact (h2 v hv).1
theorem sgV_ok {N : Net} {s : List Int} (h : ValsOK N s) (r : Int) {v : Nat} (hv : v < N.ends.length) : SgOK (sgV N r s v) := by
  have h1 := near_len h hv
  have h2 := near_im h hv
  refine ⟨h.2.2 v (by rw [h.2.1]; exact hv), ?_, fun j hj => ?_⟩
  · show (thr s (nears (gr N.ends v))).length ≤ 6
    rw [length_thr, length_nears]; exact h1
  · have hj' : j < (nears (gr N.ends v)).length := by rw [← length_thr s]; exact hj
    show _ ≤ gi (thr s (nears (gr N.ends v))) j ∧ gi (thr s (nears (gr N.ends v))) j ≤ _
    rw [gi_thr _ _ _ hj']
    have := h2 j hj'
    exact h.2.2 _ (by omega)
theorem ids_len {N : Net} (h : Good N) : N.ids.length = 0 ∨ N.ids.length = N.ends.length := by
  obtain ⟨-, -, h3, -⟩ := h
  have := h3.1
  omega
theorem inp_len {N : Net} (h : Good N) : N.inputs.length = N.ends.length := by
  obtain ⟨-, -, -, h4⟩ := h
  have := h4.1
  omega

/-- StepValues' conditions and answer. -/
def StepB (l : List (Int × Int)) (N : Net) (r : Int) (s : List Int) : Prop := ProgOK l ∧ ValsOK N s ∧ InB r 1 2000
noncomputable def stepAns (l : List (Int × Int)) (N : Net) (r : Int) (s : List Int) : List Int := if dec (StepB l N r s) = true then stepV l N r s else []
theorem stepAns_t {l : List (Int × Int)} {N : Net} {r : Int} {s : List Int} (h : StepB l N r s) : stepAns l N r s = stepV l N r s := by unfold stepAns; rw [if_pos (dec_true h)]
theorem stepAns_f {l : List (Int × Int)} {N : Net} {r : Int} {s : List Int} (h : ¬ StepB l N r s) : stepAns l N r s = [] := by unfold stepAns; rw [dec_false h]; rfl
theorem stepAns_small (l : List (Int × Int)) (N : Net) (r : Int) (s : List Int) : (stepAns l N r s).length ≤ 1048576 := by
  by_cases h : StepB l N r s
  · rw [stepAns_t h, length_stepV]; have := h.2.1.1.1.2; omega
  · rw [stepAns_f h]; simp

set_option maxHeartbeats 800000 in
set_option maxRecDepth 100000 in
theorem hasValues_any {w : World} {vn vs : Value} {N : Net} {s : List Int} (h : NetAt w vn N) (hs : IntSl w vs s) :
    Calls Tryz.prog 38 #[vn, vs] w fun e w' => e = .returned (.bool (dec (ValsOK N s))) ∧ Ext w w' := by
  have HN := Lib.hid h
  have HS := Lib.hid hs
  obtain ⟨v0, v1, v2, rfl, hE, -, -⟩ := h
  obtain ⟨a, _, _, c, rfl, -, hl, hm, -⟩ := hE
  obtain ⟨sa, _, _, sc, rfl, -, hsl, hsm, -⟩ := hs
  unfold maxLen at hm hsm
  have HX := Lib.hid ((Ext.rfl' w).alloc' (.cells #[.slice a N.ends.length c, v1, v2] 35))
  have R := Lib.hid (row3_made w (.slice a N.ends.length c) v1 v2 35)
  obtain ⟨e0, e1, e2, -, -, -⟩ := row3_facts R.out
  by_cases hg : Good N
  · have G := Lib.hid (dec_true hg)
    by_cases hn : s.length = N.ends.length
    · have bn : ((s.length : Int) == (N.ends.length : Int)) = true := beq_iff_eq.2 (by omega)
      by_cases hv : AllIn s (-1000000) 1000000
      · have V := Lib.hid (dec_true hv)
        have D := Lib.hid (dec_true (p := ValsOK N s) ⟨hg, hn, hv⟩)
        clear hg hn hv
        go_enter Tryz.func38, Tryz.ntmps38
        go_wp2_with (first | (go_at_call 61; (with_reducible refine (isNetwork_any (HN.out.ext HX.out)).mono ?_); rintro e w1 ⟨rfl, hx⟩; rw [G.out]; have K1 := Lib.hid (HX.out.trans' hx); have f0 := hx.cell' e0; clear hx e0 e1 e2) | (go_at_call 62; (with_reducible refine (areValues_any (HS.out.ext K1.out)).mono ?_); rintro e _ ⟨rfl, rfl⟩; rw [V.out]))
        go_ret
        exact ⟨ret_bool D.out.symm, K1.out⟩
      · have V := Lib.hid (dec_false hv)
        have D := Lib.hid (dec_false (p := ValsOK N s) fun h => hv h.2.2)
        clear hg hn hv
        go_enter Tryz.func38, Tryz.ntmps38
        go_wp2_with (first | (go_at_call 61; (with_reducible refine (isNetwork_any (HN.out.ext HX.out)).mono ?_); rintro e w1 ⟨rfl, hx⟩; rw [G.out]; have K1 := Lib.hid (HX.out.trans' hx); have f0 := hx.cell' e0; clear hx e0 e1 e2) | (go_at_call 62; (with_reducible refine (areValues_any (HS.out.ext K1.out)).mono ?_); rintro e _ ⟨rfl, rfl⟩; rw [V.out]))
        go_ret
        exact ⟨ret_bool D.out.symm, K1.out⟩
    · have bn : ((s.length : Int) == (N.ends.length : Int)) = false := beq_eq_false_iff_ne.2 (by omega)
      have D := Lib.hid (dec_false (p := ValsOK N s) fun h => hn h.2.1)
      clear hg hn
      go_enter Tryz.func38, Tryz.ntmps38
      go_wp2_with (go_at_call 61; (with_reducible refine (isNetwork_any (HN.out.ext HX.out)).mono ?_); rintro e w1 ⟨rfl, hx⟩; rw [G.out]; have K1 := Lib.hid (HX.out.trans' hx); have f0 := hx.cell' e0; clear hx e0 e1 e2)
      go_ret
      exact ⟨ret_bool D.out.symm, K1.out⟩
  · have G := Lib.hid (dec_false hg)
    have D := Lib.hid (dec_false (p := ValsOK N s) fun h => hg h.1)
    clear hg
    go_enter Tryz.func38, Tryz.ntmps38
    go_wp2_with (go_at_call 61; (with_reducible refine (isNetwork_any (HN.out.ext HX.out)).mono ?_); rintro e w1 ⟨rfl, hx⟩; rw [G.out]; have K1 := Lib.hid (HX.out.trans' hx); have f0 := hx.cell' e0; clear hx e0 e1 e2)
    go_ret
    exact ⟨ret_bool D.out.symm, K1.out⟩

set_option maxHeartbeats 800000 in
set_option maxRecDepth 100000 in
theorem idOf_any {w : World} {vn : Value} {N : Net} (h : NetAt w vn N) (hg : Good N) (v : Nat) (hv : v < N.ends.length) :
    Calls Tryz.prog 64 #[vn, .int .i64 (v : Int)] w fun e w' => e = .returned (.int .i64 (idV N v)) ∧ Ext w w' := by
  obtain ⟨v0, v1, v2, rfl, -, hI, -⟩ := h
  have hil := ids_len hg
  obtain ⟨a, b, o, c, rfl, ha, hl, hm, hc⟩ := hI
  unfold maxLen at hm
  have hn40 := hg.1.2
  have HX := Lib.hid ((Ext.rfl' w).alloc' (.cells #[v0, .slice a N.ids.length c, v2] 35))
  clear hg
  by_cases h0 : N.ids.length = 0
  · have b0 : ((N.ids.length : Int) == 0) = true := beq_iff_eq.2 (by omega)
    have E := Lib.hid (show (0 : Int) = idV N v from (if_pos h0).symm)
    clear h0 hc ha hil
    go_enter Tryz.func64, Tryz.ntmps64
    go_wp2
    go_ret
    exact ⟨ret_i64 E.out, HX.out⟩
  · have b0 : ((N.ids.length : Int) == 0) = false := beq_eq_false_iff_ne.2 (by omega)
    have E := Lib.hid (show gi N.ids v = idV N v from (if_neg h0).symm)
    have hvi : v < N.ids.length := by omega
    obtain ⟨x, hx, rfl, -⟩ := hc v hvi
    obtain rfl := ha (by omega)
    have hx' := HX.out.cell' hx
    clear h0 hc ha hil hx
    go_enter Tryz.func64, Tryz.ntmps64
    go_wp2
    go_ret
    exact ⟨ret_i64 E.out, HX.out⟩
end Go.Proofs.YtbddjejpacaglaaGreatDoor
