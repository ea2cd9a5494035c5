/- The contract of the program's PathNetwork, whatever the argument: a path is a grid with one row. -/
import Derived.Test.YtecdelmcnbgglaaGi
namespace Go.Proofs.Ytecdelmcnbgglaa
open Go.RowKit

theorem path_row : ∀ k, k ≤ 40 → 1 ≤ k → grList 1 k = pathEdges (k - 1) := by decide +kernel
theorem fits_row (n : Int) : FitsOK 1 n ↔ InB n 1 40 := ⟨fun h => h.1.2, fun h => ⟨⟨⟨by omega, by omega⟩, h⟩, by have := h.2; omega⟩⟩
theorem gr_row (n : Int) : grAns 1 n = paAns n := by
  by_cases h : InB n 1 40
  · rw [grAns_t ((fits_row n).2 h), paAns_t h]
    have h1 : n.toNat ≤ 40 := by have := h.2; omega
    have h2 : 1 ≤ n.toNat := by have := h.1; omega
    rw [show (1 : Int).toNat = 1 from rfl, Nat.one_mul, path_row _ h1 h2]
  · rw [grAns_f (fun j => h ((fits_row n).1 j)), paAns_f h]

set_option maxHeartbeats 1600000 in
set_option maxRecDepth 100000 in
theorem path_any {w : World} (n : Int) :
    Calls Try.prog 16 #[.int .i64 n] w fun e w' => ∃ v' bs, e = .returned (.tuple #[v', .bool (dec (InB n 1 40))]) ∧ Ext w w' ∧ OwnNet w' v' (paAns n) bs ∧ Fresh w bs := by
  have HX := Lib.hid ((Ext.rfl' w).alloc' (.cells #[.slice none 0 0, .slice none 0 0, .slice none 0 0] 25))
  have HR := Lib.hid (And.intro (row3_made w (.slice none 0 0) (.slice none 0 0) (.slice none 0 0) 25) (show (w.alloc (.cells #[.slice none 0 0, .slice none 0 0, .slice none 0 0] 25)).heap.size = w.heap.size + 1 by simp))
  have D := Lib.hid (dec_congr (fits_row n))
  have A := Lib.hid (gr_row n)
  go_enter Try.func16, Try.ntmps16
  go_wp2_with fail
  generalize w.alloc (.cells #[.slice none 0 0, .slice none 0 0, .slice none 0 0] 25) = W0 at *
  (with_reducible refine (grid_any 1 n).mono ?_)
  rintro e w4 ⟨v', bs, rfl, hw, ho, hf⟩
  rw [D.out]
  rw [A.out] at ho
  obtain ⟨a0, c0, a1, c1, a2, c2, rfl⟩ := ho.agg
  have E4 := Lib.hid (HX.out.trans' hw)
  have O4 := Lib.hid ho
  have F4 := Lib.hid hf.1
  have S4 := Lib.hid (show ∀ b ∈ bs, w.heap.size ≤ b ∧ b ≠ w.heap.size from fun b hb => by have := hf.2 b hb; have := HR.out.2; omega)
  obtain ⟨s0, s1, s2, t0, t1, t2⟩ := row3_facts (row_ext HR.out.1 hw)
  clear hw ho hf
  go_wp2
  have hc := close_at E4.out (Nat.le_refl _) O4.out F4.out S4.out
  refine bodyPost_ret (v := .tuple #[.agg #[.slice a0 (paAns n).ends.length c0, .slice a1 (paAns n).ids.length c1, .slice a2 (paAns n).inputs.length c2], .bool (dec (InB n 1 40))]) (by simp [results, Try.results16, go_sem, s0, s1, s2]) rfl ⟨_, bs, rfl, hc.1, hc.2.1, hc.2.2⟩
end Go.Proofs.Ytecdelmcnbgglaa
