/- The contracts of both sides' CodeFrom, and of the model's isFrom. -/
import Derived.Test.YtdoaopeegcakiaaJf
import Derived.Test.YtdoaopeegcakiaaJw
import Derived.BigQuiet
namespace Go.Proofs.Ytdoaopeegcakiaa
open Go.RowKit

theorem wk_good {N : Net} {x : Nat} (h : GoodW N) (hx : x < N.ends.length) : WkOK N (wk N x) := wk_ok h.leads (v := (x : Int)) (by omega)

noncomputable def wkAns (N : Net) (x : Int) : List Int := if dec (NodeAns N x) = true then wk N x else []
noncomputable def cdAns (N : Net) (x : Int) : List Int := if dec (NodeAns N x) = true then code N x else []
theorem wkAns_t {N : Net} {x : Int} (h : NodeAns N x) : wkAns N x = wk N x := by simp [wkAns, dec_true h]
theorem wkAns_f {N : Net} {x : Int} (h : ¬ NodeAns N x) : wkAns N x = [] := by simp [wkAns, dec_false h]
theorem cdAns_t {N : Net} {x : Int} (h : NodeAns N x) : cdAns N x = code N x := by simp [cdAns, dec_true h]
theorem cdAns_f {N : Net} {x : Int} (h : ¬ NodeAns N x) : cdAns N x = [] := by simp [cdAns, dec_false h]
theorem cdwk_len (N : Net) (x : Int) : (cdAns N x).length ≤ 1048576 ∧ (wkAns N x).length ≤ 1048576 := by
  by_cases h : NodeAns N x
  · rw [cdAns_t h, wkAns_t h]
    have hg := good_w h.1
    have hk := wk_ok hg.leads (v := x) h.2
    have h1 := cd_small hg hk
    have h2 := hk.len
    have h3 := hg.most
    exact ⟨by unfold code; omega, by omega⟩
  · rw [cdAns_f h, wkAns_f h]; simp
theorem node_nat {N : Net} {x : Int} (h : NodeAns N x) : ∃ k : Nat, x = k ∧ k < N.ends.length := ⟨x.toNat, by have := h.2.1; omega, by have := h.2; unfold NodeOK at this; omega⟩
theorem fresh_swap {w : World} {a b : List Nat} (h : Fresh w (a ++ b)) : Fresh w (b ++ a) := by
  obtain ⟨h1, h2⟩ := h
  obtain ⟨n1, n2, n3⟩ := List.nodup_append.1 h1
  exact ⟨List.nodup_append.2 ⟨n2, n1, fun x hx y hy e => n3 y hy x hx e.symm⟩, fun x hx => h2 x (by simp only [List.mem_append] at hx ⊢; exact hx.symm)⟩
theorem ret_llb {v v' : Value} {b c : Bool} (h : b = c) : Ending.returned (.tuple #[v, v', .bool b]) = .returned (.tuple #[v, v', .bool c]) := by rw [h]

end Go.Proofs.Ytdoaopeegcakiaa
