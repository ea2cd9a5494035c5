/- Keys of forty numbers. -/
import Derived.Test.YtdcgpodjoalokaaMwf
namespace Go.Proofs.Ytdcgpodjoalokaa
open Go.RowKit Go.Maps Go.WideShapes Go.WideMaps

theorem mapM_some' {α β : Type} (f : α → Option β) (g : α → β) : ∀ (L : List α), (∀ a ∈ L, f a = some (g a)) → L.mapM f = some (L.map g)
  | [], _ => by simp
  | a :: r, h => by
    rw [List.mapM_cons, h a (by simp), mapM_some' f g r fun b hb => h b (by simp [hb])]
    rfl
theorem flat_one {α β : Type} (g : α → β) : ∀ (L : List α), (L.map fun a => [g a]).flatten = L.map g
  | [] => rfl
  | a :: r => by
    rw [List.map_cons, List.flatten_cons, flat_one g r]
    rfl
theorem keyOf_arr {P : Program} {k e : TypeId} {n : Nat} {q : IntKind} (A : ArrKey P k e n) (he : P.underlying e = some (.int q)) (hsz : ∃ m, P.types.size = m + 1) {l : List Int} (hn : l.length = n) (hw : ∀ i, i < l.length → (Lit.int q (gi l i)).wf = true) :
    keyOf P k (.agg (l.map (Value.int q)).toArray) = some (.string (keyBytes (l.map (Lit.int q)))) := by
  have hkt := A.keyType hsz
  obtain ⟨m, hm⟩ := hsz
  unfold keyOf
  simp only [A.hu]
  rw [if_pos (by simp [hkt, Value.formed, A.hu, A.size, hn]), hm]
  unfold Program.keyLits
  simp only [A.hu, Value.cells]
  rw [if_pos (by rw [A.size]; simpa using hn)]
  rw [mapM_some' _ (fun i => [Lit.int q (gi l i)]) _ (fun i hi => ?_)]
  · simp only [Option.map_some]
    rw [flat_one]
    have : (List.range n).map (fun i => Lit.int q (gi l i)) = l.map (Lit.int q) := by
      refine List.ext_getElem (by simp [hn]) fun i h1 h2 => ?_
      have h3 : i < l.length := by simpa using h2
      simp [gi, List.getD, h3]
    rw [this]
  · have hi' : i < l.length := by rw [hn]; exact List.mem_range.1 hi
    have hd : ((l.map (Value.int q)).toArray.toList.drop (i * P.cellsOf e)).take (P.cellsOf e) = [Value.int q (gi l i)] := by
      rw [A.one, Nat.mul_one]
      rw [List.drop_eq_getElem_cons (by simpa using hi')]
      simp [gi, List.getD, hi']
    rw [hd]
    unfold Program.keyLits
    simp [he, hw i hi']

theorem arr40 : ArrKey Try.prog 110 3 40 := ⟨Try.underlying110, by kernel_rfl, by kernel_rfl, by kernel_rfl⟩
theorem key40 : Keyed Try.prog 110 := Keyed.of_law arr40.law
theorem size40 : ∃ m, Try.prog.types.size = m + 1 := by
  have : 0 < Try.prog.types.size := by decide +kernel
  exact ⟨Try.prog.types.size - 1, by omega⟩
def padL (l : List Int) : List Int := l ++ List.replicate (40 - l.length) 0
def keyV (l : List Int) : Value := .agg ((padL l).map (Value.int .i64)).toArray
def klit (l : List Int) : Lit := .string (keyBytes ((padL l).map (Lit.int .i64)))
theorem padL_len {l : List Int} (h : l.length ≤ 40) : (padL l).length = 40 := by simp [padL]; omega
theorem gi_padL (l : List Int) (i : Nat) : gi (padL l) i = if i < l.length then gi l i else 0 := by
  unfold padL gi
  simp only [List.getD]
  by_cases h : i < l.length
  · rw [if_pos h, List.getElem?_append_left h]
  · rw [if_neg h, List.getElem?_append_right (by omega), List.getElem?_replicate]
    split <;> rfl
theorem wf_i64 {x : Int} (h : inI64 x) : (Lit.int .i64 x).wf = true := WalkArith.wf_i64 h
theorem keyOf40 {l : List Int} (hl : l.length ≤ 40) (hr : ∀ i, i < l.length → inI64 (gi l i)) : keyOf Try.prog 110 (keyV l) = some (klit l) :=
  keyOf_arr arr40 Try.underlying3 size40 (padL_len hl) fun i hi => by
    rw [gi_padL]
    split
    · exact wf_i64 (hr i (by assumption))
    · exact wf_i64 (by unfold inI64; omega)
theorem klit_inj {l l' : List Int} (hl : l.length ≤ 40) (hn : l.length = l'.length) (hr : ∀ i, i < l.length → inI64 (gi l i)) (hr' : ∀ i, i < l'.length → inI64 (gi l' i)) (h : klit l = klit l') : l = l' := by
  have h1 := keyOf40 hl hr
  have h2 := keyOf40 (hn ▸ hl) hr'
  rw [← h] at h2
  have h3 := key40.inj h1 h2
  simp only [keyV, Value.agg.injEq] at h3
  have h4 : (padL l).map (Value.int .i64) = (padL l').map (Value.int .i64) := by simpa using h3
  have h5 : padL l = padL l' := List.map_inj_right (fun x y hxy => by simpa using hxy) |>.1 h4
  unfold padL at h5
  exact (List.append_inj h5 hn).1
end Go.Proofs.Ytdcgpodjoalokaa
