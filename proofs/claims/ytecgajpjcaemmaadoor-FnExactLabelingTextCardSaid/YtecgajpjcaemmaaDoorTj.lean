/- Plain mathematics of texts: joined texts, their lengths, the texts of labelings. No condition. -/
import Derived.Test.YtecgajpjcaemmaaDoorTs2
namespace Go.Proofs.YtecgajpjcaemmaaDoor

theorem tail_snoc (sep : Bs) (r : List Bs) (x : Bs) : Go.Lib.joinTail sep (r ++ [x]) = Go.Lib.joinTail sep r ++ (sep ++ x) := by
  unfold Go.Lib.joinTail
  rw [List.map_append, List.flatten_append]
  simp
theorem join_snoc (xs : List Bs) (x sep : Bs) (h : xs ≠ []) : Go.Lib.join (xs ++ [x]) sep = Go.Lib.join xs sep ++ sep ++ x := by
  cases xs with
  | nil => exact absurd rfl h
  | cons a r => rw [List.cons_append, Go.Lib.join_cons, Go.Lib.join_cons, tail_snoc, List.append_assoc, List.append_assoc]
theorem lens_le (k : Nat) : ∀ xs : List Bs, (∀ x ∈ xs, x.length ≤ k) → Go.Lib.lens xs ≤ k * xs.length
  | [], _ => Nat.zero_le _
  | x :: r, h => by
    have h1 := h x (by simp)
    have h2 := lens_le k r (fun y hy => h y (by simp [hy]))
    have e : Go.Lib.lens (x :: r) = x.length + Go.Lib.lens r := by unfold Go.Lib.lens; simp
    rw [e, List.length_cons, Nat.mul_succ]
    omega
theorem join_len_le (xs : List Bs) (sep : Bs) (k : Nat) (h : ∀ x ∈ xs, x.length ≤ k) : (Go.Lib.join xs sep).length ≤ (sep.length + k) * xs.length := by
  cases xs with
  | nil => rw [Go.Lib.join_nil]; exact Nat.zero_le _
  | cons x r =>
    rw [Go.Lib.join_length, Nat.add_mul]
    have h1 := lens_le k (x :: r) h
    have h2 : sep.length * r.length ≤ sep.length * (x :: r).length := Nat.mul_le_mul_left _ (by simp)
    omega

/-- A number in decimal. -/
def num (x : Int) : Bs := Go.Lib.decDigits x.toNat
def Six (x : Int) : Prop := 0 ≤ x ∧ x ≤ 999999
theorem num_len {x : Int} (h : Six x) : (num x).length ≤ 6 := dec_len6 _ (by have := h.2; omega)
theorem num_nd (x : Int) : num x ≠ [] := dec_ne _
/-- Numbers, joined. -/
def ints (c : UInt8) (l : List Int) : Bs := Go.Lib.join (l.map num) [c]
theorem ints_len (c : UInt8) (l : List Int) (h : ∀ x ∈ l, Six x) : (ints c l).length ≤ 7 * l.length := by
  have := join_len_le (l.map num) [c] 6 (fun y hy => by
    obtain ⟨x, hx, rfl⟩ := List.mem_map.1 hy
    exact num_len (h x hx))
  rw [List.length_map] at this
  exact this
theorem ints_nil (c : UInt8) : ints c [] = [] := rfl
theorem ints_one (c : UInt8) (x : Int) : ints c [x] = num x := Go.Lib.join_one _ _
theorem ints_snoc (c : UInt8) (l : List Int) (x : Int) (h : l ≠ []) : ints c (l ++ [x]) = ints c l ++ [c] ++ num x := by
  unfold ints
  rw [List.map_append]
  exact join_snoc _ _ _ (by simpa using h)

/-- The text of an end. -/
def endT (e : Int × Int) : Bs := num e.1 ++ [46] ++ num e.2
theorem endT_ints (e : Int × Int) : endT e = ints 46 [e.1, e.2] := by
  rw [show [e.1, e.2] = [e.1] ++ [e.2] from rfl, ints_snoc _ _ _ (by simp), ints_one]
  rfl

/-- The text of a labeling. -/
noncomputable def labT (l : List (List Int)) : Bs := by classical exact if l = [] then [45] else Go.Lib.join (l.map (ints 44)) [124]
def LabOK (l : List (List Int)) : Prop := l.length ≤ 40 ∧ ∀ r ∈ l, r.length ≤ 6 ∧ ∀ x ∈ r, 0 ≤ x ∧ x ≤ 99

/-! What reading pieces gives. -/
noncomputable def rdI (l : Bs) : Int := match rd l with | some n => n | none => -1
theorem rdI_ok {l : Bs} (h : NumOK l) : rdI l = valN 0 l := by unfold rdI; rw [rd_some h]
theorem rdI_no {l : Bs} (h : ¬ NumOK l) : rdI l = -1 := by unfold rdI; rw [rd_none h]
theorem rdI_nn {l : Bs} : 0 ≤ rdI l ↔ NumOK l := by
  by_cases h : NumOK l
  · rw [rdI_ok h]; exact ⟨fun _ => h, fun _ => by omega⟩
  · rw [rdI_no h]; exact ⟨fun e => by omega, fun e => absurd e h⟩
noncomputable def labRow (p : Bs) : List Int := by classical exact if p = [] then [] else (spl 44 p).map rdI
noncomputable def labRows (s : Bs) : List (List Int) := by classical exact if s = [45] then [] else (spl 124 s).map labRow
end Go.Proofs.YtecgajpjcaemmaaDoor
