/- Plain mathematics of texts: the first and the last place of a byte, what stands before and behind it, pieces between bytes. No condition. -/
import Derived.Test.YtecgajpjcaemmaaDoorTn
import Derived.Lib.LastIndexLaws
namespace Go.Proofs.YtecgajpjcaemmaaDoor

theorem occ_one (s : Bs) (c : UInt8) (j : Nat) : Go.Lib.occAt s [c] j = decide (s[j]? = some c) := by
  unfold Go.Lib.occAt
  rw [← List.head?_drop]
  cases s.drop j with
  | nil => simp
  | cons b t =>
    simp only [List.isPrefixOf, List.head?_cons, Bool.and_true, Option.some.injEq]
    by_cases h : c = b
    · subst h; simp
    · rw [decide_eq_false (fun e => h e.symm)]; exact beq_eq_false_iff_ne.2 h

/-! The last place of a byte. -/
theorem last_eq (s : Bs) (c : UInt8) : Go.Lib.lastIndex s [c] = Go.Lib.lastOcc s [c] s.length := by
  unfold Go.Lib.lastIndex
  cases s with
  | nil => rfl
  | cons b t => rw [if_pos (by simp)]; rfl
theorem lastOcc_app (l : Bs) (b c : UInt8) (k : Nat) (h : k ≤ l.length) : Go.Lib.lastOcc (l ++ [b]) [c] k = Go.Lib.lastOcc l [c] k := by
  induction k with
  | zero => rfl
  | succ k ih =>
    have e : Go.Lib.occAt (l ++ [b]) [c] k = Go.Lib.occAt l [c] k := by
      rw [occ_one, occ_one, List.getElem?_append_left (by omega)]
    cases g : Go.Lib.occAt l [c] k with
    | true => rw [Go.Lib.lastOcc_hit _ _ _ g, Go.Lib.lastOcc_hit _ _ _ (e.trans g)]
    | false => rw [Go.Lib.lastOcc_miss _ _ _ g, Go.Lib.lastOcc_miss _ _ _ (e.trans g), ih (by omega)]
theorem last_nil (c : UInt8) : Go.Lib.lastIndex [] [c] = -1 := rfl
theorem last_hit (l : Bs) (c : UInt8) : Go.Lib.lastIndex (l ++ [c]) [c] = l.length := by
  rw [last_eq, List.length_append, List.length_singleton]
  exact Go.Lib.lastOcc_hit _ _ _ (by rw [occ_one]; simp)
theorem last_miss (l : Bs) (b c : UInt8) (h : b ≠ c) : Go.Lib.lastIndex (l ++ [b]) [c] = Go.Lib.lastIndex l [c] := by
  rw [last_eq, last_eq, List.length_append, List.length_singleton, Go.Lib.lastOcc_miss _ _ _ (by rw [occ_one]; simp [h]), lastOcc_app _ _ _ _ (Nat.le_refl _)]
theorem count_snoc (l : Bs) (b c : UInt8) : Go.Lib.countByte (l ++ [b]) c = Go.Lib.countByte l c + (if b = c then 1 else 0) := by
  unfold Go.Lib.countByte
  rw [List.count_append]
  by_cases h : b = c
  · subst h; simp
  · rw [if_neg h, show [b].count c = 0 from List.count_eq_zero.2 (fun e => h (List.mem_singleton.1 e).symm)]
theorem last_bounds (l : Bs) (c : UInt8) : -1 ≤ Go.Lib.lastIndex l [c] ∧ Go.Lib.lastIndex l [c] < l.length := by
  rw [last_eq]
  rcases Go.Lib.lastOcc_spec l [c] l.length with ⟨h, _⟩ | ⟨i, h1, h2, _⟩
  · rw [h]; omega
  · rw [h2]; omega

/-! The first place of a byte, and pieces. -/
def NoC (c : UInt8) (s : Bs) (k : Nat) : Prop := ∀ j, j < k → s[j]? ≠ some c
theorem index_at {s : Bs} {c : UInt8} {k : Nat} (h : s[k]? = some c) (hn : NoC c s k) : Go.Lib.index s [c] = k := by
  have hk : k < s.length := by
    rcases Nat.lt_or_ge k s.length with g | g
    · exact g
    · rw [List.getElem?_eq_none g] at h; cases h
  exact Go.Lib.index_first (by omega) (by rw [occ_one]; simp [h]) (fun j hj => by rw [occ_one]; exact decide_eq_false (hn j hj))
theorem index_no {s : Bs} {c : UInt8} (hn : NoC c s s.length) : Go.Lib.index s [c] = -1 := by
  refine Go.Lib.index_none fun j hj => ?_
  rw [occ_one]
  refine decide_eq_false fun e => ?_
  by_cases g : j < s.length
  · exact hn j g e
  · rw [List.getElem?_eq_none (by omega)] at e; cases e
/-- A byte stands first somewhere, or nowhere. -/
theorem first_of (c : UInt8) (s : Bs) : (NoC c s s.length) ∨ ∃ k, k < s.length ∧ s[k]? = some c ∧ NoC c s k := by
  rcases Classical.em (∃ j, j < s.length ∧ s[j]? = some c) with h | h
  · right
    obtain ⟨n, hn⟩ := h
    induction n using Nat.strongRecOn with
    | _ n ih =>
      by_cases g : ∃ j, j < n ∧ s[j]? = some c
      · obtain ⟨j, hj, e⟩ := g
        exact ih j hj ⟨by omega, e⟩
      · exact ⟨n, hn.1, hn.2, fun j hj e => g ⟨j, hj, e⟩⟩
  · exact .inl fun j hj e => h ⟨j, hj, e⟩

theorem cut_at {s : Bs} {c : UInt8} {k : Nat} (h : s[k]? = some c) (hn : NoC c s k) : Go.Lib.cut s [c] = (s.take k, s.drop (k + 1), true) := by
  have := index_at h hn
  unfold Go.Lib.cut
  rw [this, if_pos (by omega)]
  rfl
theorem cut_no {s : Bs} {c : UInt8} (hn : NoC c s s.length) : Go.Lib.cut s [c] = (s, [], false) := by
  have := index_no hn
  unfold Go.Lib.cut
  rw [this, if_neg (by omega)]

/-- The pieces between the bytes c. -/
def spl (c : UInt8) (s : Bs) : List Bs := Go.Lib.split s [c]
theorem spl_at {s : Bs} {c : UInt8} {k : Nat} (h : s[k]? = some c) (hn : NoC c s k) : spl c s = s.take k :: spl c (s.drop (k + 1)) := by
  have hi := index_at h hn
  unfold spl Go.Lib.split
  rw [Go.Lib.count_hit (by simp) hi, Nat.add_comm, Go.Lib.splitK, hi, if_neg (by simp)]
  rfl
theorem spl_no {s : Bs} {c : UInt8} (hn : NoC c s s.length) : spl c s = [s] := by
  have hi := index_no hn
  unfold spl Go.Lib.split
  rw [Go.Lib.count_miss hi]
  rfl
/-- At most m + 1 pieces, the last one unsplit. -/
def splM (c : UInt8) (m : Nat) (s : Bs) : List Bs := Go.Lib.splitK [c] 0 m s
theorem splM_zero (c : UInt8) (s : Bs) : splM c 0 s = [s] := rfl
theorem splM_at {s : Bs} {c : UInt8} {k : Nat} (m : Nat) (h : s[k]? = some c) (hn : NoC c s k) : splM c (m + 1) s = s.take k :: splM c m (s.drop (k + 1)) := by
  have hi := index_at h hn
  unfold splM
  rw [Go.Lib.splitK, hi, if_neg (by simp)]
  rfl
theorem splM_no {s : Bs} {c : UInt8} (m : Nat) (hn : NoC c s s.length) : splM c m s = [s] := by
  have hi := index_no hn
  unfold splM
  cases m with
  | zero => rfl
  | succ m => rw [Go.Lib.splitK, hi, if_pos (by simp)]
theorem spl_pos (c : UInt8) (s : Bs) : 1 ≤ (spl c s).length := by
  rcases first_of c s with h | ⟨k, _, h, hn⟩
  · rw [spl_no h]; simp
  · rw [spl_at h hn]; simp
theorem splM_spl (c : UInt8) (m : Nat) : ∀ s : Bs, ((spl c s).length ≤ m + 1 → splM c m s = spl c s) ∧ (m + 1 < (spl c s).length → (splM c m s).length = m + 1 ∧ (splM c m s).take m = (spl c s).take m) := by
  induction m with
  | zero =>
    intro s
    rw [splM_zero]
    rcases first_of c s with h | ⟨k, _, h, hn⟩
    · rw [spl_no h]; exact ⟨fun _ => rfl, fun h => by simp at h⟩
    · rw [spl_at h hn]
      have := spl_pos c (s.drop (k + 1))
      exact ⟨fun h => by simp only [List.length_cons] at h; omega, fun _ => ⟨rfl, rfl⟩⟩
  | succ m ih =>
    intro s
    rcases first_of c s with h | ⟨k, _, h, hn⟩
    · rw [spl_no h, splM_no _ h]; exact ⟨fun _ => rfl, fun h => by simp at h⟩
    · rw [spl_at h hn, splM_at m h hn]
      obtain ⟨a, b⟩ := ih (s.drop (k + 1))
      refine ⟨fun h => ?_, fun h => ?_⟩
      · rw [a (by simpa using h)]
      · obtain ⟨b1, b2⟩ := b (by simpa using h)
        exact ⟨by simp [b1], by simp [b2]⟩
end Go.Proofs.YtecgajpjcaemmaaDoor
