/- ReachableStates: the answer, the model. -/
import Derived.Test.YtdcgpodjoalokaaMec
import Derived.Test.YtdcgpodjoalokaaMi
namespace Go.Proofs.Ytdcgpodjoalokaa
open Go.RowKit

def startAll (M : Mach) : List Int := M.start.flatten
theorem mem_gr {l : List (List Int)} {i j : Nat} (hi : i < l.length) (hj : j < (gr l i).length) : gi (gr l i) j ∈ l.flatten := by
  have h1 : gr l i = l[i] := by simp [gr, List.getD, hi]
  have h2 : gi (gr l i) j ∈ gr l i := by
    have : gi (gr l i) j = (gr l i)[j] := by simp [gi, List.getD, hj]
    rw [this]; exact List.getElem_mem hj
  refine List.mem_flatten.2 ⟨l[i], List.getElem_mem hi, ?_⟩
  rw [← h1]; exact h2
theorem of_mem_flat {l : List (List Int)} {x : Int} (h : x ∈ l.flatten) : ∃ i, i < l.length ∧ ∃ j, j < (gr l i).length ∧ x = gi (gr l i) j := by
  obtain ⟨r, hr, hx⟩ := List.mem_flatten.1 h
  obtain ⟨i, hi, rfl⟩ := List.getElem_of_mem hr
  obtain ⟨j, hj, rfl⟩ := List.getElem_of_mem hx
  have h1 : gr l i = l[i] := by simp [gr, List.getD, hi]
  exact ⟨i, hi, j, by rw [h1]; exact hj, by rw [h1]; simp [gi, List.getD, hj]⟩
theorem incr_len : ∀ {l : List Int} {lo hi : Int}, l.Pairwise (· < ·) → (∀ x ∈ l, lo ≤ x ∧ x < hi) → l.length ≤ (hi - lo).toNat
  | [], _, _, _, _ => by simp
  | x :: r, lo, hi, h, hb => by
    obtain ⟨h1, h2⟩ := List.pairwise_cons.1 h
    have := incr_len (lo := x + 1) (hi := hi) h2 fun y hy => ⟨by have := h1 y hy; omega, (hb y (by simp [hy])).2⟩
    have := hb x (by simp)
    simp only [List.length_cons]
    omega
def setL (A : List Int) : List Int := A.foldl putL []
theorem foldl_put : ∀ (A : List Int) (l : List Int), l.Pairwise (· < ·) → (A.foldl putL l).Pairwise (· < ·) ∧ ∀ x, x ∈ A.foldl putL l ↔ x ∈ l ∨ x ∈ A
  | [], l, h => ⟨h, fun x => by simp⟩
  | y :: A, l, h => by
    obtain ⟨h1, h2⟩ := foldl_put A (putL l y) (putL_incr h)
    refine ⟨h1, fun x => ?_⟩
    rw [List.foldl_cons, h2 x, mem_putL, List.mem_cons]
    constructor
    · rintro ((h | h) | h) <;> simp [h]
    · rintro (h | h | h) <;> simp [h]
def reachL (M : Mach) : List Int := setL (roundsL M (startAll M) M.sts.toNat)
noncomputable def reAns (M : Mach) : List Int := if dec (MachOK M) = true then reachL M else []
theorem reAns_t {M : Mach} (h : MachOK M) : reAns M = reachL M := by unfold reAns; rw [if_pos (dec_true h)]
theorem reAns_f {M : Mach} (h : ¬ MachOK M) : reAns M = [] := by unfold reAns; rw [dec_false h]; rfl
/-- A sorted list of states that are reached. -/
def RchIn (M : Mach) (l : List Int) : Prop := l.Pairwise (· < ·) ∧ (∀ x ∈ l, 0 ≤ x ∧ x < M.sts) ∧ ∀ S, ClosedL M S → (∀ x ∈ startAll M, x ∈ S) → ∀ x ∈ l, x ∈ S
theorem RchIn.len {M : Mach} {l : List Int} (h : RchIn M l) : l.length ≤ M.sts.toNat := by simpa using incr_len h.1 h.2.1
theorem start_in1 {M : Mach} (hm : MachOK M) {i j : Nat} (hi : i < M.start.length) (hj : j < (gr M.start i).length) : 0 ≤ gi (gr M.start i) j ∧ gi (gr M.start i) j < M.sts := by
  have := (hm.2.1.2.2 i hi).2 j hj
  omega
theorem RchIn.put {M : Mach} {l : List Int} (h : RchIn M l) {x : Int} (hx : 0 ≤ x ∧ x < M.sts) (hS : ∀ S, ClosedL M S → (∀ y ∈ startAll M, y ∈ S) → x ∈ S) : RchIn M (putL l x) := by
  refine ⟨putL_incr h.1, fun y hy => ?_, fun S h1 h2 y hy => ?_⟩
  · rcases mem_putL.1 hy with hy | hy
    · exact h.2.1 y hy
    · rw [hy]; exact hx
  · rcases mem_putL.1 hy with hy | hy
    · exact h.2.2 S h1 h2 y hy
    · rw [hy]; exact hS S h1 h2
theorem cl_in {M : Mach} (hm : MachOK M) {k : Nat} (hk : k < M.cls.length) : 0 ≤ (gc M.cls k).nx ∧ (gc M.cls k).nx < M.sts ∧ 0 ≤ (gc M.cls k).st ∧ (gc M.cls k).st < M.sts := by
  have := (hm.2.2.2.1.2 k hk).1
  unfold InB at this
  omega
theorem sts_in {M : Mach} (hm : MachOK M) : 1 ≤ M.sts ∧ M.sts ≤ 12 := by
  have := hm.1.2.1
  unfold InB at this
  exact this
theorem reach_closed {M : Mach} (hm : MachOK M) : ClosedL M (roundsL M (startAll M) M.sts.toNat) := by
  have hs := sts_in hm
  have h0 : 0 < M.start.length := by have := hm.2.1.1; have := hm.1.1; unfold InB at this; omega
  have h1 : 0 < (gr M.start 0).length := by have := hm.2.1.2.1; unfold InB at this; omega
  have hx := start_in1 hm h0 h1
  obtain ⟨s, hs'⟩ := Int.eq_ofNat_of_zero_le hx.1
  refine rounds_closed (fun k hk => ?_) (s := s) ?_ ?_
  · have := cl_in hm hk; omega
  · rw [← hs']; exact mem_gr h0 h1
  · rw [hs'] at hx; omega
/-- The list is the answer once it is closed and has the starts. -/
theorem reach_eq {M : Mach} (hm : MachOK M) {l : List Int} (h : RchIn M l) (hc : ClosedL M l) (hs : ∀ x ∈ startAll M, x ∈ l) : l = reachL M := by
  obtain ⟨h1, h2⟩ := foldl_put (roundsL M (startAll M) M.sts.toNat) [] List.Pairwise.nil
  refine incr_eq h.1 h1 fun x => ?_
  rw [show x ∈ reachL M ↔ _ from h2 x]
  simp only [List.not_mem_nil, false_or]
  exact ⟨h.2.2 _ (reach_closed hm) (fun y hy => mem_roundsL hy _) x, roundsL_in hc hs _ x⟩
theorem reach_in {M : Mach} (hm : MachOK M) : RchIn M (reachL M) := by
  obtain ⟨h1, h2⟩ := foldl_put (roundsL M (startAll M) M.sts.toNat) [] List.Pairwise.nil
  have hm2 : ∀ x ∈ reachL M, x ∈ roundsL M (startAll M) M.sts.toNat := fun x hx => by
    rcases (h2 x).1 hx with h | h
    · simp at h
    · exact h
  have hr := sts_in hm
  refine ⟨h1, fun x hx => ?_, fun S hS h3 x hx => roundsL_in hS h3 _ x (hm2 x hx)⟩
  have hS : ClosedL M ((List.range M.sts.toNat).map Int.ofNat) := fun k hk _ _ => by
    have := cl_in hm hk
    exact List.mem_map.2 ⟨(gc M.cls k).nx.toNat, List.mem_range.2 (by omega), by simp; omega⟩
  have := roundsL_in hS (fun y hy => by
    obtain ⟨i, hi, j, hj, rfl⟩ := of_mem_flat hy
    have := start_in1 hm hi hj
    exact List.mem_map.2 ⟨(gi (gr M.start i) j).toNat, List.mem_range.2 (by omega), by simp; omega⟩) _ x (hm2 x hx)
  obtain ⟨n, hn, rfl⟩ := List.mem_map.1 this
  have := List.mem_range.1 hn
  simp
  omega
theorem reAns_small (M : Mach) : (reAns M).length ≤ 1048576 := by
  by_cases h : MachOK M
  · rw [reAns_t h]; have := (reach_in h).len; have := sts_in h; omega
  · rw [reAns_f h]; simp
theorem has_mem {l : List Int} {x : Int} : Has l x ↔ x ∈ l := by
  constructor
  · rintro ⟨j, hj, rfl⟩
    have : gi l j = l[j] := by simp [gi, List.getD, hj]
    rw [this]; exact List.getElem_mem hj
  · intro h
    obtain ⟨j, hj, rfl⟩ := List.getElem_of_mem h
    exact ⟨j, hj, by simp [gi, List.getD, hj]⟩
theorem length_putL_new {x : Int} : ∀ {l : List Int}, x ∉ l → (putL l x).length = l.length + 1
  | [], _ => by simp [putL]
  | y :: r, h => by
    have h1 : y ≠ x := fun e => h (by simp [e])
    have := length_putL_new (x := x) (l := r) fun hr => h (by simp [hr])
    simp only [putL]
    split
    · simp; omega
    · simp
theorem ownB_nil (w : World) (B : Nat) : OwnB w (.slice none 0 0) [] B := ⟨[], own_nilI _, by simp⟩
theorem OwnB.ext {w w' : World} {v : Value} {l : List Int} {B : Nat} (h : OwnB w v l B) (he : Ext w w') : OwnB w' v l B := by
  obtain ⟨bs, h1, h2⟩ := h
  exact ⟨bs, h1.ext he, h2⟩
theorem own_nodup {w : World} {v : Value} {l : List Int} {bs : List Nat} {B : Nat} (ho : OwnI w v l bs) (hb : ∀ b ∈ bs, B ≤ b) : OwnI w v l bs ∧ bs.Nodup ∧ ∀ b ∈ bs, B ≤ b := ⟨ho, ho.1.nodup, hb⟩
theorem put_ownB {w : World} {v : Value} {l : List Int} {x : Int} {B : Nat} (ho : OwnB w v l B) (hx : inI64 x) (h20 : l.length < 1048576) (hB : B ≤ w.heap.size) :
    Calls Try.prog 107 #[v, .int .i64 x] w fun e w' => ∃ v', e = .returned v' ∧ Ext w w' ∧ OwnB w' v' (putL l x) B := by
  obtain ⟨bs, h1, h2⟩ := ho
  exact l1Put_any h1 hx h20 h2 hB

end Go.Proofs.Ytdcgpodjoalokaa
