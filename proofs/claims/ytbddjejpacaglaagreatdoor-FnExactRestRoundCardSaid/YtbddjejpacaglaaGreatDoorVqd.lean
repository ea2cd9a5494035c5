/- The stack: a list of numbers that grows and shrinks in memory of its own; every rule's function at once. -/
import Derived.Test.YtbddjejpacaglaaGreatDoorVqc
namespace Go.Proofs.YtbddjejpacaglaaGreatDoor
open Go.RowKit

set_option maxRecDepth 100000 in
theorem intCells_app (a b : List Int) : intCells a ++ intCells b = intCells (a ++ b) := by simp [intCells]
/-- A list of integers that grows in memory of the call's own. -/
def GrowN (B : Nat) (w : World) (v : Value) (l : List Int) : Prop := w.ownsRow B 3 1 v l.length (intCells l)
set_option maxRecDepth 100000 in
theorem GrowN.nil (B : Nat) (w : World) : GrowN B w (.slice none 0 0) [] := World.ownsRow_nil _ _ _ _
set_option maxRecDepth 100000 in
theorem GrowN.ext {B : Nat} {w w' : World} {v : Value} {l : List Int} (h : GrowN B w v l) (he : Ext w w') : GrowN B w' v l := owns_ext h he
set_option maxRecDepth 100000 in
theorem GrowN.lt {B : Nat} {w : World} {v : Value} {l : List Int} (h : GrowN B w v l) : ∀ b, v.ownBlock = some b → B ≤ b ∧ b < w.heap.size := World.ownsRow.lt h
set_option maxRecDepth 100000 in
theorem GrowN.keep {B : Nat} {w w' : World} {v : Value} {l : List Int} (h : GrowN B w v l) (he : ∀ b, v.ownBlock = some b → w'.heap[b]? = w.heap[b]?) : GrowN B w' v l := by
  refine ⟨h.1, ?_⟩
  rcases h.2 with ⟨rfl, hn⟩ | ⟨g, cap, cur, rfl, hb, hh, rest⟩
  · exact .inl ⟨rfl, hn⟩
  · exact .inr ⟨g, cap, cur, rfl, hb, by rw [he g rfl]; exact hh, rest⟩
set_option maxRecDepth 100000 in
theorem GrowN.step {B m : Nat} {w w' : World} {v v' : Value} {l news : List Int} (hg : Grew w w' B 3 1 v v' (l.length + m) (intCells l ++ intCells news)) (hm : m = news.length) : GrowN B w' v' (l ++ news) := by
  have := hg.1
  rw [intCells_app] at this
  unfold GrowN
  rw [List.length_append, ← hm]; exact this
set_option maxRecDepth 100000 in
theorem GrowN.own {B : Nat} {w : World} {v : Value} {l : List Int} (h : GrowN B w v l) (hr : ∀ i, i < l.length → inI64 (gi l i)) : ∃ bs, OwnI w v l bs ∧ bs.Nodup ∧ ∀ b ∈ bs, B ≤ b := own_of_cells h hr
set_option maxRecDepth 100000 in
theorem GrowN.read {B : Nat} {w : World} {v : Value} {l : List Int} (h : GrowN B w v l) (hr : ∀ i, i < l.length → inI64 (gi l i)) : IntSl w v l := by
  obtain ⟨bs, ho, _⟩ := h.own hr; exact ho.read
set_option maxRecDepth 100000 in
theorem GrowN.slice {B : Nat} {w : World} {v : Value} {l : List Int} (h : GrowN B w v l) : ∃ a c, v = .slice a l.length c := owns_slice h
set_option maxRecDepth 100000 in
/-- A growing list with at least one element: where it lies. -/
theorem GrowN.form {B : Nat} {w : World} {v : Value} {l : List Int} (h : GrowN B w v l) (hn : 0 < l.length) :
    ∃ g cap, v = .slice (some ⟨g, 0, none⟩) l.length cap ∧ l.length ≤ cap ∧ cap ≤ maxLen ∧ B ≤ g ∧ g < w.heap.size ∧ ∀ j, j < l.length → w.cell? ⟨g, j, none⟩ = some (.int .i64 (gi l j)) := by
  rcases h.2 with ⟨_, h0⟩ | ⟨g, cap, cur, rfl, hb, hg, h1, h2, _⟩
  · omega
  · refine ⟨g, cap, rfl, h1, h2, hb, (Array.getElem?_eq_some_iff.1 hg).1, fun j hj => ?_⟩
    rw [World.ownsRow.cellAt h j (by omega)]
    exact intCells_get l j hj
set_option maxRecDepth 100000 in
theorem src_lits (w : World) (l : List Int) (n : Nat) (hn : n = l.length) (t : TypeId) : SrcAt (w.alloc (.cells (intCells l).toArray t)) (some ⟨w.heap.size, 0, none⟩) n 1 (intCells l) := by
  refine ⟨by simp [intCells, hn], by simp, fun ad e j u hu => ?_, fun u hu => ?_⟩
  · obtain rfl := Option.some.inj e
    rw [add_plain, World.cell?_alloc_at _ _ _ _ rfl, Nat.zero_add]
    simpa using hu
  · simp only [intCells, List.mem_map] at hu
    obtain ⟨x, _, rfl⟩ := hu
    rfl

set_option maxRecDepth 100000 in
/-- The end of a list in memory of its own, from k on. -/
theorem stk_low {B : Nat} {w : World} {a : Option Addr} {c : Nat} {L : List Int} (h : GrowN B w (.slice a L.length c) L) (hr : AllIn L (-1000000) 1000000) (k : Nat) (hk : k ≤ L.length) (z : Int) (hz : z = (k : Int)) :
    ∃ a2 c2, (∀ u : World, (Instr.slice 24 (.slice a L.length c) (some (.int .i64 z)) none none).run Tryz.prog u = .ok (.slice a2 (L.length - k) c2) u) ∧ IntSl w (.slice a2 (L.length - k) c2) (L.drop k) := by
  subst hz
  have hI := h.read fun i hi => by have := hr i hi; unfold inI64; omega
  obtain ⟨a', b, o, c', h1, h2, h3, h4, h5⟩ := hI
  obtain ⟨rfl, rfl⟩ : a = a' ∧ c = c' := by simp at h1; exact h1
  have hlen : (L.drop k).length = L.length - k := by simp
  have hz : ∀ u : World, (sizeOf (Tryz.prog.elem 24)).run Tryz.prog u = .ok 1 u := fun u => Tryz.sizeOf3 u
  refine ⟨if c = k then a else a.map (·.add (k * 1)), c - k, fun u => ?_, ?_⟩
  · rw [run_slice_l (P := Tryz.prog) (w := u) 24 a L.length c (by exact Tryz.underlying24) .i64 (k : Int) (by omega) (by omega), hz u]
    simp [Result.andThen, sliced]
  · refine ⟨_, b, o + k, c - k, by rw [hlen], fun hp => ?_, by omega, by omega, fun i hi => ?_⟩
    · rw [hlen] at hp
      rw [if_neg (by omega), h2 (by omega)]
      simp [Addr.add]
    · obtain ⟨x, hx, hr⟩ := h5 (k + i) (by rw [hlen] at hi; omega)
      have e : gi (L.drop k) i = gi L (k + i) := by simp [gi, List.getD]
      exact ⟨x, by rw [Nat.add_assoc]; exact hx, by show _ ∧ _; rw [e]; exact hr⟩
set_option maxRecDepth 100000 in
/-- The beginning of a list in memory of its own, ahead of k. -/
theorem stk_hi {B : Nat} {w : World} {a : Option Addr} {c : Nat} {L : List Int} (h : GrowN B w (.slice a L.length c) L) (k : Nat) (hk : k ≤ L.length) (z : Int) (hz : z = (k : Int)) :
    ∃ a2 c2, (∀ u : World, (Instr.slice 24 (.slice a L.length c) none (some (.int .i64 z)) none).run Tryz.prog u = .ok (.slice a2 k c2) u) ∧ (∀ u : World, Ext w u → GrowN B u (.slice a2 k c2) (L.take k)) ∧ ∀ b, (Value.slice a2 k c2).ownBlock = some b → B ≤ b := by
  subst hz
  have hz : ∀ u : World, (sizeOf (Tryz.prog.elem 24)).run Tryz.prog u = .ok 1 u := fun u => Tryz.sizeOf3 u
  have hlt : (L.take k).length = k := by simp; omega
  have hck : L.length ≤ c := by
    rcases h.2 with ⟨h1, h2⟩ | ⟨g, cap, cur, h1, _, _, h2, _⟩
    · omega
    · cases h1; exact h2
  have hO : GrowN B w (.slice a k c) (L.take k) := by
    refine ⟨by rw [hlt]; simp [intCells]; omega, ?_⟩
    rw [hlt]
    rcases h.2 with ⟨h1, h2⟩ | ⟨g, cap, cur, h1, h2, h3, h4, h5, h6, h7⟩
    · simp only [Value.slice.injEq] at h1
      obtain ⟨rfl, _, rfl⟩ := h1
      obtain rfl : k = 0 := by omega
      exact .inl ⟨rfl, rfl⟩
    · cases h1
      refine .inr ⟨g, c, cur, rfl, h2, h3, by omega, h5, h6, ?_⟩
      have e : intCells (L.take k) = (intCells L).take k := by simp [intCells]
      rw [e, ← h7, List.take_take, Nat.mul_one, Nat.mul_one, Nat.min_eq_left hk]
  refine ⟨a, c, fun u => ?_, fun u hu => hO.ext hu, fun b hb => (hO.lt b hb).1⟩
  rw [run_slice_h (P := Tryz.prog) (w := u) 24 a L.length c (by exact Tryz.underlying24) .i64 (k : Int) (by omega) (by omega), hz u]
  cases a <;> simp [Result.andThen, sliced, Addr.add]

set_option maxRecDepth 100000 in
theorem vf_enters (m : Nat) (hm : m < 19) (args : Array Value) (w : World) : (callFunc (vf m) args).run Tryz.prog w = .ok (.enter (vf m) args) w := by
  match m, hm with
  | 0, _ => exact enters_of Tryz.func96 (by kernel_rfl) rfl args w
  | 1, _ => exact enters_of Tryz.func97 (by kernel_rfl) rfl args w
  | 2, _ => exact enters_of Tryz.func98 (by kernel_rfl) rfl args w
  | 3, _ => exact enters_of Tryz.func99 (by kernel_rfl) rfl args w
  | 4, _ => exact enters_of Tryz.func100 (by kernel_rfl) rfl args w
  | 5, _ => exact enters_of Tryz.func101 (by kernel_rfl) rfl args w
  | 6, _ => exact enters_of Tryz.func102 (by kernel_rfl) rfl args w
  | 7, _ => exact enters_of Tryz.func105 (by kernel_rfl) rfl args w
  | 8, _ => exact enters_of Tryz.func107 (by kernel_rfl) rfl args w
  | 9, _ => exact enters_of Tryz.func109 (by kernel_rfl) rfl args w
  | 10, _ => exact enters_of Tryz.func111 (by kernel_rfl) rfl args w
  | 11, _ => exact enters_of Tryz.func113 (by kernel_rfl) rfl args w
  | 12, _ => exact enters_of Tryz.func114 (by kernel_rfl) rfl args w
  | 13, _ => exact enters_of Tryz.func115 (by kernel_rfl) rfl args w
  | 14, _ => exact enters_of Tryz.func116 (by kernel_rfl) rfl args w
  | 15, _ => exact enters_of Tryz.func117 (by kernel_rfl) rfl args w
  | 16, _ => exact enters_of Tryz.func118 (by kernel_rfl) rfl args w
  | 17, _ => exact enters_of Tryz.func120 (by kernel_rfl) rfl args w
  | 18, _ => exact enters_of Tryz.func121 (by kernel_rfl) rfl args w
  | m + 19, h => exact absurd h (by omega)
set_option maxRecDepth 100000 in
theorem ruleFn_any {w : World} {sv av : Value} {S : Sg} {A : List Int} (m : Nat) (hm : m < 19) (hs : SightAt w sv S) (ho : SgOK S) (ha : IntSl w av A) (hr : AllIn A (-1000000) 1000000) (hl : A.length = nd ((m : Int) + 1)) (y : Int) (p : Nat) (hp : w.cell? ⟨p, 0, none⟩ = some (.int .i64 y)) :
    Calls Tryz.prog (vf m) (#[sv, av] ++ vcap p m) w fun e w' => e = .returned (.int .i64 (opv S ((m : Int) + 1) y A)) ∧ Ext w w' := by
  match m, hm with
  | 0, _ => exact rule1_any hs ho ha hr hl y p hp
  | 1, _ => exact rule2_any hs ho ha hr hl y
  | 2, _ => exact rule3_any hs ho ha hr hl y
  | 3, _ => exact rule4_any hs ho ha hr hl y
  | 4, _ => exact rule5_any hs ho ha hr hl y
  | 5, _ => exact rule6_any hs ho ha hr hl y
  | 6, _ => exact rule7_any hs ho ha hr hl y
  | 7, _ => exact rule8_any hs ho ha hr hl y
  | 8, _ => exact rule9_any hs ho ha hr hl y
  | 9, _ => exact rule10_any hs ho ha hr hl y
  | 10, _ => exact rule11_any hs ho ha hr hl y
  | 11, _ => exact rule12_any hs ho ha hr hl y
  | 12, _ => exact rule13_any hs ho ha hr hl y
  | 13, _ => exact rule14_any hs ho ha hr hl y
  | 14, _ => exact rule15_any hs ho ha hr hl y
  | 15, _ => exact rule16_any hs ho ha hr hl y
  | 16, _ => exact rule17_any hs ho ha hr hl y
  | 17, _ => exact rule18_any hs ho ha hr hl y
  | 18, _ => exact rule19_any hs ho ha hr hl y
  | m + 19, h => exact absurd h (by omega)
end Go.Proofs.YtbddjejpacaglaaGreatDoor
