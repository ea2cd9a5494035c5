/- The rules of all kinds: the list that the program makes, and the first one that fits. -/
import Derived.Test.YtbddjejpacaglaaGreatDoorVpb
import Derived.Test.YtbddjejpacaglaaGreatDoorVps
import Derived.Shelf.Abstract
namespace Go.Proofs.YtbddjejpacaglaaGreatDoor
open Go.RowKit

/-- The words of the kinds behind the first one. -/
def wd : Nat → Bs
  | 1 => [111, 119, 110]
  | 2 => [105, 100]
  | 3 => [100, 101, 103, 114, 101, 101]
  | 4 => [105, 110, 112, 117, 116]
  | 5 => [114, 111, 117, 110, 100]
  | 6 => [108, 101, 97, 115, 116]
  | 7 => [103, 114, 101, 97, 116, 101, 115, 116]
  | 8 => [115, 117, 109]
  | 9 => [102, 114, 101, 101]
  | 10 => [99, 111, 117, 110, 116]
  | 11 => [98, 101, 108, 111, 119]
  | 12 => [97, 100, 100]
  | 13 => [115, 117, 98]
  | 14 => [109, 105, 110]
  | 15 => [109, 97, 120]
  | 16 => [108, 101, 115, 115]
  | 17 => [101, 113, 117, 97, 108]
  | 18 => [105, 102]
  | _ => []
/-- The function of the rule with a number. -/
def vf : Nat → Nat
  | 0 => 96
  | 1 => 97
  | 2 => 98
  | 3 => 99
  | 4 => 100
  | 5 => 101
  | 6 => 102
  | 7 => 105
  | 8 => 107
  | 9 => 109
  | 10 => 111
  | 11 => 113
  | 12 => 114
  | 13 => 115
  | 14 => 116
  | 15 => 117
  | 16 => 118
  | 17 => 120
  | 18 => 121
  | _ => 0
def vword (c : Int) (k : Nat) : Bs := if k = 0 then Go.Lib.itoa c else wd k
def vcap (p : Nat) (k : Nat) : Array Value := if k = 0 then #[.pointer (some ⟨p, 0, none⟩)] else #[]
/-- The rule with a number, for operations with this constant, which lies in the box p. -/
def ruleV (c : Int) (p : Nat) (k : Nat) : Value := .agg #[.int .i64 ((k : Int) + 1), .string (bs (vword c k)), .int .i64 (nd ((k : Int) + 1)), .func (.func (vf k)) #[] (vcap p k)]
/-- The cells of all rules. -/
def rcells (c : Int) (p : Nat) : Array Value := #[
  .int .i64 1, .string (bs (Go.Lib.itoa c)), .int .i64 0, .func (.func 96) #[] #[.pointer (some ⟨p, 0, none⟩)],
  .int .i64 2, .string { data := #[111, 119, 110] }, .int .i64 0, .func (.func 97) #[] #[],
  .int .i64 3, .string { data := #[105, 100] }, .int .i64 0, .func (.func 98) #[] #[],
  .int .i64 4, .string { data := #[100, 101, 103, 114, 101, 101] }, .int .i64 0, .func (.func 99) #[] #[],
  .int .i64 5, .string { data := #[105, 110, 112, 117, 116] }, .int .i64 0, .func (.func 100) #[] #[],
  .int .i64 6, .string { data := #[114, 111, 117, 110, 100] }, .int .i64 0, .func (.func 101) #[] #[],
  .int .i64 7, .string { data := #[108, 101, 97, 115, 116] }, .int .i64 0, .func (.func 102) #[] #[],
  .int .i64 8, .string { data := #[103, 114, 101, 97, 116, 101, 115, 116] }, .int .i64 0, .func (.func 105) #[] #[],
  .int .i64 9, .string { data := #[115, 117, 109] }, .int .i64 0, .func (.func 107) #[] #[],
  .int .i64 10, .string { data := #[102, 114, 101, 101] }, .int .i64 0, .func (.func 109) #[] #[],
  .int .i64 11, .string { data := #[99, 111, 117, 110, 116] }, .int .i64 1, .func (.func 111) #[] #[],
  .int .i64 12, .string { data := #[98, 101, 108, 111, 119] }, .int .i64 1, .func (.func 113) #[] #[],
  .int .i64 13, .string { data := #[97, 100, 100] }, .int .i64 2, .func (.func 114) #[] #[],
  .int .i64 14, .string { data := #[115, 117, 98] }, .int .i64 2, .func (.func 115) #[] #[],
  .int .i64 15, .string { data := #[109, 105, 110] }, .int .i64 2, .func (.func 116) #[] #[],
  .int .i64 16, .string { data := #[109, 97, 120] }, .int .i64 2, .func (.func 117) #[] #[],
  .int .i64 17, .string { data := #[108, 101, 115, 115] }, .int .i64 2, .func (.func 118) #[] #[],
  .int .i64 18, .string { data := #[101, 113, 117, 97, 108] }, .int .i64 2, .func (.func 120) #[] #[],
  .int .i64 19, .string { data := #[105, 102] }, .int .i64 3, .func (.func 121) #[] #[]]
/-- The rules lie in a block. -/
def RulesIn (w : World) (b : Nat) (c : Int) (p : Nat) : Prop := w.cell? ⟨p, 0, none⟩ = some (.int .i64 c) ∧ ∀ k, k < 19 →
  w.cell? ⟨b, k * 4, none⟩ = some (.int .i64 ((k : Int) + 1)) ∧ w.cell? ⟨b, k * 4 + 1, none⟩ = some (.string (bs (vword c k))) ∧
  w.cell? ⟨b, k * 4 + 2, none⟩ = some (.int .i64 (nd ((k : Int) + 1))) ∧ w.cell? ⟨b, k * 4 + 3, none⟩ = some (.func (.func (vf k)) #[] (vcap p k))
theorem RulesIn.ext {w w' : World} {b p : Nat} {c : Int} (h : RulesIn w b c p) (he : Ext w w') : RulesIn w' b c p :=
  ⟨he.cell' h.1, fun k hk => let ⟨a, d, e, f⟩ := h.2 k hk; ⟨he.cell' a, he.cell' d, he.cell' e, he.cell' f⟩⟩
theorem rcells_at (c : Int) (p : Nat) (k : Nat) (hk : k < 19) :
    (rcells c p)[k * 4]? = some (.int .i64 ((k : Int) + 1)) ∧ (rcells c p)[k * 4 + 1]? = some (.string (bs (vword c k))) ∧
    (rcells c p)[k * 4 + 2]? = some (.int .i64 (nd ((k : Int) + 1))) ∧ (rcells c p)[k * 4 + 3]? = some (.func (.func (vf k)) #[] (vcap p k)) := by
  match k, hk with
  | 0, _ => exact ⟨rfl, rfl, rfl, rfl⟩
  | 1, _ => exact ⟨rfl, rfl, rfl, rfl⟩
  | 2, _ => exact ⟨rfl, rfl, rfl, rfl⟩
  | 3, _ => exact ⟨rfl, rfl, rfl, rfl⟩
  | 4, _ => exact ⟨rfl, rfl, rfl, rfl⟩
  | 5, _ => exact ⟨rfl, rfl, rfl, rfl⟩
  | 6, _ => exact ⟨rfl, rfl, rfl, rfl⟩
  | 7, _ => exact ⟨rfl, rfl, rfl, rfl⟩
  | 8, _ => exact ⟨rfl, rfl, rfl, rfl⟩
  | 9, _ => exact ⟨rfl, rfl, rfl, rfl⟩
  | 10, _ => exact ⟨rfl, rfl, rfl, rfl⟩
  | 11, _ => exact ⟨rfl, rfl, rfl, rfl⟩
  | 12, _ => exact ⟨rfl, rfl, rfl, rfl⟩
  | 13, _ => exact ⟨rfl, rfl, rfl, rfl⟩
  | 14, _ => exact ⟨rfl, rfl, rfl, rfl⟩
  | 15, _ => exact ⟨rfl, rfl, rfl, rfl⟩
  | 16, _ => exact ⟨rfl, rfl, rfl, rfl⟩
  | 17, _ => exact ⟨rfl, rfl, rfl, rfl⟩
  | 18, _ => exact ⟨rfl, rfl, rfl, rfl⟩
  | k + 19, h => exact absurd h (by omega)
theorem rules_made (w : World) (c : Int) (p t : Nat) (h : w.cell? ⟨p, 0, none⟩ = some (.int .i64 c)) : RulesIn (w.alloc (.cells (rcells c p) t)) w.heap.size c p := by
  refine ⟨((Ext.rfl' w).alloc' _).cell' h, fun k hk => ?_⟩
  have hr : (w.alloc (.cells (rcells c p) t)).rowIs w.heap.size t 76 (fun j => ((rcells c p)[j]?).getD (.int .i64 0)) := World.rowIs_alloc w (rcells c p) t _ fun i hi => by
    have h76 : i < (rcells c p).size := hi
    rw [Array.getElem?_eq_getElem h76]; rfl
  obtain ⟨q0, q1, q2, q3⟩ := rcells_at c p k hk
  have g : ∀ j v, j < 76 → (rcells c p)[j]? = some v → (w.alloc (.cells (rcells c p) t)).cell? ⟨w.heap.size, j, none⟩ = some v := fun j v hj hv => by
    have := hr.cell hj
    rw [this, hv]; rfl
  exact ⟨g _ _ (by omega) q0, g _ _ (by omega) q1, g _ _ (by omega) q2, g _ _ (by omega) q3⟩

theorem cell_new1 (w : World) (v : Value) (t : TypeId) : (w.alloc (.cells #[v] t)).cell? ⟨w.heap.size, 0, none⟩ = some v := by simp

set_option maxHeartbeats 3200000 in
set_option maxRecDepth 100000 in
theorem valueRules_any (c : Int) (h0 : inI64 c) (w : World) (hP : Pw w) :
    Calls Tryz.prog 91 #[.int .i64 c] w fun e w' => ∃ b p, e = .returned (.slice (some ⟨b, 0, none⟩) 19 19) ∧ Ext w w' ∧ RulesIn w' b c p ∧ w.heap.size ≤ p := by
  have hA := (Ext.rfl' w).alloc' (.cells #[.int .i64 c] 3)
  have HA := Lib.hid hA
  have hp1 := Lib.hid (hP.ext hA)
  have hc1 := Lib.hid (cell_new1 w (.int .i64 c) 3)
  clear hA
  go_enter Tryz.func91, Tryz.ntmps91
  go_wp2_with (go_at_call 95; (with_reducible refine (itoa_any c h0 _ hp1.out).mono ?_); rintro e w1 ⟨rfl, hx⟩; have HX := Lib.hid hx; clear hx)
  go_ret
  exact ⟨_, _, rfl, (HA.out.trans' HX.out).alloc' _, rules_made w1 c _ _ (HX.out.cell' hc1.out), Nat.le_refl _⟩
end Go.Proofs.YtbddjejpacaglaaGreatDoor
