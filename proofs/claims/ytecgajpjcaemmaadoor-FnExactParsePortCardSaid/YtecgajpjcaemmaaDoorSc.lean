/- The model's reading of numbers. -/
import Derived.Test.YtecgajpjcaemmaaDoorSa
namespace Go.Proofs.YtecgajpjcaemmaaDoor
open Go.RowKit

/-- Byte k of a text. -/
def bat (l : Bs) (k : Nat) : UInt8 := l.getD k 0
theorem bs_get (l : Bs) (k : Nat) (h : k < (bs l).size) : (bs l)[k] = bat l k := by
  have h' : k < l.length := by rw [bs_size] at h; exact h
  show l.toArray[k] = l.getD k 0
  simp [List.getD, h']
theorem bat_at {l : Bs} {k : Nat} (h : k < l.length) : l[k]? = some (bat l k) := by simp [bat, List.getD, h]
theorem bat_mem {l : Bs} {k : Nat} (h : k < l.length) : bat l k ∈ l := List.mem_of_getElem? (bat_at h)
theorem take_succ_bat {l : Bs} {k : Nat} (h : k < l.length) : l.take (k + 1) = l.take k ++ [bat l k] := by rw [List.take_add_one, bat_at h]; rfl
theorem byte_int {b c : UInt8} (h : b ≠ c) : ¬ ((b.toNat : Int) = (c.toNat : Int)) := fun e => h (UInt8.toNat_inj.1 (by omega))

theorem val_take (l : Bs) (k : Nat) (h : l.length ≤ 6) (hd : ∀ b ∈ l.take k, isDig b) : valN 0 (l.take k) ≤ 999999 := by
  have h1 := val_lt (l.take k) 0 hd
  have h2 := pow_six (k := (l.take k).length) (by rw [List.length_take]; omega)
  generalize 10 ^ (l.take k).length = p at h1 h2
  omega
set_option maxHeartbeats 1600000 in
set_option maxRecDepth 100000 in
theorem l1Read_any (l : Bs) (w : World) (hl : l.length ≤ 1048576) :
    Calls Tryd.prog 62 #[.string (bs l)] w fun e w' => e = .returned (.int .i64 (rdI l)) ∧ w = w' := by
  have hsz := bs_size l
  have hg := bs_get l
  by_cases h1 : InB (l.length : Int) 1 6
  · have hb := Lib.hid (dec_true h1)
    have hlo := h1.1
    have hhi := h1.2
    clear h1
    by_cases hz : bat l 0 = 48 ∧ 1 < l.length
    · have hn := Lib.hid (show rdI l = -1 from rdI_no (fun h => h.2.1 hz))
      have e0 : ((bat l 0).toNat : Int) = 48 := by rw [hz.1]; rfl
      have e1 : (1 : Int) < l.length := by omega
      clear hz
      go_enter Tryd.func62, Tryd.ntmps62
      go_wp2_with (go_at_call 57; (with_reducible refine (l1In_any _ _ _ _).mono ?_); rintro e w' ⟨rfl, rfl⟩; rw [hb.out])
      go_ret
      exact ⟨by rw [hn.out]; rfl, rfl⟩
    · have Hz := Lib.hid hz
      have hh : bat l 0 ≠ 48 ∨ (bat l 0 = 48 ∧ l.length ≤ 1) := by
        rcases Classical.em (bat l 0 = 48) with h | h
        · exact .inr ⟨h, by have : ¬ 1 < l.length := fun k => hz ⟨h, k⟩; omega⟩
        · exact .inl h
      clear hz
      go_enter Tryd.func62, Tryd.ntmps62
      rcases hh with hh | hh
      · have e0 : ¬ ((bat l 0).toNat : Int) = 48 := byte_int hh
        clear hh
        go_wp2_with (go_at_call 57; (with_reducible refine (l1In_any _ _ _ _).mono ?_); rintro e w' ⟨rfl, rfl⟩; rw [hb.out])
        go_loopg [3, 4] l.length (fun g n i wr => ∃ k : Nat, k ≤ l.length ∧ g = l.length - k ∧ n = .int .i64 (valN 0 (l.take k) : Nat) ∧ i = .int .i64 k ∧ Hid (w = wr ∧ ∀ b ∈ l.take k, isDig b))
        case atStart => exact ⟨0, Nat.zero_le _, rfl, rfl, rfl, rfl, fun b hb => absurd hb (by simp)⟩
        case round =>
          obtain ⟨k, hk, rfl, rfl, rfl, Hr⟩ := hrel
          have hv9 := val_take l k (by omega) Hr.out.2
          by_cases hlt : k < l.length
          · by_cases hd : isDig (bat l k)
            · have hd1 : 48 ≤ (bat l k).toNat := hd.1
              have hd2 : (bat l k).toNat ≤ 57 := hd.2
              have hs := Lib.hid (take_succ_bat hlt)
              have hd' := Lib.hid hd
              have d1 : ¬ ((bat l k).toNat : Int) < 48 := by omega
              have d2 : ¬ 57 < ((bat l k).toNat : Int) := by omega
              clear hd
              generalize hva : valN 0 (l.take k) = va at hv9
              have Hva := Lib.hid hva
              clear hva
              go_wp2
              go_roundg (l.length - (k + 1))
              case measure => omega
              case rel =>
                refine ⟨k + 1, by omega, rfl, ?_, by go_num, Hr.out.1, fun b hb => ?_⟩
                · rw [hs.out, valN_snoc, Hva.out]; go_num
                · rw [hs.out] at hb
                  rcases List.mem_append.1 hb with h | h
                  · exact Hr.out.2 b h
                  · rw [List.mem_singleton.1 h]; exact hd'.out
            · have hn := Lib.hid (show rdI l = -1 from rdI_no (fun h => hd (h.2.2 _ (bat_mem hlt))))
              have hd' : (bat l k).toNat < 48 ∨ 57 < (bat l k).toNat := by unfold isDig at hd; omega
              clear hd
              rcases hd' with hd | hd
              · have d1 : ((bat l k).toNat : Int) < 48 := by omega
                go_wp2
                go_ret
                exact ⟨by rw [hn.out]; rfl, Hr.out.1⟩
              · have d1 : ¬ ((bat l k).toNat : Int) < 48 := by omega
                have d2 : 57 < ((bat l k).toNat : Int) := by omega
                go_wp2
                go_ret
                exact ⟨by rw [hn.out]; rfl, Hr.out.1⟩
          · obtain rfl : k = l.length := by omega
            go_wp2
            go_ret
            refine ⟨?_, Hr.out.1⟩
            have hall := Hr.out.2
            rw [List.take_length] at hall ⊢
            rw [rdI_ok ⟨⟨by omega, by omega⟩, Hz.out, hall⟩]
            rfl
      · have e1 : (l.length : Int) ≤ 1 := by omega
        have e0 : ((bat l 0).toNat : Int) = 48 := by rw [hh.1]; rfl
        clear hh
        go_wp2_with (go_at_call 57; (with_reducible refine (l1In_any _ _ _ _).mono ?_); rintro e w' ⟨rfl, rfl⟩; rw [hb.out])
        go_loopg [3, 4] l.length (fun g n i wr => ∃ k : Nat, k ≤ l.length ∧ g = l.length - k ∧ n = .int .i64 (valN 0 (l.take k) : Nat) ∧ i = .int .i64 k ∧ Hid (w = wr ∧ ∀ b ∈ l.take k, isDig b))
        case atStart => exact ⟨0, Nat.zero_le _, rfl, rfl, rfl, rfl, fun b hb => absurd hb (by simp)⟩
        case round =>
          obtain ⟨k, hk, rfl, rfl, rfl, Hr⟩ := hrel
          have hv9 := val_take l k (by omega) Hr.out.2
          by_cases hlt : k < l.length
          · by_cases hd : isDig (bat l k)
            · have hd1 : 48 ≤ (bat l k).toNat := hd.1
              have hd2 : (bat l k).toNat ≤ 57 := hd.2
              have hs := Lib.hid (take_succ_bat hlt)
              have hd' := Lib.hid hd
              have d1 : ¬ ((bat l k).toNat : Int) < 48 := by omega
              have d2 : ¬ 57 < ((bat l k).toNat : Int) := by omega
              clear hd
              generalize hva : valN 0 (l.take k) = va at hv9
              have Hva := Lib.hid hva
              clear hva
              go_wp2
              go_roundg (l.length - (k + 1))
              case measure => omega
              case rel =>
                refine ⟨k + 1, by omega, rfl, ?_, by go_num, Hr.out.1, fun b hb => ?_⟩
                · rw [hs.out, valN_snoc, Hva.out]; go_num
                · rw [hs.out] at hb
                  rcases List.mem_append.1 hb with h | h
                  · exact Hr.out.2 b h
                  · rw [List.mem_singleton.1 h]; exact hd'.out
            · have hn := Lib.hid (show rdI l = -1 from rdI_no (fun h => hd (h.2.2 _ (bat_mem hlt))))
              have hd' : (bat l k).toNat < 48 ∨ 57 < (bat l k).toNat := by unfold isDig at hd; omega
              clear hd
              rcases hd' with hd | hd
              · have d1 : ((bat l k).toNat : Int) < 48 := by omega
                go_wp2
                go_ret
                exact ⟨by rw [hn.out]; rfl, Hr.out.1⟩
              · have d1 : ¬ ((bat l k).toNat : Int) < 48 := by omega
                have d2 : 57 < ((bat l k).toNat : Int) := by omega
                go_wp2
                go_ret
                exact ⟨by rw [hn.out]; rfl, Hr.out.1⟩
          · obtain rfl : k = l.length := by omega
            go_wp2
            go_ret
            refine ⟨?_, Hr.out.1⟩
            have hall := Hr.out.2
            rw [List.take_length] at hall ⊢
            rw [rdI_ok ⟨⟨by omega, by omega⟩, Hz.out, hall⟩]
            rfl
  · have hb := Lib.hid (dec_false h1)
    have hn := Lib.hid (show rdI l = -1 from rdI_no (fun h => h1 ⟨by have := h.1.1; omega, by have := h.1.2; omega⟩))
    clear h1
    go_enter Tryd.func62, Tryd.ntmps62
    go_wp2_with (go_at_call 57; (with_reducible refine (l1In_any _ _ _ _).mono ?_); rintro e w' ⟨rfl, rfl⟩; rw [hb.out])
    go_ret
    exact ⟨by rw [hn.out]; rfl, rfl⟩
end Go.Proofs.YtecgajpjcaemmaaDoor
