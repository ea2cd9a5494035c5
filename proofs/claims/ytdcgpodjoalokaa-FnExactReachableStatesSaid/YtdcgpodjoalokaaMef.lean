/- The program's Concat. -/
import Derived.Test.YtdcgpodjoalokaaMed
import Derived.Lib.AppendZeros
namespace Go.Proofs.Ytdcgpodjoalokaa
open Go.RowKit

theorem nil_own {w w' : World} {g cap : Nat} {cs : Array Value} {t : TypeId} (hh : w'.heap[g]? = some (.cells cs t (0, 0))) (hB : w.heap.size ≤ g) (hc : cs.size = cap) (hm : cap ≤ maxLen) : w'.ownsRow w.heap.size t 1 (.slice (some ⟨g, 0, none⟩) 0 cap) 0 [] :=
  ⟨rfl, .inr ⟨g, cap, cs, rfl, hB, hh, Nat.zero_le _, hm, by omega, by simp⟩⟩

set_option maxHeartbeats 3200000 in
set_option maxRecDepth 100000 in
theorem grow_any (n : Nat) (hn : n ≤ 1000) (w : World) : Calls Try.prog 151 #[.slice none 0 0, .int .i64 (n : Int)] w fun e w' => ∃ v', e = .returned v' ∧ Ext w w' ∧ w'.ownsRow w.heap.size 3 1 v' 0 [] := by
  obtain ⟨i0, hi, hz0, hz1, hz2⟩ := info_parts Try.info3
  by_cases h0 : n = 0
  · subst h0
    clear hi hz0 hz1 hz2
    go_enter Try.func151, Try.ntmps151
    go_wp2
    go_ret
    exact ⟨_, rfl, Ext.rfl' _, World.ownsRow_nil _ _ _ _⟩
  · have hrun := fun ty => Lib.run_append_nil_zeros (P := Try.prog) w 24 3 ty 3 i0 (.int .i64 0) .i64 .i64 Try.underlying24 Try.underlying3 hi hz0 n (by omega) (by omega) (by omega) (by rw [hz2]; omega)
    have HC := Lib.hid (show n ≤ grownCap w n 0 3 ∧ grownCap w n 0 3 ≤ maxLen from ⟨grownCap_ge w n 0 _, grownCap_le_maxLen w n 0 _ (by unfold maxLen; omega)⟩)
    have b1 : decide ((0 : Int) < (n : Int)) = true := decide_eq_true (by omega)
    clear hz1 hz2
    go_enter Try.func151, Try.ntmps151
    go_wp2_with (at_builtin; refine Lib.wpList_append_run _ rfl (.tmp 20) (.tmp 21) 24 3 rfl _ _ rfl rfl _ _ (hrun _) ?_)
    go_ret
    refine ⟨_, rfl, ((Ext.rfl' w).alloc' _).drew', nil_own (w := w) (cs := Builtin.zeroCells #[Value.int IntKind.i64 0] n ++ Builtin.zeroCells #[Value.int IntKind.i64 0] (grownCap w n 0 3 - n)) (World.alloc_heap_new w _) (Nat.le_refl _) ?_ HC.out.2⟩
    have := HC.out.1
    simp [Builtin.zeroCells]
    omega

/-- The lists that have been gone through, one behind the other. -/
def catTo (L : List (List Int)) (k : Nat) : List Int := ((List.range k).map fun i => gr L i).flatten
theorem catTo_succ (L : List (List Int)) (k : Nat) : catTo L (k + 1) = catTo L k ++ gr L k := by simp [catTo, List.range_succ]
theorem catTo_all (L : List (List Int)) : catTo L L.length = L.flatten := by
  unfold catTo
  congr 1
  refine List.ext_getElem (by simp) fun i h1 h2 => ?_
  simp [gr, List.getD, h2]
def sumTo (L : List (List Int)) : Nat → Nat
  | 0 => 0
  | k + 1 => sumTo L k + (gr L k).length
theorem sumTo_le {L : List (List Int)} {b : Nat} (h : ∀ i, i < L.length → (gr L i).length ≤ b) : ∀ k, k ≤ L.length → sumTo L k ≤ k * b
  | 0, _ => by simp [sumTo]
  | k + 1, hk => by
    have := sumTo_le h k (by omega)
    have := h k (by omega)
    simp only [sumTo, Nat.add_mul]
    omega
theorem catTo_len (L : List (List Int)) : ∀ k, (catTo L k).length = sumTo L k
  | 0 => by simp [catTo, sumTo]
  | k + 1 => by rw [catTo_succ, List.length_append, catTo_len L k]; rfl

set_option maxHeartbeats 3200000 in
set_option maxRecDepth 100000 in
theorem concat_any {w : World} {v : Value} {L : List (List Int)} (h : IntSS w v L) (hl : L.length ≤ 7) (hb : ∀ i, i < L.length → (gr L i).length ≤ 10) :
    Calls Try.prog 109 #[v] w fun e w' => ∃ v', e = .returned v' ∧ Ext w w' ∧ w'.ownsRow w.heap.size 3 1 v' L.flatten.length (intCells L.flatten) := by
  have HL := Lib.hid h
  obtain ⟨a, c, rfl⟩ : ∃ a c, v = .slice a L.length c := by obtain ⟨a, b, o, c, h, -⟩ := h; exact ⟨a, c, h⟩
  obtain ⟨-, m3, n3⟩ := ssLen h
  unfold maxLen at m3
  have HB := Lib.hid hb
  have HS := Lib.hid (fun k hk => sumTo_le hb k hk)
  clear h hb
  obtain ⟨i0, hi, hz0, hz1, hz2⟩ := info_parts Try.info3
  have I0 := Lib.hid (show Try.prog.info? 3 = some i0 ∧ i0.zero = some (.int .i64 0) ∧ i0.size = 1 ∧ i0.bytes = 8 from ⟨hi, hz0, hz1, hz2⟩)
  clear hi hz0 hz1 hz2
  go_enter Try.func109, Try.ntmps109
  go_wp2
  go_loopg [3, 11] L.length (fun g s i wr => ∃ k : Nat, k ≤ L.length ∧ g = L.length - k ∧ i = .int .i64 k ∧ s = .int .i64 ((sumTo L k : Nat) : Int) ∧ w = wr)
  case atStart => exact ⟨0, Nat.zero_le _, rfl, rfl, rfl, rfl⟩
  case round =>
    obtain ⟨k, hk, rfl, rfl, rfl, rfl⟩ := hrel
    by_cases hlt : k < L.length
    · obtain ⟨b, o, xa, xc, rfl, z0, hx⟩ := ssRow HL.out hlt
      have hr := HB.out k hlt
      have hs := HS.out k (by omega)
      obtain ⟨n, hn⟩ : ∃ n, n = sumTo L k := ⟨_, rfl⟩
      have HN := Lib.hid hn
      rw [← hn] at hs ⊢
      have hn70 : n ≤ 70 := by omega
      have b1 : decide (((n : Int) + ((gr L k).length : Int)) < 0) = false := decide_eq_false (by omega)
      clear hx hn hs
      go_wp2
      go_roundg (L.length - (k + 1))
      case measure => omega
      case rel => exact ⟨k + 1, by omega, rfl, by go_num, by show _ = Value.int .i64 ((sumTo L k + (gr L k).length : Nat) : Int); rw [← HN.out]; go_num, rfl⟩
    · obtain rfl : k = L.length := by omega
      have hs := HS.out L.length (Nat.le_refl _)
      have hn70 : sumTo L L.length ≤ 70 := by omega
      go_wp2_with fail
      (with_reducible refine (grow_any (sumTo L L.length) (by omega) w).mono ?_)
      rintro e w2 ⟨v2, rfl, hx, ho⟩
      have X2 := Lib.hid hx
      have O2 := Lib.hid ho
      clear hx ho
      go_wp2
      go_loopg [6, 27] L.length (fun g s i wr => ∃ k : Nat, k ≤ L.length ∧ g = L.length - k ∧ i = .int .i64 k ∧ Hid (Ext w wr ∧ wr.ownsRow w.heap.size 3 1 s (catTo L k).length (intCells (catTo L k))))
      case atStart => exact ⟨0, Nat.zero_le _, rfl, rfl, X2.out, O2.out⟩
      case round =>
        obtain ⟨k, hk, rfl, rfl, Hr⟩ := hrel
        by_cases hlt : k < L.length
        · obtain ⟨b, o, xa, xc, rfl, z0, hx⟩ := ssRow (HL.out.ext Hr.out.1) hlt
          have HX := Lib.hid hx
          obtain ⟨sa, sq, rfl⟩ := owns_slice Hr.out.2
          have hr := HB.out k hlt
          have hs2 := HS.out k (by omega)
          have hcl : (catTo L k).length ≤ 70 := by rw [catTo_len]; omega
          have HSZ := Lib.hid Hr.out.1.size
          clear hx
          go_wp2_with (at_builtin; refine wpList_app2 rfl (.tmp 31) (.tmp 32) 24 rfl w.heap.size 3 i0 (.int .i64 0) 1 8 Try.underlying24 I0.out.1 I0.out.2.1 I0.out.2.2.1 I0.out.2.2.2 rfl (by decide) (.slice sa (catTo L k).length sq) (catTo L k).length (intCells (catTo L k)) rfl Hr.out.2 xa (gr L k).length xc (intCells (gr L k)) rfl (HX.out.src (fun _ _ h => h)).2 (by unfold maxLen; omega) (by omega) HSZ.out ?_; intro v6 w6 hg6; have G6 := Lib.hid hg6; clear hg6)
          have X6 := Lib.hid (show Ext w w6 from G6.out.1.ext Hr.out.1 fun b hb => (World.ownsRow.lt Hr.out.2 b hb).1)
          have N6 := Lib.hid (show w6.ownsRow w.heap.size 3 1 v6 (catTo L (k + 1)).length (intCells (catTo L (k + 1))) by
            have := G6.out.1.1
            rw [catTo_succ, List.length_append]
            simpa [intCells] using this)
          clear G6
          go_wp2
          go_roundg (L.length - (k + 1))
          case measure => omega
          case rel => exact ⟨k + 1, by omega, rfl, by go_num, X6.out, N6.out⟩
        · obtain rfl : k = L.length := by omega
          go_wp2
          go_ret
          exact ⟨_, rfl, Hr.out.1, by rw [← catTo_all]; exact Hr.out.2⟩
end Go.Proofs.Ytdcgpodjoalokaa
