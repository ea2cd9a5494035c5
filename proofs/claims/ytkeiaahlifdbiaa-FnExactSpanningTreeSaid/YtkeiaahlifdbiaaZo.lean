/- slices.IndexFunc over ends, the closure of portsTowards, and portsTowards. -/
import Derived.Test.YtkeiaahlifdbiaaZj
namespace Go.Proofs.Ytkeiaahlifdbiaa
open Go.RowKit

/-- The first number below n for which p holds, -1 if there is none. -/
def idxP (p : Nat → Bool) : Nat → Int
  | 0 => -1
  | k + 1 => if idxP p k = -1 then (if p k = true then (k : Int) else -1) else idxP p k
theorem idxP_none {p : Nat → Bool} : ∀ k, (∀ j, j < k → p j = false) → idxP p k = -1
  | 0, _ => rfl
  | k + 1, h => by
    have ih := idxP_none (p := p) k fun j hj => h j (by omega)
    simp only [idxP]
    rw [if_pos ih, if_neg (by rw [h k (by omega)]; simp)]
theorem idxP_hit {p : Nat → Bool} {k : Nat} (h : ∀ j, j < k → p j = false) (hk : p k = true) : ∀ n, k < n → idxP p n = (k : Int)
  | 0, hn => by omega
  | n + 1, hn => by
    simp only [idxP]
    by_cases e : n = k
    · subst e
      rw [if_pos (idxP_none _ h), if_pos hk]
    · have ih := idxP_hit h hk n (by omega)
      rw [if_neg (by omega), ih]
theorem idxP_congr {p q : Nat → Bool} : ∀ n, (∀ i, i < n → p i = q i) → idxP p n = idxP q n
  | 0, _ => rfl
  | n + 1, h => by
    have ih := idxP_congr n fun i hi => h i (by omega)
    simp only [idxP]
    rw [ih, h n (by omega)]
theorem idxP_range (p : Nat → Bool) : ∀ n, -1 ≤ idxP p n ∧ idxP p n < (n : Int)
  | 0 => by simp [idxP]
  | n + 1 => by
    have ih := idxP_range p n
    simp only [idxP]
    split
    · split <;> omega
    · omega
theorem ret_iZ {a b : Int} (h : a = b) : Ending.returned (.int .i64 a) = .returned (.int .i64 b) := by rw [h]

set_option maxHeartbeats 1600000 in
set_option maxRecDepth 100000 in
theorem indexFuncE_any (K : Nat) (caps : Array Value) (eg : ∀ args w, (callFunc K args).run Try.prog w = .ok (.enter K args) w) (p : Nat → Bool) {w : World} {a : Option Addr} {c : Nat} {l : List (Int × Int)} (h : EndSl w (.slice a l.length c) l) (h6 : l.length ≤ 1048576)
    (hs : ∀ W, Ext w W → ∀ i : Nat, i < l.length → Calls Try.prog K (#[.agg #[.int .i64 (gn l i), .int .i64 (gp l i)]] ++ caps) W fun e w' => e = .returned (.bool (p i)) ∧ Ext W w') :
    Calls Try.prog 148 #[.slice a l.length c, .func (.func K) #[] caps] w fun e w' => e = .returned (.int .i64 (idxP p l.length)) ∧ Ext w w' := by
  have HS := Lib.hid hs
  obtain ⟨a', b, o, c', e, ha, hl, hm, hc⟩ := h
  simp only [Value.slice.injEq] at e
  obtain ⟨rfl, -, rfl⟩ := e
  unfold maxLen at hm
  have HA := Lib.hid ha
  have HC := Lib.hid hc
  clear hs ha hc
  obtain ⟨n, hnn⟩ : ∃ n, n = l.length := ⟨_, rfl⟩
  have HNN := Lib.hid hnn
  rw [← hnn] at h6 hl HA HC HS ⊢
  clear hnn
  go_enter Try.func148, Try.ntmps148
  go_wp2
  go_loopg [8] n (fun g i wr => ∃ k : Nat, k ≤ n ∧ g = n - k ∧ i = .int .i64 k ∧ Hid (Ext w wr ∧ ∀ j, j < k → p j = false))
  case atStart => exact ⟨0, Nat.zero_le _, rfl, rfl, Ext.rfl' w, fun j hj => absurd hj (by omega)⟩
  case round =>
    obtain ⟨k, hk, rfl, rfl, Hr⟩ := hrel
    by_cases hlt : k < n
    · obtain rfl := HA.out (by omega)
      obtain ⟨f1, f2, -⟩ := HC.out k hlt
      have s1 := Hr.out.1.cell' f1
      have s2 := Hr.out.1.cell' f2
      have cS := HS.out _ Hr.out.1 k hlt
      obtain ⟨x, hx⟩ : ∃ x, x = gn l k := ⟨_, rfl⟩
      obtain ⟨y, hy⟩ : ∃ y, y = gp l k := ⟨_, rfl⟩
      rw [← hx] at s1 cS
      rw [← hy] at s2 cS
      clear f1 f2 hx hy
      cases hsp : p k <;> rw [hsp] at cS
      · have Hsp := Lib.hid hsp
        clear hsp
        go_wp2_with (go_at_fn K; refine cS.mono ?_; rintro e W' ⟨rfl, hx⟩; have HY := Lib.hid hx; clear hx)
        go_roundg (n - (k + 1))
        case measure => omega
        case rel =>
          refine ⟨k + 1, by omega, rfl, by go_num, Hr.out.1.trans' HY.out, fun j hj => ?_⟩
          by_cases e : j = k
          · subst e; exact Hsp.out
          · exact Hr.out.2 j (by omega)
      · have HI := Lib.hid (show idxP p n = (k : Int) from idxP_hit Hr.out.2 hsp n hlt)
        clear hsp
        go_wp2_with (go_at_fn K; refine cS.mono ?_; rintro e W' ⟨rfl, hx⟩; have HY := Lib.hid hx; clear hx)
        go_ret
        exact ⟨ret_iZ HI.out.symm, Hr.out.1.trans' HY.out⟩
    · obtain rfl : k = n := by omega
      have HI := Lib.hid (show idxP p k = -1 from idxP_none k Hr.out.2)
      go_wp2
      go_ret
      exact ⟨ret_iZ HI.out.symm, Hr.out.1⟩

theorem enters_toward (args : Array Value) (w : World) : (callFunc 149 args).run Try.prog w = .ok (.enter 149 args) w := enters_of Try.func149 (by kernel_rfl) rfl args w

set_option maxHeartbeats 1600000 in
set_option maxRecDepth 100000 in
theorem towardClosure_any {W : World} {D : List Int} {dp vp n v z : Nat} {p : Int} {da : Option Addr} {dc : Nat} {bd : List Nat}
    (h0 : W.cell? ⟨dp, 0, none⟩ = some (.slice da n dc)) (hD : OwnI W (.slice da n dc) D bd) (hl : D.length = n) (h2 : W.cell? ⟨vp, 0, none⟩ = some (.int .i64 v)) (hz : z < n) (hv : v < n) :
    Calls Try.prog 149 (#[.agg #[.int .i64 z, .int .i64 p]] ++ #[.pointer (some ⟨dp, 0, none⟩), .pointer (some ⟨vp, 0, none⟩)]) W fun e w' => e = .returned (.bool (decide (gi D z < gi D v))) ∧ Ext W w' := by
  obtain ⟨W1, hW1⟩ : ∃ W1, W1 = W.alloc (.cells #[.int .i64 z, .int .i64 p] 66) := ⟨_, rfl⟩
  have E1 := Lib.hid (show Ext W W1 by rw [hW1]; exact (Ext.rfl' _).alloc' _)
  have R1 := Lib.hid (show W1.rowIs W.heap.size 66 2 (duo (.int .i64 z) (.int .i64 p)) by rw [hW1]; exact duo_made _ _ _ _)
  obtain ⟨r0, r1, -, -⟩ := duo_facts R1.out
  have c0 := E1.out.cell' h0
  have c2 := E1.out.cell' h2
  obtain ⟨a', b, o, c', e, ha, hl', hm, hc⟩ := (hD.read.ext E1.out)
  simp only [Value.slice.injEq] at e
  obtain ⟨rfl, -, rfl⟩ := e
  rw [hl] at ha hl'
  obtain rfl := ha (by omega)
  obtain ⟨_, cz, rfl, _⟩ := hc z (by rw [hl]; exact hz)
  obtain ⟨_, cv, rfl, _⟩ := hc v (by rw [hl]; exact hv)
  unfold maxLen at hm
  obtain ⟨dz, hdz⟩ : ∃ d, d = gi D z := ⟨_, rfl⟩
  obtain ⟨dv, hdv⟩ : ∃ d, d = gi D v := ⟨_, rfl⟩
  rw [← hdz] at cz ⊢
  rw [← hdv] at cv ⊢
  have P0 : ∀ x' : Wx W1, x'.w.cell? ⟨W.heap.size, 0, none⟩ = some (.int .i64 z) := fun x' => x'.ok.cell' r0
  have P1 : ∀ x' : Wx W1, x'.w.cell? ⟨dp, 0, none⟩ = some (.slice (some ⟨b, o, none⟩) n dc) := fun x' => x'.ok.cell' c0
  have P2 : ∀ x' : Wx W1, x'.w.cell? ⟨vp, 0, none⟩ = some (.int .i64 v) := fun x' => x'.ok.cell' c2
  have P3 : ∀ x' : Wx W1, x'.w.cell? ⟨b, o + z, none⟩ = some (.int .i64 dz) := fun x' => x'.ok.cell' cz
  have P4 : ∀ x' : Wx W1, x'.w.cell? ⟨b, o + v, none⟩ = some (.int .i64 dv) := fun x' => x'.ok.cell' cv
  clear h0 hD hl h2 r0 r1 c0 c2 ha hc cz cv hdz hdv
  go_enter Try.func149, Try.ntmps149
  go_wp2_with fail
  rw [← hW1]
  clear hW1
  refine wp_region_ext (by kernel_rfl) (by kernel_rfl) ?_
  repeat (go_big_quiet_step (fail))
  refine wpQuiet_nil ?_
  rintro wq ⟨⟨_, hz2⟩, rfl⟩
  have E2 := Lib.hid (E1.out.trans' hz2)
  clear hz2 P0 P1 P2 P3 P4
  go_wp2
  go_ret
  exact ⟨ret_bool rfl, E2.out⟩
end Go.Proofs.Ytkeiaahlifdbiaa
