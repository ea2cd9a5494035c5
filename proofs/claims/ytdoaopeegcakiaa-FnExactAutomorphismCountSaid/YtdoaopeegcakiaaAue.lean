/- The contract of the program's AutomorphismCount. -/
import Derived.Test.YtdoaopeegcakiaaAud
import Derived.Test.YtdoaopeegcakiaaJo
namespace Go.Proofs.Ytdoaopeegcakiaa
open Go.RowKit

/-- The least of the first k + 1 elements. -/
def lowTo (l : List Int) : Nat → Int
  | 0 => gi l 0
  | k + 1 => min (lowTo l k) (gi l (k + 1))
theorem lowTo_spec (l : List Int) : ∀ k, (∀ i, i ≤ k → lowTo l k ≤ gi l i) ∧ ∃ i, i ≤ k ∧ lowTo l k = gi l i
  | 0 => ⟨fun i hi => by obtain rfl : i = 0 := by omega
                         exact Int.le_refl _, 0, Nat.le_refl _, rfl⟩
  | k + 1 => by
    obtain ⟨h2, i, hi, he⟩ := lowTo_spec l k
    simp only [lowTo]
    refine ⟨fun j hj => ?_, ?_⟩
    · by_cases e : j = k + 1
      · subst e; omega
      · have := h2 j (by omega); omega
    · rcases Int.le_total (lowTo l k) (gi l (k + 1)) with h | h
      · exact ⟨i, by omega, by omega⟩
      · exact ⟨k + 1, Nat.le_refl _, by omega⟩
theorem lowTo_least {l : List Int} {n : Nat} (hn : l.length = n + 1) : lowTo l n = leastI l := by
  obtain ⟨h2, i, hi, he⟩ := lowTo_spec l n
  have hne : l ≠ [] := fun e => by rw [e] at hn; simp at hn
  obtain ⟨k1, k2⟩ := leastI_spec hne
  obtain ⟨j, hj, e⟩ := in_gi k1
  have a := h2 j (by omega)
  have b := k2 (gi l i) (gi_in (by omega))
  omega

set_option maxHeartbeats 800000 in
set_option maxRecDepth 100000 in
theorem minInts_any {w : World} {v : Value} {l : List Int} {n : Nat} (h : IntSl w v l) (hn : l.length = n + 1) (hs : n ≤ 1048576) :
    Calls Try.prog 85 #[v] w fun e w' => e = .returned (.int .i64 (leastI l)) ∧ w = w' := by
  have HM := Lib.hid (lowTo_least hn)
  obtain ⟨a, b, o, c, rfl, ha, hl, hm, hc⟩ := h
  unfold maxLen at hm
  obtain rfl := ha (by omega)
  have Hc := Lib.hid hc
  clear hc ha
  obtain ⟨x0, hx0, rfl, _⟩ := Hc.out 0 (by omega)
  rw [Nat.add_zero] at hx0
  rw [hn] at hl ⊢
  have HN := Lib.hid hn
  clear hn
  go_enter Try.func85, Try.ntmps85
  go_wp2
  go_loop [3, 4] (fun t i => ∃ k : Nat, k ≤ n ∧ i = .int .i64 ((k : Int) + 1) ∧ t = .int .i64 (lowTo l k)) (fun _ i => n + 1 - (intOf i).toNat)
  case atStart => exact ⟨0, Nat.zero_le _, rfl, rfl⟩
  case round =>
    obtain ⟨k, hk, rfl, rfl⟩ := hrel
    by_cases hlt : k < n
    · obtain ⟨x, hc, rfl, _⟩ := Hc.out (k + 1) (by have := HN.out; omega)
      by_cases hm2 : gi l (k + 1) < lowTo l k
      · have E := Lib.hid (show gi l (k + 1) = lowTo l (k + 1) by simp only [lowTo]; omega)
        go_wp2
        go_round
        case rel => exact ⟨k + 1, by omega, by go_num, by rw [← E.out]⟩
        case measure => simp [intOf]; omega
      · have E := Lib.hid (show lowTo l k = lowTo l (k + 1) by simp only [lowTo]; omega)
        go_wp2
        go_round
        case rel => exact ⟨k + 1, by omega, by go_num, by rw [← E.out]⟩
        case measure => simp [intOf]; omega
    · go_wp2
      go_ret
      obtain rfl : k = n := by omega
      exact ⟨by rw [← HM.out]; rfl, rfl⟩
set_option maxRecDepth 100000 in
theorem leastNode_any {w : World} {a : Option Addr} {n c : Nat} {vc : Value} {L : List Int} (h : IntSl w (.slice a n c) L) (hL : L ≠ []) (hs : L.length ≤ 1048576) :
    Calls Try.prog 49 #[.agg #[.slice a n c, vc]] w fun e w' => e = .returned (.int .i64 (leastI L)) ∧ Ext w w' := by
  have HX := Lib.hid ((Ext.rfl' w).alloc' (.cells #[.slice a n c, vc] 68))
  obtain ⟨p0, p1, -, -⟩ := duo_facts (duo_made w (.slice a n c) vc 68)
  have hp : 0 < L.length := List.length_pos_iff.2 hL
  have H := Lib.hid h
  clear h
  go_enter Try.func49, Try.ntmps49
  go_wp2_with (first | (go_at_call 85; (with_reducible refine (minInts_any (n := L.length - 1) (H.out.ext HX.out) (by omega) (by omega)).mono ?_); rintro e w1 ⟨rfl, rfl⟩))
  go_ret
  exact ⟨rfl, HX.out⟩
theorem mutual_of {N : Net} (h : Good N) : Mutual N := by
  obtain ⟨h1, h2, h3, h4⟩ := h
  refine ⟨fun x h0 hx j hj => ?_⟩
  obtain ⟨_, hr⟩ := h2 x.toNat (by omega)
  obtain ⟨⟨a, b, c, d⟩, e, _⟩ := hr j hj
  refine ⟨(gp (gr N.ends x.toNat) j).toNat, ?_, ?_⟩
  · unfold rw'; omega
  · unfold rw'
    rw [e]; omega

/-- Whether the automorphisms are counted, and how many there are. -/
def AutB (N : Net) : Prop := Good N ∧ autN N ≤ 1000000000000
noncomputable def autA (N : Net) : Int := if dec (AutB N) = true then (autN N : Int) else 0
theorem aut_t {N : Net} (h : AutB N) : autA N = (autN N : Int) ∧ dec (AutB N) = true := by unfold autA; rw [dec_true h]; exact ⟨rfl, rfl⟩
theorem aut_f {N : Net} (h : ¬ AutB N) : autA N = 0 ∧ dec (AutB N) = false := by unfold autA; rw [dec_false h]; exact ⟨rfl, rfl⟩
theorem pcN_over {N : Net} (h : Good N) {k : Nat} (hk : k ≤ N.ends.length) (ho : 1000000000000 < pcN N k) : ¬ AutB N := fun ⟨_, h2⟩ => by
  have := pcN_mono (fun _ hv hr => ch_pos (good_w h).leads (mutual_of h) hv hr) k N.ends.length hk (Nat.le_refl _)
  unfold autN at h2
  omega
theorem pcN_pos {N : Net} (h : Good N) {k : Nat} (hk : k ≤ N.ends.length) : 1 ≤ pcN N k := pcN_mono (fun _ hv hr => ch_pos (good_w h).leads (mutual_of h) hv hr) 0 k (Nat.zero_le _) hk
theorem countP_succ {l : List Int} {p : Int → Bool} {t : Nat} (ht : t < l.length) : (l.take (t + 1)).countP p = (l.take t).countP p + if p (gi l t) = true then 1 else 0 := by
  have e : l.take (t + 1) = l.take t ++ [gi l t] := by
    rw [List.take_add_one, List.getElem?_eq_getElem ht]; simp [gi, List.getD, ht]
  rw [e, List.countP_append]
  cases h : p (gi l t) <;> simp [h]
theorem ret_ii {x y : Int} {b c : Bool} (h0 : x = y) (h : b = c) : Ending.returned (.tuple #[.int .i64 x, .bool b]) = .returned (.tuple #[.int .i64 y, .bool c]) := by rw [h0, h]

set_option maxHeartbeats 3200000 in
set_option maxRecDepth 100000 in
theorem automorphismCount_any {w : World} {v : Value} {N : Net} (h : NetAt w v N) :
    Calls Try.prog 20 #[v] w fun e w' => e = .returned (.tuple #[.int .i64 (autA N), .bool (dec (AutB N))]) ∧ Ext w w' := by
  have HN := Lib.hid h
  obtain ⟨v0, v1, v2, rfl, -, -, -⟩ := h
  have HX := Lib.hid (boxed_ext w v0 v1 v2 31)
  have HR := Lib.hid (row3_made w v0 v1 v2 31)
  obtain ⟨p0, p1, p2, -, -, -⟩ := row3_facts HR.out
  by_cases hg : Good N
  case neg =>
    have G := Lib.hid (dec_false hg)
    have A := Lib.hid (aut_f (N := N) fun h => hg h.1)
    clear hg
    go_enter Try.func20, Try.ntmps20
    go_wp2_with (first | (go_at_call 47; (with_reducible refine (isNetwork_any (HN.out.ext HX.out)).mono ?_); rintro e w1 ⟨rfl, hw⟩; rw [G.out]; have K1 := Lib.hid (HX.out.trans' hw); clear hw))
    go_ret2
    exact ⟨ret_ii A.out.1.symm A.out.2.symm, K1.out⟩
  have G := Lib.hid (dec_true hg)
  have HG := Lib.hid hg
  have GW := Lib.hid (good_w hg)
  have h40 : N.ends.length ≤ 40 := hg.1.2
  obtain ⟨n, hnn⟩ : ∃ n, n = N.ends.length := ⟨_, rfl⟩
  have HNN := Lib.hid hnn
  rw [← hnn] at h40
  clear hg
  go_enter Try.func20, Try.ntmps20
  go_wp2_with fail
  (with_reducible refine (isNetwork_any (HN.out.ext HX.out)).mono ?_)
  rintro e w1 ⟨rfl, hw⟩
  rw [G.out]
  have K1 := Lib.hid (HX.out.trans' hw)
  obtain ⟨q0, q1, q2, -, -, -⟩ := row3_facts (row_ext HR.out hw)
  clear hw p0 p1 p2
  go_wp2_with fail
  (with_reducible refine (walksOf_any (HN.out.ext K1.out) GW.out).mono ?_)
  rintro e w2 ⟨b, rfl, hx, hwk, -⟩
  have K2 := Lib.hid (K1.out.trans' hx)
  have HW0 := Lib.hid hwk
  rw [← hnn] at hwk ⊢
  have HW := Lib.hid hwk
  clear hx hwk q0 q1 q2 hnn
  go_wp2_with fail
  go_loopg [5, 18] n (fun g t5 i wr => ∃ k : Nat, k ≤ n ∧ g = n - k ∧ i = .int .i64 (k : Int) ∧ t5 = .int .i64 (pcN N k : Int) ∧ Hid (Ext w2 wr ∧ pcN N k ≤ 1000000000000))
  case atStart => exact ⟨0, Nat.zero_le _, rfl, rfl, rfl, Ext.rfl' _, by simp [pcN]⟩
  case round =>
    obtain ⟨k, hk, rfl, rfl, rfl, Hr⟩ := hrel
    by_cases hlt : k < n
    · obtain ⟨na, nc, ca, cc, bn, bc, c1, c2, on, oc⟩ := (HW.out.ext Hr.out.1).at (i := k) hlt (by rw [← HNN.out]; exact hlt)
      have hpc := Hr.out.2
      obtain ⟨wo, hwo⟩ : ∃ W : World, W = wr := ⟨_, rfl⟩
      subst hwo
      have XA := Lib.hid ((Ext.rfl' wo).alloc' (.cells #[.slice na (wk N k).length nc, .slice ca (code N k).length cc] 68))
      obtain ⟨a0, a1, -, -⟩ := duo_facts (duo_made wo (.slice na (wk N k).length nc) (.slice ca (code N k).length cc) 68)
      have ON := Lib.hid (on.read.ext XA.out)
      have OC := Lib.hid oc.read
      have hL40 : (wk N k).length ≤ 1048576 := by have := (wk_ok GW.out.leads (v := (k : Int)) (by have := HNN.out; omega)).len; have := HNN.out; omega
      clear on oc
      by_cases hr : lea N (k : Int) = (k : Int)
      · have e1 : (leastI (wk N (k : Int)) != (k : Int)) = false := by simpa [lea] using hr
        have HRP := Lib.hid (show rep N k = true from decide_eq_true hr)
        have HST := Lib.hid (show pcN N (k + 1) = pcN N k * chN N k by simp only [pcN]; rw [if_pos HRP.out])
        have hch := cntB_most N.ends.length (fun w => decide (code N (w : Int) = code N (k : Int) ∧ (k : Int) ≤ lea N (w : Int)))
        have hch40 : chN N k ≤ 40 := by have := HNN.out; unfold chN; omega
        clear hr hch
        go_wp2_with fail
        (with_reducible refine (leastNode_any ON.out wk_ne hL40).mono ?_)
        rintro e w3 ⟨rfl, hx⟩
        have X3 := Lib.hid (XA.out.trans' hx)
        have a1' := hx.cell' a1
        clear hx a0 a1 c1 c2
        go_wp2_with fail
        have NW := nodesWithCode_any (N := N) (c := code N (k : Int)) (HW0.out.ext (Hr.out.1.trans' X3.out)) (OC.out.ext X3.out) (by have := HNN.out; omega)
        rw [← HNN.out] at NW
        (with_reducible refine NW.mono ?_)
        rintro e w4 ⟨v', bs, rfl, hx, ho, -⟩
        clear NW
        have X4 := Lib.hid (X3.out.trans' hx)
        obtain ⟨Lw, hLw⟩ : ∃ L, L = withC N (code N (k : Int)) := ⟨_, rfl⟩
        have HLR := Lib.hid (show ∀ t, t < Lw.length → ∃ y : Nat, y < n ∧ gi Lw t = (y : Int) from fun t ht => by
          rw [hLw] at ht ⊢
          have := withCd_range N (code N (k : Int)) N.ends.length t ht
          exact ⟨(gi (withC N (code N (k : Int))) t).toNat, by have := HNN.out; unfold withC; omega, by unfold withC; omega⟩)
        have HCH := Lib.hid (show Lw.countP (fun x => decide ((k : Int) ≤ lea N x)) = chN N k by rw [hLw]; exact ch_withC N k)
        rw [← hLw] at ho
        obtain ⟨la, lb, lo, lcp, rfl, hla, hll, hlm, hlc⟩ := ho.read
        unfold maxLen at hlm
        have HLA := Lib.hid hla
        have HLC := Lib.hid hlc
        clear hx ho hla hlc hLw a1'
        go_wp2_with fail
        go_loopg [8, 32] Lw.length (fun g t8 i wx => ∃ t : Nat, t ≤ Lw.length ∧ g = Lw.length - t ∧ i = .int .i64 (t : Int) ∧ t8 = .int .i64 (((Lw.take t).countP (fun x => decide ((k : Int) ≤ lea N x)) : Nat) : Int) ∧ Hid (Ext w4 wx))
        case atStart => exact ⟨0, Nat.zero_le _, rfl, rfl, by simp, Ext.rfl' _⟩
        case round =>
          obtain ⟨t, ht, rfl, rfl, rfl, Hs⟩ := hrel
          have hcp : (Lw.take t).countP (fun x => decide ((k : Int) ≤ lea N x)) ≤ t := Nat.le_trans List.countP_le_length (by simp; omega)
          by_cases htl : t < Lw.length
          · obtain ⟨y, hy, hgy⟩ := HLR.out t htl
            obtain ⟨_, z1, rfl, _⟩ := HLC.out t htl
            obtain rfl := HLA.out (by omega)
            have z1' := Hs.out.cell' z1
            rw [hgy] at z1'
            obtain ⟨na2, nc2, ca2, cc2, bn2, bc2, d1, d2, on2, -⟩ := (HW.out.ext (Hr.out.1.trans' (X4.out.trans' Hs.out))).at (i := y) hy (by rw [← HNN.out]; exact hy)
            have ON2 := Lib.hid on2.read
            have hL42 : (wk N y).length ≤ 1048576 := by have := (wk_ok GW.out.leads (v := (y : Int)) (by have := HNN.out; omega)).len; have := HNN.out; omega
            have HGY := Lib.hid hgy
            clear z1 on2 hgy
            obtain ⟨ct, hct⟩ : ∃ ct, ct = (Lw.take t).countP (fun x => decide ((k : Int) ≤ lea N x)) := ⟨_, rfl⟩
            rw [← hct] at hcp ⊢
            have HCT := Lib.hid hct
            clear hct
            by_cases hle : (k : Int) ≤ lea N (y : Int)
            · have e2 : decide ((k : Int) ≤ leastI (wk N (y : Int))) = true := decide_eq_true hle
              have HC1 := Lib.hid (show (Lw.take (t + 1)).countP (fun x => decide ((k : Int) ≤ lea N x)) = ct + 1 by rw [countP_succ htl, ← HCT.out, HGY.out, if_pos (decide_eq_true hle)])
              clear hle
              go_wp2_with (first | (go_at_call 49; (with_reducible refine (leastNode_any ON2.out wk_ne hL42).mono ?_); rintro e w5 ⟨rfl, hx⟩; have X5 := Lib.hid (Hs.out.trans' hx); clear hx d1 d2))
              go_roundg (Lw.length - (t + 1))
              case measure => omega
              case rel => exact ⟨t + 1, by omega, rfl, by go_num, by rw [HC1.out]; go_num, X5.out⟩
            · have e2 : decide ((k : Int) ≤ leastI (wk N (y : Int))) = false := decide_eq_false hle
              have HC1 := Lib.hid (show (Lw.take (t + 1)).countP (fun x => decide ((k : Int) ≤ lea N x)) = ct by rw [countP_succ htl, ← HCT.out, HGY.out, if_neg (by simp [hle])]; rfl)
              clear hle
              go_wp2_with (first | (go_at_call 49; (with_reducible refine (leastNode_any ON2.out wk_ne hL42).mono ?_); rintro e w5 ⟨rfl, hx⟩; have X5 := Lib.hid (Hs.out.trans' hx); clear hx d1 d2))
              go_roundg (Lw.length - (t + 1))
              case measure => omega
              case rel => exact ⟨t + 1, by omega, rfl, by go_num, by rw [HC1.out], X5.out⟩
          · have e : t = Lw.length := by omega
            subst e
            rw [List.take_length, HCH.out]
            have hmul : (pcN N k : Int) * (chN N k : Int) = (pcN N (k + 1) : Int) := by rw [HST.out]; simp
            have hbig : pcN N (k + 1) ≤ 1000000000000 * 40 := by rw [HST.out]; exact Nat.mul_le_mul hpc hch40
            clear hcp
            by_cases hov : 1000000000000 < pcN N (k + 1)
            · have e3 : decide ((1000000000000 : Int) < (pcN N (k + 1) : Int)) = true := decide_eq_true (by omega)
              have A := Lib.hid (aut_f (N := N) (pcN_over HG.out (by have := HNN.out; omega) hov))
              clear hov
              go_wp2
              go_ret2
              exact ⟨ret_ii A.out.1.symm A.out.2.symm, K2.out.trans' (Hr.out.1.trans' (X4.out.trans' Hs.out))⟩
            · have e3 : decide ((1000000000000 : Int) < (pcN N (k + 1) : Int)) = false := decide_eq_false (by omega)
              have HOV := Lib.hid (show pcN N (k + 1) ≤ 1000000000000 by omega)
              clear hov
              go_wp2
              go_roundg (n - (k + 1))
              case measure => omega
              case rel => exact ⟨k + 1, by omega, rfl, by go_num, rfl, Hr.out.1.trans' (X4.out.trans' Hs.out), HOV.out⟩
      · have e1 : (leastI (wk N (k : Int)) != (k : Int)) = true := by simpa [lea] using hr
        have HRP := Lib.hid (show ¬ rep N k = true from fun h => hr (of_decide_eq_true h))
        have HST := Lib.hid (show pcN N (k + 1) = pcN N k by simp only [pcN]; rw [if_neg HRP.out])
        clear hr
        go_wp2_with (first | (go_at_call 49; (with_reducible refine (leastNode_any ON.out wk_ne hL40).mono ?_); rintro e w3 ⟨rfl, hx⟩; have X3 := Lib.hid (XA.out.trans' hx); clear hx a0 a1 c1 c2))
        go_roundg (n - (k + 1))
        case measure => omega
        case rel => exact ⟨k + 1, by omega, rfl, by go_num, by rw [HST.out], Hr.out.1.trans' X3.out, by rw [HST.out]; exact Hr.out.2⟩
    · obtain rfl : k = n := by omega
      have A := Lib.hid (aut_t (N := N) ⟨HG.out, by unfold autN; rw [← HNN.out]; exact Hr.out.2⟩)
      have HE := Lib.hid (show pcN N k = autN N by unfold autN; rw [← HNN.out])
      go_wp2
      go_ret2
      exact ⟨ret_ii (by rw [A.out.1, HE.out]) A.out.2.symm, K2.out.trans' Hr.out.1⟩
end Go.Proofs.Ytdoaopeegcakiaa
