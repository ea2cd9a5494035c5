/- Sizes of views as plain mathematics; the contracts of nextSizes, hasView and the program's ViewSize. -/
import Derived.Test.YtapkmhicajalaaaVo
namespace Go.Proofs.Ytapkmhicajalaaa
open Go.RowKit

/-- 1 and the sizes behind the first k ports. -/
def sumTo (c : List Int) (r : List (Int × Int)) : Nat → Int
  | 0 => 1
  | k + 1 => sumTo c r k + gi c (gn r k).toNat
def cap (x : Int) : Int := min x 1000001
/-- .. kept small at each step. -/
def leastTo (c : List Int) (r : List (Int × Int)) : Nat → Int
  | 0 => 1
  | k + 1 => cap (leastTo c r k + gi c (gn r k).toNat)
def szRow (N : Net) (c : List Int) (v : Nat) : Int := cap (sumTo c (gr N.ends v) (gr N.ends v).length)
def szNext (N : Net) (c : List Int) : List Int := (List.range N.ends.length).map (szRow N c)
def szP (N : Net) : Nat → List Int
  | 0 => List.replicate N.ends.length 0
  | t + 1 => szNext N (szP N t)
def szC (N : Net) : Nat → List Int
  | 0 => List.replicate N.ends.length 1
  | t + 1 => szNext N (szC N t)
theorem szNext_len (N : Net) (c : List Int) : (szNext N c).length = N.ends.length := by simp [szNext]
theorem gi_szNext {N : Net} {c : List Int} {v : Nat} (h : v < N.ends.length) : gi (szNext N c) v = szRow N c v := by simp [gi, szNext, h]
/-- Sizes that are small. -/
def SzOK (N : Net) (c : List Int) : Prop := c.length = N.ends.length ∧ ∀ i, i < N.ends.length → 0 ≤ gi c i ∧ gi c i ≤ 1000001
theorem sumTo_bound {c : List Int} {r : List (Int × Int)} {n : Nat} (hc : ∀ i, i < n → 0 ≤ gi c i ∧ gi c i ≤ 1000001) (hr : ∀ i, i < r.length → 0 ≤ gn r i ∧ gn r i < (n : Int)) : ∀ k, k ≤ r.length → 1 ≤ sumTo c r k ∧ sumTo c r k ≤ 1 + 1000001 * k
  | 0, _ => by simp [sumTo]
  | k + 1, hk => by
    have ih := sumTo_bound hc hr k (by omega)
    have h1 := hr k (by omega)
    have h2 := hc (gn r k).toNat (by omega)
    simp only [sumTo]
    omega
theorem least_sum {c : List Int} {r : List (Int × Int)} {n : Nat} (hc : ∀ i, i < n → 0 ≤ gi c i ∧ gi c i ≤ 1000001) (hr : ∀ i, i < r.length → 0 ≤ gn r i ∧ gn r i < (n : Int)) : ∀ k, k ≤ r.length → leastTo c r k = cap (sumTo c r k)
  | 0, _ => rfl
  | k + 1, hk => by
    have ih := least_sum hc hr k (by omega)
    have h1 := hr k (by omega)
    have h2 := hc (gn r k).toNat (by omega)
    simp only [leastTo, sumTo, ih]
    unfold cap
    omega
theorem szNext_ok {N : Net} {c : List Int} (hN : NodesIn N) (h : SzOK N c) : SzOK N (szNext N c) := by
  refine ⟨szNext_len N c, fun i hi => ?_⟩
  rw [gi_szNext hi]
  have := (sumTo_bound h.2 (hN.node i hi) _ (Nat.le_refl _)).1
  unfold szRow cap; omega
theorem gi_rep (n : Nat) (x : Int) (i : Nat) (h : i < n) : gi (List.replicate n x) i = x := by simp [gi, List.getD, h]
theorem szP_ok {N : Net} (hN : NodesIn N) : ∀ t, SzOK N (szP N t)
  | 0 => ⟨by simp [szP], fun i hi => by rw [szP, gi_rep _ _ _ hi]; omega⟩
  | t + 1 => szNext_ok hN (szP_ok hN t)
theorem szC_ok {N : Net} (hN : NodesIn N) : ∀ t, SzOK N (szC N t)
  | 0 => ⟨by simp [szC], fun i hi => by rw [szC, gi_rep _ _ _ hi]; omega⟩
  | t + 1 => szNext_ok hN (szC_ok hN t)
theorem sum_zero {r : List (Int × Int)} {n : Nat} (hr : ∀ i, i < r.length → 0 ≤ gn r i ∧ gn r i < (n : Int)) : ∀ k, k ≤ r.length → sumTo (List.replicate n 0) r k = 1
  | 0, _ => rfl
  | k + 1, hk => by
    have h1 := hr k (by omega)
    simp only [sumTo]
    rw [sum_zero hr k (by omega), gi_rep _ _ _ (by omega)]; rfl
theorem szP_C {N : Net} (hN : NodesIn N) : ∀ t, szP N (t + 1) = szC N t
  | 0 => by
    show szNext N (List.replicate _ 0) = List.replicate _ 1
    refine ints_eq (by simp [szNext]) fun i hi => ?_
    rw [szNext_len] at hi
    rw [gi_szNext hi, gi_rep _ _ _ hi, szRow, sum_zero (hN.node i hi) _ (Nat.le_refl _)]; rfl
  | t + 1 => by
    show szNext N (szP N (t + 1)) = szNext N (szC N t)
    rw [szP_C hN t]

def HVOK (N : Net) (x t : Int) : Prop := NodeAns N x ∧ InB t 0 80
def VSOK (N : Net) (x t : Int) : Prop := HVOK N x t ∧ gi (szC N t.toNat) x.toNat ≤ 1000000
noncomputable def vsI (N : Net) (x t : Int) : Int := if dec (VSOK N x t) = true then gi (szC N t.toNat) x.toNat else 0
theorem vsI_t {N : Net} {x t : Int} (h : VSOK N x t) : vsI N x t = gi (szC N t.toNat) x.toNat := by simp [vsI, dec_true h]
theorem vsI_f {N : Net} {x t : Int} (h : ¬ VSOK N x t) : vsI N x t = 0 := by simp [vsI, dec_false h]

set_option maxHeartbeats 1600000 in
set_option maxRecDepth 100000 in
theorem hasView_any {w : World} {v : Value} {N : Net} (x t : Int) (h : NetAt w v N) :
    Calls Try.prog 76 #[v, .int .i64 x, .int .i64 t] w fun e w' => e = .returned (.bool (dec (HVOK N x t))) ∧ Ext w w' := by
  have HN := Lib.hid h
  obtain ⟨v0, v1, v2, rfl, -, -, -⟩ := h
  have HX := Lib.hid (boxed_ext w v0 v1 v2 31)
  have HR := Lib.hid (row3_made w v0 v1 v2 31)
  obtain ⟨p0, p1, p2, -, -, -⟩ := row3_facts HR.out
  by_cases hg : Good N
  case neg =>
    have G := Lib.hid (dec_false hg)
    have D := Lib.hid (dec_false (p := HVOK N x t) fun h => hg h.1.1)
    clear hg
    go_enter Try.func76, Try.ntmps76
    go_wp2_with (go_at_call 63; (with_reducible refine (isNetwork_any (HN.out.ext HX.out)).mono ?_); rintro e w1 ⟨rfl, hw⟩; rw [G.out]; have K1 := Lib.hid (HX.out.trans' hw); clear hw)
    go_ret
    exact ⟨bool_of D.out.symm, K1.out⟩
  have G := Lib.hid (dec_true hg)
  by_cases hx : NodeOK N x
  case neg =>
    have GX := Lib.hid (dec_false hx)
    have D := Lib.hid (dec_false (p := HVOK N x t) fun h => hx h.1.2)
    clear hg hx
    go_enter Try.func76, Try.ntmps76
    go_wp2_with fail
    (with_reducible refine (isNetwork_any (HN.out.ext HX.out)).mono ?_)
    rintro e w1 ⟨rfl, hw⟩
    rw [G.out]
    have K1 := Lib.hid (HX.out.trans' hw)
    obtain ⟨q0, q1, q2, -, -, -⟩ := row3_facts (row_ext HR.out hw)
    clear hw p0 p1 p2
    go_wp2_with (go_at_call 116; (with_reducible refine (hasNode_any x (HN.out.ext K1.out)).mono ?_); rintro e w2 ⟨rfl, hw⟩; rw [GX.out]; have K2 := Lib.hid (K1.out.trans' hw); clear hw)
    go_ret
    exact ⟨bool_of D.out.symm, K2.out⟩
  have GX := Lib.hid (dec_true hx)
  have D := Lib.hid (show dec (InB t 0 80) = dec (HVOK N x t) from dec_congr ⟨fun h => ⟨⟨hg, hx⟩, h⟩, fun h => h.2⟩)
  clear hg hx
  go_enter Try.func76, Try.ntmps76
  go_wp2_with fail
  (with_reducible refine (isNetwork_any (HN.out.ext HX.out)).mono ?_)
  rintro e w1 ⟨rfl, hw⟩
  rw [G.out]
  have K1 := Lib.hid (HX.out.trans' hw)
  obtain ⟨q0, q1, q2, -, -, -⟩ := row3_facts (row_ext HR.out hw)
  clear hw p0 p1 p2
  go_wp2_with (first | (go_at_call 116; (with_reducible refine (hasNode_any x (HN.out.ext K1.out)).mono ?_); rintro e w2 ⟨rfl, hw⟩; rw [GX.out]; have K2 := Lib.hid (K1.out.trans' hw); clear hw) | (go_at_call 64; (with_reducible refine (viewDepth_any _ _).mono ?_); rintro e w3 ⟨rfl, rfl⟩; rw [D.out]))
  go_ret
  exact ⟨rfl, K2.out⟩

set_option maxHeartbeats 3200000 in
set_option maxRecDepth 100000 in
theorem nextSizes_any {w : World} {v vc : Value} {N : Net} {c : List Int} (h : NetAt w v N) (hC : IntSl w vc c) (hN : NodesIn N) (hc : SzOK N c) (hs : N.ends.length ≤ 1048576) (h6 : ∀ v, v < N.ends.length → (gr N.ends v).length ≤ 6) :
    Calls Try.prog 77 #[v, vc] w fun e w' => ∃ b, e = .returned (.slice (some ⟨b, 0, none⟩) N.ends.length N.ends.length) ∧ Ext w w' ∧ OwnI w' (.slice (some ⟨b, 0, none⟩) N.ends.length N.ends.length) (szNext N c) [b] ∧ w.heap.size ≤ b := by
  have HNI := Lib.hid hN
  have HOK := Lib.hid hc
  have H6 := Lib.hid h6
  clear hN h6
  obtain ⟨v0, v1, v2, rfl, hE, hI, hP⟩ := h
  clear hI hP
  obtain ⟨a, b1, o, d, rfl, ha, hn, hm, hcl⟩ := hE
  obtain ⟨a3, b3, o3, d3, rfl, ha3, hn3, hm3, hc3⟩ := hC
  unfold maxLen at hm hm3
  rw [hc.1] at hn3 ha3 hc3 ⊢
  have Hc := Lib.hid hcl
  have Ha := Lib.hid ha
  have Hc3 := Lib.hid hc3
  have Ha3 := Lib.hid ha3
  clear hcl ha hc3 ha3 hc
  have HX := Lib.hid ((Ext.rfl' w).alloc' (.cells #[.slice a N.ends.length d, v1, v2] 31))
  have HR := Lib.hid (row3_made w (.slice a N.ends.length d) v1 v2 31)
  obtain ⟨n, hnn⟩ : ∃ n, n = N.ends.length := ⟨_, rfl⟩
  rw [← hnn] at hs hn hn3 HX HR Ha Hc3 Ha3 Hc ⊢
  have HNN := Lib.hid hnn
  clear hnn
  have hmk := run_make_row' (P := Try.prog) 23 3 (.int .i64 0) 8 Try.underlying23 Try.info3 rfl .i64 .i64 n (by omega) (by omega)
  obtain ⟨q0, q1, q2, -, -, -⟩ := row3_facts (row_ext HR.out ((Ext.rfl' _).alloc' (.cells (madeCells #[.int .i64 0] n) 3)))
  go_enter Try.func77, Try.ntmps77
  go_wp2
  clear hmk q0 q1 q2
  go_loopg [17] n (fun g i wr => ∃ v : Nat, v ≤ n ∧ g = n - v ∧ i = .int .i64 v ∧ Hid (Ext w wr ∧ wr.rowIs (w.heap.size + 1) 3 n (copied (szNext N c) v)))
  case atStart => exact ⟨0, Nat.zero_le _, rfl, rfl, HX.out.alloc' _, (show ((w.alloc (.cells #[.slice a n d, v1, v2] 31)).alloc (.cells (madeCells #[.int .i64 0] n) 3)).rowIs (w.heap.size + 1) 3 n (fun _ => .int .i64 0) from by simpa using World.rowIs_made (w.alloc (.cells #[.slice a n d, v1, v2] 31)) (.int .i64 0) n 3).congr fun i _ => by simp [copied]⟩
  case round =>
    obtain ⟨v, hv, rfl, rfl, Hr⟩ := hrel
    by_cases hlt : v < n
    · obtain ⟨z, hz, hrow⟩ := Hc.out v hlt
      obtain ⟨a4, b4, o4, d4, rfl, ha4, hn4, hm4, hc4⟩ := hrow
      unfold maxLen at hm4
      have Hc4 := Lib.hid hc4
      have Ha4 := Lib.hid ha4
      obtain rfl := Ha.out (by omega)
      have hz' := Hr.out.1.cell' hz
      have hl6 := H6.out v (by have := HNN.out; omega)
      have HB := Lib.hid (sumTo_bound (r := gr N.ends v) HOK.out.2 (HNI.out.node v (by have := HNN.out; omega)))
      clear hc4 ha4 hz
      go_wp2
      have hw0 : ∃ wo : World, wo = wr := ⟨_, rfl⟩
      obtain ⟨wo, rfl⟩ := hw0
      clear hz'
      go_loopg [8, 24] (gr N.ends v).length (fun g s i wx => ∃ j : Nat, j ≤ (gr N.ends v).length ∧ g = (gr N.ends v).length - j ∧ i = .int .i64 j ∧ s = .int .i64 (sumTo c (gr N.ends v) j) ∧ Hid (Ext w wx ∧ wx.rowIs (w.heap.size + 1) 3 n (copied (szNext N c) v)))
      case atStart => exact ⟨0, Nat.zero_le _, rfl, rfl, rfl, Hr.out⟩
      case round =>
        obtain ⟨j, hj, rfl, rfl, rfl, Hs⟩ := hrel
        by_cases hjt : j < (gr N.ends v).length
        · obtain ⟨r1, r2, _, _⟩ := Hc4.out j hjt
          obtain rfl := Ha4.out (by omega)
          have hnd := HNI.out.node v (by have := HNN.out; omega) j hjt
          obtain ⟨m, em⟩ := Int.eq_ofNat_of_zero_le hnd.1
          have hmn : m < n := by have := HNN.out; omega
          obtain ⟨_, k1, rfl, _⟩ := Hc3.out m hmn
          obtain rfl := Ha3.out (by omega)
          have E := Lib.hid (show sumTo c (gr N.ends v) (j + 1) = sumTo c (gr N.ends v) j + gi c m by simp only [sumTo, em, Int.toNat_natCast])
          have hb1 := HB.out j hj
          have hb2 := HOK.out.2 m (by have := HNN.out; omega)
          have r1' := Hs.out.1.cell' r1
          have r2' := Hs.out.1.cell' r2
          rw [em] at r1'
          have HXX := Lib.hid ((Ext.rfl' wr).alloc' (.cells #[.int .i64 (m : Int), .int .i64 (gp (gr N.ends v) j)] 79))
          have k1' := HXX.out.cell' (Hs.out.1.cell' k1)
          clear r1 r2 hnd em k1
          go_wp2
          go_roundg ((gr N.ends v).length - (j + 1))
          case measure => omega
          case rel => exact ⟨j + 1, by omega, rfl, by go_num, by rw [E.out], Hs.out.1.trans' HXX.out, row_ext Hs.out.2 HXX.out⟩
        · obtain rfl : j = (gr N.ends v).length := by omega
          have hcv := Hs.out.2.cell hlt
          have hfr := Hs.out.2.frozen v
          have hb1 := HB.out _ (Nat.le_refl _)
          have GV := Lib.hid (show gi (szNext N c) v = cap (sumTo c (gr N.ends v) (gr N.ends v).length) from gi_szNext (by have := HNN.out; omega))
          by_cases hsm : sumTo c (gr N.ends v) (gr N.ends v).length ≤ 1000001
          · have SV := Lib.hid (show gi (szNext N c) v = sumTo c (gr N.ends v) (gr N.ends v).length by rw [GV.out]; unfold cap; omega)
            go_wp2
            go_roundg (n - (v + 1))
            case measure => omega
            case rel => exact ⟨v + 1, by omega, rfl, by go_num, Hs.out.1.store (by simp) _, by rw [← SV.out]; exact copied_step Hs.out.2⟩
          · have SV := Lib.hid (show gi (szNext N c) v = 1000001 by rw [GV.out]; unfold cap; omega)
            go_wp2
            go_roundg (n - (v + 1))
            case measure => omega
            case rel => exact ⟨v + 1, by omega, rfl, by go_num, Hs.out.1.store (by simp) _, by rw [← SV.out]; exact copied_step Hs.out.2⟩
    · go_wp2
      go_ret
      obtain rfl : v = n := by omega
      exact ⟨w.heap.size + 1, rfl, Hr.out.1, own_row (by rw [szNext_len]; exact HNN.out.symm) (fun i hi => by have := (szNext_ok HNI.out HOK.out).2 i (by have := HNN.out; omega); unfold inI64; omega) hs Hr.out.2, by omega⟩
end Go.Proofs.Ytapkmhicajalaaa
