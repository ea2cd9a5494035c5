/- IsForest. -/
import Derived.Test.YtkeiaahlifdbiaaZgs
import Derived.Test.YtkeiaahlifdbiaaZfm
import Derived.Test.YtkeiaahlifdbiaaZik
namespace Go.Proofs.Ytkeiaahlifdbiaa
open Go.RowKit

def ForB (N : Net) : Prop := Good N ∧ NoCyc N
theorem ret_bf {x y : Bool} {b c : Bool} (h : x = y) (k : b = c) : Ending.returned (.tuple #[.bool x, .bool b]) = .returned (.tuple #[.bool y, .bool c]) := by rw [h, k]
theorem part_rp {N : Net} (hg : Good N) {v : Nat} (hv : v < N.ends.length) : gi (parts N) v = (v : Int) ↔ Rp (pairs N) v := by
  have hx : 0 ≤ (v : Int) ∧ (v : Int) < N.ends.length := by omega
  have hN := (good_w hg).leads
  have hp := wkTo_pos N (v : Int) N.ends.length
  rw [← least_iff hg hv, show gi (parts N) v = lessL (wk N (v : Int)) from gi_tab hv]
  obtain ⟨i, hi, he⟩ := lessL_at (l := wk N (v : Int)) hp
  have hh : (v : Int) ∈ wk N (v : Int) := (far hN hx).here
  constructor
  · intro h x hm
    obtain ⟨j, hj, rfl⟩ := in_gi hm
    have := lessL_le hj
    omega
  · intro h
    have h1 := h _ (gi_in hi)
    obtain ⟨j, hj, hje⟩ := in_gi hh
    have h2 := lessL_le hj
    omega
theorem forest_iff {N : Net} (hg : Good N) : (edgesTo N N.ends.length).length + rc (pairs N) N.ends.length = N.ends.length ↔ NoCyc N := by
  have h := (jn_count (n := N.ends.length) (pairs N) fun e he => by
    obtain ⟨q, hq, rfl⟩ := List.mem_map.1 he
    exact ends2_lt hg q hq).2
  rw [noCyc_iff hg, ← h]
  unfold pairs
  rw [List.length_map]
theorem rc_le (L : List (Nat × Nat)) : ∀ k, rc L k ≤ k
  | 0 => Nat.le_refl _
  | k + 1 => by
    have := rc_le L k
    simp only [rc]
    split <;> omega

set_option maxHeartbeats 6400000 in
set_option maxRecDepth 100000 in
theorem forestX_any {w : World} {vn : Value} {N : Net} (h : NetAt w vn N) :
    Calls Try.prog 58 #[vn] w fun e w' => e = .returned (.tuple #[.bool (dec (ForB N)), .bool (dec (Good N))]) ∧ Ext w w' := by
  have HA := Lib.hid h
  obtain ⟨v0, v1, v2, rfl, hEa, -, -⟩ := h
  obtain ⟨fa, fb, fo, fc, rfl, hfa, hfl, hfm, hfc⟩ := hEa
  unfold maxLen at hfm
  clear hfa hfc
  obtain ⟨W1, hW1⟩ : ∃ W1, W1 = w.alloc (.cells #[.slice fa N.ends.length fc, v1, v2] 29) := ⟨_, rfl⟩
  have K0 := Lib.hid (show Ext w W1 by rw [hW1]; exact boxed_ext _ _ _ _ _)
  have R0 := Lib.hid (show W1.rowIs w.heap.size 29 3 (tri (.slice fa N.ends.length fc) v1 v2) by rw [hW1]; exact boxed_row _ _ _ _ _)
  obtain ⟨p0, p1, p2, -, -, -⟩ := row3_facts R0.out
  rw [hW1] at p0 p1 p2
  go_enter Try.func58, Try.ntmps58
  go_wp2_with fail
  rw [← hW1]
  clear hW1 p0 p1 p2
  (with_reducible refine (edgesOf_any (HA.out.ext K0.out)).mono ?_)
  rintro e w1 ⟨ve, es, rfl, hw, ho, hf⟩
  have K1 := Lib.hid (K0.out.trans' hw)
  have R1 := Lib.hid (row_ext R0.out hw)
  obtain ⟨p0, p1, p2, -, -, -⟩ := row3_facts R1.out
  have HO := Lib.hid ho.read
  clear hw ho hf
  go_wp2_with fail
  clear p0 p1 p2
  (with_reducible refine (componentsX_any (HA.out.ext K1.out)).mono ?_)
  rintro e w2 ⟨vp, ps, rfl, hw, ho, hf⟩
  have X2 := Lib.hid hw
  have K2 := Lib.hid (K1.out.trans' hw)
  have R2 := Lib.hid (row_ext R1.out hw)
  have HP := Lib.hid ho
  clear hw ho hf
  by_cases hg : Good N
  case neg =>
    have D := Lib.hid (dec_false (show ¬ ForB N from fun k => hg k.1))
    have DG := Lib.hid (dec_false hg)
    have HE := HO.out
    rw [edAns_f hg] at HE
    have HQ := HP.out
    rw [ansOf_f hg] at HQ
    obtain ⟨ea, eb, eo, ec, rfl, -, -, -, -⟩ := HE
    obtain ⟨pa, pc, rfl⟩ := HQ.1.slice
    rw [DG.out]
    clear hg HQ
    simp only [List.length_nil]
    go_wp2_with fail
    go_loopg [8, 23] 0 (fun g s i wr => g = 0 ∧ s = .int .i64 0 ∧ i = .int .i64 0 ∧ Hid (Ext w2 wr))
    case atStart => exact ⟨rfl, rfl, rfl, Ext.rfl' _⟩
    case round =>
      obtain ⟨rfl, rfl, rfl, Hr⟩ := hrel
      go_wp2
      go_ret2
      exact ⟨ret_bf D.out.symm DG.out.symm, K2.out.trans' Hr.out⟩
  have HG := Lib.hid hg
  have DG := Lib.hid (dec_true hg)
  have HGW := Lib.hid (good_w hg)
  have hA1 := HGW.out.one
  have hA40 := HGW.out.most
  have hL := (edgesTo_len N (good_rows hg) N.ends.length (Nat.le_refl _)).1
  have HFI := Lib.hid (forest_iff hg)
  have HPR := Lib.hid (fun (v : Nat) (hv : v < N.ends.length) => part_rp hg hv)
  have HE := HO.out
  rw [edAns_t hg] at HE
  have HQ := HP.out
  rw [ansOf_t hg] at HQ
  have HPL := Lib.hid (show (parts N).length = N.ends.length from tab_len _ _)
  obtain ⟨m, hm⟩ : ∃ m, m = (edgesTo N N.ends.length).length := ⟨_, rfl⟩
  rw [← hm] at hL HFI
  have HM := Lib.hid hm
  obtain ⟨ea, eb, eo, ec, rfl, -, -, -, -⟩ := HE
  obtain ⟨pa, pc, rfl⟩ := HQ.1.slice
  have OP := Lib.hid HQ
  rw [HPL.out] at OP ⊢
  rw [DG.out, ← HM.out]
  clear hg HQ hm
  go_wp2_with fail
  go_loopg [8, 23] N.ends.length (fun g s i wr => ∃ k : Nat, k ≤ N.ends.length ∧ g = N.ends.length - k ∧ i = .int .i64 k ∧ s = .int .i64 (rc (pairs N) k) ∧ Hid (Ext w2 wr))
  case atStart => exact ⟨0, Nat.zero_le _, rfl, rfl, rfl, Ext.rfl' _⟩
  case round =>
    obtain ⟨k, hk, rfl, rfl, rfl, X0⟩ := hrel
    have hrc := rc_le (pairs N) k
    by_cases hlt : k < N.ends.length
    · obtain ⟨na', nb', no', nc', e, ha, hl, hmx, hcn⟩ := (OP.out.ext X0.out).read
      simp only [Value.slice.injEq] at e
      obtain ⟨rfl, -, rfl⟩ := e
      rw [HPL.out] at ha hl
      obtain rfl := ha (by omega)
      obtain ⟨_, hn1, rfl, _⟩ := hcn k (by rw [HPL.out]; exact hlt)
      unfold maxLen at hmx
      have HPK := Lib.hid (HPR.out k hlt)
      obtain ⟨d, hd⟩ : ∃ d, d = gi (parts N) k := ⟨_, rfl⟩
      rw [← hd] at hn1 HPK
      clear hcn ha hd
      obtain ⟨r, hr⟩ : ∃ r, r = rc (pairs N) k := ⟨_, rfl⟩
      by_cases hp : d = (k : Int)
      · have HR := Lib.hid (show rc (pairs N) (k + 1) = r + 1 by simp only [rc]; rw [if_pos (HPK.out.1 hp), hr])
        have hbq : ((k : Int) == d) = true := by rw [hp]; simp
        rw [← hr] at hrc ⊢
        clear hp hr
        go_wp2
        go_roundg (N.ends.length - (k + 1))
        case measure => omega
        case rel => exact ⟨k + 1, by omega, rfl, by go_num, by rw [HR.out]; go_num, X0.out⟩
      · have HR := Lib.hid (show rc (pairs N) (k + 1) = r by simp only [rc]; rw [if_neg fun q => hp (HPK.out.2 q), hr])
        have hbq : ((k : Int) == d) = false := beq_eq_false_iff_ne.2 fun q => hp q.symm
        rw [← hr] at hrc ⊢
        clear hp hr
        go_wp2
        go_roundg (N.ends.length - (k + 1))
        case measure => omega
        case rel => exact ⟨k + 1, by omega, rfl, by go_num, by rw [HR.out], X0.out⟩
    · obtain rfl : k = N.ends.length := by omega
      obtain ⟨r, hr⟩ : ∃ r, r = rc (pairs N) N.ends.length := ⟨_, rfl⟩
      rw [← hr] at HFI hrc ⊢
      obtain ⟨p0, p1, p2, -, -, -⟩ := row3_facts (row_ext R2.out X0.out)
      clear hr
      by_cases hf : NoCyc N
      · have D := Lib.hid (dec_true (show ForB N from ⟨HG.out, hf⟩))
        have hbq : (((m : Int) + (r : Int)) == (N.ends.length : Int)) = true := by have := HFI.out.2 hf; simp; omega
        clear hf
        go_wp2
        go_ret2
        exact ⟨ret_bf D.out.symm DG.out.symm, K2.out.trans' X0.out⟩
      · have D := Lib.hid (dec_false (show ¬ ForB N from fun k => hf k.2))
        have hbq : (((m : Int) + (r : Int)) == (N.ends.length : Int)) = false := beq_eq_false_iff_ne.2 fun q => hf (HFI.out.1 (by omega))
        clear hf
        go_wp2
        go_ret2
        exact ⟨ret_bf D.out.symm DG.out.symm, K2.out.trans' X0.out⟩

/-- There is a stub. -/
def HasStub (N : Net) : Prop := ∃ v, v < N.ends.length ∧ ∃ i, i < (gr N.ends v).length ∧ IsStub N v i
set_option maxHeartbeats 6400000 in
set_option maxRecDepth 100000 in
theorem meStub_any {w : World} {vn : Value} {N : Net} (h : NetAt w vn N) (hg : Good N) :
    Calls Try.prog 146 #[vn] w fun e w' => e = .returned (.bool (dec (HasStub N))) ∧ Ext w w' := by
  have HG := Lib.hid hg
  obtain ⟨v0, v1, v2, rfl, hEa, -, -⟩ := h
  obtain ⟨ea, eb, eo, ec, rfl, hea, hel, hem, hec⟩ := hEa
  unfold maxLen at hem
  have HEA := Lib.hid hea
  have HEC := Lib.hid hec
  have h40 : N.ends.length ≤ 40 := hg.1.2
  clear hea hec hg
  obtain ⟨W1, hW1⟩ : ∃ W1, W1 = w.alloc (.cells #[.slice ea N.ends.length ec, v1, v2] 29) := ⟨_, rfl⟩
  have K0 := Lib.hid (show Ext w W1 by rw [hW1]; exact boxed_ext _ _ _ _ _)
  have R0 := Lib.hid (show W1.rowIs w.heap.size 29 3 (tri (.slice ea N.ends.length ec) v1 v2) by rw [hW1]; exact boxed_row _ _ _ _ _)
  obtain ⟨p0, p1, p2, -, -, -⟩ := row3_facts R0.out
  rw [hW1] at p0 p1 p2
  go_enter Try.func146, Try.ntmps146
  go_wp2_with fail
  rw [← hW1]
  clear hW1 p0 p1 p2
  go_loopg [9] N.ends.length (fun g i wr => ∃ k : Nat, k ≤ N.ends.length ∧ g = N.ends.length - k ∧ i = .int .i64 k ∧ Hid (Ext W1 wr ∧ ∀ v, v < k → ∀ i, i < (gr N.ends v).length → ¬ IsStub N v i))
  case atStart => exact ⟨0, Nat.zero_le _, rfl, rfl, Ext.rfl' _, fun v hv => absurd hv (by omega)⟩
  case round =>
    obtain ⟨v, hk, rfl, rfl, Hr⟩ := hrel
    have Y0 := Lib.hid Hr.out.1
    have Q0 := Lib.hid Hr.out.2
    have F0 := Lib.hid (K0.out.trans' Y0.out)
    clear Hr
    by_cases hvn : v < N.ends.length
    · obtain rfl := HEA.out (by omega)
      obtain ⟨_, hra, hrowa⟩ := HEC.out v hvn
      obtain ⟨aa, ab, ao, ac, rfl, haa, hal, ham, hac⟩ := hrowa
      unfold maxLen at ham
      have HAA := Lib.hid haa
      have HAC := Lib.hid hac
      have x1 := F0.out.cell' hra
      have h6 := good_rows HG.out v hvn
      obtain ⟨p0, p1, p2, -, -, -⟩ := row3_facts (row_ext R0.out Y0.out)
      clear haa hac hra
      obtain ⟨wv, hwv⟩ : ∃ wv : World, wv = wr := ⟨_, rfl⟩
      subst hwv
      go_wp2_with fail
      clear x1 p0 p1 p2
      go_loopg [18] (gr N.ends v).length (fun g i wx => ∃ j : Nat, j ≤ (gr N.ends v).length ∧ g = (gr N.ends v).length - j ∧ i = .int .i64 j ∧ Hid (Ext W1 wx ∧ ∀ t, t < j → ¬ IsStub N v t))
      case atStart => exact ⟨0, Nat.zero_le _, rfl, rfl, Y0.out, fun t ht => absurd ht (by omega)⟩
      case round =>
        obtain ⟨j, hj, rfl, rfl, Hs⟩ := hrel
        have Y1 := Lib.hid Hs.out.1
        have Q1 := Lib.hid Hs.out.2
        have F1 := Lib.hid (K0.out.trans' Y1.out)
        clear Hs
        by_cases hjt : j < (gr N.ends v).length
        · obtain rfl := HAA.out (by omega)
          obtain ⟨f1, f2, -⟩ := HAC.out j hjt
          obtain ⟨x, y, hot⟩ := oth HG.out hvn hjt
          rw [hot.n1] at f1
          rw [hot.p1] at f2
          have s1 := F1.out.cell' f1
          have s2 := F1.out.cell' f2
          have HST := Lib.hid (show IsStub N v j ↔ (x = v ∧ y = j) by unfold IsStub; rw [hot.n1, hot.p1]; omega)
          obtain ⟨W2, hW2⟩ : ∃ W2, W2 = wr.alloc (.cells #[.int .i64 x, .int .i64 y] 66) := ⟨_, rfl⟩
          have E2 := Lib.hid (show Ext W1 W2 by rw [hW2]; exact Y1.out.alloc' _)
          have R2 := Lib.hid (show W2.rowIs wr.heap.size 66 2 (duok (.int .i64 x) (.int .i64 y)) by rw [hW2]; exact duo_madek _ _ _ _)
          have F2 := Lib.hid (K0.out.trans' E2.out)
          obtain ⟨r0, r1, -, -⟩ := duo_factsk R2.out
          clear f1 f2 hot
          go_upto_region 7 with fail
          rw [← hW2]
          clear hW2 s1 s2
          by_cases hs : x = v ∧ y = j
          · have D := Lib.hid (dec_true (show HasStub N from ⟨v, hvn, j, hjt, HST.out.2 hs⟩))
            obtain ⟨rfl, rfl⟩ := hs
            go_wp2
            go_ret
            exact ⟨ret_bool D.out.symm, F2.out⟩
          · have HNS := Lib.hid hs
            have Q2 := Lib.hid (show ∀ t, t < j + 1 → ¬ IsStub N v t from fun t ht => by
              by_cases e : t = j
              · subst e; exact fun k => hs (HST.out.1 k)
              · exact Q1.out t (by omega))
            go_cut [27] from 22 to 28 (fun t27 wx => t27 = .bool false ∧ wx = W2)
            case first =>
              go_wp2
              all_goals first | (exfalso; have := HNS.out; omega) | go_meet
              all_goals exact ⟨rfl, rfl⟩
            obtain ⟨rfl, rfl⟩ := hcut
            clear hs r0 r1
            go_wp2
            go_roundg ((gr N.ends v).length - (j + 1))
            case measure => omega
            case rel => exact ⟨j + 1, by omega, rfl, by go_num, E2.out, Q2.out⟩
        · obtain rfl : j = (gr N.ends v).length := by omega
          have Q2 := Lib.hid (show ∀ u, u < v + 1 → ∀ i, i < (gr N.ends u).length → ¬ IsStub N u i from fun u hu i hi => by
            by_cases e : u = v
            · subst e; exact Q1.out i hi
            · exact Q0.out u (by omega) i hi)
          go_wp2
          go_roundg (N.ends.length - (v + 1))
          case measure => omega
          case rel => exact ⟨v + 1, by omega, rfl, by go_num, Y1.out, Q2.out⟩
    · obtain rfl : v = N.ends.length := by omega
      have D := Lib.hid (dec_false (show ¬ HasStub N from fun ⟨u, hu, i, hi, hs⟩ => Q0.out u hu i hi hs))
      go_wp2
      go_ret
      exact ⟨ret_bool D.out.symm, F0.out⟩

theorem noCyc_stub {N : Net} : NoCyc N ↔ ¬ HasStub N ∧ girth N = 0 :=
  ⟨fun h => ⟨fun ⟨u, hu, i, hi, hs⟩ => h.1 u hu i hi hs, h.2⟩, fun h => ⟨fun u hu i hi hs => h.1 ⟨u, hu, i, hi, hs⟩, h.2⟩⟩
set_option maxHeartbeats 3200000 in
set_option maxRecDepth 100000 in
theorem meForest_any {w : World} {vn : Value} {N : Net} (h : NetAt w vn N) (hg : Good N) :
    Calls Try.prog 112 #[vn] w fun e w' => e = .returned (.bool (dec (NoCyc N))) ∧ Ext w w' := by
  have HA := Lib.hid h
  have HG := Lib.hid hg
  obtain ⟨v0, v1, v2, rfl, hEa, -, -⟩ := h
  clear hEa hg
  obtain ⟨W1, hW1⟩ : ∃ W1, W1 = w.alloc (.cells #[v0, v1, v2] 29) := ⟨_, rfl⟩
  have K0 := Lib.hid (show Ext w W1 by rw [hW1]; exact boxed_ext _ _ _ _ _)
  have R0 := Lib.hid (show W1.rowIs w.heap.size 29 3 (tri (v0) v1 v2) by rw [hW1]; exact boxed_row _ _ _ _ _)
  obtain ⟨p0, p1, p2, -, -, -⟩ := row3_facts R0.out
  rw [hW1] at p0 p1 p2
  go_enter Try.func112, Try.ntmps112
  go_wp2_with fail
  rw [← hW1]
  clear hW1 p0 p1 p2
  (with_reducible refine (meStub_any (HA.out.ext K0.out) HG.out).mono ?_)
  rintro e w1 ⟨rfl, hw⟩
  have K1 := Lib.hid (K0.out.trans' hw)
  have R1 := Lib.hid (row_ext R0.out hw)
  clear hw
  by_cases hs : HasStub N
  · have D := Lib.hid (dec_false (show ¬ NoCyc N from fun k => (noCyc_stub.1 k).1 hs))
    rw [dec_true hs]
    clear hs
    go_wp2
    go_ret
    exact ⟨ret_bool D.out.symm, K1.out⟩
  · rw [dec_false hs]
    obtain ⟨p0, p1, p2, -, -, -⟩ := row3_facts R1.out
    go_wp2_with fail
    clear p0 p1 p2
    (with_reducible refine (meGirth_any (HA.out.ext K1.out) HG.out).mono ?_)
    rintro e w2 ⟨rfl, hw⟩
    have K2 := Lib.hid (K1.out.trans' hw)
    clear hw
    by_cases hz : girth N = 0
    · have D := Lib.hid (dec_true (noCyc_stub.2 ⟨hs, hz⟩))
      have hb : (girth N == 0) = true := by simpa using hz
      clear hz hs
      go_wp2
      go_ret
      exact ⟨ret_bool D.out.symm, K2.out⟩
    · have D := Lib.hid (dec_false (show ¬ NoCyc N from fun k => hz k.2))
      have hb : (girth N == 0) = false := beq_eq_false_iff_ne.2 hz
      clear hz hs
      go_wp2
      go_ret
      exact ⟨ret_bool D.out.symm, K2.out⟩

set_option maxHeartbeats 6400000 in
set_option maxRecDepth 100000 in
theorem specForest_any {w : World} {vn : Value} {N : Net} (h : NetAt w vn N) :
    Calls Try.prog 57 #[vn] w fun e w' => e = .returned (.tuple #[.bool (dec (ForB N)), .bool (dec (Good N))]) ∧ Ext w w' := by
  have HA := Lib.hid h
  obtain ⟨v0, v1, v2, rfl, hEa, -, -⟩ := h
  clear hEa
  obtain ⟨W1, hW1⟩ : ∃ W1, W1 = w.alloc (.cells #[v0, v1, v2] 29) := ⟨_, rfl⟩
  have K0 := Lib.hid (show Ext w W1 by rw [hW1]; exact boxed_ext _ _ _ _ _)
  have R0 := Lib.hid (show W1.rowIs w.heap.size 29 3 (tri (v0) v1 v2) by rw [hW1]; exact boxed_row _ _ _ _ _)
  obtain ⟨p0, p1, p2, -, -, -⟩ := row3_facts R0.out
  rw [hW1] at p0 p1 p2
  by_cases hg0 : Good N
  case neg =>
    have G0 := Lib.hid (dec_false hg0)
    have D := Lib.hid (dec_false (p := Good N) fun h => hg0 (h))
    have NB := Lib.hid (show ¬ (Good N) from fun h => hg0 (h))
    clear hg0
    go_enter Try.func57, Try.ntmps57
    go_wp2_with fail
    rw [← hW1]
    clear hW1 p0 p1 p2
    (with_reducible refine (neGood_any (HA.out.ext K0.out)).mono ?_)
    rintro e w1g ⟨rfl, hxg⟩
    rw [G0.out]
    have K1 := Lib.hid (K0.out.trans' hxg)
    have R1 := Lib.hid (row_ext R0.out hxg)
    clear hxg
    obtain ⟨p0, p1, p2, -, -, -⟩ := row3_facts R1.out
    go_wp2
    go_ret2
    exact ⟨ret_bf (dec_false (show ¬ ForB N from fun h => NB.out h.1)).symm D.out.symm, K1.out⟩
  have G0 := Lib.hid (dec_true hg0)
  have H0 := Lib.hid hg0
  clear hg0
  have D := Lib.hid (dec_true H0.out)
  have E := Lib.hid (show dec (NoCyc N) = dec (ForB N) by
    by_cases hc : NoCyc N
    · rw [dec_true hc, dec_true (show ForB N from ⟨H0.out, hc⟩)]
    · rw [dec_false hc, dec_false (show ¬ ForB N from fun h => hc (h.2))])
  go_enter Try.func57, Try.ntmps57
  go_wp2_with fail
  rw [← hW1]
  clear hW1 p0 p1 p2
  (with_reducible refine (neGood_any (HA.out.ext K0.out)).mono ?_)
  rintro e w1g ⟨rfl, hxg⟩
  rw [G0.out]
  have K1 := Lib.hid (K0.out.trans' hxg)
  have R1 := Lib.hid (row_ext R0.out hxg)
  clear hxg
  obtain ⟨p0, p1, p2, -, -, -⟩ := row3_facts R1.out
  go_wp2_with fail
  clear p0 p1 p2
  (with_reducible refine (meForest_any (HA.out.ext K1.out) H0.out).mono ?_)
  rintro e wz ⟨rfl, hxz⟩
  have KZ := Lib.hid (K1.out.trans' hxz)
  clear hxz
  go_wp2
  go_ret2
  exact ⟨ret_bf E.out D.out.symm, KZ.out⟩
end Go.Proofs.Ytkeiaahlifdbiaa
