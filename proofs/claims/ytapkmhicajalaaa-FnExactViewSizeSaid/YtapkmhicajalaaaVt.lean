/- The contracts of both sides' ViewSize. -/
import Derived.Test.YtapkmhicajalaaaVs
namespace Go.Proofs.Ytapkmhicajalaaa
open Go.RowKit

/-- The cells of a list in one block of its own. -/
theorem OwnI.row_of' {w : World} {b n c : Nat} {l : List Int} (h : OwnI w (.slice (some ⟨b, 0, none⟩) n c) l [b]) (hl : l.length = n) : n ≤ c ∧ c ≤ maxLen ∧ ∀ i, i < n → w.cell? ⟨b, i, none⟩ = some (.int .i64 (gi l i)) := by
  obtain ⟨⟨c', h1, h2, h3⟩, h4⟩ := h
  rcases h3 with ⟨_, hb, _⟩ | ⟨b', m, g, hb, hv, hm, hr, hf⟩
  · exact absurd hb (by simp)
  · obtain rfl : b = b' := by simpa using hb
    obtain ⟨_, rfl⟩ : n = l.length ∧ c = c' := by simpa using hv
    exact ⟨by omega, h2, fun i hi => by rw [hr.cell (by omega), hf i (by omega)]⟩

theorem good_six {N : Net} (h : Good N) : ∀ v, v < N.ends.length → (gr N.ends v).length ≤ 6 := fun v hv => (h.2.1 v hv).1

set_option maxHeartbeats 3200000 in
set_option maxRecDepth 100000 in
theorem viewSize_any {w : World} {v : Value} {N : Net} (x t : Int) (h : NetAt w v N) :
    Calls Try.prog 40 #[v, .int .i64 x, .int .i64 t] w fun e w' => e = .returned (.tuple #[.int .i64 (vsI N x t), .bool (dec (VSOK N x t))]) ∧ Ext w w' := by
  have HN := Lib.hid h
  obtain ⟨v0, v1, v2, rfl, hE, -, -⟩ := h
  obtain ⟨a, b1, o, d, rfl, -, hnd, hm, -⟩ := hE
  unfold maxLen at hm
  have HX := Lib.hid (boxed_ext w (.slice a N.ends.length d) v1 v2 31)
  have HR := Lib.hid (row3_made w (.slice a N.ends.length d) v1 v2 31)
  obtain ⟨p0, p1, p2, -, -, -⟩ := row3_facts HR.out
  by_cases hb : HVOK N x t
  case neg =>
    have G := Lib.hid (dec_false hb)
    have D := Lib.hid (dec_false (p := VSOK N x t) fun h => hb h.1)
    have S := Lib.hid (vsI_f (N := N) (x := x) (t := t) fun h => hb h.1)
    clear hb
    go_enter Try.func40, Try.ntmps40
    go_wp2_with (go_at_call 76; (with_reducible refine (hasView_any x t (HN.out.ext HX.out)).mono ?_); rintro e w1 ⟨rfl, hw⟩; rw [G.out]; have K1 := Lib.hid (HX.out.trans' hw); clear hw)
    go_ret2
    exact ⟨ret_i S.out.symm D.out.symm, K1.out⟩
  have G := Lib.hid (dec_true hb)
  have HB := Lib.hid hb
  have NI := Lib.hid (good_nodes hb.1.1)
  have H6 := Lib.hid (good_six hb.1.1)
  have h40 := hb.1.1.1.2
  obtain ⟨m, rfl⟩ := Int.eq_ofNat_of_zero_le hb.1.2.1
  obtain ⟨s, rfl⟩ := Int.eq_ofNat_of_zero_le hb.2.1
  have hmn : m < N.ends.length := by have := hb.1.2.2; omega
  have hs80 : s ≤ 80 := by have := hb.2.2; omega
  clear hb
  have hmk := run_make_row' (P := Try.prog) 23 3 (.int .i64 0) 8 Try.underlying23 Try.info3 rfl .i64 .i64 N.ends.length (by omega) (by omega)
  go_enter Try.func40, Try.ntmps40
  go_wp2_with fail
  (with_reducible refine (hasView_any (m : Int) (s : Int) (HN.out.ext HX.out)).mono ?_)
  rintro e w1 ⟨rfl, hw⟩
  rw [G.out]
  have K1 := Lib.hid (HX.out.trans' hw)
  have R1 := Lib.hid (row_ext HR.out hw)
  obtain ⟨q0, q1, q2, -, -, -⟩ := row3_facts R1.out
  clear hw p0 p1 p2
  go_wp2_with fail
  clear hmk q0 q1 q2
  go_loopg [8, 20] (s + 1) (fun g c i wr => ∃ (j : Nat) (b : Nat), j ≤ s + 1 ∧ g = s + 1 - j ∧ i = .int .i64 j ∧ c = .slice (some ⟨b, 0, none⟩) N.ends.length N.ends.length ∧ Hid (Ext w wr ∧ OwnI wr (.slice (some ⟨b, 0, none⟩) N.ends.length N.ends.length) (szP N j) [b] ∧ wr.rowIs w.heap.size 31 3 (tri (.slice a N.ends.length d) v1 v2)))
  case atStart =>
    refine ⟨0, w1.heap.size, Nat.zero_le _, rfl, rfl, rfl, K1.out.alloc' _, own_row (by simp [szP]) (fun i hi => ?_) (by omega) ((World.rowIs_made w1 _ _ _).congr fun i hi => ?_), row_ext R1.out ((Ext.rfl' _).alloc' _)⟩
    · rw [szP, gi_rep _ _ _ hi]; unfold inI64; omega
    · simp only [copied, szP]
      rw [if_pos hi, gi_rep _ _ _ hi]
  case round =>
    obtain ⟨j, b, hj, rfl, rfl, rfl, Hr⟩ := hrel
    by_cases hlt : j < s + 1
    · obtain ⟨p0, p1, p2, -, -, -⟩ := row3_facts Hr.out.2.2
      go_wp2_with (go_at_call 77; (with_reducible refine (nextSizes_any (HN.out.ext Hr.out.1) Hr.out.2.1.read NI.out (szP_ok NI.out j) (by omega) H6.out).mono ?_); rintro e w2 ⟨b2, rfl, hx, ho, -⟩; have H2 := Lib.hid (And.intro hx ho); clear hx ho p0 p1 p2)
      go_roundg (s + 1 - (j + 1))
      case measure => omega
      case rel => exact ⟨j + 1, b2, by omega, rfl, by go_num, rfl, Hr.out.1.trans' H2.out.1, H2.out.2, row_ext Hr.out.2.2 H2.out.1⟩
    · obtain rfl : j = s + 1 := by omega
      have hO := Hr.out.2.1
      rw [szP_C NI.out] at hO
      obtain ⟨-, -, hrc⟩ := hO.row_of' (szC_ok NI.out s).1
      have c1 := hrc m hmn
      clear hrc hO
      by_cases hsm : gi (szC N s) m ≤ 1000000
      · have V := Lib.hid (show VSOK N m s from ⟨HB.out, by simpa only [Int.toNat_natCast] using hsm⟩)
        have D := Lib.hid (dec_true V.out)
        have S := Lib.hid (show vsI N m s = gi (szC N s) m by rw [vsI_t V.out]; simp only [Int.toNat_natCast])
        go_wp2
        go_ret2
        exact ⟨ret_i S.out.symm D.out.symm, Hr.out.1⟩
      · have V := Lib.hid (show ¬ VSOK N m s from fun h => hsm (by simpa only [Int.toNat_natCast] using h.2))
        have D := Lib.hid (dec_false V.out)
        have S := Lib.hid (vsI_f V.out)
        go_wp2
        go_ret2
        exact ⟨ret_i S.out.symm D.out.symm, Hr.out.1⟩

theorem l1Least_any (x y : Int) {w : World} : Calls Try.prog 75 #[.int .i64 x, .int .i64 y] w fun e w' => e = .returned (.int .i64 (min x y)) ∧ w = w' := by
  by_cases h : x < y
  · have e : min x y = x := by omega
    rw [e]; clear e
    go_enter Try.func75, Try.ntmps75
    go_wp2
    go_ret
    exact ⟨rfl, rfl⟩
  · have e : min x y = y := by omega
    rw [e]; clear e
    go_enter Try.func75, Try.ntmps75
    go_wp2
    go_ret
    exact ⟨rfl, rfl⟩

/-- A row of which v elements are done and the next one is x. -/
def partly (l : List Int) (v : Nat) (x : Int) (i : Nat) : Value := if i < v then .int .i64 (gi l i) else if i = v then .int .i64 x else .int .i64 0
theorem partly_start {w : World} {b n v : Nat} {l : List Int} (h : w.rowIs b 3 n (copied l v)) (x : Int) : (w.setCell ⟨b, v, none⟩ (.int .i64 x)).rowIs b 3 n (partly l v x) :=
  (h.set v _).congr fun i _ => by
    simp only [partly, copied]
    by_cases e : i = v
    · subst e; rw [if_pos rfl, if_neg (by omega), if_pos rfl]
    · rw [if_neg e, if_neg e]
theorem partly_step {w : World} {b n v : Nat} {l : List Int} {x : Int} (h : w.rowIs b 3 n (partly l v x)) (y : Int) : (w.setCell ⟨b, v, none⟩ (.int .i64 y)).rowIs b 3 n (partly l v y) :=
  (h.set v _).congr fun i _ => by
    simp only [partly]
    by_cases e : i = v
    · subst e; rw [if_pos rfl, if_neg (by omega), if_pos rfl]
    · rw [if_neg e, if_neg e, if_neg e]
theorem partly_done {w : World} {b n v : Nat} {l : List Int} (h : w.rowIs b 3 n (partly l v (gi l v))) : w.rowIs b 3 n (copied l (v + 1)) :=
  h.congr fun i _ => by
    simp only [partly, copied]
    by_cases e : i = v
    · subst e; rw [if_neg (by omega), if_pos rfl, if_pos (by omega)]
    · by_cases hlt : i < v
      · rw [if_pos hlt, if_pos (by omega)]
      · rw [if_neg hlt, if_neg e, if_neg (by omega)]

set_option maxHeartbeats 6400000 in
set_option maxRecDepth 100000 in
theorem specViewSize_any {w : World} {v : Value} {N : Net} (x t : Int) (h : NetAt w v N) :
    Calls Try.prog 39 #[v, .int .i64 x, .int .i64 t] w fun e w' => e = .returned (.tuple #[.int .i64 (vsI N x t), .bool (dec (VSOK N x t))]) ∧ Ext w w' := by
  have HN := Lib.hid h
  obtain ⟨v0, v1, v2, rfl, hE, -, -⟩ := h
  obtain ⟨a, b1, o, d, rfl, ha, hnd, hm, hcl⟩ := hE
  unfold maxLen at hm
  have HX := Lib.hid (boxed_ext w (.slice a N.ends.length d) v1 v2 31)
  have HR := Lib.hid (row3_made w (.slice a N.ends.length d) v1 v2 31)
  obtain ⟨p0, p1, p2, -, -, -⟩ := row3_facts HR.out
  by_cases hg : NodeAns N x
  case neg =>
    have G := Lib.hid (dec_false hg)
    have D := Lib.hid (dec_false (p := VSOK N x t) fun h => hg h.1.1)
    have S := Lib.hid (vsI_f (N := N) (x := x) (t := t) fun h => hg h.1.1)
    clear hg
    go_enter Try.func39, Try.ntmps39
    go_wp2_with (go_at_call 74; (with_reducible refine (neNode_any x (HN.out.ext HX.out)).mono ?_); rintro e w1 ⟨rfl, hw⟩; rw [G.out]; have K1 := Lib.hid (HX.out.trans' hw); clear hw)
    go_ret2
    exact ⟨ret_i S.out.symm D.out.symm, K1.out⟩
  have G := Lib.hid (dec_true hg)
  by_cases ht : InB t 0 80
  case neg =>
    have T := Lib.hid (dec_false ht)
    have D := Lib.hid (dec_false (p := VSOK N x t) fun h => ht h.1.2)
    have S := Lib.hid (vsI_f (N := N) (x := x) (t := t) fun h => ht h.1.2)
    clear hg ht
    go_enter Try.func39, Try.ntmps39
    go_wp2_with (first | (go_at_call 74; (with_reducible refine (neNode_any x (HN.out.ext HX.out)).mono ?_); rintro e w1 ⟨rfl, hw⟩; rw [G.out]; have K1 := Lib.hid (HX.out.trans' hw); clear hw) | (go_at_call 60; (with_reducible refine (viDepth_any _ _).mono ?_); rintro e w1 ⟨rfl, rfl⟩; rw [T.out]))
    go_ret2
    exact ⟨ret_i S.out.symm D.out.symm, K1.out⟩
  have T := Lib.hid (dec_true ht)
  have HB := Lib.hid (show HVOK N x t from ⟨hg, ht⟩)
  have NI := Lib.hid (good_nodes hg.1)
  have H6 := Lib.hid (good_six hg.1)
  have h40 := hg.1.1.2
  obtain ⟨m, rfl⟩ := Int.eq_ofNat_of_zero_le hg.2.1
  obtain ⟨s, rfl⟩ := Int.eq_ofNat_of_zero_le ht.1
  have hmn : m < N.ends.length := by have := hg.2.2; omega
  have hs80 : s ≤ 80 := by have := ht.2; omega
  have Hc := Lib.hid hcl
  have Ha := Lib.hid ha
  clear hg ht hcl ha
  obtain ⟨n, hnn⟩ : ∃ n, n = N.ends.length := ⟨_, rfl⟩
  have HN2 := Lib.hid (show NetAt w (.agg #[.slice a n d, v1, v2]) N by rw [hnn]; exact HN.out)
  rw [← hnn] at h40 hmn hnd HX HR Ha Hc ⊢
  rw [← hnn] at p0
  have HNN := Lib.hid hnn
  clear hnn HN
  have hmk := run_make_row' (P := Try.prog) 23 3 (.int .i64 0) 8 Try.underlying23 Try.info3 rfl .i64 .i64 n (by omega) (by omega)
  go_enter Try.func39, Try.ntmps39
  go_wp2_with fail
  (with_reducible refine (neNode_any (m : Int) (HN2.out.ext HX.out)).mono ?_)
  rintro e w1 ⟨rfl, hw⟩
  rw [G.out]
  have K1 := Lib.hid (HX.out.trans' hw)
  have R1 := Lib.hid (row_ext HR.out hw)
  obtain ⟨q0, q1, q2, -, -, -⟩ := row3_facts R1.out
  clear hw p0 p1 p2
  go_wp2_with (first | (go_at_call 60; (with_reducible refine (viDepth_any _ _).mono ?_); rintro e w2 ⟨rfl, rfl⟩; rw [T.out]) | fail)
  clear q0 q1 q2
  go_loopg [30] n (fun g i wr => ∃ k : Nat, k ≤ n ∧ g = n - k ∧ i = .int .i64 k ∧ Hid (Ext w1 wr ∧ wr.rowIs w1.heap.size 3 n (copied (szC N 0) k)))
  case atStart => exact ⟨0, Nat.zero_le _, rfl, rfl, (Ext.rfl' _).alloc' _, (World.rowIs_made w1 _ _ _).congr fun i _ => by simp [copied]⟩
  case round =>
    obtain ⟨k, hk, rfl, rfl, Hr⟩ := hrel
    by_cases hlt : k < n
    · have hcv := Hr.out.2.cell hlt
      have hfr := Hr.out.2.frozen k
      have GR := Lib.hid (show gi (szC N 0) k = 1 from gi_rep _ 1 k (by have := HNN.out; omega))
      go_wp2
      go_roundg (n - (k + 1))
      case measure => omega
      case rel => exact ⟨k + 1, by omega, rfl, by go_num, Hr.out.1.store (Nat.le_refl _) _, by rw [← GR.out]; exact copied_step Hr.out.2⟩
    · obtain rfl : k = n := by omega
      have O1 := Lib.hid (own_row (l := szC N 0) (by simp [szC]; exact HNN.out.symm) (fun i hi => by rw [szC, gi_rep _ _ _ (by have := HNN.out; omega)]; unfold inI64; omega) (by omega) Hr.out.2)
      have X1 := Lib.hid Hr.out.1
      clear Hr
      go_wp2
      have hw0 : ∃ wo : World, wo = wr := ⟨_, rfl⟩
      obtain ⟨wo, rfl⟩ := hw0
      go_loopg [2, 8] s (fun g tt c wr => ∃ (j : Nat) (b : Nat), j ≤ s ∧ g = s - j ∧ tt = .int .i64 ((s : Int) - (j : Int)) ∧ c = .slice (some ⟨b, 0, none⟩) k k ∧ Hid (Ext w1 wr ∧ OwnI wr (.slice (some ⟨b, 0, none⟩) k k) (szC N j) [b]))
      case atStart => exact ⟨0, w1.heap.size, Nat.zero_le _, rfl, by simp, rfl, X1.out, O1.out⟩
      case round =>
        obtain ⟨j, b, hj, rfl, rfl, rfl, Hr⟩ := hrel
        obtain ⟨-, -, hrc⟩ := Hr.out.2.row_of' (by rw [(szC_ok NI.out j).1]; exact HNN.out.symm)
        have HRC := Lib.hid hrc
        clear hrc
        by_cases hlt2 : j < s
        · obtain ⟨p0, p1, p2, -, -, -⟩ := row3_facts (row_ext R1.out Hr.out.1)
          obtain ⟨q0, q1, q2, -, -, -⟩ := row3_facts (row_ext R1.out (Hr.out.1.alloc' (.cells (madeCells #[.int .i64 0] k) 3)))
          go_wp2
          clear p0 p1 p2 q0 q1 q2
          have hw0 : ∃ wp : World, wp = wr := ⟨_, rfl⟩
          obtain ⟨wp, rfl⟩ := hw0
          go_loopg [48] k (fun g i wx => ∃ v : Nat, v ≤ k ∧ g = k - v ∧ i = .int .i64 v ∧ Hid (Ext wp wx ∧ wx.rowIs wp.heap.size 3 k (copied (szNext N (szC N j)) v)))
          case atStart => exact ⟨0, Nat.zero_le _, rfl, rfl, (Ext.rfl' _).alloc' _, (World.rowIs_made wp _ _ _).congr fun i _ => by simp [copied]⟩
          case round =>
            obtain ⟨v, hv, rfl, rfl, Hv⟩ := hrel
            by_cases hvt : v < k
            · obtain ⟨z, hz, hrow⟩ := Hc.out v hvt
              obtain ⟨a4, b4, o4, d4, rfl, ha4, hn4, hm4, hc4⟩ := hrow
              unfold maxLen at hm4
              have Hc4 := Lib.hid hc4
              have Ha4 := Lib.hid ha4
              obtain rfl := Ha.out (by omega)
              have E1 := Lib.hid (K1.out.trans' (Hr.out.1.trans' Hv.out.1))
              have E2 := Lib.hid (K1.out.trans' Hr.out.1)
              have hz' := E1.out.cell' hz
              have hl6 := H6.out v (by have := HNN.out; omega)
              have hcv := Hv.out.2.cell hvt
              have hfr := Hv.out.2.frozen v
              clear hc4 ha4 hz
              go_wp2
              have hw0 : ∃ wq : World, wq = wr := ⟨_, rfl⟩
              obtain ⟨wq, rfl⟩ := hw0
              clear hz' hcv hfr
              go_loopg [58] (gr N.ends v).length (fun g i wy => ∃ e : Nat, e ≤ (gr N.ends v).length ∧ g = (gr N.ends v).length - e ∧ i = .int .i64 e ∧ Hid (Ext wp wy ∧ wy.rowIs wp.heap.size 3 k (partly (szNext N (szC N j)) v (leastTo (szC N j) (gr N.ends v) e))))
              case atStart => exact ⟨0, Nat.zero_le _, rfl, rfl, Hv.out.1.store (Nat.le_refl _) _, partly_start Hv.out.2 1⟩
              case round =>
                obtain ⟨e, he, rfl, rfl, He⟩ := hrel
                by_cases het : e < (gr N.ends v).length
                · obtain ⟨r1, r2, _, _⟩ := Hc4.out e het
                  obtain rfl := Ha4.out (by omega)
                  have hnd := NI.out.node v (by have := HNN.out; omega) e het
                  obtain ⟨q, eq⟩ := Int.eq_ofNat_of_zero_le hnd.1
                  have hqn : q < k := by have := HNN.out; omega
                  have L1 := Lib.hid (show leastTo (szC N j) (gr N.ends v) (e + 1) = min (leastTo (szC N j) (gr N.ends v) e + gi (szC N j) q) 1000001 by simp only [leastTo, cap, eq, Int.toNat_natCast])
                  have hb0 := least_sum (szC_ok NI.out j).2 (NI.out.node v (by have := HNN.out; omega)) e (by omega)
                  have hb1 := sumTo_bound (szC_ok NI.out j).2 (NI.out.node v (by have := HNN.out; omega)) e (by omega)
                  have hb2 : 0 ≤ leastTo (szC N j) (gr N.ends v) e ∧ leastTo (szC N j) (gr N.ends v) e ≤ 1000001 := by rw [hb0]; unfold cap; omega
                  have hb3 := (szC_ok NI.out j).2 q (by have := HNN.out; omega)
                  have hwr : IntKind.i64.wrap (leastTo (szC N j) (gr N.ends v) e + gi (szC N j) q) = leastTo (szC N j) (gr N.ends v) e + gi (szC N j) q := IntWalk.i64_in _ (by omega)
                  have r1' := He.out.1.cell' (E2.out.cell' r1)
                  have r2' := He.out.1.cell' (E2.out.cell' r2)
                  rw [eq] at r1'
                  clear hnd eq hb0 hb1 r1 r2
                  have HXX := Lib.hid ((Ext.rfl' wr).alloc' (.cells #[.int .i64 (q : Int), .int .i64 (gp (gr N.ends v) e)] 79))
                  have hrow := row_ext He.out.2 HXX.out
                  have cv := (hrow.cell hvt).trans (show some (partly (szNext N (szC N j)) v (leastTo (szC N j) (gr N.ends v) e) v) = some (.int .i64 (leastTo (szC N j) (gr N.ends v) e)) by simp [partly])
                  have fv := hrow.frozen v
                  have cq := HXX.out.cell' (He.out.1.cell' (HRC.out q hqn))
                  have HROW := Lib.hid hrow
                  clear hrow
                  go_wp2
                  go_region_with ((go_at_call 75; (with_reducible refine (l1Least_any _ _).mono ?_); rintro e' w' ⟨rfl, rfl⟩))
                  all_goals go_wp2
                  all_goals go_roundg ((gr N.ends v).length - (e + 1))
                  all_goals first
                    | omega
                    | exact ⟨e + 1, by omega, rfl, by go_num, ((He.out.1.trans' HXX.out).store (Nat.le_refl _) _).drew', by rw [L1.out]; exact row_ext (partly_step HROW.out _) ((Ext.rfl' _).drew')⟩
                    | exact ⟨e + 1, by omega, rfl, by go_num, ((He.out.1.trans' HXX.out).drew'.store (Nat.le_refl _) _), by rw [L1.out]; exact partly_step (row_ext HROW.out ((Ext.rfl' _).drew')) _⟩
                    | exact ⟨e + 1, by omega, rfl, by go_num, ((He.out.1.trans' HXX.out).store (Nat.le_refl _) _), by rw [L1.out]; exact partly_step HROW.out _⟩
                · obtain rfl : e = (gr N.ends v).length := by omega
                  have GV := Lib.hid (show gi (szNext N (szC N j)) v = leastTo (szC N j) (gr N.ends v) (gr N.ends v).length by
                    rw [gi_szNext (by have := HNN.out; omega), szRow, least_sum (szC_ok NI.out j).2 (NI.out.node v (by have := HNN.out; omega)) _ (Nat.le_refl _)])
                  have PD := Lib.hid (partly_done (w := wr) (b := wp.heap.size) (n := k) (v := v) (l := szNext N (szC N j)) (by rw [GV.out]; exact He.out.2))
                  go_wp2
                  go_roundg (k - (v + 1))
                  case measure => omega
                  case rel => exact ⟨v + 1, by omega, rfl, by go_num, He.out.1, PD.out⟩
            · obtain rfl : v = k := by omega
              have O2 := Lib.hid (own_row (l := szC N (j + 1)) (by rw [(szC_ok NI.out _).1]; exact HNN.out.symm) (fun i hi => by have := (szC_ok NI.out (j + 1)).2 i (by have := HNN.out; omega); unfold inI64; omega) (by omega) Hv.out.2)
              go_wp2
              go_roundg (s - (j + 1))
              case measure => omega
              case rel => exact ⟨j + 1, wp.heap.size, by omega, rfl, by go_num, rfl, Hr.out.1.trans' Hv.out.1, O2.out⟩
        · obtain rfl : j = s := by omega
          have c1 := HRC.out m hmn
          by_cases hsm : gi (szC N j) m ≤ 1000000
          · have V := Lib.hid (show VSOK N m j from ⟨HB.out, by simpa only [Int.toNat_natCast] using hsm⟩)
            have D := Lib.hid (dec_true V.out)
            have S := Lib.hid (show vsI N m j = gi (szC N j) m by rw [vsI_t V.out]; simp only [Int.toNat_natCast])
            go_wp2
            go_ret2
            exact ⟨ret_i S.out.symm D.out.symm, K1.out.trans' Hr.out.1⟩
          · have V := Lib.hid (show ¬ VSOK N m j from fun h => hsm (by simpa only [Int.toNat_natCast] using h.2))
            have D := Lib.hid (dec_false V.out)
            have S := Lib.hid (vsI_f V.out)
            go_wp2
            go_ret2
            exact ⟨ret_i S.out.symm D.out.symm, K1.out.trans' Hr.out.1⟩
end Go.Proofs.Ytapkmhicajalaaa
