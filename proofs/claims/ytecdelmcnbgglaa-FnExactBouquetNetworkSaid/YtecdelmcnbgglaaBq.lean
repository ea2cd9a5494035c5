/- Bouquets: as plain data, and the contracts of both BouquetNetwork, whatever the arguments. -/
import Derived.Test.YtecdelmcnbgglaaKh
namespace Go.Proofs.Ytecdelmcnbgglaa
open Go.RowKit

def stubsTo : Nat → Net
  | 0 => blank 1 0
  | k + 1 => stubNet (stubsTo k) 0
def loopsTo (s : Nat) : Nat → Net
  | 0 => stubsTo s
  | k + 1 => joinNet (loopsTo s k) 0 0
theorem stubs_good : ∀ k, k ≤ 6 → Good (stubsTo k) ∧ (stubsTo k).ends.length = 1 ∧ (gr (stubsTo k).ends 0).length = k
  | 0, _ => ⟨good_blank0 (by omega) (by omega), by simp [stubsTo, blank], by rw [stubsTo, show gr (blank 1 0).ends 0 = [] from gr_replicate _ _ _ (by omega)]; rfl⟩
  | k + 1, hk => by
    obtain ⟨h1, h2, h3⟩ := stubs_good k (by omega)
    refine ⟨good_stub h1 (by omega) (by omega), by rw [stubsTo, stubNet, addEnd_len]; exact h2, ?_⟩
    rw [stubsTo, stubNet, gr_addEnd _ _ _ _ (by omega), if_pos rfl]
    simp [h3]
theorem loops_len (s : Nat) (hs : s ≤ 6) : ∀ k, (loopsTo s k).ends.length = 1 ∧ (gr (loopsTo s k).ends 0).length = s + 2 * k
  | 0 => ⟨(stubs_good s hs).2.1, (stubs_good s hs).2.2⟩
  | k + 1 => by
    obtain ⟨h1, h2⟩ := loops_len s hs k
    refine ⟨by rw [loopsTo, length_joinNet]; exact h1, ?_⟩
    rw [loopsTo, deg_joinNet (by omega) (by omega), h2]
    simp
    omega
theorem loops_good (s : Nat) : ∀ k, s + 2 * k ≤ 6 → Good (loopsTo s k)
  | 0, h => (stubs_good s (by omega)).1
  | k + 1, h => by
    obtain ⟨h1, h2⟩ := loops_len s (by omega) k
    refine good_join (loops_good s k (by omega)) (by omega) (by omega) fun v hv => ?_
    obtain rfl : v = 0 := by omega
    rw [h2]
    simp
    omega

/-- What the program makes: the stubs one after another, then the loops. -/
noncomputable def sbTo : Nat → Net × Bool
  | 0 => mbAns 1 []
  | k + 1 => (stubAns (sbTo k).1 0, dec (StubB (sbTo k).1 0))
noncomputable def lbTo (s : Nat) : Nat → Net × Bool
  | 0 => sbTo s
  | k + 1 => (joinAns (lbTo s k).1 0 0, dec (JoinB (lbTo s k).1 0 0))
theorem sb_made : ∀ k, k ≤ 6 → sbTo k = (stubsTo k, true)
  | 0, _ => mbAns_ok (by omega) (by omega) ⟨fun i hi => absurd hi (by simp), fun v hv => by simp [degTo]⟩
  | k + 1, hk => by
    have ih := sb_made k (by omega)
    obtain ⟨h1, h2, h3⟩ := stubs_good k (by omega)
    have hb : StubB (stubsTo k) 0 := ⟨⟨h1, by unfold NodeOK; omega⟩, (stubs_good (k + 1) hk).1⟩
    rw [sbTo, ih]
    simp only [dec_true hb, stubAns_t hb]
    rfl
theorem zero_bad : ¬ Good zeroNet := fun h => absurd h.1.1 (by simp [zeroNet])
theorem lb_made (s : Nat) (hs : s ≤ 6) : ∀ k, lbTo s k = if s + 2 * k ≤ 6 then (loopsTo s k, true) else (zeroNet, false)
  | 0 => by rw [if_pos (by omega)]; exact sb_made s hs
  | k + 1 => by
    rw [lbTo, lb_made s hs k]
    by_cases h : s + 2 * k ≤ 6
    · rw [if_pos h]
      obtain ⟨h1, h2⟩ := loops_len s hs k
      by_cases h3 : s + 2 * (k + 1) ≤ 6
      · rw [if_pos h3]
        have hb : JoinB (loopsTo s k) 0 0 := ⟨⟨loops_good s k h, by unfold NodeOK; omega⟩, by unfold NodeOK; omega, loops_good s (k + 1) h3⟩
        simp only [dec_true hb, joinAns_t hb]
        rfl
      · rw [if_neg h3]
        have hb : ¬ JoinB (loopsTo s k) 0 0 := fun j => by
          have h5 := (j.2.2.2.1 0 (by simp only [Int.toNat_zero]; rw [length_joinNet]; omega)).1
          simp only [Int.toNat_zero] at h5
          have h6 := (loops_len s hs (k + 1)).2
          rw [loopsTo] at h6
          omega
        simp only [dec_false hb, joinAns_f hb]
    · rw [if_neg h, if_neg (by omega)]
      have hb : ¬ JoinB zeroNet 0 0 := fun j => zero_bad j.1.1
      simp only [dec_false hb, joinAns_f hb]

def BqOK (s l : Int) : Prop := InB s 0 6 ∧ InB l 0 6 ∧ s + 2 * l ≤ 6
noncomputable def bqAns (s l : Int) : Net := if dec (BqOK s l) = true then loopsTo s.toNat l.toNat else zeroNet
theorem bqAns_t {s l : Int} (h : BqOK s l) : bqAns s l = loopsTo s.toNat l.toNat := by simp [bqAns, dec_true h]
theorem bqAns_f {s l : Int} (h : ¬ BqOK s l) : bqAns s l = zeroNet := by simp [bqAns, dec_false h]
theorem bqAns_small (s l : Int) : (bqAns s l).small := by
  by_cases h : BqOK s l
  · rw [bqAns_t h]
    obtain ⟨⟨h1, h2⟩, ⟨h3, h4⟩, h5⟩ := h
    exact good_small (loops_good _ _ (by omega))
  · rw [bqAns_f h]; exact zero_small
theorem ret_pair {v : Value} {b c : Bool} (h : b = c) : Ending.returned (.tuple #[v, .bool b]) = .returned (.tuple #[v, .bool c]) := by rw [h]

theorem neEmpty_lit {w : World} : Calls Try.prog 54 #[.int .i64 1] w fun e w' => ∃ v' bs, e = .returned v' ∧ Ext w w' ∧ OwnNet w' v' (blank 1 0) bs ∧ Fresh w bs := neEmpty_any 1 (by omega)
theorem neStub_lit {w : World} {v : Value} {N : Net} (hk : 0 < N.ends.length) (h : NetAt w v N) (hs : N.small) :
    Calls Try.prog 65 #[v, .int .i64 0] w fun e w' => ∃ v' bs, e = .returned v' ∧ Ext w w' ∧ OwnNet w' v' (stubNet N 0) bs ∧ Fresh w bs := neStub_any 0 hk h hs
theorem neJoin_lit {w : World} {v : Value} {N : Net} (hk : 0 < N.ends.length) (h : NetAt w v N) (hs : N.small) :
    Calls Try.prog 63 #[v, .int .i64 0, .int .i64 0] w fun e w' => ∃ v' bs, e = .returned v' ∧ Ext w w' ∧ OwnNet w' v' (joinNet N 0 0) bs ∧ Fresh w bs := neJoin_any 0 0 hk hk h hs
theorem madeBy_lit {w : World} : Calls Try.prog 62 #[.int .i64 1, .slice none 0 0] w fun e w' => ∃ v' bs, e = .returned (.tuple #[v', .bool (mbAns 1 []).2]) ∧ Ext w w' ∧ OwnNet w' v' (mbAns 1 []).1 bs ∧ Fresh w bs := madeBy_any 1 (by omega) (FlatSl.nil _)

set_option maxHeartbeats 3200000 in
set_option maxRecDepth 100000 in
theorem specBouquet_any {w : World} (s l : Int) :
    Calls Try.prog 39 #[.int .i64 s, .int .i64 l] w fun e w' => ∃ v' bs, e = .returned (.tuple #[v', .bool (dec (BqOK s l))]) ∧ Ext w w' ∧ OwnNet w' v' (bqAns s l) bs ∧ Fresh w bs := by
  have HX := Lib.hid ((Ext.rfl' w).alloc' (.cells #[.slice none 0 0, .slice none 0 0, .slice none 0 0] 25))
  have HR := Lib.hid (And.intro (row3_made w (.slice none 0 0) (.slice none 0 0) (.slice none 0 0) 25) (show (w.alloc (.cells #[.slice none 0 0, .slice none 0 0, .slice none 0 0] 25)).heap.size = w.heap.size + 1 by simp))
  by_cases h1 : InB s 0 6
  · by_cases h2 : InB l 0 6
    · have D1 := Lib.hid (dec_true h1)
      have D2 := Lib.hid (dec_true h2)
      obtain ⟨a, rfl⟩ := Int.eq_ofNat_of_zero_le h1.1
      obtain ⟨b, rfl⟩ := Int.eq_ofNat_of_zero_le h2.1
      have ha6 : a ≤ 6 := by have := h1.2; omega
      have hb6 : b ≤ 6 := by have := h2.2; omega
      have H1 := Lib.hid h1
      have H2 := Lib.hid h2
      clear h1 h2
      by_cases h3 : a + 2 * b ≤ 6
      · have hb3 : decide (6 < (a : Int) + 2 * (b : Int)) = false := decide_eq_false (by omega)
        have hok : BqOK a b := ⟨H1.out, H2.out, by omega⟩
        have D := Lib.hid (dec_true hok)
        have A := Lib.hid (show bqAns a b = loopsTo a b by have := bqAns_t hok; simpa only [Int.toNat_natCast] using this)
        clear hok
        go_enter Try.func39, Try.ntmps39
        go_wp2_with (first | (go_at_call 47; (with_reducible refine (l1In_any (a : Int) _ _ _).mono ?_); rintro e w' ⟨rfl, rfl⟩; rw [D1.out]) | (go_at_call 47; (with_reducible refine (l1In_any (b : Int) _ _ _).mono ?_); rintro e w' ⟨rfl, rfl⟩; rw [D2.out]) | fail)
        generalize w.alloc (.cells #[.slice none 0 0, .slice none 0 0, .slice none 0 0] 25) = W0 at *
        (with_reducible refine neEmpty_lit.mono ?_)
        rintro e w1 ⟨v', bs, rfl, hw, ho, hf⟩
        obtain ⟨a0, c0, a1, c1, a2, c2, rfl⟩ := ho.agg
        have HM := Lib.hid (HNet.made hw ho hf)
        clear hw ho hf
        go_wp2_with fail
        go_loopg [0] a (fun g t0 wr => ∃ k : Nat, k ≤ a ∧ g = a - k ∧ t0 = .int .i64 ((a - k : Nat) : Int) ∧ Hid (∃ v0 v1 v2, HNet W0 wr (stubsTo k) w1.heap.size v0 v1 v2))
        case atStart => exact ⟨0, Nat.zero_le _, rfl, rfl, _, _, _, HM.out⟩
        case round =>
          obtain ⟨k, hk, rfl, rfl, Hr⟩ := hrel
          obtain ⟨v0, v1, v2, hr⟩ := Hr.out
          have HN := Lib.hid hr
          obtain ⟨x0, y0, x1, y1, x2, y2, rfl, rfl, rfl⟩ := hr.form
          by_cases hlt : k < a
          · have hg := stubs_good k (by omega)
            have hgs := Lib.hid (good_small hg.1)
            have hk1 : Hid (0 < (stubsTo k).ends.length) := by unfold Hid; omega
            have hpos : (0 : Int) < ((a - k : Nat) : Int) := by omega
            have hsub : ((a - k : Nat) : Int) - 1 = ((a - (k + 1) : Nat) : Int) := by omega
            obtain ⟨p0, p1, p2, -, -, -⟩ := row3_facts hr.box
            clear hr hg
            go_wp2_with fail
            (with_reducible refine (neStub_lit hk1.out HN.out.read hgs.out).mono ?_)
            rintro e w2 ⟨v', cs, rfl, hw, ho, hf⟩
            obtain ⟨b0, d0, b1, d1, b2, d2, rfl⟩ := ho.agg
            have H3 := Lib.hid (HN.out.over hw ho hf)
            obtain ⟨r0, r1, r2, t0, t1, t2⟩ := row3_facts (row_ext HN.out.box hw)
            clear hw ho hf p0 p1 p2
            go_wp2
            go_roundg (a - (k + 1))
            case measure => omega
            case rel => exact ⟨k + 1, by omega, rfl, rfl, _, _, _, H3.out⟩
          · obtain rfl : k = a := by omega
            have hz : ((k - k : Nat) : Int) = 0 := by omega
            clear hr
            go_wp2
            rw [hz]
            clear hz
            go_loopg [1] b (fun g t1 wx => ∃ j : Nat, j ≤ b ∧ g = b - j ∧ t1 = .int .i64 ((b - j : Nat) : Int) ∧ Hid (∃ v0 v1 v2, HNet W0 wx (loopsTo k j) w1.heap.size v0 v1 v2))
            case atStart => exact ⟨0, Nat.zero_le _, rfl, rfl, _, _, _, HN.out⟩
            case round =>
              obtain ⟨j, hj, rfl, rfl, Hs⟩ := hrel
              obtain ⟨v0, v1, v2, hs⟩ := Hs.out
              have HN2 := Lib.hid hs
              obtain ⟨x0, y0, x1, y1, x2, y2, rfl, rfl, rfl⟩ := hs.form
              by_cases hlt2 : j < b
              · have hgs := Lib.hid (good_small (loops_good k j (by omega)))
                have hk1 : Hid (0 < (loopsTo k j).ends.length) := by unfold Hid; have := (loops_len k ha6 j).1; omega
                have hpos : (0 : Int) < ((b - j : Nat) : Int) := by omega
                have hsub : ((b - j : Nat) : Int) - 1 = ((b - (j + 1) : Nat) : Int) := by omega
                obtain ⟨p0, p1, p2, -, -, -⟩ := row3_facts hs.box
                clear hs
                go_wp2_with fail
                (with_reducible refine (neJoin_lit hk1.out HN2.out.read hgs.out).mono ?_)
                rintro e w2 ⟨v', cs, rfl, hw, ho, hf⟩
                obtain ⟨b0, d0, b1, d1, b2, d2, rfl⟩ := ho.agg
                have H3 := Lib.hid (HN2.out.over hw ho hf)
                obtain ⟨r0, r1, r2, t0, t1, t2⟩ := row3_facts (row_ext HN2.out.box hw)
                clear hw ho hf p0 p1 p2
                go_wp2
                go_roundg (b - (j + 1))
                case measure => omega
                case rel => exact ⟨j + 1, by omega, rfl, rfl, _, _, _, H3.out⟩
              · obtain rfl : j = b := by omega
                have hz : ((j - j : Nat) : Int) = 0 := by omega
                obtain ⟨bs, ho, hnd, hge⟩ := hs.net
                have HO := Lib.hid ho
                have HND := Lib.hid hnd
                have HGE := Lib.hid (show ∀ b ∈ bs, w.heap.size ≤ b ∧ b ≠ w.heap.size from fun b hb => by have := (hge b hb).1; have := HR.out.2; omega)
                have EX := Lib.hid (HX.out.trans' hs.ext)
                obtain ⟨p0, p1, p2, -, -, -⟩ := row3_facts hs.box
                obtain ⟨s0, s1, s2, t0, t1, t2⟩ := row3_facts (row_ext HR.out.1 hs.ext)
                clear ho hnd hge hs
                go_wp2
                have hc := close_at EX.out (Nat.le_refl _) HO.out HND.out HGE.out
                refine bodyPost_ret (v := .tuple #[.agg #[.slice x0 (loopsTo k j).ends.length y0, .slice x1 (loopsTo k j).ids.length y1, .slice x2 (loopsTo k j).inputs.length y2], .bool true]) (by simp [results, Try.results39, go_sem, s0, s1, s2]) rfl ⟨_, bs, ret_net D.out.symm, hc.1, by rw [A.out]; exact hc.2.1, hc.2.2⟩
      · have hb3 : decide (6 < (a : Int) + 2 * (b : Int)) = true := decide_eq_true (by omega)
        have hno : ¬ BqOK a b := fun h => by have := h.2.2; omega
        have D := Lib.hid (dec_false hno)
        have A := Lib.hid (bqAns_f hno)
        clear hno
        go_enter Try.func39, Try.ntmps39
        go_wp2_with (first | (go_at_call 47; (with_reducible refine (l1In_any (a : Int) _ _ _).mono ?_); rintro e w' ⟨rfl, rfl⟩; rw [D1.out]) | (go_at_call 47; (with_reducible refine (l1In_any (b : Int) _ _ _).mono ?_); rintro e w' ⟨rfl, rfl⟩; rw [D2.out]) | fail)
        refine bodyPost_ret (v := .tuple #[znet, .bool false]) (by simp [results, Try.results39, go_sem, znet]) rfl ⟨_, [], ret_net D.out.symm, (by first | exact HX.out | exact store3_ext HX.out (Nat.le_refl _) _ _ _), by rw [A.out]; exact own_zero _, Fresh.nil _⟩
    · have D1 := Lib.hid (dec_true h1)
      have D2 := Lib.hid (dec_false h2)
      have D := Lib.hid (dec_false (p := BqOK s l) fun h => h2 h.2.1)
      have A := Lib.hid (bqAns_f (s := s) (l := l) fun h => h2 h.2.1)
      clear h1 h2
      go_enter Try.func39, Try.ntmps39
      go_wp2_with (first | (go_at_call 47; (with_reducible refine (l1In_any s _ _ _).mono ?_); rintro e w' ⟨rfl, rfl⟩; rw [D1.out]) | (go_at_call 47; (with_reducible refine (l1In_any l _ _ _).mono ?_); rintro e w' ⟨rfl, rfl⟩; rw [D2.out]) | fail)
      refine bodyPost_ret (v := .tuple #[znet, .bool false]) (by simp [results, Try.results39, go_sem, znet]) rfl ⟨_, [], ret_net D.out.symm, (by first | exact HX.out | exact store3_ext HX.out (Nat.le_refl _) _ _ _), by rw [A.out]; exact own_zero _, Fresh.nil _⟩
  · have D1 := Lib.hid (dec_false h1)
    have D := Lib.hid (dec_false (p := BqOK s l) fun h => h1 h.1)
    have A := Lib.hid (bqAns_f (s := s) (l := l) fun h => h1 h.1)
    clear h1
    go_enter Try.func39, Try.ntmps39
    go_wp2_with (first | (go_at_call 47; (with_reducible refine (l1In_any s _ _ _).mono ?_); rintro e w' ⟨rfl, rfl⟩; rw [D1.out]) | fail)
    refine bodyPost_ret (v := .tuple #[znet, .bool false]) (by simp [results, Try.results39, go_sem, znet]) rfl ⟨_, [], ret_net D.out.symm, (by first | exact HX.out | exact store3_ext HX.out (Nat.le_refl _) _ _ _), by rw [A.out]; exact own_zero _, Fresh.nil _⟩

theorem addStub_lit {w : World} {v : Value} {N : Net} (h : NetAt w v N) :
    Calls Try.prog 66 #[v, .int .i64 0] w fun e w' => ∃ v' bs, e = .returned (.tuple #[v', .bool (dec (StubB N 0))]) ∧ Ext w w' ∧ OwnNet w' v' (stubAns N 0) bs ∧ Fresh w bs := addStub_any 0 h
theorem addEdge_lit {w : World} {v : Value} {N : Net} (h : NetAt w v N) :
    Calls Try.prog 67 #[v, .int .i64 0, .int .i64 0] w fun e w' => ∃ v' bs, e = .returned (.tuple #[v', .bool (dec (JoinB N 0 0))]) ∧ Ext w w' ∧ OwnNet w' v' (joinAns N 0 0) bs ∧ Fresh w bs := addEdge_any 0 0 h

set_option maxHeartbeats 3200000 in
set_option maxRecDepth 100000 in
theorem bouquet_any {w : World} (s l : Int) :
    Calls Try.prog 40 #[.int .i64 s, .int .i64 l] w fun e w' => ∃ v' bs, e = .returned (.tuple #[v', .bool (dec (BqOK s l))]) ∧ Ext w w' ∧ OwnNet w' v' (bqAns s l) bs ∧ Fresh w bs := by
  have HX := Lib.hid ((Ext.rfl' w).alloc' (.cells #[.slice none 0 0, .slice none 0 0, .slice none 0 0] 25))
  have HR := Lib.hid (And.intro (row3_made w (.slice none 0 0) (.slice none 0 0) (.slice none 0 0) 25) (show (w.alloc (.cells #[.slice none 0 0, .slice none 0 0, .slice none 0 0] 25)).heap.size = w.heap.size + 1 by simp))
  by_cases h1 : InB s 0 6
  · by_cases h2 : InB l 0 6
    · have D1 := Lib.hid (dec_true h1)
      have D2 := Lib.hid (dec_true h2)
      obtain ⟨a, rfl⟩ := Int.eq_ofNat_of_zero_le h1.1
      obtain ⟨b, rfl⟩ := Int.eq_ofNat_of_zero_le h2.1
      have ha6 : a ≤ 6 := by have := h1.2; omega
      have hb6 : b ≤ 6 := by have := h2.2; omega
      have H1 := Lib.hid h1
      have H2 := Lib.hid h2
      have hL := lb_made a ha6 b
      have DA := Lib.hid (show (lbTo a b).1 = bqAns a b ∧ (lbTo a b).2 = dec (BqOK a b) by
        rw [hL]
        by_cases h3 : a + 2 * b ≤ 6
        · have hok : BqOK a b := ⟨h1, h2, by omega⟩
          rw [if_pos h3, dec_true hok, bqAns_t hok]
          exact ⟨by simp only [Int.toNat_natCast], rfl⟩
        · have hno : ¬ BqOK a b := fun h => by have := h.2.2; omega
          rw [if_neg h3, dec_false hno, bqAns_f hno]
          exact ⟨rfl, rfl⟩)
      clear h1 h2 hL
      go_enter Try.func40, Try.ntmps40
      go_wp2_with (first | (go_at_call 55; (with_reducible refine (isBetween_any (a : Int) _ _ _).mono ?_); rintro e w' ⟨rfl, rfl⟩; rw [D1.out]) | (go_at_call 55; (with_reducible refine (isBetween_any (b : Int) _ _ _).mono ?_); rintro e w' ⟨rfl, rfl⟩; rw [D2.out]) | fail)
      generalize w.alloc (.cells #[.slice none 0 0, .slice none 0 0, .slice none 0 0] 25) = W0 at *
      (with_reducible refine madeBy_lit.mono ?_)
      rintro e w1 ⟨v', bs, rfl, hw, ho, hf⟩
      obtain ⟨a0, c0, a1, c1, a2, c2, rfl⟩ := ho.agg
      have HM := Lib.hid (HNet.made hw ho hf)
      clear hw ho hf
      go_wp2_with fail
      go_loopg [7, 22] a (fun g t7 i wr => ∃ k : Nat, k ≤ a ∧ g = a - k ∧ i = .int .i64 k ∧ t7 = .bool (sbTo k).2 ∧ Hid (∃ v0 v1 v2, HNet W0 wr (sbTo k).1 w1.heap.size v0 v1 v2))
      case atStart => exact ⟨0, Nat.zero_le _, rfl, rfl, rfl, _, _, _, HM.out⟩
      case round =>
        obtain ⟨k, hk, rfl, rfl, rfl, Hr⟩ := hrel
        obtain ⟨v0, v1, v2, hr⟩ := Hr.out
        have HN := Lib.hid hr
        obtain ⟨x0, y0, x1, y1, x2, y2, rfl, rfl, rfl⟩ := hr.form
        by_cases hlt : k < a
        · obtain ⟨p0, p1, p2, -, -, -⟩ := row3_facts hr.box
          clear hr
          go_wp2_with fail
          (with_reducible refine (addStub_lit HN.out.read).mono ?_)
          rintro e w2 ⟨v', cs, rfl, hw, ho, hf⟩
          obtain ⟨b0, d0, b1, d1, b2, d2, rfl⟩ := ho.agg
          have H3 := Lib.hid (HN.out.over hw ho hf)
          obtain ⟨r0, r1, r2, t0, t1, t2⟩ := row3_facts (row_ext HN.out.box hw)
          clear hw ho hf p0 p1 p2
          go_wp2
          go_roundg (a - (k + 1))
          case measure => omega
          case rel => exact ⟨k + 1, by omega, rfl, by go_num, rfl, _, _, _, H3.out⟩
        · obtain rfl : k = a := by omega
          clear hr
          go_wp2
          go_loopg [7, 31] b (fun g t7 i wx => ∃ j : Nat, j ≤ b ∧ g = b - j ∧ i = .int .i64 j ∧ t7 = .bool (lbTo k j).2 ∧ Hid (∃ v0 v1 v2, HNet W0 wx (lbTo k j).1 w1.heap.size v0 v1 v2))
          case atStart => exact ⟨0, Nat.zero_le _, rfl, rfl, rfl, _, _, _, HN.out⟩
          case round =>
            obtain ⟨j, hj, rfl, rfl, rfl, Hs⟩ := hrel
            obtain ⟨v0, v1, v2, hs⟩ := Hs.out
            have HN2 := Lib.hid hs
            obtain ⟨x0, y0, x1, y1, x2, y2, rfl, rfl, rfl⟩ := hs.form
            by_cases hlt2 : j < b
            · obtain ⟨p0, p1, p2, -, -, -⟩ := row3_facts hs.box
              clear hs
              go_wp2_with fail
              (with_reducible refine (addEdge_lit HN2.out.read).mono ?_)
              rintro e w2 ⟨v', cs, rfl, hw, ho, hf⟩
              obtain ⟨b0, d0, b1, d1, b2, d2, rfl⟩ := ho.agg
              have H3 := Lib.hid (HN2.out.over hw ho hf)
              obtain ⟨r0, r1, r2, t0, t1, t2⟩ := row3_facts (row_ext HN2.out.box hw)
              clear hw ho hf p0 p1 p2
              go_wp2
              go_roundg (b - (j + 1))
              case measure => omega
              case rel => exact ⟨j + 1, by omega, rfl, by go_num, rfl, _, _, _, H3.out⟩
            · obtain rfl : j = b := by omega
              obtain ⟨bs, ho, hnd, hge⟩ := hs.net
              have HO := Lib.hid ho
              have HND := Lib.hid hnd
              have HGE := Lib.hid (show ∀ b ∈ bs, w.heap.size ≤ b ∧ b ≠ w.heap.size from fun b hb => by have := (hge b hb).1; have := HR.out.2; omega)
              have EX := Lib.hid (HX.out.trans' hs.ext)
              obtain ⟨p0, p1, p2, -, -, -⟩ := row3_facts hs.box
              obtain ⟨s0, s1, s2, t0, t1, t2⟩ := row3_facts (row_ext HR.out.1 hs.ext)
              clear ho hnd hge hs
              go_wp2
              have hc := close_at EX.out (Nat.le_refl _) HO.out HND.out HGE.out
              refine bodyPost_ret (v := .tuple #[.agg #[.slice x0 (lbTo k j).1.ends.length y0, .slice x1 (lbTo k j).1.ids.length y1, .slice x2 (lbTo k j).1.inputs.length y2], .bool (lbTo k j).2]) (by simp [results, Try.results40, go_sem, s0, s1, s2]) rfl ⟨_, bs, ret_pair DA.out.2, hc.1, by rw [← DA.out.1]; exact hc.2.1, hc.2.2⟩
    · have D1 := Lib.hid (dec_true h1)
      have D2 := Lib.hid (dec_false h2)
      have D := Lib.hid (dec_false (p := BqOK s l) fun h => h2 h.2.1)
      have A := Lib.hid (bqAns_f (s := s) (l := l) fun h => h2 h.2.1)
      clear h1 h2
      go_enter Try.func40, Try.ntmps40
      go_wp2_with (first | (go_at_call 55; (with_reducible refine (isBetween_any s _ _ _).mono ?_); rintro e w' ⟨rfl, rfl⟩; rw [D1.out]) | (go_at_call 55; (with_reducible refine (isBetween_any l _ _ _).mono ?_); rintro e w' ⟨rfl, rfl⟩; rw [D2.out]) | fail)
      refine bodyPost_ret (v := .tuple #[znet, .bool false]) (by simp [results, Try.results40, go_sem, znet]) rfl ⟨_, [], ret_net D.out.symm, (by first | exact HX.out | exact store3_ext HX.out (Nat.le_refl _) _ _ _), by rw [A.out]; exact own_zero _, Fresh.nil _⟩
  · have D1 := Lib.hid (dec_false h1)
    have D := Lib.hid (dec_false (p := BqOK s l) fun h => h1 h.1)
    have A := Lib.hid (bqAns_f (s := s) (l := l) fun h => h1 h.1)
    clear h1
    go_enter Try.func40, Try.ntmps40
    go_wp2_with (first | (go_at_call 55; (with_reducible refine (isBetween_any s _ _ _).mono ?_); rintro e w' ⟨rfl, rfl⟩; rw [D1.out]) | fail)
    refine bodyPost_ret (v := .tuple #[znet, .bool false]) (by simp [results, Try.results40, go_sem, znet]) rfl ⟨_, [], ret_net D.out.symm, (by first | exact HX.out | exact store3_ext HX.out (Nat.le_refl _) _ _ _), by rw [A.out]; exact own_zero _, Fresh.nil _⟩
end Go.Proofs.Ytecdelmcnbgglaa
