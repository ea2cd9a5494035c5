/- Consistent lists of classes: slices.Min, slices.Index, and both sides' IsConsistent. -/
import Derived.Test.YtkpdbceglejbnaaTks
import Derived.Test.YtkpdbceglejbnaaQb
import Derived.Test.YtkpdbceglejbnaaTkj
import Derived.Deep.RegionHeld3
namespace Go.Proofs.Ytkpdbceglejbnaa
open Go.RowKit

def lessToT (l : List Int) : Nat → Int
  | 0 => gi l 0
  | k + 1 => if gi l (k + 1) < lessToT l k then gi l (k + 1) else lessToT l k
theorem lessTo_specT (l : List Int) : ∀ k, (∀ i, i ≤ k → lessToT l k ≤ gi l i) ∧ ∃ i, i ≤ k ∧ lessToT l k = gi l i
  | 0 => ⟨fun i hi => by obtain rfl : i = 0 := by omega
                         exact Int.le_refl _, 0, Nat.le_refl _, rfl⟩
  | k + 1 => by
    obtain ⟨h2, i, hi, he⟩ := lessTo_specT l k
    simp only [lessToT]
    by_cases h : gi l (k + 1) < lessToT l k
    · rw [if_pos h]
      refine ⟨fun j hj => ?_, k + 1, Nat.le_refl _, rfl⟩
      by_cases e : j = k + 1
      · subst e; omega
      · have := h2 j (by omega); omega
    · rw [if_neg h]
      refine ⟨fun j hj => ?_, i, by omega, he⟩
      by_cases e : j = k + 1
      · subst e; omega
      · exact h2 j (by omega)
def lessLT (l : List Int) : Int := lessToT l (l.length - 1)
theorem lessL_leT {l : List Int} {i : Nat} (hi : i < l.length) : lessLT l ≤ gi l i := (lessTo_specT l _).1 i (by omega)
theorem lessL_atT {l : List Int} (h : 0 < l.length) : ∃ i, i < l.length ∧ lessLT l = gi l i := by
  obtain ⟨i, hi, he⟩ := (lessTo_specT l (l.length - 1)).2
  exact ⟨i, by omega, he⟩

set_option maxHeartbeats 800000 in
set_option maxRecDepth 100000 in
theorem min_anyT {w : World} {v : Value} {l : List Int} (h : IntSl w v l) (h1 : 0 < l.length) (hs : l.length ≤ 1048576) :
    Calls Try.prog 76 #[v] w fun e w' => e = .returned (.int .i64 (lessLT l)) ∧ w = w' := by
  obtain ⟨n, hn⟩ : ∃ n, l.length = n + 1 := ⟨l.length - 1, by omega⟩
  have HM := Lib.hid (show lessToT l n = lessLT l by unfold lessLT; rw [hn]; rfl)
  obtain ⟨a, b, o, c, rfl, ha, hl, hm, hc⟩ := h
  unfold maxLen at hm
  obtain rfl := ha (by omega)
  have Hc := Lib.hid hc
  clear hc ha h1
  obtain ⟨x0, hx0, rfl, _⟩ := Hc.out 0 (by omega)
  rw [Nat.add_zero] at hx0
  rw [hn] at hl hs ⊢
  have HN := Lib.hid hn
  clear hn
  go_enter Try.func76, Try.ntmps76
  go_wp2
  go_loop [3, 4] (fun t i => ∃ k : Nat, k ≤ n ∧ i = .int .i64 ((k : Int) + 1) ∧ t = .int .i64 (lessToT l k)) (fun _ i => n + 1 - (intOf i).toNat)
  case atStart => exact ⟨0, Nat.zero_le _, rfl, rfl⟩
  case round =>
    obtain ⟨k, hk, rfl, rfl⟩ := hrel
    by_cases hlt : k < n
    · obtain ⟨x, hc, rfl, _⟩ := Hc.out (k + 1) (by have := HN.out; omega)
      go_wp2
      go_round
      case rel => exact ⟨k + 1, by omega, by go_num, rfl⟩
      case measure => simp [intOf]; omega
    · go_wp2
      go_ret
      obtain rfl : k = n := by omega
      exact ⟨by rw [← HM.out]; rfl, rfl⟩


set_option maxHeartbeats 1600000 in
set_option maxRecDepth 100000 in
theorem indexI_any {w : World} {v : Value} {l : List Int} (h : IntSl w v l) (hs : l.length ≤ 1048576) (x : Int) :
    Calls Try.prog 77 #[v, .int .i64 x] w fun e w' => e = .returned (.int .i64 (ixP (fun i => gi l i == x) l.length)) ∧ w = w' := by
  obtain ⟨a, b, o, c, rfl, ha, hl, hm, hc⟩ := h
  unfold maxLen at hm
  have Hc := Lib.hid hc
  have Ha := Lib.hid ha
  clear hc ha
  obtain ⟨n, hn⟩ : ∃ n, n = l.length := ⟨_, rfl⟩
  have HN := Lib.hid hn
  rw [← hn] at hl hs ⊢
  clear hn
  go_enter Try.func77, Try.ntmps77
  go_wp2
  go_loopg [8] n (fun g i wr => ∃ k : Nat, k ≤ n ∧ g = n - k ∧ i = .int .i64 (k : Int) ∧ Hid (w = wr ∧ ∀ j, j < k → (gi l j == x) = false))
  case atStart => exact ⟨0, Nat.zero_le _, rfl, rfl, rfl, fun j hj => absurd hj (by omega)⟩
  case round =>
    obtain ⟨k, hk, rfl, rfl, Hr⟩ := hrel
    obtain rfl := Hr.out.1
    by_cases hlt : k < n
    · obtain ⟨y, hy, rfl, _⟩ := Hc.out k (by have := HN.out; omega)
      obtain rfl := Ha.out (by have := HN.out; omega)
      by_cases e : gi l k = x
      · have b1 : (x == gi l k) = true := by simp [e]
        have HI := Lib.hid (show ixP (fun i => gi l i == x) n = (k : Int) from ixP_hit Hr.out.2 (by simp [e]) n hlt)
        clear e
        go_wp2
        go_ret
        exact ⟨ret_iT HI.out.symm, rfl⟩
      · have b1 : (x == gi l k) = false := by simp; exact fun h => e h.symm
        have S := Lib.hid (show (gi l k == x) = false by simp [e])
        clear e
        go_wp2
        go_roundg (n - (k + 1))
        case measure => omega
        case rel =>
          refine ⟨k + 1, by omega, rfl, by go_num, rfl, fun j hj => ?_⟩
          by_cases e : j = k
          · subst e; exact S.out
          · exact Hr.out.2 j (by omega)
    · obtain rfl : k = n := by omega
      have HI := Lib.hid (show ixP (fun i => gi l i == x) k = -1 from ixP_none k Hr.out.2)
      go_wp2
      go_ret
      exact ⟨ret_iT HI.out.symm, rfl⟩
/-- The first place of a number that is there. -/
theorem ix_first {c : List Int} {k : Nat} (h : k < c.length) : ∃ f : Nat, f ≤ k ∧ ixP (fun i => gi c i == gi c k) c.length = (f : Int) ∧ gi c f = gi c k ∧ ∀ u, u < f → gi c u ≠ gi c k := by
  have hf : ∀ n, (∃ f : Nat, f < n ∧ (gi c f == gi c k) = true ∧ ∀ u, u < f → (gi c u == gi c k) = false) ∨ ∀ u, u < n → (gi c u == gi c k) = false := by
    intro n
    induction n with
    | zero => exact .inr fun u hu => absurd hu (by omega)
    | succ n ih =>
      rcases ih with ⟨f, h1, h2, h3⟩ | h0
      · exact .inl ⟨f, by omega, h2, h3⟩
      · cases e : (gi c n == gi c k)
        · exact .inr fun u hu => by
            by_cases x : u = n
            · subst x; exact e
            · exact h0 u (by omega)
        · exact .inl ⟨n, by omega, e, h0⟩
  rcases hf (k + 1) with ⟨f, h1, h2, h3⟩ | h0
  · exact ⟨f, by omega, ixP_hit h3 h2 _ (by omega), by simpa using h2, fun u hu e => by have := h3 u hu; simp at this; exact this e⟩
  · have := h0 k (by omega); simp at this
theorem under_iff {m : List Int} {l l' : List (Int × Int)} : under m l = under m l' ↔ l.length = l'.length ∧ ∀ i, i < l.length → gp l i = gp l' i ∧ gi m (gn l i).toNat = gi m (gn l' i).toNat := by
  constructor
  · intro h
    have hl : l.length = l'.length := by have := congrArg List.length h; rw [length_under, length_under] at this; exact this
    refine ⟨hl, fun i hi => ?_⟩
    have a := under_at m l i hi
    have b := under_at m l' i (by omega)
    rw [h] at a
    exact ⟨by rw [← a.2, b.2], by rw [← a.1, b.1]⟩
  · rintro ⟨hl, h⟩
    refine ends_same (by rw [length_under, length_under]; exact hl) fun i hi => ?_
    rw [length_under] at hi
    have a := under_at m l i hi
    have b := under_at m l' i (by omega)
    rw [a.1, a.2, b.1, b.2]
    exact ⟨(h i hi).2, (h i hi).1⟩
theorem likeS_under {N : Net} {c : List Int} {u v : Nat} : likeS N c u v = true ↔ gi N.inputs u = gi N.inputs v ∧ under c (gr N.ends u) = under c (gr N.ends v) := by
  rw [likeS_iff, under_iff]
  exact ⟨fun h => ⟨h.1.2, h.1.1, h.2⟩, fun h => ⟨⟨h.2.1, h.1⟩, h.2.2⟩⟩

/-- What holds of the first k nodes, by the first node of each class. -/
def FstTo (N : Net) (c : List Int) (k : Nat) : Prop := ∀ x, x < k → ∀ f, f < c.length → gi c f = gi c x → (∀ u, u < f → gi c u ≠ gi c x) → likeS N c x f = true
theorem fst_end {N : Net} {c : List Int} (hl : c.length = N.ends.length) (hp : ∀ x, x < c.length → 0 ≤ gi c x) (h : FstTo N c c.length) : ConsOK N c :=
  ⟨hl, hp, fun u v hu hv e => cons_first h u v hu (by omega) e⟩
def IcA (N : Net) (c : List Int) : Prop := Good N ∧ ConsOK N c
theorem ic_t {N : Net} {c : List Int} (h : Good N) : dec (ConsOK N c) = dec (IcA N c) := dec_congr ⟨fun k => ⟨h, k⟩, fun k => k.2⟩

set_option maxHeartbeats 1600000 in
set_option maxRecDepth 100000 in
theorem specIsConsistent_any {w : World} {v vc : Value} {N : Net} {c : List Int} (h : NetAt w v N) (k : IntSl w vc c) (_ : c.length ≤ 1048576) :
    Calls Try.prog 33 #[v, vc] w fun e w' => e = .returned (.tuple #[.bool (dec (IcA N c)), .bool (dec (Good N))]) ∧ Ext w w' := by
  have HN := Lib.hid h
  have HC := Lib.hid k
  obtain ⟨v0, v1, v2, rfl, -, -, -⟩ := h
  have HX := Lib.hid (boxed_ext w v0 v1 v2 34)
  have HR := Lib.hid (row3_made w v0 v1 v2 34)
  obtain ⟨p0, p1, p2, -, -, -⟩ := row3_facts HR.out
  by_cases hg : Good N
  case neg =>
    have G := Lib.hid (dec_false hg)
    have D := Lib.hid (dec_false (p := IcA N c) fun k => hg k.1)
    clear hg
    go_enter Try.func33, Try.ntmps33
    go_wp2_with (go_at_call 62; (with_reducible refine (neGood_any (HN.out.ext HX.out)).mono ?_); rintro e w1 ⟨rfl, hw⟩; rw [G.out]; have K1 := Lib.hid (HX.out.trans' hw); obtain ⟨q0, q1, q2, -, -, -⟩ := row3_facts (row_ext HR.out hw); clear hw p0 p1 p2)
    go_ret2
    exact ⟨ret_bbT D.out.symm G.out.symm, K1.out⟩
  have G := Lib.hid (dec_true hg)
  have D := Lib.hid (ic_t (c := c) hg)
  have HG := Lib.hid hg
  clear hg
  go_enter Try.func33, Try.ntmps33
  go_wp2_with (first | (go_at_call 62; (with_reducible refine (neGood_any (HN.out.ext HX.out)).mono ?_); rintro e w1 ⟨rfl, hw⟩; rw [G.out]; have K1 := Lib.hid (HX.out.trans' hw); obtain ⟨q0, q1, q2, -, -, -⟩ := row3_facts (row_ext HR.out hw); clear hw p0 p1 p2) | (go_at_call 75; (with_reducible refine (imConsistent_any (HN.out.ext K1.out) (HC.out.ext K1.out) HG.out).mono ?_); rintro e w2 ⟨rfl, hx⟩; have K2 := Lib.hid (K1.out.trans' hx); clear hx))
  go_ret2
  exact ⟨ret_bbT D.out G.out.symm, K2.out⟩

set_option maxHeartbeats 3200000 in
set_option maxRecDepth 100000 in
theorem isConsistent_any {w : World} {v vc : Value} {N : Net} {c : List Int} (h : NetAt w v N) (k : IntSl w vc c) (h6 : c.length ≤ 1048576) :
    Calls Try.prog 34 #[v, vc] w fun e w' => e = .returned (.tuple #[.bool (dec (IcA N c)), .bool (dec (Good N))]) ∧ Ext w w' := by
  have HN := Lib.hid h
  have HC := Lib.hid k
  obtain ⟨v0, v1, v2, rfl, hE, -, hP⟩ := h
  obtain ⟨ea, eb, eo, ec, rfl, hea, hel, hem, hec⟩ := hE
  obtain ⟨pa, pb, po, pc, rfl, hpa, hpl, hpm, hpc⟩ := hP
  obtain ⟨ca, cb, co, cc, rfl, hca, hcl, hcm, hcc⟩ := k
  unfold maxLen at hem hpm hcm
  have HEA := Lib.hid hea
  have HEC := Lib.hid hec
  have HPA := Lib.hid hpa
  have HPC := Lib.hid hpc
  have HCA := Lib.hid hca
  have HCC := Lib.hid hcc
  have HX := Lib.hid (boxed_ext w (.slice ea N.ends.length ec) v1 (.slice pa N.inputs.length pc) 34)
  have HR := Lib.hid (row3_made w (.slice ea N.ends.length ec) v1 (.slice pa N.inputs.length pc) 34)
  obtain ⟨p0, p1, p2, -, -, -⟩ := row3_facts HR.out
  clear hea hec hpa hpc hca hcc
  by_cases hg : Good N
  case neg =>
    have G := Lib.hid (dec_false hg)
    have D := Lib.hid (dec_false (p := IcA N c) fun k => hg k.1)
    clear hg
    go_enter Try.func34, Try.ntmps34
    go_wp2_with (go_at_call 73; (with_reducible refine (isNetwork_any (HN.out.ext HX.out)).mono ?_); rintro e w1 ⟨rfl, hw⟩; rw [G.out]; have K1 := Lib.hid (HX.out.trans' hw); obtain ⟨q0, q1, q2, -, -, -⟩ := row3_facts (row_ext HR.out hw); have R1 := Lib.hid (row_ext HR.out hw); clear hw p0 p1 p2)
    go_ret2
    exact ⟨ret_bbT D.out.symm G.out.symm, K1.out⟩
  have G := Lib.hid (dec_true hg)
  have D := Lib.hid (ic_t (c := c) hg)
  have NI := Lib.hid (good_nodes hg)
  have HG := Lib.hid hg
  have hn1 : 0 < N.ends.length := hg.1.1
  have h40 : N.ends.length ≤ 40 := hg.1.2
  have HIL := Lib.hid NI.out.len
  clear hg
  by_cases hl : c.length = N.ends.length
  case neg =>
    have b0 : ((c.length : Int) != (N.ends.length : Int)) = true := by simp; omega
    have D2 := Lib.hid (dec_false (p := ConsOK N c) fun h => hl h.1)
    clear hl
    go_enter Try.func34, Try.ntmps34
    go_wp2_with (go_at_call 73; (with_reducible refine (isNetwork_any (HN.out.ext HX.out)).mono ?_); rintro e w1 ⟨rfl, hw⟩; rw [G.out]; have K1 := Lib.hid (HX.out.trans' hw); obtain ⟨q0, q1, q2, -, -, -⟩ := row3_facts (row_ext HR.out hw); have R1 := Lib.hid (row_ext HR.out hw); clear hw p0 p1 p2)
    go_ret2
    exact ⟨ret_bbT (D2.out.symm.trans D.out) G.out.symm, K1.out⟩
  have b0 : ((c.length : Int) != (N.ends.length : Int)) = false := by simp; omega
  have HL := Lib.hid hl
  by_cases hmin : lessLT c < 0
  case pos =>
    have b1 : decide (lessLT c < 0) = true := by simpa using hmin
    have D2 := Lib.hid (dec_false (p := ConsOK N c) fun h => by
      obtain ⟨i, hi, he⟩ := lessL_atT (l := c) (by omega)
      have := h.2.1 i hi
      omega)
    clear hl hmin
    go_enter Try.func34, Try.ntmps34
    go_wp2_with (first | (go_at_call 73; (with_reducible refine (isNetwork_any (HN.out.ext HX.out)).mono ?_); rintro e w1 ⟨rfl, hw⟩; rw [G.out]; have K1 := Lib.hid (HX.out.trans' hw); obtain ⟨q0, q1, q2, -, -, -⟩ := row3_facts (row_ext HR.out hw); have R1 := Lib.hid (row_ext HR.out hw); clear hw p0 p1 p2) | (go_at_call 76; (with_reducible refine (min_anyT (HC.out.ext K1.out) (by have := HL.out; omega) (by have := HL.out; omega)).mono ?_); rintro e _ ⟨rfl, rfl⟩))
    go_ret2
    exact ⟨ret_bbT (D2.out.symm.trans D.out) G.out.symm, K1.out⟩
  have b1 : decide (lessLT c < 0) = false := by simpa using hmin
  have HPOS := Lib.hid (show ∀ x, x < c.length → 0 ≤ gi c x from fun x hx => by have := lessL_leT (l := c) hx; omega)
  clear hl hmin
  go_enter Try.func34, Try.ntmps34
  go_wp2_with (first | (go_at_call 73; (with_reducible refine (isNetwork_any (HN.out.ext HX.out)).mono ?_); rintro e w1 ⟨rfl, hw⟩; rw [G.out]; have K1 := Lib.hid (HX.out.trans' hw); obtain ⟨q0, q1, q2, -, -, -⟩ := row3_facts (row_ext HR.out hw); have R1 := Lib.hid (row_ext HR.out hw); clear hw p0 p1 p2) | (go_at_call 76; (with_reducible refine (min_anyT (HC.out.ext K1.out) (by have := HL.out; omega) (by have := HL.out; omega)).mono ?_); rintro e _ ⟨rfl, rfl⟩))
  obtain ⟨n, hn⟩ : ∃ n, n = c.length := ⟨_, rfl⟩
  have HCL := Lib.hid hn
  rw [← hn] at hcl HC h6 ⊢
  clear b0 b1 hn q0 q1 q2
  go_loopg [25] n (fun g i wr => ∃ k : Nat, k ≤ n ∧ g = n - k ∧ i = .int .i64 (k : Int) ∧ Hid (Ext w1 wr ∧ FstTo N c k))
  case atStart => exact ⟨0, Nat.zero_le _, rfl, rfl, Ext.rfl' _, fun x hx => absurd hx (by omega)⟩
  case round =>
    obtain ⟨k, hk, rfl, rfl, Hr⟩ := hrel
    by_cases hlt : k < n
    · obtain ⟨f, hf1, hf2, hf3, hf4⟩ := ix_first (c := c) (k := k) (by have := HCL.out; omega)
      have hke : k < N.ends.length := by have := HCL.out; have := HL.out; omega
      have hfe : f < N.ends.length := by omega
      have hki : k < N.inputs.length := by have := HIL.out; omega
      have hfi : f < N.inputs.length := by have := HIL.out; omega
      have KR := Lib.hid (K1.out.trans' Hr.out.1)
      obtain ⟨_, q1, rfl, _⟩ := HCC.out k (by have := HCL.out; omega)
      obtain rfl := HCA.out (by have := HCL.out; omega)
      obtain rfl := HEA.out (by omega)
      obtain rfl := HPA.out (by omega)
      obtain ⟨_, z1, hz1⟩ := HEC.out k hke
      obtain ⟨_, z2, hz2⟩ := HEC.out f hfe
      have HZ1 := Lib.hid hz1
      have HZ2 := Lib.hid hz2
      obtain ⟨aa, _, _, ac, rfl, -, hal, ham, -⟩ := hz1
      obtain ⟨ba, _, _, bc, rfl, -, hbl, hbm, -⟩ := hz2
      obtain ⟨_, i1, rfl, _⟩ := HPC.out k hki
      obtain ⟨_, i2, rfl, _⟩ := HPC.out f hfi
      unfold maxLen at ham hbm
      have dk := (HG.out.2.1 k hke).1
      have df := (HG.out.2.1 f hfe).1
      obtain ⟨p0, p1, p2, -, -, -⟩ := row3_facts (row_ext R1.out Hr.out.1)
      have c1 := KR.out.cell' q1
      have z1' := KR.out.cell' z1
      have z2' := KR.out.cell' z2
      obtain ⟨xk, hxk⟩ : ∃ d, d = gi N.inputs k := ⟨_, rfl⟩
      obtain ⟨xf, hxf⟩ : ∃ d, d = gi N.inputs f := ⟨_, rfl⟩
      rw [← hxk] at i1
      rw [← hxf] at i2
      have i1' := KR.out.cell' i1
      have i2' := KR.out.cell' i2
      have LS := Lib.hid (show likeS N c k f = true ↔ xk = xf ∧ under c (gr N.ends k) = under c (gr N.ends f) by rw [hxk, hxf]; exact likeS_under)
      have HF := Lib.hid (And.intro hf3 hf4)
      have HIX := Lib.hid (show ixP (fun i => gi c i == gi c k) n = (f : Int) by rw [HCL.out]; exact hf2)
      have IX := Lib.hid (indexI_any (HC.out.ext KR.out) (by have := HCL.out; omega) (gi c k))
      rw [← HCL.out, HIX.out] at IX
      have HNF := Lib.hid (show ¬ likeS N c k f = true → dec (ConsOK N c) = false from fun e => dec_false fun h => e (by
        by_cases x : f = k
        · subst x; exact (equS N c c.length).refl f (by have := HCL.out; omega)
        · exact h.2.2 k f (by have := HCL.out; omega) (by omega) hf3.symm))
      have HYF := Lib.hid (show likeS N c k f = true → FstTo N c (k + 1) from fun e x hx g hg e1 e2 => by
        by_cases y : x = k
        · subst y
          have : g = f := by
            rcases Nat.lt_trichotomy g f with y | y | y
            · exact absurd e1 (hf4 g y)
            · exact y
            · exact absurd hf3 (e2 f y)
          subst this; exact e
        · exact Hr.out.2 x (by omega) g hg e1 e2)
      clear q1 z1 z2 i1 i2 hxk hxf hf2 hf3 hf4
      by_cases e1 : xk = xf
      case neg =>
        have b2 : (xk != xf) = true := by simpa using e1
        have D2 := Lib.hid (HNF.out fun h => e1 (LS.out.1 h).1)
        clear e1
        go_wp2_with (go_at_call 77; (with_reducible refine IX.out.mono ?_); rintro e _ ⟨rfl, rfl⟩)
        go_quiet (fail)
        go_wp2
        go_ret2
        exact ⟨ret_bbT (D2.out.symm.trans D.out) G.out.symm, KR.out.drewN' _⟩
      have b2 : (xk != xf) = false := by simpa using e1
      have E1 := Lib.hid e1
      clear e1
      have mkS : ∀ w' : World, Ext wr w' → w'.cell? ⟨w.heap.size, 0, none⟩ = some (.slice (some ⟨eb, eo, none⟩) N.ends.length ec) ∧ w'.cell? ⟨w.heap.size, 1, none⟩ = some v1 ∧ w'.cell? ⟨w.heap.size, 2, none⟩ = some (.slice (some ⟨pb, po, none⟩) N.inputs.length pc) ∧ w'.cell? ⟨eb, eo + k, none⟩ = some (.slice aa (gr N.ends k).length ac) ∧ w'.cell? ⟨eb, eo + f, none⟩ = some (.slice ba (gr N.ends f).length bc) ∧ w'.cell? ⟨pb, po + k, none⟩ = some (.int .i64 xk) ∧ w'.cell? ⟨pb, po + f, none⟩ = some (.int .i64 xf) ∧ Hid (Ext wr w') := fun w' h => ⟨h.cell' p0, h.cell' p1, h.cell' p2, h.cell' z1', h.cell' z2', h.cell' i1', h.cell' i2', h⟩
      have HI1 := Lib.hid (show ∀ i, i < (gr N.ends k).length → 0 ≤ gn (gr N.ends k) i ∧ gn (gr N.ends k) i < (c.length : Int) from fun i hi => by have := NI.out.node k hke i hi; rw [HL.out]; exact this)
      have HI2 := Lib.hid (show ∀ i, i < (gr N.ends f).length → 0 ≤ gn (gr N.ends f) i ∧ gn (gr N.ends f) i < (c.length : Int) from fun i hi => by have := NI.out.node f hfe i hi; rw [HL.out]; exact this)
      go_wp2_with (go_at_call 77; (with_reducible refine IX.out.mono ?_); rintro e _ ⟨rfl, rfl⟩)
      clear p0 p1 p2 z1' z2' i1' i2'
      by_cases e2 : under c (gr N.ends k) = under c (gr N.ends f)
      · have DU := Lib.hid (dec_true e2)
        have YF := Lib.hid (HYF.out (LS.out.2 ⟨E1.out, e2⟩))
        clear e2
        go_region_held3 (fun w' => w'.cell? ⟨w.heap.size, 0, none⟩ = some (.slice (some ⟨eb, eo, none⟩) N.ends.length ec) ∧ w'.cell? ⟨w.heap.size, 1, none⟩ = some v1 ∧ w'.cell? ⟨w.heap.size, 2, none⟩ = some (.slice (some ⟨pb, po, none⟩) N.inputs.length pc) ∧ w'.cell? ⟨eb, eo + k, none⟩ = some (.slice aa (gr N.ends k).length ac) ∧ w'.cell? ⟨eb, eo + f, none⟩ = some (.slice ba (gr N.ends f).length bc) ∧ w'.cell? ⟨pb, po + k, none⟩ = some (.int .i64 xk) ∧ w'.cell? ⟨pb, po + f, none⟩ = some (.int .i64 xf) ∧ Hid (Ext wr w')) (first | exact mkS _ (Ext.rfl' wr).drew' | exact mkS _ XA.out | exact mkS _ XB.out | exact mkS _ XC.out | fail)
          (first | (go_at_call_of 79 (Value.slice aa (gr N.ends k).length ac); (with_reducible refine (endsUnder_any (HC.out.ext (KR.out.trans' ((‹_ ∧ _ ∧ _ ∧ _ ∧ _ ∧ _ ∧ _ ∧ Hid (Ext wr _)›).2.2.2.2.2.2.2.out))) (HZ1.out.ext (KR.out.trans' ((‹_ ∧ _ ∧ _ ∧ _ ∧ _ ∧ _ ∧ _ ∧ Hid (Ext wr _)›).2.2.2.2.2.2.2.out))) (by omega) HI1.out).mono ?_); rintro e wA ⟨nA, rfl, hx, ho, -⟩; have XA := Lib.hid (Ext.trans' ((‹_ ∧ _ ∧ _ ∧ _ ∧ _ ∧ _ ∧ _ ∧ Hid (Ext wr _)›).2.2.2.2.2.2.2.out) hx); have OA := Lib.hid ho.read; (try have PB := Lib.hid (OB.out.ext hx)); have PA := OA; clear ho) | (go_at_call_of 79 (Value.slice ba (gr N.ends f).length bc); (with_reducible refine (endsUnder_any (HC.out.ext (KR.out.trans' ((‹_ ∧ _ ∧ _ ∧ _ ∧ _ ∧ _ ∧ _ ∧ Hid (Ext wr _)›).2.2.2.2.2.2.2.out))) (HZ2.out.ext (KR.out.trans' ((‹_ ∧ _ ∧ _ ∧ _ ∧ _ ∧ _ ∧ _ ∧ Hid (Ext wr _)›).2.2.2.2.2.2.2.out))) (by omega) HI2.out).mono ?_); rintro e wB ⟨nB, rfl, hx, ho, -⟩; have XB := Lib.hid (Ext.trans' ((‹_ ∧ _ ∧ _ ∧ _ ∧ _ ∧ _ ∧ _ ∧ Hid (Ext wr _)›).2.2.2.2.2.2.2.out) hx); have OB := Lib.hid ho.read; (try have PA := Lib.hid (OA.out.ext hx)); have PB := OB; clear ho) | (go_at_call 78; (with_reducible refine (endEq_any PA.out PB.out).mono ?_); rintro e wC ⟨rfl, hx⟩; rw [DU.out]; have XC := Lib.hid (Ext.trans' ((‹_ ∧ _ ∧ _ ∧ _ ∧ _ ∧ _ ∧ _ ∧ Hid (Ext wr _)›).2.2.2.2.2.2.2.out) hx); clear hx))
        all_goals go_wp2
        all_goals go_roundg (n - (k + 1))
        case measure => omega
        case rel => exact ⟨k + 1, by omega, rfl, by go_num, Hr.out.1.trans' XC.out, YF.out⟩
      · have DU := Lib.hid (dec_false e2)
        have D2 := Lib.hid (HNF.out fun h => e2 (LS.out.1 h).2)
        clear e2
        go_region_held3 (fun w' => w'.cell? ⟨w.heap.size, 0, none⟩ = some (.slice (some ⟨eb, eo, none⟩) N.ends.length ec) ∧ w'.cell? ⟨w.heap.size, 1, none⟩ = some v1 ∧ w'.cell? ⟨w.heap.size, 2, none⟩ = some (.slice (some ⟨pb, po, none⟩) N.inputs.length pc) ∧ w'.cell? ⟨eb, eo + k, none⟩ = some (.slice aa (gr N.ends k).length ac) ∧ w'.cell? ⟨eb, eo + f, none⟩ = some (.slice ba (gr N.ends f).length bc) ∧ w'.cell? ⟨pb, po + k, none⟩ = some (.int .i64 xk) ∧ w'.cell? ⟨pb, po + f, none⟩ = some (.int .i64 xf) ∧ Hid (Ext wr w')) (first | exact mkS _ (Ext.rfl' wr).drew' | exact mkS _ XA.out | exact mkS _ XB.out | exact mkS _ XC.out | fail)
          (first | (go_at_call_of 79 (Value.slice aa (gr N.ends k).length ac); (with_reducible refine (endsUnder_any (HC.out.ext (KR.out.trans' ((‹_ ∧ _ ∧ _ ∧ _ ∧ _ ∧ _ ∧ _ ∧ Hid (Ext wr _)›).2.2.2.2.2.2.2.out))) (HZ1.out.ext (KR.out.trans' ((‹_ ∧ _ ∧ _ ∧ _ ∧ _ ∧ _ ∧ _ ∧ Hid (Ext wr _)›).2.2.2.2.2.2.2.out))) (by omega) HI1.out).mono ?_); rintro e wA ⟨nA, rfl, hx, ho, -⟩; have XA := Lib.hid (Ext.trans' ((‹_ ∧ _ ∧ _ ∧ _ ∧ _ ∧ _ ∧ _ ∧ Hid (Ext wr _)›).2.2.2.2.2.2.2.out) hx); have OA := Lib.hid ho.read; (try have PB := Lib.hid (OB.out.ext hx)); have PA := OA; clear ho) | (go_at_call_of 79 (Value.slice ba (gr N.ends f).length bc); (with_reducible refine (endsUnder_any (HC.out.ext (KR.out.trans' ((‹_ ∧ _ ∧ _ ∧ _ ∧ _ ∧ _ ∧ _ ∧ Hid (Ext wr _)›).2.2.2.2.2.2.2.out))) (HZ2.out.ext (KR.out.trans' ((‹_ ∧ _ ∧ _ ∧ _ ∧ _ ∧ _ ∧ _ ∧ Hid (Ext wr _)›).2.2.2.2.2.2.2.out))) (by omega) HI2.out).mono ?_); rintro e wB ⟨nB, rfl, hx, ho, -⟩; have XB := Lib.hid (Ext.trans' ((‹_ ∧ _ ∧ _ ∧ _ ∧ _ ∧ _ ∧ _ ∧ Hid (Ext wr _)›).2.2.2.2.2.2.2.out) hx); have OB := Lib.hid ho.read; (try have PA := Lib.hid (OA.out.ext hx)); have PB := OB; clear ho) | (go_at_call 78; (with_reducible refine (endEq_any PA.out PB.out).mono ?_); rintro e wC ⟨rfl, hx⟩; rw [DU.out]; have XC := Lib.hid (Ext.trans' ((‹_ ∧ _ ∧ _ ∧ _ ∧ _ ∧ _ ∧ _ ∧ Hid (Ext wr _)›).2.2.2.2.2.2.2.out) hx); clear hx))
        all_goals go_wp2
        all_goals go_ret2
        all_goals exact ⟨ret_bbT (D2.out.symm.trans D.out) G.out.symm, KR.out.trans' XC.out⟩
    · obtain rfl : k = n := by omega
      have D2 := Lib.hid (dec_true (p := ConsOK N c) (fst_end HL.out HPOS.out (by rw [← HCL.out]; exact Hr.out.2)))
      go_wp2
      go_ret2
      exact ⟨ret_bbT (D2.out.symm.trans D.out) G.out.symm, K1.out.trans' Hr.out.1⟩
end Go.Proofs.Ytkpdbceglejbnaa
