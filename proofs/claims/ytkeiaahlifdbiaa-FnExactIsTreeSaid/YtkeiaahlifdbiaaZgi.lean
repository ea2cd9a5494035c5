/- The program's GirthOf. -/
import Derived.Test.YtkeiaahlifdbiaaZgm
import Derived.Test.YtkeiaahlifdbiaaZck
import Derived.RegionTactic
namespace Go.Proofs.Ytkeiaahlifdbiaa
open Go.RowKit

set_option maxHeartbeats 3200000 in
set_option maxRecDepth 100000 in
theorem isStub_any {w : World} {v : Value} {u p x q : Int} (h : IntSl w v [u, p, x, q]) :
    Calls Try.prog 83 #[v] w fun e w' => e = .returned (.bool (decide (u = x ∧ p = q))) ∧ Ext w w' := by
  obtain ⟨a, b, o, c, rfl, ha, hl, hm, hc⟩ := h
  obtain rfl := ha (by simp)
  unfold maxLen at hm
  obtain ⟨_, c0, rfl, -⟩ := hc 0 (by simp)
  obtain ⟨_, c1, rfl, -⟩ := hc 1 (by simp)
  obtain ⟨_, c2, rfl, -⟩ := hc 2 (by simp)
  obtain ⟨_, c3, rfl, -⟩ := hc 3 (by simp)
  simp only [List.length_cons, List.length_nil, Nat.zero_add, Nat.add_zero] at hl c0 c1 c2 c3 ⊢
  have P0 : ∀ x' : Wx w, x'.w.cell? ⟨b, o, none⟩ = some (.int .i64 u) := fun x' => x'.ok.cell' c0
  have P1 : ∀ x' : Wx w, x'.w.cell? ⟨b, o + 1, none⟩ = some (.int .i64 p) := fun x' => x'.ok.cell' c1
  have P2 : ∀ x' : Wx w, x'.w.cell? ⟨b, o + 2, none⟩ = some (.int .i64 x) := fun x' => x'.ok.cell' c2
  have P3 : ∀ x' : Wx w, x'.w.cell? ⟨b, o + 3, none⟩ = some (.int .i64 q) := fun x' => x'.ok.cell' c3
  clear hc c0 c1 c2 c3 ha
  by_cases h1 : u = x
  · have b1 : (u == x) = true := by simpa using h1
    by_cases h2 : p = q
    · have b2 : (p == q) = true := by simpa using h2
      have E := Lib.hid (show decide (u = x ∧ p = q) = true from decide_eq_true ⟨h1, h2⟩)
      clear h1 h2
      go_enter Try.func83, Try.ntmps83
      go_wp2_with fail
      refine wp_region_ext (by kernel_rfl) (by kernel_rfl) ?_
      repeat (go_big_quiet_step (fail))
      refine wpQuiet_nil ?_
      rintro wq ⟨⟨_, hz2⟩, rfl⟩
      have E3 := Lib.hid hz2
      clear hz2 P0 P1 P2 P3
      go_wp2
      go_ret
      exact ⟨ret_bool E.out.symm, E3.out⟩
    · have b2 : (p == q) = false := beq_eq_false_iff_ne.2 h2
      have E := Lib.hid (show decide (u = x ∧ p = q) = false from decide_eq_false fun h => h2 h.2)
      clear h1 h2
      go_enter Try.func83, Try.ntmps83
      go_wp2_with fail
      refine wp_region_ext (by kernel_rfl) (by kernel_rfl) ?_
      repeat (go_big_quiet_step (fail))
      refine wpQuiet_nil ?_
      rintro wq ⟨⟨_, hz2⟩, rfl⟩
      have E3 := Lib.hid hz2
      clear hz2 P0 P1 P2 P3
      go_wp2
      go_ret
      exact ⟨ret_bool E.out.symm, E3.out⟩
  · have b1 : (u == x) = false := beq_eq_false_iff_ne.2 h1
    have E := Lib.hid (show decide (u = x ∧ p = q) = false from decide_eq_false fun h => h1 h.1)
    clear h1
    go_enter Try.func83, Try.ntmps83
    go_wp2_with fail
    refine wp_region_ext (by kernel_rfl) (by kernel_rfl) ?_
    repeat (go_big_quiet_step (fail))
    refine wpQuiet_nil ?_
    rintro wq ⟨⟨_, hz2⟩, rfl⟩
    have E3 := Lib.hid hz2
    clear hz2 P0 P1 P2 P3
    go_wp2
    go_ret
    exact ⟨ret_bool E.out.symm, E3.out⟩

structure NetRes (W wx : World) (pb : Nat) (x0 x1 x2 : Value) (M : Net) (bs : List Nat) : Prop where
  ext : Ext W wx
  ge : W.heap.size ≤ pb
  row : wx.rowIs pb 29 3 (tri x0 x1 x2)
  own : OwnNet wx (.agg #[x0, x1, x2]) M bs
  nodup : bs.Nodup
  lo : ∀ b ∈ bs, W.heap.size ≤ b
theorem OwnNet.keepT {w : World} {p : Nat} {y0 y1 y2 x0 x1 x2 v : Value} {N : Net} {bs : List Nat} (h : OwnNet w v N bs) (R : w.rowIs p 29 3 (tri y0 y1 y2)) :
    OwnNet (((w.setCell ⟨p, 0, none⟩ x0).setCell ⟨p, 1, none⟩ x1).setCell ⟨p, 2, none⟩ x2) v N bs := by
  refine h.keep fun b hb => ?_
  obtain ⟨v0, v1, v2, b0, b1, b2, rfl, ⟨Rr, c0, T, ho, hr, rfl⟩, h1, h2, rfl⟩ := h
  simp only [List.mem_append] at hb
  rcases hb with (hb | hb) | hb | hb
  · exact own_tri R 67 c0 (by decide) ho.typed b hb
  · obtain ⟨i, hi, hbi⟩ := List.mem_flatMap.1 hb
    exact own_tri R 66 _ (by decide) (hr i (List.mem_range.1 hi)).1.typed b hbi
  · exact own_tri R 3 b1 (by decide) h1.1.typed b hb
  · exact own_tri R 3 b2 (by decide) h2.1.typed b hb
theorem netres_store {W wc : World} {pb : Nat} {y0 y1 y2 x0 x1 x2 : Value} {M : Net} {bs : List Nat} (R : wc.rowIs pb 29 3 (tri y0 y1 y2)) (hX : Ext W wc) (hge : W.heap.size ≤ pb) (O : OwnNet wc (.agg #[x0, x1, x2]) M bs) (hf : bs.Nodup ∧ ∀ b ∈ bs, W.heap.size ≤ b) :
    NetRes W (((wc.setCell ⟨pb, 0, none⟩ x0).setCell ⟨pb, 1, none⟩ x1).setCell ⟨pb, 2, none⟩ x2) pb x0 x1 x2 M bs :=
  ⟨store3_ext hX hge _ _ _, hge, row3_set2 (row3_set1 (row3_set0 R _) _) _, O.keepT R, hf.1, hf.2⟩
theorem netres_alloc {W wc : World} {x0 x1 x2 : Value} {M : Net} {bs : List Nat} (hX : Ext W wc) (O : OwnNet wc (.agg #[x0, x1, x2]) M bs) (hf : bs.Nodup ∧ ∀ b ∈ bs, W.heap.size ≤ b) :
    NetRes W (wc.alloc (.cells #[x0, x1, x2] 29)) wc.heap.size x0 x1 x2 M bs :=
  ⟨hX.alloc' _, hX.size, row3_made _ _ _ _ _, O.ext ((Ext.rfl' _).alloc' _), hf.1, hf.2⟩
theorem NetRes.lt {W wx : World} {pb : Nat} {x0 x1 x2 : Value} {M : Net} {bs : List Nat} (h : NetRes W wx pb x0 x1 x2 M bs) : ∀ b ∈ bs, b < wx.heap.size := h.own.lt

noncomputable def gAns (N : Net) : Int := if dec (Good N) = true then girth N else 0
theorem gAns_t {N : Net} (h : Good N) : gAns N = girth N := by unfold gAns; rw [if_pos (dec_true h)]
theorem gAns_f {N : Net} (h : ¬ Good N) : gAns N = 0 := by unfold gAns; rw [if_neg (by rw [dec_false h]; simp)]
def GirB (N : Net) : Prop := Good N ∧ girth N ≠ 0
theorem ret_ig {x y : Int} {b c : Bool} (h : x = y) (k : b = c) : Ending.returned (.tuple #[.int .i64 x, .bool b]) = .returned (.tuple #[.int .i64 y, .bool c]) := by rw [h, k]
theorem setE_skip {N : Net} {t v i : Nat} (he : gr (edgesTo N N.ends.length) t = quad N v i) (hs : IsStub N v i) (d : Int) : SetE N t d ↔ SetE N (t + 1) d := by
  constructor
  · rintro ⟨s, h1, h2⟩; exact ⟨s, by omega, h2⟩
  · rintro ⟨s, h1, h2, u, k, h3, h4, h5, h6, h7⟩
    by_cases e : s = t
    · subst e
      rw [he] at h5
      have e1 : (v : Int) = (u : Int) := by have := congrArg (fun l => gi l 0) h5; simpa [quad, gi] using this
      have e2 : (i : Int) = (k : Int) := by have := congrArg (fun l => gi l 1) h5; simpa [quad, gi] using this
      obtain rfl : v = u := by omega
      obtain rfl : i = k := by omega
      exact absurd hs h6
    · exact ⟨s, by omega, h2, u, k, h3, h4, h5, h6, h7⟩
theorem setE_next {N : Net} {t v i : Nat} (ht : t < (edgesTo N N.ends.length).length) (hv : v < N.ends.length) (hi : i < (gr N.ends v).length) (he : gr (edgesTo N N.ends.length) t = quad N v i) (hs : ¬ IsStub N v i) (d : Int) : SetE N (t + 1) d ↔ SetE N t d ∨ d = avd N v i := by
  constructor
  · rintro ⟨s, h1, h2, u, k, h3, h4, h5, h6, h7⟩
    by_cases e : s = t
    · subst e
      rw [he] at h5
      have e1 : (v : Int) = (u : Int) := by have := congrArg (fun l => gi l 0) h5; simpa [quad, gi] using this
      have e2 : (i : Int) = (k : Int) := by have := congrArg (fun l => gi l 1) h5; simpa [quad, gi] using this
      obtain rfl : v = u := by omega
      obtain rfl : i = k := by omega
      exact .inr h7
    · exact .inl ⟨s, by omega, h2, u, k, h3, h4, h5, h6, h7⟩
  · rintro (⟨s, h1, h2⟩ | h7)
    · exact ⟨s, by omega, h2⟩
    · exact ⟨t, by omega, ht, v, i, hv, hi, he, hs, h7⟩

set_option maxHeartbeats 12800000 in
set_option maxRecDepth 100000 in
theorem girthX_any {w : World} {vn : Value} {N : Net} (h : NetAt w vn N) :
    Calls Try.prog 56 #[vn] w fun e w' => e = .returned (.tuple #[.int .i64 (gAns N), .bool (dec (GirB N))]) ∧ Ext w w' := by
  have HA := Lib.hid h
  obtain ⟨v0, v1, v2, rfl, hEa, -, -⟩ := h
  clear hEa
  obtain ⟨W1, hW1⟩ : ∃ W1, W1 = w.alloc (.cells #[v0, v1, v2] 29) := ⟨_, rfl⟩
  have K0 := Lib.hid (show Ext w W1 by rw [hW1]; exact boxed_ext _ _ _ _ _)
  have R0 := Lib.hid (show W1.rowIs w.heap.size 29 3 (tri v0 v1 v2) by rw [hW1]; exact boxed_row _ _ _ _ _)
  obtain ⟨p0, p1, p2, -, -, -⟩ := row3_facts R0.out
  rw [hW1] at p0 p1 p2
  go_enter Try.func56, Try.ntmps56
  go_wp2_with fail
  rw [← hW1]
  clear hW1 p0 p1 p2
  (with_reducible refine (edgesOf_any (HA.out.ext K0.out)).mono ?_)
  rintro e w1 ⟨ve, es, rfl, hw, ho, hf⟩
  have X1 := Lib.hid hw
  have K1 := Lib.hid (K0.out.trans' hw)
  have R1 := Lib.hid (row_ext R0.out hw)
  have HO := Lib.hid ho.read
  clear hw ho hf
  by_cases hg : Good N
  case neg =>
    have D := Lib.hid (dec_false (show ¬ GirB N from fun k => hg k.1))
    have A := Lib.hid (gAns_f hg)
    have HE := HO.out
    rw [edAns_f hg] at HE
    rw [dec_false hg]
    obtain ⟨ea, eb, eo, ec, rfl, -, -, -, -⟩ := HE
    clear hg
    simp only [List.length_nil]
    go_wp2_with fail
    go_loopg [6, 19] 0 (fun g s i wr => g = 0 ∧ s = .int .i64 0 ∧ i = .int .i64 0 ∧ Hid (Ext w1 wr))
    case atStart => exact ⟨rfl, rfl, rfl, Ext.rfl' _⟩
    case round =>
      obtain ⟨rfl, rfl, rfl, Hr⟩ := hrel
      go_wp2
      go_ret2
      exact ⟨ret_ig A.out.symm D.out.symm, K1.out.trans' Hr.out⟩
  have HG := Lib.hid hg
  rw [dec_true hg]
  have HE := HO.out
  rw [edAns_t hg] at HE
  have h40 : N.ends.length ≤ 40 := hg.1.2
  have hL := (edgesTo_len N (good_rows hg) N.ends.length (Nat.le_refl _)).1
  have HFIN := Lib.hid (fun (g : Int) => girth_edges hg (g := g))
  have HED := Lib.hid (show ∀ t, t < (edgesTo N N.ends.length).length → ∃ v i, v < N.ends.length ∧ i < (gr N.ends v).length ∧ gr (edgesTo N N.ends.length) t = quad N v i from fun t ht => by
    have hm : gr (edgesTo N N.ends.length) t ∈ edgesTo N N.ends.length := by
      have : gr (edgesTo N N.ends.length) t = (edgesTo N N.ends.length)[t] := by simp [gr, List.getD, ht]
      rw [this]; exact List.getElem_mem ht
    obtain ⟨v, i, h1, h2, -, h4⟩ := (edgesTo_mem N N.ends.length _).1 hm
    exact ⟨v, i, h1, h2, h4⟩)
  obtain ⟨E, hE⟩ : ∃ E, E = edgesTo N N.ends.length := ⟨_, rfl⟩
  have HEE := Lib.hid hE
  rw [← hE] at HE hL HED HFIN
  have hL2 : E.length ≤ 240 := by omega
  obtain ⟨ea, eb, eo, ec, rfl, hea, hel, hem, hec⟩ := HE
  unfold maxLen at hem
  have Hea := Lib.hid hea
  have Hec := Lib.hid hec
  clear hea hec hg hE hL
  go_wp2_with fail
  go_loopg [6, 19] E.length (fun g s a wr => ∃ (t : Nat) (gg : Int), t ≤ E.length ∧ g = E.length - t ∧ a = .int .i64 t ∧ s = .int .i64 gg ∧ Hid (Ext w1 wr ∧ GM (SetE N t) gg ∧ 0 ≤ gg ∧ gg ≤ 40))
  case atStart => exact ⟨0, 0, Nat.zero_le _, rfl, rfl, rfl, Ext.rfl' _, .inl ⟨rfl, by rintro d ⟨s, h1, -⟩; omega⟩, by omega, by omega⟩
  case round =>
    obtain ⟨t, gg, ht, rfl, rfl, rfl, Hr⟩ := hrel
    have X0 := Lib.hid Hr.out.1
    have G0 := Lib.hid Hr.out.2.1
    have hgr := Hr.out.2.2
    have E0 := Lib.hid (K1.out.trans' Hr.out.1)
    clear Hr
    by_cases hlt : t < E.length
    · obtain ⟨v, i, hv, hi, hq⟩ := HED.out t hlt
      obtain ⟨x, y, hot⟩ := oth HG.out hv hi
      have HOT := Lib.hid hot
      have hqq : gr E t = [(v : Int), (i : Int), (x : Int), (y : Int)] := by rw [hq]; unfold quad; rw [hot.n1, hot.p1]
      have HQ := Lib.hid (show gr (edgesTo N N.ends.length) t = quad N v i by rw [← HEE.out]; exact hq)
      have HTL := Lib.hid (show t < (edgesTo N N.ends.length).length by rw [← HEE.out]; exact hlt)
      have HST := Lib.hid (show IsStub N v i ↔ ((v : Int) = (x : Int) ∧ (i : Int) = (y : Int)) by unfold IsStub; rw [hot.n1, hot.p1]; omega)
      have hx := hot.hw
      obtain ⟨z, hz, hrow⟩ := Hec.out t hlt
      rw [hqq] at hrow
      have HRW := Lib.hid (hrow.ext X0.out)
      obtain ⟨ra, rb, ro, rc, rfl, hra, hrl, hrm, hrc⟩ := hrow
      obtain rfl := Hea.out (by omega)
      obtain rfl := hra (by simp)
      unfold maxLen at hrm
      have hz' := X0.out.cell' hz
      simp only [List.length_cons, List.length_nil, Nat.zero_add] at hz' hrl HRW
      have cell : ∀ (k : Nat) (u : Nat), k < 4 → gi [(v : Int), (i : Int), (x : Int), (y : Int)] k = (u : Int) → w1.cell? ⟨rb, ro + k, none⟩ = some (.int .i64 u) := fun k u hk hu => by
        obtain ⟨z1, k1, k2, _⟩ := hrc k hk
        rw [hu] at k2
        rw [← k2]
        exact k1
      have q1 : w1.cell? ⟨rb, ro, none⟩ = some (.int .i64 v) := cell 0 v (by omega) rfl
      have q2 := cell 1 i (by omega) rfl
      have q3 := cell 2 x (by omega) rfl
      clear hqq hra hrc hz cell hq hot
      go_wp2_with fail
      clear hz'
      (with_reducible refine (isStub_any HRW.out).mono ?_)
      rintro e wb ⟨rfl, hxs⟩
      have XB := Lib.hid (X0.out.trans' hxs)
      have EB := Lib.hid (E0.out.trans' hxs)
      clear hxs
      by_cases hs : (v : Int) = (x : Int) ∧ (i : Int) = (y : Int)
      · rw [decide_eq_true hs]
        have G1 := Lib.hid (gm_congr G0.out (setE_skip HQ.out (HST.out.2 hs)))
        clear hs
        go_wp2
        go_roundg (E.length - (t + 1))
        case measure => omega
        case rel => exact ⟨t + 1, gg, by omega, rfl, by go_num, rfl, XB.out, G1.out, hgr⟩
      · rw [decide_eq_false hs]
        have HNS := Lib.hid (show ¬ IsStub N v i from fun k => hs (HST.out.1 k))
        have HREM := Lib.hid (show RemB N (v : Int) (i : Int) from ⟨HG.out, by omega, by omega, by omega, by rw [Int.toNat_natCast]; omega⟩)
        have DR := Lib.hid (dec_true HREM.out)
        have ER := Lib.hid (show remAns N (v : Int) (i : Int) = woE N v i from remAns_t HREM.out)
        clear hs
        obtain ⟨p0, p1, p2, -, -, -⟩ := row3_facts (row_ext R1.out XB.out)
        have c1 := XB.out.cell' q1
        have c2 := XB.out.cell' q2
        have c3 := XB.out.cell' q3
        clear q1 q2 q3
        have mkS : ∀ w' : World, Ext wb w' → w'.cell? ⟨w.heap.size, 0, none⟩ = some v0 ∧ w'.cell? ⟨w.heap.size, 1, none⟩ = some v1 ∧ w'.cell? ⟨w.heap.size, 2, none⟩ = some v2 ∧ w'.cell? ⟨rb, ro, none⟩ = some (.int .i64 v) ∧ w'.cell? ⟨rb, ro + 1, none⟩ = some (.int .i64 i) ∧ Hid (Ext wb w') := fun w' h => ⟨h.cell' p0, h.cell' p1, h.cell' p2, h.cell' c1, h.cell' c2, h⟩
        go_wp2_with fail
        go_cut [9, 10] from 26 to 36 (fun t9 t10 wx => ∃ (pb : Nat) (a0 : Option Addr) (c0 : Nat) (a1 : Option Addr) (c1 : Nat) (a2 : Option Addr) (c2 : Nat) (bs : List Nat), t9 = .pointer (some ⟨pb, 0, none⟩) ∧ t10 = .bool true ∧ Hid (NetRes wb wx pb (.slice a0 (woE N v i).ends.length c0) (.slice a1 (woE N v i).ids.length c1) (.slice a2 (woE N v i).inputs.length c2) (woE N v i) bs))
        case first =>
          go_region_held3 (fun w' => w'.cell? ⟨w.heap.size, 0, none⟩ = some v0 ∧ w'.cell? ⟨w.heap.size, 1, none⟩ = some v1 ∧ w'.cell? ⟨w.heap.size, 2, none⟩ = some v2 ∧ w'.cell? ⟨rb, ro, none⟩ = some (.int .i64 v) ∧ w'.cell? ⟨rb, ro + 1, none⟩ = some (.int .i64 i) ∧ Hid (Ext wb w'))
            (first | exact mkS _ (Ext.rfl' wb).drew' | exact mkS _ (((Ext.rfl' wb).alloc' _).drew') | exact mkS _ XZ.out | exact mkS _ (XZ.out.alloc' _) | exact mkS _ (store3_ext XZ.out (Nat.le_refl _) _ _ _) | exact mkS _ (store3_ext (XZ.out.alloc' _) XZ.out.size _ _ _) | fail)
            (first | (go_at_call 111; (with_reducible refine (removeEdge_any _ _ (HA.out.ext (EB.out.trans' ((‹_ ∧ _ ∧ _ ∧ _ ∧ _ ∧ Hid (Ext wb _)›).2.2.2.2.2.out)))).mono ?_); rintro e wz ⟨xz, bz, rfl, hx', ho, hf⟩; rw [DR.out]; rw [ER.out] at ho; obtain ⟨a0, c0, a1, c1', a2, c2', rfl⟩ := ho.agg; have hx := hx'; have XZ := Lib.hid (Ext.trans' ((‹_ ∧ _ ∧ _ ∧ _ ∧ _ ∧ Hid (Ext wb _)›).2.2.2.2.2.out) hx'); have OZ := Lib.hid ho; have FZ := Lib.hid (show bz.Nodup ∧ ∀ b ∈ bz, wb.heap.size ≤ b from ⟨hf.1, fun b hb => Nat.le_trans ((‹_ ∧ _ ∧ _ ∧ _ ∧ _ ∧ Hid (Ext wb _)›).2.2.2.2.2.out).size (hf.2 b hb)⟩); (try (first | ((have R := Lib.hid (row_ext (Hid.out ‹Hid (World.rowIs _ _ 29 3 (tri (.slice none 0 0) (.slice none 0 0) (.slice none 0 0)))›) hx')); obtain ⟨f0, f1, f2, f3, f4, f5⟩ := row3_facts R.out) | ((have R := Lib.hid (row_ext (row_ext (row3_made wb (.slice none 0 0) (.slice none 0 0) (.slice none 0 0) 29) ((Ext.rfl' _).drew')) hx')); obtain ⟨f0, f1, f2, f3, f4, f5⟩ := row3_facts R.out) | ((have R := Lib.hid (row_ext (row3_made _ (.slice none 0 0) (.slice none 0 0) (.slice none 0 0) 29) hx')); obtain ⟨f0, f1, f2, f3, f4, f5⟩ := row3_facts R.out))); clear ho hf) | fail)
          all_goals (try clear f0 f1 f2 f3 f4 f5)
          all_goals go_wp2_with fail
          all_goals go_meet
          all_goals first | exact ⟨_, _, _, _, _, _, _, _, rfl, rfl, netres_alloc XZ.out OZ.out FZ.out⟩ | exact ⟨_, _, _, _, _, _, _, _, rfl, rfl, netres_store R.out XZ.out (Nat.le_refl _) OZ.out FZ.out⟩ | exact ⟨_, _, _, _, _, _, _, _, rfl, rfl, netres_store (row3_made _ _ _ _ _) (XZ.out.alloc' _) XZ.out.size (OZ.out.ext ((Ext.rfl' _).alloc' _)) FZ.out⟩
        obtain ⟨pb, a0, c0, a1, c1', a2, c2', bs, rfl, rfl, NR⟩ := hcut
        obtain ⟨wd, hwd⟩ : ∃ wd : World, wd = wc := ⟨_, rfl⟩
        subst hwd
        have XD := Lib.hid (XB.out.trans' NR.out.ext)
        have HGM := Lib.hid (good_w (wo_good HG.out v i))
        have hvM : v < (woE N v i).ends.length := by rw [wo_len]; exact hv
        have hxM : x < (woE N v i).ends.length := by rw [wo_len]; exact hx
        obtain ⟨m0, m1, m2, -, -, -⟩ := row3_facts NR.out.row
        have d1 := NR.out.ext.cell' c1
        have d3 := NR.out.ext.cell' c3
        clear p0 p1 p2 c1 c2 c3 mkS
        have mkT : ∀ w' : World, Ext wd w' → w'.cell? ⟨pb, 0, none⟩ = some (.slice a0 (woE N v i).ends.length c0) ∧ w'.cell? ⟨pb, 1, none⟩ = some (.slice a1 (woE N v i).ids.length c1') ∧ w'.cell? ⟨pb, 2, none⟩ = some (.slice a2 (woE N v i).inputs.length c2') ∧ w'.cell? ⟨rb, ro, none⟩ = some (.int .i64 v) ∧ w'.cell? ⟨rb, ro + 2, none⟩ = some (.int .i64 x) := fun w' h => ⟨h.cell' m0, h.cell' m1, h.cell' m2, h.cell' d1, h.cell' d3⟩
        go_wp2_with fail
        clear m0 m1 m2 d1 d3
        refine wp_region_gate (n := 10) (S := fun w' => w'.cell? ⟨pb, 0, none⟩ = some (.slice a0 (woE N v i).ends.length c0) ∧ w'.cell? ⟨pb, 1, none⟩ = some (.slice a1 (woE N v i).ids.length c1') ∧ w'.cell? ⟨pb, 2, none⟩ = some (.slice a2 (woE N v i).inputs.length c2') ∧ w'.cell? ⟨rb, ro, none⟩ = some (.int .i64 v) ∧ w'.cell? ⟨rb, ro + 2, none⟩ = some (.int .i64 x)) (by kernel_rfl) (mkT _ (Ext.rfl' wd).drew') (fun hHeld => ?_)
        refine wpAnyG_take (i := 0) (v := ?_) rfl (by decide +kernel) (by kernel_rfl) (by decide) (by kernel_rfl) (by kernel_rfl) (fun _ _ _ h => h) (Or.inl ⟨by kernel_rfl, ?_⟩) hHeld ?_
        rotate_left 1
        · (intro w' hSw; (try dsimp only at hSw); go_simp) <;> with_reducible rfl
        simp only [Act.put]
        refine wpAnyG_take (i := 1) (v := ?_) rfl (by decide +kernel) (by kernel_rfl) (by decide) (by kernel_rfl) (by kernel_rfl) (fun _ _ _ h => h) (Or.inl ⟨by kernel_rfl, ?_⟩) hHeld ?_
        rotate_left 1
        · (intro w' hSw; (try dsimp only at hSw); go_simp) <;> with_reducible rfl
        simp only [Act.put]
        refine wpAnyG_take (i := 2) (v := ?_) rfl (by decide +kernel) (by kernel_rfl) (by decide) (by kernel_rfl) (by kernel_rfl) (fun _ _ _ h => h) (Or.inl ⟨by kernel_rfl, ?_⟩) hHeld ?_
        rotate_left 1
        · (intro w' hSw; (try dsimp only at hSw); go_simp) <;> with_reducible rfl
        simp only [Act.put]
        refine wpAnyG_take (i := 3) (v := ?_) rfl (by decide +kernel) (by kernel_rfl) (by decide) (by kernel_rfl) (by kernel_rfl) (fun _ _ _ h => h) (Or.inl ⟨by kernel_rfl, ?_⟩) hHeld ?_
        rotate_left 1
        · (intro w' hSw; (try dsimp only at hSw); go_simp) <;> with_reducible rfl
        simp only [Act.put]
        refine wpAnyG_take (i := 5) (v := ?_) rfl (by decide +kernel) (by kernel_rfl) (by decide) (by kernel_rfl) (by kernel_rfl) (fun _ _ _ h => h) (Or.inl ⟨by kernel_rfl, ?_⟩) hHeld ?_
        rotate_left 1
        · (intro w' hSw; (try dsimp only at hSw); go_simp) <;> with_reducible rfl
        simp only [Act.put]
        refine wpAnyG_take (i := 6) (v := ?_) rfl (by decide +kernel) (by kernel_rfl) (by decide) (by kernel_rfl) (by kernel_rfl) (fun _ _ _ h => h) (Or.inl ⟨by kernel_rfl, ?_⟩) hHeld ?_
        rotate_left 1
        · (intro w' hSw; (try dsimp only at hSw); go_simp) <;> with_reducible rfl
        simp only [Act.put]
        refine wpAnyG_take (i := 7) (v := ?_) rfl (by decide +kernel) (by kernel_rfl) (by decide) (by kernel_rfl) (by kernel_rfl) (fun _ _ _ h => h) (Or.inl ⟨by kernel_rfl, ?_⟩) hHeld ?_
        rotate_left 1
        · (intro w' hSw; (try dsimp only at hSw); go_simp) <;> with_reducible rfl
        simp only [Act.put]
        refine wpAnyG_one (i := 4) rfl (by kernel_rfl) rfl (fun K hK => ?_)
        go_simp
        (with_reducible refine (distancesFrom_any v hvM (NR.out.own.read.ext (Ext.rfl' wd).drew') HGM.out).mono ?_)
        rintro e w3 ⟨ud, bd3, rfl, hx3, hod, hfr⟩
        have HDL := Lib.hid (dst_small HGM.out (x := (v : Int)) (by omega))
        obtain ⟨_, db, dq, dc, rfl, ha2, hl2, hm2, hc2⟩ := hod.read
        rw [HDL.out.1] at ha2 hl2
        obtain rfl := ha2 (by omega)
        obtain ⟨_, hq, rfl, -⟩ := hc2 x (by rw [HDL.out.1]; exact hxM)
        unfold maxLen at hm2
        rw [HDL.out.1]
        have HAV := Lib.hid (show avd N v i = gi (dst (woE N v i) (v : Int)) x by unfold avd; rw [HOT.out.n1, Int.toNat_natCast])
        rw [← HAV.out] at hq
        have X3 := Lib.hid ((Ext.rfl' wd).drew'.trans' hx3)
        clear hHeld hx3 hod hfr ha2 hc2
        refine hK.out _ _ (fun _ => mkT _ X3.out) (fun hHeld' => ?_)
        have hHeld := hHeld' (by decide)
        clear hK K hHeld'
        refine wpAnyG_one (i := 8) rfl (by kernel_rfl) rfl (fun K hK => ?_)
        go_simp
        refine hK.out _ _ (fun _ => hHeld) (fun _ => ?_)
        clear hK K
        refine wpAnyG_one (i := 9) rfl (by kernel_rfl) rfl (fun K hK => ?_)
        go_simp
        refine hK.out _ _ (fun _ => hHeld) (fun _ => ?_)
        clear hK K
        refine wpAnyG_one (i := 10) rfl (by kernel_rfl) rfl (fun K hK => ?_)
        go_simp
        refine hK.out _ _ (fun h => absurd rfl h) (fun _ => ?_)
        clear hK K
        refine wpAnyG_done (by kernel_rfl) ?_ _
        clear hHeld mkT hq
        have hdr := avd_range HG.out hv hi
        have XF := Lib.hid (XD.out.trans' X3.out)
        have G1 := Lib.hid (gm_step G0.out hdr.1 (setE_next HTL.out hv hi HQ.out HNS.out))
        have hsr := gStep_range hgr hdr
        obtain ⟨d, hd⟩ : ∃ d, d = avd N v i := ⟨_, rfl⟩
        rw [← hd] at hdr G1 hsr ⊢
        clear hd
        by_cases e1 : d = -1
        · have hb1 : (d != -1) = false := by simp [e1]
          have HS := Lib.hid (show gStep gg d = gg by unfold gStep; rw [if_neg (by omega)])
          clear e1
          go_wp2
          go_roundg (E.length - (t + 1))
          case measure => omega
          case rel => exact ⟨t + 1, gg, by omega, rfl, by go_num, rfl, XF.out, by rw [← HS.out]; exact G1.out, hgr⟩
        · have hb1 : (d != -1) = true := by simpa using e1
          by_cases e2 : gg = 0
          · have hb2 : (gg == 0) = true := by simpa using e2
            have HS := Lib.hid (show gStep gg d = d + 1 by unfold gStep; rw [if_pos (by omega)])
            clear e1 e2
            go_wp2
            go_roundg (E.length - (t + 1))
            case measure => omega
            case rel => exact ⟨t + 1, d + 1, by omega, rfl, by go_num, rfl, XF.out, by rw [← HS.out]; exact G1.out, by rw [← HS.out]; exact hsr⟩
          · have hb2 : (gg == 0) = false := beq_eq_false_iff_ne.2 e2
            by_cases e3 : d + 1 < gg
            · have hb3 : decide (d + 1 < gg) = true := decide_eq_true e3
              have HS := Lib.hid (show gStep gg d = d + 1 by unfold gStep; rw [if_pos (by omega)])
              go_wp2
              go_roundg (E.length - (t + 1))
              case measure => omega
              case rel => exact ⟨t + 1, d + 1, by omega, rfl, by go_num, rfl, XF.out, by rw [← HS.out]; exact G1.out, by rw [← HS.out]; exact hsr⟩
            · have hb3 : decide (d + 1 < gg) = false := decide_eq_false e3
              have HS := Lib.hid (show gStep gg d = gg by unfold gStep; rw [if_neg (by omega)])
              go_wp2
              go_roundg (E.length - (t + 1))
              case measure => omega
              case rel => exact ⟨t + 1, gg, by omega, rfl, by go_num, rfl, XF.out, by rw [← HS.out]; exact G1.out, hgr⟩
    · obtain rfl : t = E.length := by omega
      have HV := Lib.hid (HFIN.out gg G0.out)
      by_cases e : gg = 0
      · have D := Lib.hid (dec_false (show ¬ GirB N from fun k => k.2 (by rw [← HV.out]; exact e)))
        have hb : decide (gg > 0) = false := decide_eq_false (by omega)
        clear e
        go_wp2
        go_ret2
        exact ⟨ret_ig (by rw [gAns_t HG.out]; exact HV.out) D.out.symm, E0.out⟩
      · have D := Lib.hid (dec_true (show GirB N from ⟨HG.out, by rw [← HV.out]; exact e⟩))
        have hb : decide (gg > 0) = true := decide_eq_true (by omega)
        clear e
        go_wp2
        go_ret2
        exact ⟨ret_ig (by rw [gAns_t HG.out]; exact HV.out) D.out.symm, E0.out⟩
end Go.Proofs.Ytkeiaahlifdbiaa
