/- Several texts in one: Port, Reg, Mut, Good, Ne, Ne2, Agg, Oe, Oe2, App. -/
import Derived.Test.YtkpdbceglejbnaaKa
/- The contract of hasPort. -/
namespace Go.Proofs.Ytkpdbceglejbnaa
open Go.RowKit

theorem Ext.drewN' {a b : World} (h : Ext a b) (n : Nat) : Ext a (b.drewN n) := ⟨h.os, h.tape, h.output, h.size, h.block⟩
def PortOK (l : List (List (Int × Int))) (x y : Int) : Prop := 0 ≤ x ∧ x < l.length ∧ 0 ≤ y ∧ y < (gr l x.toNat).length

set_option maxHeartbeats 800000 in
set_option maxRecDepth 100000 in
theorem hasPort_any {w : World} {v : Value} {l : List (List (Int × Int))} (x y : Int) (h : EndSS w v l) :
    Calls Try.prog 190 #[v, .agg #[.int .i64 x, .int .i64 y]] w fun e w' => e = .returned (.bool (dec (PortOK l x y))) ∧ Ext w w' := by
  obtain ⟨a, b, o, c, rfl, ha, hl, hm, hc⟩ := h
  unfold maxLen at hm
  have Hc := Lib.hid hc
  have Ha := Lib.hid ha
  clear hc ha
  have hX := (Ext.rfl' w).alloc' (.cells #[.int .i64 x, .int .i64 y] 95)
  have HX := Lib.hid hX
  clear hX
  by_cases h1 : 0 ≤ x
  · have d1 : decide (0 ≤ x) = true := by simpa using h1
    by_cases h2 : x < l.length
    · have d2 : decide (x < (l.length : Int)) = true := by simpa using h2
      by_cases h3 : 0 ≤ y
      · have d3 : decide (0 ≤ y) = true := by simpa using h3
        obtain ⟨k, rfl⟩ := Int.eq_ofNat_of_zero_le h1
        have hk : k < l.length := by omega
        obtain ⟨z, hz, hz2⟩ := Hc.out k hk
        obtain ⟨a', b', o', c', rfl, _, hl', hm', _⟩ := hz2
        unfold maxLen at hm'
        obtain rfl := Ha.out (by omega)
        have hz' := HX.out.cell' hz
        have hlt := World.block_lt_of_cell? _ _ hz
        clear hz
        by_cases h4 : y < (gr l k).length
        · have d4 : decide (y < ((gr l k).length : Int)) = true := by simpa using h4
          have Hn := Lib.hid (dec_true (p := PortOK l k y) ⟨h1, h2, h3, by simpa using h4⟩)
          go_enter Try.func190, Try.ntmps190
          go_wp2
          go_quiet (fail)
          go_wp2
          go_ret
          exact ⟨ret_bool Hn.out.symm, HX.out.drewN' _⟩
        · have d4 : decide (y < ((gr l k).length : Int)) = false := by simpa using h4
          have Hn := Lib.hid (dec_false (p := PortOK l k y) (fun h => h4 (by simpa using h.2.2.2)))
          go_enter Try.func190, Try.ntmps190
          go_wp2
          go_quiet (fail)
          go_wp2
          go_ret
          exact ⟨ret_bool Hn.out.symm, HX.out.drewN' _⟩
      · have d3 : decide (0 ≤ y) = false := by simpa using h3
        have Hn := Lib.hid (dec_false (p := PortOK l x y) (fun h => h3 h.2.2.1))
        go_enter Try.func190, Try.ntmps190
        go_wp2
        go_quiet (fail)
        go_wp2
        go_ret
        exact ⟨ret_bool Hn.out.symm, HX.out.drewN' _⟩
    · have d2 : decide (x < (l.length : Int)) = false := by simpa using h2
      have Hn := Lib.hid (dec_false (p := PortOK l x y) (fun h => h2 h.2.1))
      go_enter Try.func190, Try.ntmps190
      go_wp2
      go_quiet (fail)
      go_wp2
      go_ret
      exact ⟨ret_bool Hn.out.symm, HX.out.drewN' _⟩
  · have d1 : decide (0 ≤ x) = false := by simpa using h1
    have Hn := Lib.hid (dec_false (p := PortOK l x y) (fun h => h1 h.1))
    go_enter Try.func190, Try.ntmps190
    go_wp2
    go_quiet (fail)
    go_wp2
    go_ret
    exact ⟨ret_bool Hn.out.symm, HX.out.drewN' _⟩
end Go.Proofs.Ytkpdbceglejbnaa

/- A region that draws its order is walked once, in the order of the text, where each of its operations yields one value in every world in which nothing that was there has changed. -/
namespace Go.Proofs.Ytkpdbceglejbnaa
open Go.RowKit

/-- A world in which nothing of W has changed. -/
structure Wx (W : World) where
  w : World
  ok : Ext W w

instance (W : World) : Nonempty (Wx W) := ⟨⟨W, Ext.rfl' W⟩⟩
instance (W : World) : Inhabited (Wx W) := ⟨⟨W, Ext.rfl' W⟩⟩

theorem wp_region_ext {P : Program} {id : Nat} {Q : Exit → Act → World → Prop} {a : Act} {w : World} {l : List Oper} (hm : P.follows .mixedOrders = true) (hB : Region.lexB .any l.toArray = true)
    (h : wpQuiet P l.toArray (fun w' => ∃ x : Wx w, w' = x.w) (fun a' => ∀ w', (∃ x : Wx w, w' = x.w) → Q .normal a' w') l a) : (Code.region id l.toArray true).wp P Q a w :=
  wp_region_quiet (C := fun w' => ∃ x : Wx w, w' = x.w) hm hB ⟨⟨_, (Ext.rfl' w).drew'⟩, rfl⟩ (by simpa using h)

theorem in_ext {P : Program} {f : FuncId} {args : Array Value} {W : World} {x : Wx W} {v : Value}
    (h : Calls P f args x.w fun e w' => e = .returned v ∧ Ext x.w w') : Calls P f args x.w fun e w'' => e = .returned v ∧ ∃ y : Wx W, w'' = y.w :=
  h.mono fun _ w' ⟨he, hx⟩ => ⟨he, ⟨w', x.ok.trans' hx⟩, rfl⟩
theorem in_same {P : Program} {f : FuncId} {args : Array Value} {W : World} {x : Wx W} {v : Value}
    (h : Calls P f args x.w fun e w' => e = .returned v ∧ x.w = w') : Calls P f args x.w fun e w'' => e = .returned v ∧ ∃ y : Wx W, w'' = y.w :=
  h.mono fun _ _ ⟨he, hx⟩ => ⟨he, x, hx.symm⟩
theorem in_ext_bool {P : Program} {f : FuncId} {args : Array Value} {W : World} {x : Wx W} {b c : Bool}
    (h : Calls P f args x.w fun e w' => e = .returned (.bool b) ∧ Ext x.w w') (e : b = c) : Calls P f args x.w fun e w'' => e = .returned (.bool c) ∧ ∃ y : Wx W, w'' = y.w := by
  subst e; exact in_ext h
theorem in_same_bool {P : Program} {f : FuncId} {args : Array Value} {W : World} {x : Wx W} {b c : Bool}
    (h : Calls P f args x.w fun e w' => e = .returned (.bool b) ∧ x.w = w') (e : b = c) : Calls P f args x.w fun e w'' => e = .returned (.bool c) ∧ ∃ y : Wx W, w'' = y.w := by
  subst e; exact in_same h
end Go.Proofs.Ytkpdbceglejbnaa

/- The contracts of isMutual and areMutualEnds. -/
namespace Go.Proofs.Ytkpdbceglejbnaa
open Go.RowKit

def JoinOK (l : List (List (Int × Int))) (v i : Nat) : Prop :=
  PortOK l (gn (gr l v) i) (gp (gr l v) i) ∧ gn (gr l (gn (gr l v) i).toNat) (gp (gr l v) i).toNat = v ∧ gp (gr l (gn (gr l v) i).toNat) (gp (gr l v) i).toNat = i
def RowOK (l : List (List (Int × Int))) (v : Nat) : Prop := (gr l v).length ≤ 6 ∧ ∀ i, i < (gr l v).length → JoinOK l v i
def EndsOK (l : List (List (Int × Int))) : Prop := ∀ v, v < l.length → RowOK l v

theorem dec_eq_of {p : Prop} {b : Bool} (h1 : p → b = true) (h2 : ¬ p → b = false) : b = dec p := by
  by_cases h : p
  · rw [dec_true h, h1 h]
  · rw [dec_false h, h2 h]

theorem two_cells (w : World) (x y u v : Value) : (((w.alloc (.cells #[x, y] 95)).alloc (.cells #[u, v] 95)).drew).cell? ⟨w.heap.size, 0, none⟩ = some x ∧ (((w.alloc (.cells #[x, y] 95)).alloc (.cells #[u, v] 95)).drew).cell? ⟨w.heap.size, 1, none⟩ = some y ∧
    (((w.alloc (.cells #[x, y] 95)).alloc (.cells #[u, v] 95)).drew).cell? ⟨w.heap.size + 1, 0, none⟩ = some u ∧ (((w.alloc (.cells #[x, y] 95)).alloc (.cells #[u, v] 95)).drew).cell? ⟨w.heap.size + 1, 1, none⟩ = some v := by
  have h := (Ext.rfl' (w.alloc (.cells #[x, y] 95))).alloc' (.cells #[u, v] 95)
  refine ⟨?_, ?_, ?_, ?_⟩ <;> simp
set_option maxHeartbeats 1600000 in
set_option maxRecDepth 100000 in
theorem isMutual_any {w : World} {v : Value} {l : List (List (Int × Int))} (h : EndSS w v l) (x y : Nat) (hx : x < l.length) (hy : y < (gr l x).length) :
    Calls Try.prog 166 #[v, .agg #[.int .i64 x, .int .i64 y]] w fun e w' => e = .returned (.bool (dec (JoinOK l x y))) ∧ Ext w w' := by
  have HE := Lib.hid h
  obtain ⟨a, b, o, c, rfl, ha, hl, hm, hc⟩ := h
  unfold maxLen at hm
  have Hc := Lib.hid hc
  have Ha := Lib.hid ha
  clear hc ha
  obtain rfl := Ha.out (by omega)
  obtain ⟨z, hz, hrow⟩ := Hc.out x hx
  obtain ⟨a1, b1, o1, c1, rfl, ha1, hl1, hm1, hc1⟩ := hrow
  unfold maxLen at hm1
  obtain rfl := ha1 (by omega)
  obtain ⟨q1, q2, _⟩ := hc1 y hy
  have HX := Lib.hid ((Ext.rfl' w).alloc' (.cells #[.int .i64 (x : Int), .int .i64 (y : Int)] 95))
  have HX2 := Lib.hid (HX.out.alloc' (.cells #[.int .i64 0, .int .i64 0] 95))
  have hy' := HX.out.cell' hz
  have p1' := HX.out.cell' q1
  have p2' := HX.out.cell' q2
  have hz' := HX2.out.cell' hz
  have q1' := HX2.out.cell' q1
  have q2' := HX2.out.cell' q2
  clear hc1 ha1 hz q1 q2
  by_cases hp : PortOK l (gn (gr l x) y) (gp (gr l x) y)
  · obtain ⟨p1, p2, p3, p4⟩ := hp
    obtain ⟨xx, hxx⟩ := Int.eq_ofNat_of_zero_le p1
    obtain ⟨yy, hyy⟩ := Int.eq_ofNat_of_zero_le p3
    have Hp := Lib.hid (show PortOK l (gn (gr l x) y) (gp (gr l x) y) from ⟨p1, p2, p3, p4⟩)
    rw [hxx] at p1' q1' p2 p4
    rw [hyy] at p2' q2' p4
    have hxl : xx < l.length := by omega
    have hyl : yy < (gr l xx).length := by simpa using p4
    have Hb := Lib.hid (dec_true (p := PortOK l xx yy) ⟨by omega, by omega, by omega, by simpa using p4⟩)
    obtain ⟨z2, hz2, hrow2⟩ := Hc.out xx hxl
    obtain ⟨a2, b2, o2, c2, rfl, ha2, hl2, hm2, hc2⟩ := hrow2
    obtain rfl := ha2 (by omega)
    obtain ⟨r1, r2, _⟩ := hc2 yy hyl
    have Hxx := Lib.hid hxx
    have Hyy := Lib.hid hyy
    unfold maxLen at hm2
    have HW := Lib.hid (HX.out.alloc' (.cells #[.int .i64 (xx : Int), .int .i64 (yy : Int)] 95)).drew'
    have P0 : ∀ x' : Wx (((w.alloc (.cells #[.int .i64 (x : Int), .int .i64 (y : Int)] 95)).alloc (.cells #[.int .i64 (xx : Int), .int .i64 (yy : Int)] 95)).drew), x'.w.cell? ⟨w.heap.size, 0, none⟩ = some (.int .i64 (x : Int)) := fun x' => x'.ok.cell' (two_cells w _ _ _ _).1
    have P1 : ∀ x' : Wx (((w.alloc (.cells #[.int .i64 (x : Int), .int .i64 (y : Int)] 95)).alloc (.cells #[.int .i64 (xx : Int), .int .i64 (yy : Int)] 95)).drew), x'.w.cell? ⟨w.heap.size, 1, none⟩ = some (.int .i64 (y : Int)) := fun x' => x'.ok.cell' (two_cells w _ _ _ _).2.1
    have s0 : ∀ x' : Wx (((w.alloc (.cells #[.int .i64 (x : Int), .int .i64 (y : Int)] 95)).alloc (.cells #[.int .i64 (xx : Int), .int .i64 (yy : Int)] 95)).drew), x'.w.cell? ⟨w.heap.size + 1, 0, none⟩ = some (.int .i64 (xx : Int)) := fun x' => x'.ok.cell' (two_cells w _ _ _ _).2.2.1
    have s1 : ∀ x' : Wx (((w.alloc (.cells #[.int .i64 (x : Int), .int .i64 (y : Int)] 95)).alloc (.cells #[.int .i64 (xx : Int), .int .i64 (yy : Int)] 95)).drew), x'.w.cell? ⟨w.heap.size + 1, 1, none⟩ = some (.int .i64 (yy : Int)) := fun x' => x'.ok.cell' (two_cells w _ _ _ _).2.2.2
    have t0 : ∀ x' : Wx (((w.alloc (.cells #[.int .i64 (x : Int), .int .i64 (y : Int)] 95)).alloc (.cells #[.int .i64 (xx : Int), .int .i64 (yy : Int)] 95)).drew), x'.w.cell? ⟨b, o + xx, none⟩ = _ := fun x' => x'.ok.cell' (HW.out.cell' hz2)
    have t1 : ∀ x' : Wx (((w.alloc (.cells #[.int .i64 (x : Int), .int .i64 (y : Int)] 95)).alloc (.cells #[.int .i64 (xx : Int), .int .i64 (yy : Int)] 95)).drew), x'.w.cell? ⟨b2, o2 + yy * 2, none⟩ = _ := fun x' => x'.ok.cell' (HW.out.cell' r1)
    have t2 : ∀ x' : Wx (((w.alloc (.cells #[.int .i64 (x : Int), .int .i64 (y : Int)] 95)).alloc (.cells #[.int .i64 (xx : Int), .int .i64 (yy : Int)] 95)).drew), x'.w.cell? ⟨b2, o2 + yy * 2 + 1, none⟩ = _ := fun x' => x'.ok.cell' (HW.out.cell' r2)
    clear hc2 ha2 hz2 r1 r2 hxx hyy p1 p2 p3 p4
    by_cases hv1 : gn (gr l xx) yy = x
    · rw [hv1] at t1
      by_cases hv2 : gp (gr l xx) yy = y
      · rw [hv2] at t2
        have Hn := Lib.hid (dec_true (p := JoinOK l x y) ⟨Hp.out, by rw [Hxx.out, Hyy.out]; exact ⟨hv1, hv2⟩⟩)
        clear hv1 hv2
        go_enter Try.func166, Try.ntmps166
        go_wp2_with fail
        go_region
        go_wp2_with fail
        refine wp_region_ext (by kernel_rfl) (by kernel_rfl) ?_
        repeat (go_big_quiet_step ((go_at_call 190; exact in_ext_bool (hasPort_any _ _ (HE.out.ext (HW.out.trans' (Wx.ok _)))) Hb.out)))
        refine wpQuiet_nil ?_
        rintro _ ⟨⟨wq, hq⟩, rfl⟩
        have HY := Lib.hid (HW.out.trans' hq)
        clear hq
        go_wp2
        go_ret
        exact ⟨ret_bool Hn.out.symm, HY.out⟩
      · have hvb : (gp (gr l xx) yy == (y : Int)) = false := beq_eq_false_iff_ne.2 hv2
        have Hn := Lib.hid (dec_false (p := JoinOK l x y) (fun h => hv2 (by have := h.2.2; rw [Hxx.out, Hyy.out] at this; exact this)))
        clear hv1 hv2
        go_enter Try.func166, Try.ntmps166
        go_wp2_with fail
        go_region
        go_wp2_with fail
        refine wp_region_ext (by kernel_rfl) (by kernel_rfl) ?_
        repeat (go_big_quiet_step ((go_at_call 190; exact in_ext_bool (hasPort_any _ _ (HE.out.ext (HW.out.trans' (Wx.ok _)))) Hb.out)))
        refine wpQuiet_nil ?_
        rintro _ ⟨⟨wq, hq⟩, rfl⟩
        have HY := Lib.hid (HW.out.trans' hq)
        clear hq
        go_wp2
        go_ret
        exact ⟨ret_bool Hn.out.symm, HY.out⟩
    · have hvb : (gn (gr l xx) yy == (x : Int)) = false := beq_eq_false_iff_ne.2 hv1
      have Hn := Lib.hid (dec_false (p := JoinOK l x y) (fun h => hv1 (by have := h.2.1; rw [Hxx.out, Hyy.out] at this; exact this)))
      clear hv1
      go_enter Try.func166, Try.ntmps166
      go_wp2_with fail
      go_region
      go_wp2_with fail
      refine wp_region_ext (by kernel_rfl) (by kernel_rfl) ?_
      repeat (go_big_quiet_step ((go_at_call 190; exact in_ext_bool (hasPort_any _ _ (HE.out.ext (HW.out.trans' (Wx.ok _)))) Hb.out)))
      refine wpQuiet_nil ?_
      rintro _ ⟨⟨wq, hq⟩, rfl⟩
      have HY := Lib.hid (HW.out.trans' hq)
      clear hq
      go_wp2
      go_ret
      exact ⟨ret_bool Hn.out.symm, HY.out⟩
  · have Hb := Lib.hid (dec_false hp)
    have Hn := Lib.hid (dec_false (p := JoinOK l x y) (fun h => hp h.1))
    clear hp
    have HW := Lib.hid (HX.out.alloc' (.cells #[.int .i64 (gn (gr l x) y), .int .i64 (gp (gr l x) y)] 95)).drew'
    have P0 : ∀ x' : Wx (((w.alloc (.cells #[.int .i64 (x : Int), .int .i64 (y : Int)] 95)).alloc (.cells #[.int .i64 (gn (gr l x) y), .int .i64 (gp (gr l x) y)] 95)).drew), x'.w.cell? ⟨w.heap.size, 0, none⟩ = some (.int .i64 (x : Int)) := fun x' => x'.ok.cell' (two_cells w _ _ _ _).1
    have P1 : ∀ x' : Wx (((w.alloc (.cells #[.int .i64 (x : Int), .int .i64 (y : Int)] 95)).alloc (.cells #[.int .i64 (gn (gr l x) y), .int .i64 (gp (gr l x) y)] 95)).drew), x'.w.cell? ⟨w.heap.size, 1, none⟩ = some (.int .i64 (y : Int)) := fun x' => x'.ok.cell' (two_cells w _ _ _ _).2.1
    have s0 : ∀ x' : Wx (((w.alloc (.cells #[.int .i64 (x : Int), .int .i64 (y : Int)] 95)).alloc (.cells #[.int .i64 (gn (gr l x) y), .int .i64 (gp (gr l x) y)] 95)).drew), x'.w.cell? ⟨w.heap.size + 1, 0, none⟩ = some (.int .i64 (gn (gr l x) y)) := fun x' => x'.ok.cell' (two_cells w _ _ _ _).2.2.1
    have s1 : ∀ x' : Wx (((w.alloc (.cells #[.int .i64 (x : Int), .int .i64 (y : Int)] 95)).alloc (.cells #[.int .i64 (gn (gr l x) y), .int .i64 (gp (gr l x) y)] 95)).drew), x'.w.cell? ⟨w.heap.size + 1, 1, none⟩ = some (.int .i64 (gp (gr l x) y)) := fun x' => x'.ok.cell' (two_cells w _ _ _ _).2.2.2
    go_enter Try.func166, Try.ntmps166
    go_wp2_with fail
    go_region
    go_wp2_with fail
    refine wp_region_ext (by kernel_rfl) (by kernel_rfl) ?_
    repeat (go_big_quiet_step ((go_at_call 190; exact in_ext_bool (hasPort_any _ _ (HE.out.ext (HW.out.trans' (Wx.ok _)))) Hb.out)))
    refine wpQuiet_nil ?_
    rintro _ ⟨⟨wq, hq⟩, rfl⟩
    have HY := Lib.hid (HW.out.trans' hq)
    clear hq
    go_wp2
    go_ret
    exact ⟨ret_bool Hn.out.symm, HY.out⟩

set_option maxHeartbeats 1600000 in
set_option maxRecDepth 100000 in
theorem mutual_any {w : World} {v : Value} {l : List (List (Int × Int))} (h : EndSS w v l) :
    Calls Try.prog 121 #[v] w fun e w' => e = .returned (.bool (dec (EndsOK l))) ∧ Ext w w' := by
  have HE := Lib.hid h
  obtain ⟨a, b, o, c, rfl, ha, hl, hm, hc⟩ := h
  unfold maxLen at hm
  have Hc := Lib.hid hc
  have Ha := Lib.hid ha
  clear hc ha
  go_enter Try.func121, Try.ntmps121
  go_wp2
  go_loopg [8] l.length (fun g i wr => ∃ k : Nat, k ≤ l.length ∧ g = l.length - k ∧ i = .int .i64 k ∧ Hid (Ext w wr ∧ ∀ j, j < k → RowOK l j))
  case atStart => exact ⟨0, Nat.zero_le _, rfl, rfl, Ext.rfl' w, fun j hj => absurd hj (by omega)⟩
  case round =>
    obtain ⟨k, hk, rfl, rfl, Hr⟩ := hrel
    by_cases hlt : k < l.length
    · obtain ⟨z, hz, hrow⟩ := Hc.out k hlt
      have HR := Lib.hid hrow
      obtain ⟨a1, b1, o1, c1, rfl, ha1, hl1, hm1, hc1⟩ := hrow
      unfold maxLen at hm1
      have Hc1 := Lib.hid hc1
      have Ha1 := Lib.hid ha1
      clear hc1 ha1
      obtain rfl := Ha.out (by omega)
      have hz1 := Hr.out.1.cell' hz
      clear hz
      by_cases h6 : 6 < (gr l k).length
      · have H6 := Lib.hid h6
        go_wp2
        go_ret
        exact ⟨ret_f (fun h => absurd (h k hlt).1 (by have := H6.out; omega)), Hr.out.1⟩
      · go_wp2
        have hw0 : ∃ wo : World, wo = wr := ⟨_, rfl⟩
        obtain ⟨wo, rfl⟩ := hw0
        clear hz1
        go_loopg [18] (gr l k).length (fun g i wx => ∃ j : Nat, j ≤ (gr l k).length ∧ g = (gr l k).length - j ∧ i = .int .i64 j ∧ Hid (Ext w wx ∧ ∀ i, i < j → JoinOK l k i))
        case atStart => exact ⟨0, Nat.zero_le _, rfl, rfl, Hr.out.1, fun j hj => absurd hj (by omega)⟩
        case round =>
          obtain ⟨j, hj, rfl, rfl, Hs⟩ := hrel
          by_cases hjt : j < (gr l k).length
          · by_cases hj1 : JoinOK l k j
            · have Hj := Lib.hid hj1
              have Hd := Lib.hid (dec_true hj1)
              clear hj1
              go_wp2_with (go_at_call 166; (with_reducible refine (isMutual_any (HE.out.ext Hs.out.1) k j hlt hjt).mono ?_); rintro e wy ⟨rfl, hy⟩; rw [Hd.out]; have HY := Lib.hid (Hs.out.1.trans' hy); clear hy)
              go_roundg ((gr l k).length - (j + 1))
              case measure => omega
              case rel =>
                refine ⟨j + 1, by omega, rfl, by go_num, HY.out, fun i hi => ?_⟩
                by_cases e : i = j
                · subst e; exact Hj.out
                · exact Hs.out.2 i (by omega)
            · have Hj := Lib.hid hj1
              have Hd := Lib.hid (dec_false hj1)
              clear hj1
              go_wp2_with (go_at_call 166; (with_reducible refine (isMutual_any (HE.out.ext Hs.out.1) k j hlt hjt).mono ?_); rintro e wy ⟨rfl, hy⟩; rw [Hd.out]; have HY := Lib.hid (Hs.out.1.trans' hy); clear hy)
              go_ret
              exact ⟨ret_f (fun h => Hj.out ((h k hlt).2 j hjt)), HY.out⟩
          · obtain rfl : j = (gr l k).length := by omega
            have hjz : ¬ (((gr l k).length : Int) < ((gr l k).length : Int)) := by omega
            go_wp2
            go_roundg (l.length - (k + 1))
            case measure => omega
            case rel =>
              refine ⟨k + 1, by omega, rfl, by go_num, Hs.out.1, fun i hi => ?_⟩
              by_cases e : i = k
              · subst e; exact ⟨by omega, Hs.out.2⟩
              · exact Hr.out.2 i (by omega)
    · go_wp2
      go_ret
      obtain rfl : k = l.length := by omega
      exact ⟨ret_t Hr.out.2, Hr.out.1⟩
end Go.Proofs.Ytkpdbceglejbnaa

/- The contract of the program's own IsNetwork. -/
namespace Go.Proofs.Ytkpdbceglejbnaa
open Go.RowKit

/-- What a network has to fulfil. -/
def Good (N : Net) : Prop := (1 ≤ N.ends.length ∧ N.ends.length ≤ 40) ∧ EndsOK N.ends ∧ IdsOK N.ids N.ends.length ∧ InputsOK N.inputs N.ends.length

set_option maxHeartbeats 1600000 in
set_option maxRecDepth 100000 in
theorem isNetwork_any {w : World} {v : Value} {N : Net} (h : NetAt w v N) :
    Calls Try.prog 73 #[v] w fun e w' => e = .returned (.bool (dec (Good N))) ∧ Ext w w' := by
  obtain ⟨v0, v1, v2, rfl, hE, hI, hP⟩ := h
  have HE := Lib.hid hE
  have HI := Lib.hid hI
  have HP := Lib.hid hP
  obtain ⟨a, b, o, c, rfl, _, hl, hm, _⟩ := hE
  unfold maxLen at hm
  clear hI hP
  have HX := Lib.hid ((Ext.rfl' w).alloc' (.cells #[.slice a N.ends.length c, v1, v2] 34))
  have hA := row3_made w (.slice a N.ends.length c) v1 v2 34
  have HA := Lib.hid hA
  clear hA
  by_cases g1 : N.ends.length < 1
  · have G1 := Lib.hid g1
    go_enter Try.func73, Try.ntmps73
    go_wp2
    go_ret
    exact ⟨ret_f (fun h => absurd h.1.1 (by have := G1.out; omega)), HX.out⟩
  · by_cases g2 : 40 < N.ends.length
    · have G2 := Lib.hid g2
      go_enter Try.func73, Try.ntmps73
      go_wp2
      go_ret
      exact ⟨ret_f (fun h => absurd h.1.2 (by have := G2.out; omega)), HX.out⟩
    · have Hl := Lib.hid (show 1 ≤ N.ends.length ∧ N.ends.length ≤ 40 by omega)
      by_cases e1 : EndsOK N.ends
      · have E1 := Lib.hid (dec_true e1)
        have He1 := Lib.hid e1
        clear e1
        by_cases e2 : IdsOK N.ids N.ends.length
        · have E2 := Lib.hid (dec_true e2)
          have He2 := Lib.hid e2
          clear e2
          have e3 := Lib.hid (dec_congr (p := InputsOK N.inputs N.ends.length) (q := Good N) ⟨fun h => ⟨Hl.out, He1.out, He2.out, h⟩, fun h => h.2.2.2⟩)
          go_enter Try.func73, Try.ntmps73
          go_wp2_with (first | (go_at_call 121; (with_reducible refine (mutual_any (HE.out.ext HX.out)).mono ?_); rintro e w1 ⟨rfl, hw1⟩; rw [E1.out]; have K1 := Lib.hid (HX.out.trans' hw1); obtain ⟨p0, p1, p2, _, _, _⟩ := row3_facts (row_ext HA.out hw1); clear hw1) | (go_at_call 122; (with_reducible refine (areIds_any _ (HI.out.ext K1.out)).mono ?_); rintro e w1 ⟨rfl, rfl⟩; rw [E2.out]) | (go_at_call 123; (with_reducible refine (areInputs_any _ (HP.out.ext K1.out)).mono ?_); rintro e w1 ⟨rfl, rfl⟩))
          go_ret
          exact ⟨ret_bool e3.out, K1.out⟩
        · have E2 := Lib.hid (dec_false e2)
          have He2 := Lib.hid e2
          clear e2
          go_enter Try.func73, Try.ntmps73
          go_wp2_with (first | (go_at_call 121; (with_reducible refine (mutual_any (HE.out.ext HX.out)).mono ?_); rintro e w1 ⟨rfl, hw1⟩; rw [E1.out]; have K1 := Lib.hid (HX.out.trans' hw1); obtain ⟨p0, p1, p2, _, _, _⟩ := row3_facts (row_ext HA.out hw1); clear hw1) | (go_at_call 122; (with_reducible refine (areIds_any _ (HI.out.ext K1.out)).mono ?_); rintro e w1 ⟨rfl, rfl⟩; rw [E2.out]))
          go_ret
          exact ⟨ret_f (fun h => He2.out h.2.2.1), K1.out⟩
      · have E1 := Lib.hid (dec_false e1)
        have He1 := Lib.hid e1
        clear e1
        go_enter Try.func73, Try.ntmps73
        go_wp2_with (first | (go_at_call 121; (with_reducible refine (mutual_any (HE.out.ext HX.out)).mono ?_); rintro e w1 ⟨rfl, hw1⟩; rw [E1.out]; have K1 := Lib.hid (HX.out.trans' hw1); obtain ⟨p0, p1, p2, _, _, _⟩ := row3_facts (row_ext HA.out hw1); clear hw1))
        go_ret
        exact ⟨ret_f (fun h => He1.out h.2.1), K1.out⟩
end Go.Proofs.Ytkpdbceglejbnaa

/- The contract of the model's neGood and IsNetwork. -/
namespace Go.Proofs.Ytkpdbceglejbnaa
open Go.RowKit

/-- The world with a new block of three cells. -/
abbrev boxed (w : World) (v0 v1 v2 : Value) (t : Nat) : World := w.alloc (.cells #[v0, v1, v2] t)
theorem boxed_ext (w : World) (v0 v1 v2 : Value) (t : Nat) : Ext w (boxed w v0 v1 v2 t) := (Ext.rfl' w).alloc' _
theorem boxed_row (w : World) (v0 v1 v2 : Value) (t : Nat) : (boxed w v0 v1 v2 t).rowIs w.heap.size t 3 (tri v0 v1 v2) := row3_made w v0 v1 v2 t

theorem join_in {l : List (List (Int × Int))} {k j : Nat} (h : JoinOK l k j) : InB (gn (gr l k) j) 0 (l.length - 1) ∧ InB (gp (gr l k) j) 0 ((gr l (gn (gr l k) j).toNat).length - 1) := by
  obtain ⟨⟨a, b, c, d⟩, _⟩ := h
  exact ⟨⟨a, by omega⟩, ⟨c, by omega⟩⟩

set_option maxHeartbeats 3200000 in
set_option maxRecDepth 100000 in
/-- The loops of neGood, for networks whose other parts are in order. -/
theorem neGood_loops {w : World} {v : Value} {N : Net} (h : NetAt w v N) (hb : InB N.ends.length 1 40) (h2 : IdsOK N.ids N.ends.length) (h3 : (N.inputs.length : Int) = N.ends.length) (h4 : AllIn N.inputs 0 9) :
    Calls Try.prog 62 #[v] w fun e w' => e = .returned (.bool (dec (Good N))) ∧ Ext w w' := by
  obtain ⟨v0, v1, v2, rfl, hE, hI, hP⟩ := h
  have HE := Lib.hid hE
  have HI := Lib.hid hI
  have HP := Lib.hid hP
  obtain ⟨a, b, o, c, rfl, ha, hl, hm, hc⟩ := hE
  obtain ⟨a1, b1, o1, c1, rfl, _, hl1, hm1, _⟩ := hI
  obtain ⟨a2, b2, o2, c2, rfl, _, hl2, hm2, _⟩ := hP
  unfold maxLen at hm hm1 hm2
  have Hc := Lib.hid hc
  have Ha := Lib.hid ha
  have HB := Lib.hid (dec_true hb)
  have H2 := Lib.hid (dec_true h2)
  have H4 := Lib.hid (dec_true h4)
  have HG := Lib.hid (And.intro hb (And.intro h2 (And.intro h3 h4)))
  have h3b : ((N.inputs.length : Int) != (N.ends.length : Int)) = false := by rw [bne_eq_false_iff_eq]; exact h3
  have HX := Lib.hid (boxed_ext w (.slice a N.ends.length c) (.slice a1 N.ids.length c1) (.slice a2 N.inputs.length c2) 34)
  clear hc ha hb h2 h3 h4
  go_enter Try.func62, Try.ntmps62
  go_wp2_with (first | (go_at_call 103; (with_reducible refine (l1In_any _ _ _ _).mono ?_); rintro e w1 ⟨rfl, rfl⟩; rw [HB.out]) | (go_at_call 113; (with_reducible refine (neIds_any _ (HI.out.ext HX.out)).mono ?_); rintro e w1 ⟨rfl, rfl⟩; rw [H2.out]) | (go_at_call 109; (with_reducible refine (l1All_any _ _ (HP.out.ext HX.out)).mono ?_); rintro e w1 ⟨rfl, rfl⟩; rw [H4.out]))
  go_loopg [39] N.ends.length (fun g i wr => ∃ k : Nat, k ≤ N.ends.length ∧ g = N.ends.length - k ∧ i = .int .i64 k ∧ Hid (Ext (boxed w (.slice a N.ends.length c) (.slice a1 N.ids.length c1) (.slice a2 N.inputs.length c2) 34) wr ∧ ∀ j, j < k → RowOK N.ends j))
  case atStart => exact ⟨0, Nat.zero_le _, rfl, rfl, Ext.rfl' _, fun j hj => absurd hj (by omega)⟩
  case round =>
    obtain ⟨k, hk, rfl, rfl, Hr⟩ := hrel
    by_cases hlt : k < N.ends.length
    · obtain ⟨z, hz, hrow⟩ := Hc.out k hlt
      obtain ⟨a3, b3, o3, c3, rfl, ha3, hl3, hm3, hc3⟩ := hrow
      unfold maxLen at hm3
      have Hc3 := Lib.hid hc3
      have Ha3 := Lib.hid ha3
      clear hc3 ha3
      obtain rfl := Ha.out (by omega)
      have m0 := Lib.hid (row3_facts (boxed_row w (.slice (some ⟨b, o, none⟩) N.ends.length c) (.slice a1 N.ids.length c1) (.slice a2 N.inputs.length c2) 34)).1
      have hz1 := Hr.out.1.cell' (HX.out.cell' hz)
      clear hz
      by_cases h6 : 6 < (gr N.ends k).length
      · have H6 := Lib.hid h6
        go_wp2
        go_ret
        exact ⟨ret_f (fun h => absurd (h.2.1 k hlt).1 (by have := H6.out; omega)), HX.out.trans' Hr.out.1⟩
      · go_wp2
        have hw0 : ∃ wo : World, wo = wr := ⟨_, rfl⟩
        obtain ⟨wo, rfl⟩ := hw0
        clear hz1
        go_loopg [49] (gr N.ends k).length (fun g i wx => ∃ j : Nat, j ≤ (gr N.ends k).length ∧ g = (gr N.ends k).length - j ∧ i = .int .i64 j ∧ Hid (Ext (boxed w (.slice (some ⟨b, o, none⟩) N.ends.length c) (.slice a1 N.ids.length c1) (.slice a2 N.inputs.length c2) 34) wx ∧ ∀ i, i < j → JoinOK N.ends k i))
        case atStart => exact ⟨0, Nat.zero_le _, rfl, rfl, Hr.out.1, fun j hj => absurd hj (by omega)⟩
        case round =>
          obtain ⟨j, hj, rfl, rfl, Hs⟩ := hrel
          by_cases hjt : j < (gr N.ends k).length
          · obtain ⟨hq1, hq2, _⟩ := Hc3.out j hjt
            obtain rfl := Ha3.out (by omega)
            have q1 := Hs.out.1.cell' (HX.out.cell' hq1)
            have q2 := Hs.out.1.cell' (HX.out.cell' hq2)
            clear hq1 hq2
            by_cases n1 : InB (gn (gr N.ends k) j) 0 (N.ends.length - 1)
            · obtain ⟨xx, hxx⟩ := Int.eq_ofNat_of_zero_le n1.1
              have Hb1 := Lib.hid (dec_true n1)
              have hxl : xx < N.ends.length := by have := n1.2; omega
              rw [hxx] at q1 Hb1
              obtain ⟨z2, hz2, hrow2⟩ := Hc.out xx hxl
              obtain ⟨a4, b4, o4, c4, rfl, ha4, hl4, hm4, hc4⟩ := hrow2
              unfold maxLen at hm4
              have hz2' := HX.out.cell' hz2
              have Hc4 := Lib.hid hc4
              have Ha4 := Lib.hid ha4
              have Hxx := Lib.hid hxx
              clear hz2 hc4 ha4 hxx n1
              by_cases n2 : InB (gp (gr N.ends k) j) 0 ((gr N.ends xx).length - 1)
              · obtain ⟨yy, hyy⟩ := Int.eq_ofNat_of_zero_le n2.1
                have Hb2 := Lib.hid (dec_true n2)
                have hyl : yy < (gr N.ends xx).length := by have := n2.2; omega
                rw [hyy] at q2 Hb2
                have Hyy := Lib.hid hyy
                obtain ⟨r1, r2, _⟩ := Hc4.out yy hyl
                obtain rfl := Ha4.out (by omega)
                clear hyy n2
                have HW := Lib.hid (Hs.out.1.alloc' (.cells #[.int .i64 (xx : Int), .int .i64 (yy : Int)] 95))
                have s0 : ∀ x : Wx (wr.alloc (.cells #[.int .i64 (xx : Int), .int .i64 (yy : Int)] 95)), x.w.cell? ⟨wr.heap.size, 0, none⟩ = some (.int .i64 (xx : Int)) := fun x => x.ok.cell' (by simp)
                have s1 : ∀ x : Wx (wr.alloc (.cells #[.int .i64 (xx : Int), .int .i64 (yy : Int)] 95)), x.w.cell? ⟨wr.heap.size, 1, none⟩ = some (.int .i64 (yy : Int)) := fun x => x.ok.cell' (by simp)
                have n0 : ∀ x : Wx (wr.alloc (.cells #[.int .i64 (xx : Int), .int .i64 (yy : Int)] 95)), x.w.cell? ⟨w.heap.size, 0, none⟩ = some (.slice (some ⟨b, o, none⟩) N.ends.length c) := fun x => x.ok.cell' (HW.out.cell' m0.out)
                have t0 : ∀ x : Wx (wr.alloc (.cells #[.int .i64 (xx : Int), .int .i64 (yy : Int)] 95)), x.w.cell? ⟨b, o + xx, none⟩ = _ := fun x => x.ok.cell' (HW.out.cell' hz2')
                have t1 : ∀ x : Wx (wr.alloc (.cells #[.int .i64 (xx : Int), .int .i64 (yy : Int)] 95)), x.w.cell? ⟨b4, o4 + yy * 2, none⟩ = _ := fun x => x.ok.cell' (HW.out.cell' (HX.out.cell' r1))
                have t2 : ∀ x : Wx (wr.alloc (.cells #[.int .i64 (xx : Int), .int .i64 (yy : Int)] 95)), x.w.cell? ⟨b4, o4 + yy * 2 + 1, none⟩ = _ := fun x => x.ok.cell' (HW.out.cell' (HX.out.cell' r2))
                clear hz2' r1 r2
                by_cases hv : gn (gr N.ends xx) yy = k ∧ gp (gr N.ends xx) yy = j
                · obtain ⟨hv1, hv2⟩ := hv
                  have Hv := Lib.hid (And.intro hv1 hv2)
                  rw [hv1] at t1
                  rw [hv2] at t2
                  clear hv1 hv2
                  go_wp2
                  refine wp_region_ext (by kernel_rfl) (by kernel_rfl) ?_
                  repeat (go_big_quiet_step ((first | (go_at_call 103; first | exact in_same_bool (l1In_any _ _ _ _) Hb1.out | exact in_same_bool (l1In_any _ _ _ _) Hb2.out))))
                  refine wpQuiet_nil ?_
                  rintro _ ⟨⟨wq, hq⟩, rfl⟩
                  have HY := Lib.hid (HW.out.trans' hq)
                  clear hq HW
                  go_wp2
                  go_roundg ((gr N.ends k).length - (j + 1))
                  case measure => omega
                  case rel =>
                    refine ⟨j + 1, by omega, rfl, by go_num, HY.out, fun i hi => ?_⟩
                    by_cases e : i = j
                    · subst e
                      refine ⟨?_, by rw [Hxx.out, Hyy.out]; exact Hv.out⟩
                      rw [Hxx.out, Hyy.out]
                      exact ⟨by omega, by omega, by omega, by simpa using hyl⟩
                    · exact Hs.out.2 i (by omega)
                · have Hv := Lib.hid hv
                  by_cases hv1 : gn (gr N.ends xx) yy = k
                  · have hv2 : gp (gr N.ends xx) yy ≠ j := fun e => hv ⟨hv1, e⟩
                    have hvb : (gp (gr N.ends xx) yy == (j : Int)) = false := beq_eq_false_iff_ne.2 hv2
                    rw [hv1] at t1
                    clear hv hv1 hv2
                    go_wp2
                    refine wp_region_ext (by kernel_rfl) (by kernel_rfl) ?_
                    repeat (go_big_quiet_step ((first | (go_at_call 103; first | exact in_same_bool (l1In_any _ _ _ _) Hb1.out | exact in_same_bool (l1In_any _ _ _ _) Hb2.out))))
                    refine wpQuiet_nil ?_
                    rintro _ ⟨⟨wq, hq⟩, rfl⟩
                    have HY := Lib.hid (HW.out.trans' hq)
                    clear hq HW
                    go_wp2
                    go_ret
                    exact ⟨ret_f (fun h => Hv.out (by have := ((h.2.1 k hlt).2 j hjt).2; rw [Hxx.out, Hyy.out] at this; exact this)), HX.out.trans' HY.out⟩
                  · have hvb : (gn (gr N.ends xx) yy == (k : Int)) = false := beq_eq_false_iff_ne.2 hv1
                    clear hv hv1
                    go_wp2
                    refine wp_region_ext (by kernel_rfl) (by kernel_rfl) ?_
                    repeat (go_big_quiet_step ((first | (go_at_call 103; first | exact in_same_bool (l1In_any _ _ _ _) Hb1.out | exact in_same_bool (l1In_any _ _ _ _) Hb2.out))))
                    refine wpQuiet_nil ?_
                    rintro _ ⟨⟨wq, hq⟩, rfl⟩
                    have HY := Lib.hid (HW.out.trans' hq)
                    clear hq HW
                    go_wp2
                    go_ret
                    exact ⟨ret_f (fun h => Hv.out (by have := ((h.2.1 k hlt).2 j hjt).2; rw [Hxx.out, Hyy.out] at this; exact this)), HX.out.trans' HY.out⟩
              · have Hn2 := Lib.hid n2
                have Hb2 := Lib.hid (dec_false n2)
                clear n2
                have HW := Lib.hid (Hs.out.1.alloc' (.cells #[.int .i64 (xx : Int), .int .i64 (gp (gr N.ends k) j)] 95))
                have s0 : ∀ x : Wx (wr.alloc (.cells #[.int .i64 (xx : Int), .int .i64 (gp (gr N.ends k) j)] 95)), x.w.cell? ⟨wr.heap.size, 0, none⟩ = some (.int .i64 (xx : Int)) := fun x => x.ok.cell' (by simp)
                have s1 : ∀ x : Wx (wr.alloc (.cells #[.int .i64 (xx : Int), .int .i64 (gp (gr N.ends k) j)] 95)), x.w.cell? ⟨wr.heap.size, 1, none⟩ = some (.int .i64 (gp (gr N.ends k) j)) := fun x => x.ok.cell' (by simp)
                have n0 : ∀ x : Wx (wr.alloc (.cells #[.int .i64 (xx : Int), .int .i64 (gp (gr N.ends k) j)] 95)), x.w.cell? ⟨w.heap.size, 0, none⟩ = some (.slice (some ⟨b, o, none⟩) N.ends.length c) := fun x => x.ok.cell' (HW.out.cell' m0.out)
                have t0 : ∀ x : Wx (wr.alloc (.cells #[.int .i64 (xx : Int), .int .i64 (gp (gr N.ends k) j)] 95)), x.w.cell? ⟨b, o + xx, none⟩ = _ := fun x => x.ok.cell' (HW.out.cell' hz2')
                clear hz2'
                go_wp2
                refine wp_region_ext (by kernel_rfl) (by kernel_rfl) ?_
                repeat (go_big_quiet_step ((first | (go_at_call 103; first | exact in_same_bool (l1In_any _ _ _ _) Hb1.out | exact in_same_bool (l1In_any _ _ _ _) Hb2.out))))
                refine wpQuiet_nil ?_
                rintro _ ⟨⟨wq, hq⟩, rfl⟩
                have HY := Lib.hid (HW.out.trans' hq)
                clear hq HW
                go_wp2
                go_ret
                exact ⟨ret_f (fun h => Hn2.out (by have := (join_in ((h.2.1 k hlt).2 j hjt)).2; rw [Hxx.out] at this; exact this)), HX.out.trans' HY.out⟩
            · have Hn1 := Lib.hid n1
              have Hb1 := Lib.hid (dec_false n1)
              clear n1
              have HW := Lib.hid (Hs.out.1.alloc' (.cells #[.int .i64 (gn (gr N.ends k) j), .int .i64 (gp (gr N.ends k) j)] 95))
              have s0 : ∀ x : Wx (wr.alloc (.cells #[.int .i64 (gn (gr N.ends k) j), .int .i64 (gp (gr N.ends k) j)] 95)), x.w.cell? ⟨wr.heap.size, 0, none⟩ = some (.int .i64 (gn (gr N.ends k) j)) := fun x => x.ok.cell' (by simp)
              have s1 : ∀ x : Wx (wr.alloc (.cells #[.int .i64 (gn (gr N.ends k) j), .int .i64 (gp (gr N.ends k) j)] 95)), x.w.cell? ⟨wr.heap.size, 1, none⟩ = some (.int .i64 (gp (gr N.ends k) j)) := fun x => x.ok.cell' (by simp)
              have n0 : ∀ x : Wx (wr.alloc (.cells #[.int .i64 (gn (gr N.ends k) j), .int .i64 (gp (gr N.ends k) j)] 95)), x.w.cell? ⟨w.heap.size, 0, none⟩ = some (.slice (some ⟨b, o, none⟩) N.ends.length c) := fun x => x.ok.cell' (HW.out.cell' m0.out)
              go_wp2
              refine wp_region_ext (by kernel_rfl) (by kernel_rfl) ?_
              repeat (go_big_quiet_step ((first | (go_at_call 103; first | exact in_same_bool (l1In_any _ _ _ _) Hb1.out | exact in_same_bool (l1In_any _ _ _ _) Hb2.out))))
              refine wpQuiet_nil ?_
              rintro _ ⟨⟨wq, hq⟩, rfl⟩
              have HY := Lib.hid (HW.out.trans' hq)
              clear hq HW
              go_wp2
              go_ret
              exact ⟨ret_f (fun h => Hn1.out (join_in ((h.2.1 k hlt).2 j hjt)).1), HX.out.trans' HY.out⟩
          · obtain rfl : j = (gr N.ends k).length := by omega
            have hjz : ¬ (((gr N.ends k).length : Int) < ((gr N.ends k).length : Int)) := by omega
            go_wp2
            go_roundg (N.ends.length - (k + 1))
            case measure => omega
            case rel =>
              refine ⟨k + 1, by omega, rfl, by go_num, Hs.out.1, fun i hi => ?_⟩
              by_cases e : i = k
              · subst e; exact ⟨by omega, Hs.out.2⟩
              · exact Hr.out.2 i (by omega)
    · go_wp2
      go_ret
      obtain rfl : k = N.ends.length := by omega
      obtain ⟨g1, g2, g3, g4⟩ := HG.out
      exact ⟨ret_t ⟨⟨by have := g1.1; omega, by have := g1.2; omega⟩, Hr.out.2, g2, g3, g4⟩, HX.out.trans' Hr.out.1⟩
end Go.Proofs.Ytkpdbceglejbnaa

/- The contract of the model's neGood and IsNetwork. -/
namespace Go.Proofs.Ytkpdbceglejbnaa
open Go.RowKit

set_option maxHeartbeats 1600000 in
set_option maxRecDepth 100000 in
theorem neGood_any {w : World} {v : Value} {N : Net} (h : NetAt w v N) :
    Calls Try.prog 62 #[v] w fun e w' => e = .returned (.bool (dec (Good N))) ∧ Ext w w' := by
  by_cases hb : InB N.ends.length 1 40
  · by_cases h2 : IdsOK N.ids N.ends.length
    · by_cases h3 : (N.inputs.length : Int) = N.ends.length
      · by_cases h4 : AllIn N.inputs 0 9
        · exact neGood_loops h hb h2 h3 h4
        · obtain ⟨v0, v1, v2, rfl, hE, hI, hP⟩ := h
          have HI := Lib.hid hI
          have HP := Lib.hid hP
          obtain ⟨a, b, o, c, rfl, _, hl, hm, _⟩ := hE
          obtain ⟨a1, b1, o1, c1, rfl, _, hl1, hm1, _⟩ := hI
          obtain ⟨a2, b2, o2, c2, rfl, _, hl2, hm2, _⟩ := hP
          unfold maxLen at hm hm1 hm2
          have HB := Lib.hid (dec_true hb)
          have H2 := Lib.hid (dec_true h2)
          have H4 := Lib.hid (dec_false h4)
          have h3b : ((N.inputs.length : Int) != (N.ends.length : Int)) = false := by rw [bne_eq_false_iff_eq]; exact h3
          have HF := Lib.hid (show ¬ Good N from fun h => h4 h.2.2.2.2)
          have HX := Lib.hid (boxed_ext w (.slice a N.ends.length c) (.slice a1 N.ids.length c1) (.slice a2 N.inputs.length c2) 34)
          clear hb h2 h3 h4
          go_enter Try.func62, Try.ntmps62
          go_wp2_with (first | (go_at_call 103; (with_reducible refine (l1In_any _ _ _ _).mono ?_); rintro e w1 ⟨rfl, rfl⟩; rw [HB.out]) | (go_at_call 113; (with_reducible refine (neIds_any _ (HI.out.ext HX.out)).mono ?_); rintro e w1 ⟨rfl, rfl⟩; rw [H2.out]) | (go_at_call 109; (with_reducible refine (l1All_any _ _ (HP.out.ext HX.out)).mono ?_); rintro e w1 ⟨rfl, rfl⟩; rw [H4.out]))
          go_ret
          exact ⟨ret_f HF.out, HX.out⟩
      · obtain ⟨v0, v1, v2, rfl, hE, hI, hP⟩ := h
        have HI := Lib.hid hI
        obtain ⟨a, b, o, c, rfl, _, hl, hm, _⟩ := hE
        obtain ⟨a1, b1, o1, c1, rfl, _, hl1, hm1, _⟩ := hI
        obtain ⟨a2, b2, o2, c2, rfl, _, hl2, hm2, _⟩ := hP
        unfold maxLen at hm hm1 hm2
        have HB := Lib.hid (dec_true hb)
        have H2 := Lib.hid (dec_true h2)
        have h3b : ((N.inputs.length : Int) != (N.ends.length : Int)) = true := by rw [bne_iff_ne]; exact h3
        have HF := Lib.hid (show ¬ Good N from fun h => h3 h.2.2.2.1)
        have HX := Lib.hid (boxed_ext w (.slice a N.ends.length c) (.slice a1 N.ids.length c1) (.slice a2 N.inputs.length c2) 34)
        clear hb h2 h3
        go_enter Try.func62, Try.ntmps62
        go_wp2_with (first | (go_at_call 103; (with_reducible refine (l1In_any _ _ _ _).mono ?_); rintro e w1 ⟨rfl, rfl⟩; rw [HB.out]) | (go_at_call 113; (with_reducible refine (neIds_any _ (HI.out.ext HX.out)).mono ?_); rintro e w1 ⟨rfl, rfl⟩; rw [H2.out]))
        go_ret
        exact ⟨ret_f HF.out, HX.out⟩
    · obtain ⟨v0, v1, v2, rfl, hE, hI, hP⟩ := h
      have HI := Lib.hid hI
      obtain ⟨a, b, o, c, rfl, _, hl, hm, _⟩ := hE
      obtain ⟨a1, b1, o1, c1, rfl, _, hl1, hm1, _⟩ := hI
      unfold maxLen at hm hm1
      have HB := Lib.hid (dec_true hb)
      have H2 := Lib.hid (dec_false h2)
      have HF := Lib.hid (show ¬ Good N from fun h => h2 h.2.2.1)
      have HX := Lib.hid (boxed_ext w (.slice a N.ends.length c) (.slice a1 N.ids.length c1) v2 34)
      clear hb h2
      go_enter Try.func62, Try.ntmps62
      go_wp2_with (first | (go_at_call 103; (with_reducible refine (l1In_any _ _ _ _).mono ?_); rintro e w1 ⟨rfl, rfl⟩; rw [HB.out]) | (go_at_call 113; (with_reducible refine (neIds_any _ (HI.out.ext HX.out)).mono ?_); rintro e w1 ⟨rfl, rfl⟩; rw [H2.out]))
      go_ret
      exact ⟨ret_f HF.out, HX.out⟩
  · obtain ⟨v0, v1, v2, rfl, hE, hI, hP⟩ := h
    obtain ⟨a, b, o, c, rfl, _, hl, hm, _⟩ := hE
    unfold maxLen at hm
    have HB := Lib.hid (dec_false hb)
    have HF := Lib.hid (show ¬ Good N from fun h => hb ⟨by have := h.1.1; omega, by have := h.1.2; omega⟩)
    have HX := Lib.hid (boxed_ext w (.slice a N.ends.length c) v1 v2 34)
    clear hb
    go_enter Try.func62, Try.ntmps62
    go_wp2_with (first | (go_at_call 103; (with_reducible refine (l1In_any _ _ _ _).mono ?_); rintro e w1 ⟨rfl, rfl⟩; rw [HB.out]))
    go_ret
    exact ⟨ret_f HF.out, HX.out⟩

end Go.Proofs.Ytkpdbceglejbnaa

/- A network in memory of its own is written out; two copies are equal. -/
namespace Go.Proofs.Ytkpdbceglejbnaa
open Go.RowKit

theorem OwnSl.isSlice {w : World} {v : Value} {n k t : Nat} {f : Nat → Value} {bs : List Nat} (h : OwnSl w v n k t f bs) : ∃ a c, v = .slice a n c := by
  obtain ⟨c, _, _, h3⟩ := h
  rcases h3 with ⟨rfl, _, a, _, rfl⟩ | ⟨b, m, g, _, rfl, _⟩
  · exact ⟨a, c, rfl⟩
  · exact ⟨_, c, rfl⟩
theorem OwnNet.agg {w : World} {v : Value} {N : Net} {bs : List Nat} (h : OwnNet w v N bs) :
    ∃ a0 c0 a1 c1 a2 c2, v = .agg #[.slice a0 N.ends.length c0, .slice a1 N.ids.length c1, .slice a2 N.inputs.length c2] := by
  obtain ⟨v0, v1, v2, _, _, _, rfl, ⟨_, _, _, h0, _⟩, ⟨h1, _⟩, ⟨h2, _⟩, _⟩ := h
  obtain ⟨a0, c0, rfl⟩ := h0.isSlice
  obtain ⟨a1, c1, rfl⟩ := h1.isSlice
  obtain ⟨a2, c2, rfl⟩ := h2.isSlice
  exact ⟨a0, c0, a1, c1, a2, c2, rfl⟩

/-- Two copies of one network are equal. -/
theorem eqNetwork_same {w : World} {v1 v2 : Value} {N : Net} (h1 : NetAt w v1 N) (h2 : NetAt w v2 N) :
    Calls Try.prog 22 #[v1, v2] w fun e w' => e = .returned (.bool true) ∧ Ext w w' :=
  (eqNetwork_any h1 h2).mono fun _ _ ⟨he, hx⟩ => ⟨by rw [he]; simp, hx⟩
end Go.Proofs.Ytkpdbceglejbnaa

/- Contracts of nePort and of both OtherEnd. -/
namespace Go.Proofs.Ytkpdbceglejbnaa
open Go.RowKit

def OtherOK (N : Net) (v i : Int) : Prop := Good N ∧ PortOK N.ends v i

theorem eqEnd_same (x y : Int) (w : World) : Calls Try.prog 160 #[.agg #[.int .i64 x, .int .i64 y], .agg #[.int .i64 x, .int .i64 y]] w fun e w' => e = .returned (.bool true) ∧ Ext w w' :=
  (eqEnd_any x y x y w).mono fun _ _ ⟨he, hx⟩ => ⟨by rw [he]; simp, hx⟩

end Go.Proofs.Ytkpdbceglejbnaa

/- Contracts of both OtherEnd: an end and true where the port exists, the zero end and false elsewhere. -/
namespace Go.Proofs.Ytkpdbceglejbnaa
open Go.RowKit

/-- What OtherEnd answers. -/
def EndAns (N : Net) (v i : Int) (x y : Int) (b : Bool) : Prop :=
  (OtherOK N v i ∧ b = true ∧ x = gn (gr N.ends v.toNat) i.toNat ∧ y = gp (gr N.ends v.toNat) i.toNat) ∨ (¬ OtherOK N v i ∧ b = false ∧ x = 0 ∧ y = 0)
theorem EndAns.unique {N : Net} {v i x y x' y' : Int} {b b' : Bool} (h : EndAns N v i x y b) (h' : EndAns N v i x' y' b') : x = x' ∧ y = y' ∧ b = b' := by
  rcases h with ⟨h, rfl, rfl, rfl⟩ | ⟨h, rfl, rfl, rfl⟩ <;> rcases h' with ⟨h', rfl, rfl, rfl⟩ | ⟨h', rfl, rfl, rfl⟩ <;> first | exact ⟨rfl, rfl, rfl⟩ | exact absurd h h' | exact absurd h' h

end Go.Proofs.Ytkpdbceglejbnaa

/- What is collected by append lies in memory of its own; the contract of neDegrees. -/
namespace Go.Proofs.Ytkpdbceglejbnaa
open Go.RowKit

/-- What is collected by append is a slice of integers in memory of its own. -/
theorem own_of_row {w : World} {B : Nat} {v : Value} {l : List Int} {xs : List Value} (h : w.ownsRow B 3 1 v l.length xs) (hx : ∀ i, i < l.length → xs[i]? = some (.int .i64 (gi l i))) (hr : ∀ i, i < l.length → inI64 (gi l i)) :
    ∃ bs, OwnI w v l bs ∧ bs.Nodup ∧ ∀ b ∈ bs, B ≤ b := by
  obtain ⟨hl, h⟩ := h
  rcases h with ⟨rfl, hn⟩ | ⟨g, cap, cur, rfl, hb, hh, hc1, hc2, hs, ht⟩
  · exact ⟨[], ⟨⟨0, by omega, by unfold maxLen; omega, .inl ⟨hn, rfl, none, ⟨rfl, rfl⟩, rfl⟩⟩, hr⟩, List.nodup_nil, by simp⟩
  · refine ⟨[g], ⟨⟨cap, hc1, hc2, .inr ⟨g, cap, fun i => cur.getD i undef, rfl, rfl, by omega, ⟨cur, hh, by omega, fun i hi => ?_⟩, fun i hi => ?_⟩⟩, hr⟩, by simp, by simpa using hb⟩
    · have hlt : i < cur.size := by omega
      simp [hlt]
    · have e := hx i (by omega)
      rw [← ht, List.getElem?_take, if_pos (by omega)] at e
      have hlt : i < cur.size := by omega
      simp only [Array.getElem?_toList] at e
      simp [Array.getD, hlt]
      simpa [hlt] using e

theorem grown_ext {W w w' : World} {B : Nat} {v : Value} {n : Nat} {xs : List Value} {t k : Nat} (he : Ext W w) (hB : W.heap.size ≤ B) (ho : w.ownsRow B t k v n xs) (hg : w.grownBy w' v.ownBlock) : Ext W w' :=
  he.grown hg he.size fun k hk => Nat.le_trans hB (ho.lt k hk).1

def degs (N : Net) : List Int := N.ends.map fun r => (r.length : Int)
theorem gi_degs (N : Net) (i : Nat) (h : i < N.ends.length) : gi (degs N) i = ((gr N.ends i).length : Int) := by
  simp [gi, degs, gr, h]
/-- The first k degrees, as cells. -/
def degCells (N : Net) (k : Nat) : List Value := (List.range k).map fun j => .int .i64 ((gr N.ends j).length : Int)
theorem degCells_succ (N : Net) (k : Nat) : degCells N k ++ [.int .i64 ((gr N.ends k).length : Int)] = degCells N (k + 1) := by
  simp [degCells, List.range_succ]

theorem degCells_get (N : Net) (i : Nat) (h : i < N.ends.length) : (degCells N N.ends.length)[i]? = some (.int .i64 (gi (degs N) i)) := by
  rw [gi_degs N i h]
  simp [degCells, h]

end Go.Proofs.Ytkpdbceglejbnaa
