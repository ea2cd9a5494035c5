/- The contracts of isMutual and areMutualEnds. -/
import Derived.Test.YtndgbildkeglfaaReg
namespace Go.Proofs.Ytndgbildkeglfaa
open Go.RowKit

def JoinOK (l : List (List (Int × Int))) (v i : Nat) : Prop :=
  PortOK l (gn (gr l v) i) (gp (gr l v) i) ∧ gn (gr l (gn (gr l v) i).toNat) (gp (gr l v) i).toNat = v ∧ gp (gr l (gn (gr l v) i).toNat) (gp (gr l v) i).toNat = i
def RowOK (l : List (List (Int × Int))) (v : Nat) : Prop := (gr l v).length ≤ 6 ∧ ∀ i, i < (gr l v).length → JoinOK l v i
def EndsOK (l : List (List (Int × Int))) : Prop := ∀ v, v < l.length → RowOK l v

theorem dec_eq_of {p : Prop} {b : Bool} (h1 : p → b = true) (h2 : ¬ p → b = false) : b = dec p := by
  by_cases h : p
  · rw [dec_true h, h1 h]
  · rw [dec_false h, h2 h]

theorem two_cells (w : World) (x y u v : Value) : (((w.alloc (.cells #[x, y] 44)).alloc (.cells #[u, v] 44)).drew).cell? ⟨w.heap.size, 0, none⟩ = some x ∧ (((w.alloc (.cells #[x, y] 44)).alloc (.cells #[u, v] 44)).drew).cell? ⟨w.heap.size, 1, none⟩ = some y ∧
    (((w.alloc (.cells #[x, y] 44)).alloc (.cells #[u, v] 44)).drew).cell? ⟨w.heap.size + 1, 0, none⟩ = some u ∧ (((w.alloc (.cells #[x, y] 44)).alloc (.cells #[u, v] 44)).drew).cell? ⟨w.heap.size + 1, 1, none⟩ = some v := by
  have h := (Ext.rfl' (w.alloc (.cells #[x, y] 44))).alloc' (.cells #[u, v] 44)
  refine ⟨?_, ?_, ?_, ?_⟩ <;> simp
set_option maxHeartbeats 1600000 in
set_option maxRecDepth 100000 in
theorem isMutual_any {w : World} {v : Value} {l : List (List (Int × Int))} (h : EndSS w v l) (x y : Nat) (hx : x < l.length) (hy : y < (gr l x).length) :
    Calls Try.prog 106 #[v, .agg #[.int .i64 x, .int .i64 y]] w fun e w' => e = .returned (.bool (dec (JoinOK l x y))) ∧ Ext w w' := by
  have HE := Lib.hid h
  obtain ⟨a, b, o, c, rfl, ha, hl, hm, hc⟩ := h
  unfold maxLen at hm
  have Hc := Lib.hid hc
  have Ha := Lib.hid ha
  clear hc ha
  obtain rfl := Ha.out (by omega)
  obtain ⟨z, hz, hrow⟩ := Hc.out x hx
  obtain ⟨a1, b1, o1, c1, rfl, ha1, hl1, hm1, hc1⟩ := hrow
  unfold maxLen at hm1
  obtain rfl := ha1 (by omega)
  obtain ⟨q1, q2, _⟩ := hc1 y hy
  have HX := Lib.hid ((Ext.rfl' w).alloc' (.cells #[.int .i64 (x : Int), .int .i64 (y : Int)] 44))
  have HX2 := Lib.hid (HX.out.alloc' (.cells #[.int .i64 0, .int .i64 0] 44))
  have hy' := HX.out.cell' hz
  have p1' := HX.out.cell' q1
  have p2' := HX.out.cell' q2
  have hz' := HX2.out.cell' hz
  have q1' := HX2.out.cell' q1
  have q2' := HX2.out.cell' q2
  clear hc1 ha1 hz q1 q2
  by_cases hp : PortOK l (gn (gr l x) y) (gp (gr l x) y)
  · obtain ⟨p1, p2, p3, p4⟩ := hp
    obtain ⟨xx, hxx⟩ := Int.eq_ofNat_of_zero_le p1
    obtain ⟨yy, hyy⟩ := Int.eq_ofNat_of_zero_le p3
    have Hp := Lib.hid (show PortOK l (gn (gr l x) y) (gp (gr l x) y) from ⟨p1, p2, p3, p4⟩)
    rw [hxx] at p1' q1' p2 p4
    rw [hyy] at p2' q2' p4
    have hxl : xx < l.length := by omega
    have hyl : yy < (gr l xx).length := by simpa using p4
    have Hb := Lib.hid (dec_true (p := PortOK l xx yy) ⟨by omega, by omega, by omega, by simpa using p4⟩)
    obtain ⟨z2, hz2, hrow2⟩ := Hc.out xx hxl
    obtain ⟨a2, b2, o2, c2, rfl, ha2, hl2, hm2, hc2⟩ := hrow2
    obtain rfl := ha2 (by omega)
    obtain ⟨r1, r2, _⟩ := hc2 yy hyl
    have Hxx := Lib.hid hxx
    have Hyy := Lib.hid hyy
    unfold maxLen at hm2
    have HW := Lib.hid (HX.out.alloc' (.cells #[.int .i64 (xx : Int), .int .i64 (yy : Int)] 44)).drew'
    have P0 : ∀ x' : Wx (((w.alloc (.cells #[.int .i64 (x : Int), .int .i64 (y : Int)] 44)).alloc (.cells #[.int .i64 (xx : Int), .int .i64 (yy : Int)] 44)).drew), x'.w.cell? ⟨w.heap.size, 0, none⟩ = some (.int .i64 (x : Int)) := fun x' => x'.ok.cell' (two_cells w _ _ _ _).1
    have P1 : ∀ x' : Wx (((w.alloc (.cells #[.int .i64 (x : Int), .int .i64 (y : Int)] 44)).alloc (.cells #[.int .i64 (xx : Int), .int .i64 (yy : Int)] 44)).drew), x'.w.cell? ⟨w.heap.size, 1, none⟩ = some (.int .i64 (y : Int)) := fun x' => x'.ok.cell' (two_cells w _ _ _ _).2.1
    have s0 : ∀ x' : Wx (((w.alloc (.cells #[.int .i64 (x : Int), .int .i64 (y : Int)] 44)).alloc (.cells #[.int .i64 (xx : Int), .int .i64 (yy : Int)] 44)).drew), x'.w.cell? ⟨w.heap.size + 1, 0, none⟩ = some (.int .i64 (xx : Int)) := fun x' => x'.ok.cell' (two_cells w _ _ _ _).2.2.1
    have s1 : ∀ x' : Wx (((w.alloc (.cells #[.int .i64 (x : Int), .int .i64 (y : Int)] 44)).alloc (.cells #[.int .i64 (xx : Int), .int .i64 (yy : Int)] 44)).drew), x'.w.cell? ⟨w.heap.size + 1, 1, none⟩ = some (.int .i64 (yy : Int)) := fun x' => x'.ok.cell' (two_cells w _ _ _ _).2.2.2
    have t0 : ∀ x' : Wx (((w.alloc (.cells #[.int .i64 (x : Int), .int .i64 (y : Int)] 44)).alloc (.cells #[.int .i64 (xx : Int), .int .i64 (yy : Int)] 44)).drew), x'.w.cell? ⟨b, o + xx, none⟩ = _ := fun x' => x'.ok.cell' (HW.out.cell' hz2)
    have t1 : ∀ x' : Wx (((w.alloc (.cells #[.int .i64 (x : Int), .int .i64 (y : Int)] 44)).alloc (.cells #[.int .i64 (xx : Int), .int .i64 (yy : Int)] 44)).drew), x'.w.cell? ⟨b2, o2 + yy * 2, none⟩ = _ := fun x' => x'.ok.cell' (HW.out.cell' r1)
    have t2 : ∀ x' : Wx (((w.alloc (.cells #[.int .i64 (x : Int), .int .i64 (y : Int)] 44)).alloc (.cells #[.int .i64 (xx : Int), .int .i64 (yy : Int)] 44)).drew), x'.w.cell? ⟨b2, o2 + yy * 2 + 1, none⟩ = _ := fun x' => x'.ok.cell' (HW.out.cell' r2)
    clear hc2 ha2 hz2 r1 r2 hxx hyy p1 p2 p3 p4
    by_cases hv1 : gn (gr l xx) yy = x
    · rw [hv1] at t1
      by_cases hv2 : gp (gr l xx) yy = y
      · rw [hv2] at t2
        have Hn := Lib.hid (dec_true (p := JoinOK l x y) ⟨Hp.out, by rw [Hxx.out, Hyy.out]; exact ⟨hv1, hv2⟩⟩)
        clear hv1 hv2
        go_enter Try.func106, Try.ntmps106
        go_wp2_with fail
        go_region
        go_wp2_with fail
        refine wp_region_ext (by kernel_rfl) (by kernel_rfl) ?_
        repeat (go_big_quiet_step ((go_at_call 78; exact in_ext_bool (hasPort_any _ _ (HE.out.ext (HW.out.trans' (Wx.ok _)))) Hb.out)))
        refine wpQuiet_nil ?_
        rintro _ ⟨⟨wq, hq⟩, rfl⟩
        have HY := Lib.hid (HW.out.trans' hq)
        clear hq
        go_wp2
        go_ret
        exact ⟨ret_bool Hn.out.symm, HY.out⟩
      · have hvb : (gp (gr l xx) yy == (y : Int)) = false := beq_eq_false_iff_ne.2 hv2
        have Hn := Lib.hid (dec_false (p := JoinOK l x y) (fun h => hv2 (by have := h.2.2; rw [Hxx.out, Hyy.out] at this; exact this)))
        clear hv1 hv2
        go_enter Try.func106, Try.ntmps106
        go_wp2_with fail
        go_region
        go_wp2_with fail
        refine wp_region_ext (by kernel_rfl) (by kernel_rfl) ?_
        repeat (go_big_quiet_step ((go_at_call 78; exact in_ext_bool (hasPort_any _ _ (HE.out.ext (HW.out.trans' (Wx.ok _)))) Hb.out)))
        refine wpQuiet_nil ?_
        rintro _ ⟨⟨wq, hq⟩, rfl⟩
        have HY := Lib.hid (HW.out.trans' hq)
        clear hq
        go_wp2
        go_ret
        exact ⟨ret_bool Hn.out.symm, HY.out⟩
    · have hvb : (gn (gr l xx) yy == (x : Int)) = false := beq_eq_false_iff_ne.2 hv1
      have Hn := Lib.hid (dec_false (p := JoinOK l x y) (fun h => hv1 (by have := h.2.1; rw [Hxx.out, Hyy.out] at this; exact this)))
      clear hv1
      go_enter Try.func106, Try.ntmps106
      go_wp2_with fail
      go_region
      go_wp2_with fail
      refine wp_region_ext (by kernel_rfl) (by kernel_rfl) ?_
      repeat (go_big_quiet_step ((go_at_call 78; exact in_ext_bool (hasPort_any _ _ (HE.out.ext (HW.out.trans' (Wx.ok _)))) Hb.out)))
      refine wpQuiet_nil ?_
      rintro _ ⟨⟨wq, hq⟩, rfl⟩
      have HY := Lib.hid (HW.out.trans' hq)
      clear hq
      go_wp2
      go_ret
      exact ⟨ret_bool Hn.out.symm, HY.out⟩
  · have Hb := Lib.hid (dec_false hp)
    have Hn := Lib.hid (dec_false (p := JoinOK l x y) (fun h => hp h.1))
    clear hp
    have HW := Lib.hid (HX.out.alloc' (.cells #[.int .i64 (gn (gr l x) y), .int .i64 (gp (gr l x) y)] 44)).drew'
    have P0 : ∀ x' : Wx (((w.alloc (.cells #[.int .i64 (x : Int), .int .i64 (y : Int)] 44)).alloc (.cells #[.int .i64 (gn (gr l x) y), .int .i64 (gp (gr l x) y)] 44)).drew), x'.w.cell? ⟨w.heap.size, 0, none⟩ = some (.int .i64 (x : Int)) := fun x' => x'.ok.cell' (two_cells w _ _ _ _).1
    have P1 : ∀ x' : Wx (((w.alloc (.cells #[.int .i64 (x : Int), .int .i64 (y : Int)] 44)).alloc (.cells #[.int .i64 (gn (gr l x) y), .int .i64 (gp (gr l x) y)] 44)).drew), x'.w.cell? ⟨w.heap.size, 1, none⟩ = some (.int .i64 (y : Int)) := fun x' => x'.ok.cell' (two_cells w _ _ _ _).2.1
    have s0 : ∀ x' : Wx (((w.alloc (.cells #[.int .i64 (x : Int), .int .i64 (y : Int)] 44)).alloc (.cells #[.int .i64 (gn (gr l x) y), .int .i64 (gp (gr l x) y)] 44)).drew), x'.w.cell? ⟨w.heap.size + 1, 0, none⟩ = some (.int .i64 (gn (gr l x) y)) := fun x' => x'.ok.cell' (two_cells w _ _ _ _).2.2.1
    have s1 : ∀ x' : Wx (((w.alloc (.cells #[.int .i64 (x : Int), .int .i64 (y : Int)] 44)).alloc (.cells #[.int .i64 (gn (gr l x) y), .int .i64 (gp (gr l x) y)] 44)).drew), x'.w.cell? ⟨w.heap.size + 1, 1, none⟩ = some (.int .i64 (gp (gr l x) y)) := fun x' => x'.ok.cell' (two_cells w _ _ _ _).2.2.2
    go_enter Try.func106, Try.ntmps106
    go_wp2_with fail
    go_region
    go_wp2_with fail
    refine wp_region_ext (by kernel_rfl) (by kernel_rfl) ?_
    repeat (go_big_quiet_step ((go_at_call 78; exact in_ext_bool (hasPort_any _ _ (HE.out.ext (HW.out.trans' (Wx.ok _)))) Hb.out)))
    refine wpQuiet_nil ?_
    rintro _ ⟨⟨wq, hq⟩, rfl⟩
    have HY := Lib.hid (HW.out.trans' hq)
    clear hq
    go_wp2
    go_ret
    exact ⟨ret_bool Hn.out.symm, HY.out⟩

set_option maxHeartbeats 1600000 in
set_option maxRecDepth 100000 in
theorem mutual_any {w : World} {v : Value} {l : List (List (Int × Int))} (h : EndSS w v l) :
    Calls Try.prog 68 #[v] w fun e w' => e = .returned (.bool (dec (EndsOK l))) ∧ Ext w w' := by
  have HE := Lib.hid h
  obtain ⟨a, b, o, c, rfl, ha, hl, hm, hc⟩ := h
  unfold maxLen at hm
  have Hc := Lib.hid hc
  have Ha := Lib.hid ha
  clear hc ha
  go_enter Try.func68, Try.ntmps68
  go_wp2
  go_loopg [8] l.length (fun g i wr => ∃ k : Nat, k ≤ l.length ∧ g = l.length - k ∧ i = .int .i64 k ∧ Hid (Ext w wr ∧ ∀ j, j < k → RowOK l j))
  case atStart => exact ⟨0, Nat.zero_le _, rfl, rfl, Ext.rfl' w, fun j hj => absurd hj (by omega)⟩
  case round =>
    obtain ⟨k, hk, rfl, rfl, Hr⟩ := hrel
    by_cases hlt : k < l.length
    · obtain ⟨z, hz, hrow⟩ := Hc.out k hlt
      have HR := Lib.hid hrow
      obtain ⟨a1, b1, o1, c1, rfl, ha1, hl1, hm1, hc1⟩ := hrow
      unfold maxLen at hm1
      have Hc1 := Lib.hid hc1
      have Ha1 := Lib.hid ha1
      clear hc1 ha1
      obtain rfl := Ha.out (by omega)
      have hz1 := Hr.out.1.cell' hz
      clear hz
      by_cases h6 : 6 < (gr l k).length
      · have H6 := Lib.hid h6
        go_wp2
        go_ret
        exact ⟨ret_f (fun h => absurd (h k hlt).1 (by have := H6.out; omega)), Hr.out.1⟩
      · go_wp2
        have hw0 : ∃ wo : World, wo = wr := ⟨_, rfl⟩
        obtain ⟨wo, rfl⟩ := hw0
        clear hz1
        go_loopg [18] (gr l k).length (fun g i wx => ∃ j : Nat, j ≤ (gr l k).length ∧ g = (gr l k).length - j ∧ i = .int .i64 j ∧ Hid (Ext w wx ∧ ∀ i, i < j → JoinOK l k i))
        case atStart => exact ⟨0, Nat.zero_le _, rfl, rfl, Hr.out.1, fun j hj => absurd hj (by omega)⟩
        case round =>
          obtain ⟨j, hj, rfl, rfl, Hs⟩ := hrel
          by_cases hjt : j < (gr l k).length
          · by_cases hj1 : JoinOK l k j
            · have Hj := Lib.hid hj1
              have Hd := Lib.hid (dec_true hj1)
              clear hj1
              go_wp2_with (go_at_call 106; (with_reducible refine (isMutual_any (HE.out.ext Hs.out.1) k j hlt hjt).mono ?_); rintro e wy ⟨rfl, hy⟩; rw [Hd.out]; have HY := Lib.hid (Hs.out.1.trans' hy); clear hy)
              go_roundg ((gr l k).length - (j + 1))
              case measure => omega
              case rel =>
                refine ⟨j + 1, by omega, rfl, by go_num, HY.out, fun i hi => ?_⟩
                by_cases e : i = j
                · subst e; exact Hj.out
                · exact Hs.out.2 i (by omega)
            · have Hj := Lib.hid hj1
              have Hd := Lib.hid (dec_false hj1)
              clear hj1
              go_wp2_with (go_at_call 106; (with_reducible refine (isMutual_any (HE.out.ext Hs.out.1) k j hlt hjt).mono ?_); rintro e wy ⟨rfl, hy⟩; rw [Hd.out]; have HY := Lib.hid (Hs.out.1.trans' hy); clear hy)
              go_ret
              exact ⟨ret_f (fun h => Hj.out ((h k hlt).2 j hjt)), HY.out⟩
          · obtain rfl : j = (gr l k).length := by omega
            have hjz : ¬ (((gr l k).length : Int) < ((gr l k).length : Int)) := by omega
            go_wp2
            go_roundg (l.length - (k + 1))
            case measure => omega
            case rel =>
              refine ⟨k + 1, by omega, rfl, by go_num, Hs.out.1, fun i hi => ?_⟩
              by_cases e : i = k
              · subst e; exact ⟨by omega, Hs.out.2⟩
              · exact Hr.out.2 i (by omega)
    · go_wp2
      go_ret
      obtain rfl : k = l.length := by omega
      exact ⟨ret_t Hr.out.2, Hr.out.1⟩
end Go.Proofs.Ytndgbildkeglfaa
