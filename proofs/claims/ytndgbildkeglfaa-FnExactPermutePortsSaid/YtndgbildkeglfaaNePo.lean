/- The contract of nePorts: a copy of the network in which the ends of one node's ports, and those at their other sides, are written over. -/
import Derived.Test.YtndgbildkeglfaaPp
import Derived.Test.YtndgbildkeglfaaHeld
import Derived.RegionTactic
namespace Go.Proofs.Ytndgbildkeglfaa
open Go.RowKit

def pNet (N : Net) (n : Nat) (l : List Int) (k : Nat) : Net := { N with ends := pEnds N n l k }
theorem pNet_all {N : Net} {n : Nat} {l : List Int} (hg : Good N) (hp : PermOK l (gr N.ends n).length) : pNet N n l (gr N.ends n).length = portsNet N n l := by
  have hi : N.inputs.length = N.ends.length := by have := hg.2.2.2.1; omega
  have hd : N.ids.length = 0 ∨ N.ids.length = N.ends.length := by have := hg.2.2.1.1; omega
  unfold pNet portsNet
  rw [rowNet_idl _ hi hd, pEnds_all hg hp]
theorem Two.c0 {w : World} {b j : Nat} {x y : Value} (h : Two w b j x y) : w.cell? ⟨b, j * 2, none⟩ = some x ∧ w.frozen? ⟨b, j * 2, none⟩ = false ∧ (∀ v, (w.setCell ⟨b, j * 2, none⟩ v).cell? ⟨b, j * 2 + 1, none⟩ = some y) ∧ ∀ v, (w.setCell ⟨b, j * 2, none⟩ v).frozen? ⟨b, j * 2 + 1, none⟩ = false := h

set_option maxHeartbeats 3200000 in
set_option maxRecDepth 100000 in
theorem nePorts_any {w : World} {v u : Value} {N : Net} {l : List Int} (n : Nat) (h : NetAt w v N) (hL : IntSl w u l) (hg : Good N) (hn : n < N.ends.length) (hp : PermOK l (gr N.ends n).length) :
    Calls Try.prog 95 #[v, .int .i64 n, u] w fun e w' => ∃ v' bs, e = .returned v' ∧ Ext w w' ∧ OwnNet w' v' (portsNet N n l) bs ∧ Fresh w bs := by
  have HN := Lib.hid h
  have HLr := Lib.hid hL.range
  have GG := Lib.hid hg
  have PP := Lib.hid hp
  have GS := Lib.hid (good_small hg)
  obtain ⟨v0, v1, v2, rfl, hE, hI, hP⟩ := h
  clear hI hP
  obtain ⟨ea, eb, eq, ec, rfl, hea, hel, hem, hec⟩ := hE
  obtain ⟨la, lb, lq, lc, rfl, hla, hll, hlm, hlc⟩ := hL
  unfold maxLen at hem hlm
  have h40 : N.ends.length ≤ 40 := hg.1.2
  have h6 := (hg.2.1 n hn).1
  have HPL := Lib.hid hp.1
  have HIN : Hid (N.inputs.length = N.ends.length) := by have := hg.2.2.2.1; show N.inputs.length = N.ends.length; omega
  have HID : Hid (N.ids.length = 0 ∨ N.ids.length = N.ends.length) := by have := hg.2.2.1.1; show N.ids.length = 0 ∨ N.ids.length = N.ends.length; omega
  obtain rfl := hea (by omega)
  obtain ⟨x, hx, ra, rb, rq, rc, rfl, hra, hrl, hrm, hrc⟩ := hec n hn
  unfold maxLen at hrm
  have Hlc := Lib.hid hlc
  have Hla := Lib.hid hla
  have Hrc := Lib.hid hrc
  have Hra := Lib.hid hra
  clear hec hlc hea hla hg hp hrc hra
  have HX := Lib.hid (boxed2_ext w (.slice (some ⟨eb, eq, none⟩) N.ends.length ec) v1 v2)
  have HR := Lib.hid (boxed2_row w (.slice (some ⟨eb, eq, none⟩) N.ends.length ec) v1 v2)
  have HQ := Lib.hid (boxed2_res w (.slice (some ⟨eb, eq, none⟩) N.ends.length ec) v1 v2)
  go_enter Try.func95, Try.ntmps95
  go_wp2_with fail
  (with_reducible refine (neOwn_any (HN.out.ext HX.out) GS.out).mono ?_)
  rintro e w1 ⟨y, bs, rfl, hw, ho, hf⟩
  generalize (boxed w (.slice (some ⟨eb, eq, none⟩) N.ends.length ec) v1 v2 30).alloc (.cells #[.slice none 0 0, .slice none 0 0, .slice none 0 0] 30) = W0 at HX HR HQ hw hf
  obtain ⟨a0, c0, a1, c1, a2, c2, rfl⟩ := ho.agg
  obtain ⟨b0, _, _, _, hv0, -⟩ := ho.focus hf.1 (k := 0) (by omega)
  obtain rfl : a0 = some ⟨b0, 0, none⟩ := by simp at hv0; exact hv0.1
  have hXA := hw.trans' ((Ext.rfl' w1).alloc' (.cells #[.slice (some ⟨b0, 0, none⟩) N.ends.length c0, .slice a1 N.ids.length c1, .slice a2 N.inputs.length c2] 30))
  have M := Lib.hid (show Held W0 (w1.alloc (.cells #[.slice (some ⟨b0, 0, none⟩) N.ends.length c0, .slice a1 N.ids.length c1, .slice a2 N.inputs.length c2] 30)) (pNet N n l 0) w1.heap.size (.slice (some ⟨b0, 0, none⟩) N.ends.length c0) (.slice a1 N.ids.length c1) (.slice a2 N.inputs.length c2) bs from
    ⟨hXA, hw.size, row3_made w1 _ _ _ _, by unfold pNet; rw [pEnds_zero GG.out]; exact ho.ext ((Ext.rfl' _).alloc' _), hf.1, fun b hb => ⟨hf.2 b hb, by have := ho.lt b hb; omega⟩⟩)
  obtain ⟨q0, q1, q2, -, -, -⟩ := row3_facts (row_ext HR.out hXA)
  have z1 := (HX.out.trans' hXA).cell' hx
  have hZ := HQ.out.lt
  clear hv0 hw ho hf hXA
  go_wp2_with fail
  clear q0 q1 q2 z1
  go_loopg [18] (gr N.ends n).length (fun g i wr => ∃ k : Nat, k ≤ (gr N.ends n).length ∧ g = (gr N.ends n).length - k ∧ i = .int .i64 k ∧ Hid (∃ bs, Held W0 wr (pNet N n l k) w1.heap.size (.slice (some ⟨b0, 0, none⟩) N.ends.length c0) (.slice a1 N.ids.length c1) (.slice a2 N.inputs.length c2) bs))
  case atStart => exact ⟨0, Nat.zero_le _, rfl, rfl, bs, M.out⟩
  case round =>
    obtain ⟨k, hk, rfl, rfl, Hr⟩ := hrel
    by_cases hlt : k < (gr N.ends n).length
    · obtain ⟨cs, hm0⟩ := Hr.out
      have M0 := Lib.hid hm0
      have EX := Lib.hid (HX.out.trans' hm0.ext)
      obtain ⟨hq1, hq2, hi1, hi2⟩ := Hrc.out k hlt
      obtain rfl := Hra.out (by omega)
      obtain rfl := Hla.out (by have := HPL.out; omega)
      obtain ⟨⟨g1, g2, g3, g4⟩, _⟩ := (GG.out.2.1 n hn).2 k hlt
      obtain ⟨en, hen⟩ := Int.eq_ofNat_of_zero_le g1
      obtain ⟨ep, hep⟩ := Int.eq_ofNat_of_zero_le g3
      rw [hen] at hq1 g2 g4 hi1
      rw [hep] at hq2 g4 hi2
      rw [Int.toNat_natCast] at g4
      have g2' : en < N.ends.length := by omega
      obtain ⟨c, hc, hcn⟩ := perm_range PP.out hlt
      have HC := Lib.hid hc
      have HEN := Lib.hid hen
      have HEP := Lib.hid hep
      have q1 := EX.out.cell' hq1
      have q2 := EX.out.cell' hq2
      have hkl : k < l.length := by have := HPL.out; omega
      obtain ⟨_, hlq, rfl, _⟩ := Hlc.out k hkl
      rw [hc] at hlq
      have HLQ := Lib.hid hlq
      have hxe := (Ext.rfl' wr).alloc' (.cells #[.int .i64 en, .int .i64 ep] 44)
      have hpe : w1.heap.size < wr.heap.size := hm0.box.lt
      clear hm0 hq1 hq2 g1 g3 hen hep hc hlq
      by_cases hne : en = n
      · subst hne
        have hel2 : ep < l.length := by have := HPL.out; omega
        obtain ⟨_, hlp, rfl, hlr⟩ := Hlc.out ep hel2
        have hxl := (Ext.rfl' wr).alloc' (.cells #[.int .i64 en, .int .i64 (gi l ep)] 44)
        obtain ⟨b, q, r, d, hv, hrow, hr, htwo, hh⟩ := (M0.out.mono hxl).put (u := en) (j := c) (by show en < (pEnds N en l k).length; rw [length_pEnds]; exact hn) (by show c < (gr (pEnds N en l k) en).length; rw [gr_pEnds hn, length_pRow]; exact hcn) ((en : Int), gi l ep) hi1 hlr
        have eM : { pNet N en l k with ends := (pNet N en l k).ends.set en ((gr (pNet N en l k).ends en).set c ((en : Int), gi l ep)) } = pNet N en l (k + 1) := by
          show ({ N with ends := _ } : Net) = _
          unfold pNet
          congr 1
          exact pEnds_loop GG.out PP.out hn hlt HEN.out HEP.out HC.out
        rw [eM] at hh
        have eR : (gr (pNet N en l k).ends en).length = (gr N.ends en).length := by show (gr (pEnds N en l k) en).length = _; rw [gr_pEnds hn, length_pRow]
        rw [eR] at hrow
        have hbb : b0 = b := by simp at hv; exact hv.1
        subst hbb
        have M2 : Hid (Held W0 (((wr.alloc (.cells #[.int .i64 en, .int .i64 (gi l ep)] 44)).setCell ⟨r, c * 2, none⟩ (.int .i64 en)).setCell ⟨r, c * 2 + 1, none⟩ (.int .i64 (gi l ep))).drew (pNet N en l (k + 1)) w1.heap.size (.slice (some ⟨b0, 0, none⟩) N.ends.length c0) (.slice a1 N.ids.length c1) (.slice a2 N.inputs.length c2) cs) := hh.mono (Ext.rfl' _).drew'
        have z3 := (EX.out.trans' hxe).cell' hlp
        have z4 := (EX.out.trans' hxl).cell' HLQ.out
        obtain ⟨p0, p1, p2, -, -, -⟩ := row3_facts (row_ext M0.out.box hxl)
        obtain ⟨t0, t1, t2, t3⟩ := htwo
        have e0 : (wr.alloc (.cells #[.int .i64 en, .int .i64 (gi l ep)] 44)).cell? ⟨wr.heap.size, 0, none⟩ = some (.int .i64 en) := by simp
        have e1 : (wr.alloc (.cells #[.int .i64 en, .int .i64 (gi l ep)] 44)).cell? ⟨wr.heap.size, 1, none⟩ = some (.int .i64 (gi l ep)) := by simp
        clear hlp hxe hxl hh hv eM eR
        go_upto_region 8 with fail
        go_region
        clear p0 p1 p2 t0 t1 t2 t3 e0 e1 z3 z4 q1 q2 hrow
        go_wp2
        go_roundg ((gr N.ends en).length - (k + 1))
        case measure => omega
        case rel => exact ⟨k + 1, by omega, rfl, by go_num, _, M2.out⟩
      · have hb : ((en : Int) == (n : Int)) = false := beq_eq_false_iff_ne.2 (by omega)
        have hgp : ep < (gr N.ends en).length := by omega
        have hi3 : inI64 (n : Int) := by unfold inI64; omega
        have hi4 : inI64 (c : Int) := by unfold inI64; omega
        obtain ⟨b, q, r, d, hv, hrow, hr, htwo, hh⟩ := (M0.out.mono hxe).put (u := en) (j := ep) (by show en < (pEnds N n l k).length; rw [length_pEnds]; exact g2') (by show ep < (gr (pEnds N n l k) en).length; rw [gr_pEnds g2', length_pRow]; exact hgp) ((n : Int), (c : Int)) hi3 hi4
        have hrw : r < wr.heap.size := M0.out.own.lt r hr
        have eR : (gr (pNet N n l k).ends en).length = (gr N.ends en).length := by show (gr (pEnds N n l k) en).length = _; rw [gr_pEnds g2', length_pRow]
        rw [eR] at hrow
        have hbb : b0 = b := by simp at hv; exact hv.1
        subst hbb
        have M1 : Hid (Held W0 (((wr.alloc (.cells #[.int .i64 en, .int .i64 ep] 44)).setCell ⟨r, ep * 2, none⟩ (.int .i64 n)).setCell ⟨r, ep * 2 + 1, none⟩ (.int .i64 c)).drew { pNet N n l k with ends := (pNet N n l k).ends.set en ((gr (pNet N n l k).ends en).set ep ((n : Int), (c : Int))) } w1.heap.size (.slice (some ⟨b0, 0, none⟩) N.ends.length c0) (.slice a1 N.ids.length c1) (.slice a2 N.inputs.length c2) cs) := hh.mono (Ext.rfl' _).drew'
        have z4 := (EX.out.trans' hxe).cell' HLQ.out
        obtain ⟨p0, p1, p2, -, -, -⟩ := row3_facts (row_ext M0.out.box hxe)
        obtain ⟨t0, t1, t2, t3⟩ := htwo
        have e0 : (wr.alloc (.cells #[.int .i64 en, .int .i64 ep] 44)).cell? ⟨wr.heap.size, 0, none⟩ = some (.int .i64 en) := by simp
        have e1 : (wr.alloc (.cells #[.int .i64 en, .int .i64 ep] 44)).cell? ⟨wr.heap.size, 1, none⟩ = some (.int .i64 ep) := by simp
        have far : ∀ i, (((wr.alloc (.cells #[.int .i64 en, .int .i64 ep] 44)).setCell ⟨r, ep * 2, none⟩ (.int .i64 n)).setCell ⟨r, ep * 2 + 1, none⟩ (.int .i64 c)).drew.cell? ⟨wr.heap.size, i, none⟩ = (wr.alloc (.cells #[.int .i64 en, .int .i64 ep] 44)).cell? ⟨wr.heap.size, i, none⟩ := fun i => by
          show (((wr.alloc (.cells #[.int .i64 en, .int .i64 ep] 44)).setCell ⟨r, ep * 2, none⟩ (.int .i64 n)).setCell ⟨r, ep * 2 + 1, none⟩ (.int .i64 c)).cell? ⟨wr.heap.size, i, none⟩ = _
          rw [World.cell?_setCell_far _ _ _ _ (by show r ≠ wr.heap.size; omega), World.cell?_setCell_far _ _ _ _ (by show r ≠ wr.heap.size; omega)]
        have E0 := Lib.hid ((far 0).trans e0)
        have E1 := Lib.hid ((far 1).trans e1)
        clear hxe hh hv eR far hrw
        go_upto_region 7 with fail
        go_region
        clear p0 p1 p2 t0 t1 t2 t3 e0 e1 z4 q1 q2 hrow
        revert M1 E0 E1
        generalize (((wr.alloc (.cells #[.int .i64 en, .int .i64 ep] 44)).setCell ⟨r, ep * 2, none⟩ (.int .i64 n)).setCell ⟨r, ep * 2 + 1, none⟩ (.int .i64 c)).drew = W2
        intro M1 E0 E1
        have eL : (gr ((pEnds N n l k).set en ((gr (pEnds N n l k) en).set ep ((n : Int), (c : Int)))) n).length = (gr N.ends n).length := by rw [gr_set _ _ _ _ (by rw [length_pEnds]; exact g2'), if_neg (Ne.symm hne), gr_pEnds hn, length_pRow]
        obtain ⟨b, q, r2, d2, hv, hrow0, hr2, htwo, hh⟩ := M1.out.put (u := n) (j := c) (by show n < ((pEnds N n l k).set en _).length; rw [List.length_set, length_pEnds]; exact hn) (by show c < (gr ((pEnds N n l k).set en ((gr (pEnds N n l k) en).set ep ((n : Int), (c : Int)))) n).length; rw [eL]; exact hcn) ((en : Int), (ep : Int)) hi1 hi2
        have eM : ({ pNet N n l k with ends := ((pEnds N n l k).set en ((gr (pEnds N n l k) en).set ep ((n : Int), (c : Int)))).set n ((gr ((pEnds N n l k).set en ((gr (pEnds N n l k) en).set ep ((n : Int), (c : Int)))) n).set c ((en : Int), (ep : Int))) } : Net) = pNet N n l (k + 1) := by
          exact congrArg (fun E => ({ N with ends := E } : Net)) (pEnds_edge GG.out PP.out hn hlt HEN.out HEP.out hne HC.out)
        have M2 : Hid (Held W0 ((W2.setCell ⟨r2, c * 2, none⟩ (.int .i64 en)).setCell ⟨r2, c * 2 + 1, none⟩ (.int .i64 ep)).drew (pNet N n l (k + 1)) w1.heap.size (.slice (some ⟨b0, 0, none⟩) N.ends.length c0) (.slice a1 N.ids.length c1) (.slice a2 N.inputs.length c2) cs) := by rw [← eM]; exact hh.mono (Ext.rfl' _).drew'
        have hrow : W2.cell? ⟨b, n, none⟩ = some (.slice (some ⟨r2, 0, none⟩) (gr N.ends n).length d2) := by rw [← eL]; exact hrow0
        have hbb : b0 = b := by simp at hv; exact hv.1
        subst hbb
        obtain ⟨t0, t1, t2, t3⟩ := htwo
        have z4 := (HX.out.trans' M1.out.ext).cell' HLQ.out
        obtain ⟨p0, p1, p2, -, -, -⟩ := row3_facts M1.out.box
        have e0 := E0.out
        have e1 := E1.out
        clear hv hh eM eL hrow0
        go_upto_region 8 with fail
        go_region
        clear p0 p1 p2 t0 t1 t2 t3 e0 e1 z4 hrow
        go_wp2
        go_roundg ((gr N.ends n).length - (k + 1))
        case measure => omega
        case rel => exact ⟨k + 1, by omega, rfl, by go_num, _, M2.out⟩
    · obtain rfl : k = (gr N.ends n).length := by omega
      obtain ⟨cs, hm⟩ := Hr.out
      have K := Lib.hid (HX.out.trans' hm.ext)
      have O := Lib.hid (show OwnNet _ _ (portsNet N n l) cs by rw [← pNet_all GG.out PP.out]; exact hm.own)
      have HB := Lib.hid (show ∀ b ∈ cs, w.heap.size + 2 ≤ b from fun b hb => by have := (hm.ge b hb).1; omega)
      have HND := Lib.hid hm.nodup
      obtain ⟨p0, p1, p2, -, -, -⟩ := row3_facts hm.box
      obtain ⟨s0, s1, s2, t0, t1, t2⟩ := row3_facts (row_ext HQ.out hm.ext)
      clear hm
      go_wp2
      refine bodyPost_ret (v := .agg #[.slice (some ⟨b0, 0, none⟩) N.ends.length c0, .slice a1 N.ids.length c1, .slice a2 N.inputs.length c2]) (by simp [results, Try.results95, go_sem, s0, s1, s2]) rfl ?_
      have hc := close_net K.out O.out HND.out HB.out
      exact ⟨_, cs, rfl, hc.1, hc.2.1, hc.2.2⟩
end Go.Proofs.Ytndgbildkeglfaa
