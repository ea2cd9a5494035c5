/- The program's result of a program: the stack, rule by rule. -/
import Derived.Test.YtbddjejpacaglaaGreatDoorVqd
namespace Go.Proofs.YtbddjejpacaglaaGreatDoor
open Go.RowKit

theorem allIn_drop {L : List Int} (h : AllIn L (-1000000) 1000000) (k : Nat) : AllIn (L.drop k) (-1000000) 1000000 := fun j hj => by
  have e : gi (L.drop k) j = gi L (k + j) := by simp [gi, List.getD]
  rw [e]
  exact h (k + j) (by simp at hj; omega)
theorem RuleIs.at {B : Nat} {w : World} {x y : Int} {f0 f1 f2 f3 : Value} (h : RuleIs B w x y (.agg #[f0, f1, f2, f3])) :
    ∃ m p : Nat, m < 19 ∧ x = (m : Int) + 1 ∧ f0 = .int .i64 ((m : Int) + 1) ∧ f1 = .string (bs (vword y m)) ∧ f2 = .int .i64 (nd ((m : Int) + 1)) ∧ f3 = .func (.func (vf m)) #[] (vcap p m) ∧ w.cell? ⟨p, 0, none⟩ = some (.int .i64 y) := by
  obtain ⟨m, p, hm, hx, hv, hc, -⟩ := h
  unfold ruleV at hv
  injection hv with hv
  injection hv with hv
  simp at hv
  obtain ⟨e0, e1, e2, e3⟩ := hv
  exact ⟨m, p, hm, hx, e0, e1, e2, e3, hc⟩
theorem row5_made (w : World) (x0 x1 x2 x3 x4 : Value) (t : Nat) :
    (w.alloc (.cells #[x0, x1, x2, x3, x4] t)).cell? ⟨w.heap.size, 0, none⟩ = some x0 ∧ (w.alloc (.cells #[x0, x1, x2, x3, x4] t)).cell? ⟨w.heap.size, 1, none⟩ = some x1 ∧
    (w.alloc (.cells #[x0, x1, x2, x3, x4] t)).cell? ⟨w.heap.size, 2, none⟩ = some x2 ∧ (w.alloc (.cells #[x0, x1, x2, x3, x4] t)).cell? ⟨w.heap.size, 3, none⟩ = some x3 ∧
    (w.alloc (.cells #[x0, x1, x2, x3, x4] t)).cell? ⟨w.heap.size, 4, none⟩ = some x4 := by refine ⟨?_, ?_, ?_, ?_, ?_⟩ <;> simp

theorem stk_start (U : World) (n : Nat) (hn : n ≤ 40) : GrowN U.heap.size (U.alloc (.cells (madeCells #[.int .i64 0] n) 3)) (.slice (some ⟨U.heap.size, 0, none⟩) 0 n) [] :=
  ⟨rfl, .inr ⟨U.heap.size, n, madeCells #[.int .i64 0] n, rfl, Nat.le_refl _, heap_alloc_new U _, Nat.zero_le _, by unfold maxLen; omega, by simp [size_madeCells], by simp [intCells]⟩⟩

/-- The end of a stack that lies in a block, from r on: where it lies. -/
theorem stk_at {B : Nat} {w : World} {g c : Nat} {L : List Int} (h : GrowN B w (.slice (some ⟨g, 0, none⟩) L.length c) L) (hr : AllIn L (-1000000) 1000000) (r : Nat) (hk : r ≤ L.length) :
    (c = r → IntSl w (.slice (some ⟨g, 0, none⟩) 0 0) (L.drop r)) ∧ (c ≠ r → IntSl w (.slice (some ⟨g, r, none⟩) (L.length - r) (c - r)) (L.drop r)) := by
  have hI := h.read fun i hi => by have := hr i hi; unfold inI64; omega
  obtain ⟨a', b, o, c', h1, h2, h3, h4, h5⟩ := hI
  obtain ⟨rfl, rfl⟩ : some ⟨g, 0, none⟩ = a' ∧ c = c' := by simp at h1; exact h1
  have hlen : (L.drop r).length = L.length - r := by simp
  have hgo : 0 < L.length → g = b ∧ 0 = o := fun hp => by have := h2 hp; simp at this; exact this
  refine ⟨fun e => ⟨_, g, 0, 0, by rw [hlen, show L.length - r = 0 by omega], fun _ => rfl, by omega, by unfold maxLen; omega, fun i hi => absurd hi (by omega)⟩, fun e => ⟨_, g, r, c - r, by rw [hlen], fun _ => rfl, by omega, by omega, fun i hi => ?_⟩⟩
  rw [hlen] at hi
  obtain ⟨rfl, rfl⟩ := hgo (by omega)
  obtain ⟨x, hx, hr⟩ := h5 (r + i) (by omega)
  have e : gi (L.drop r) i = gi L (r + i) := by simp [gi, List.getD]
  exact ⟨x, by rw [Nat.zero_add] at hx; exact hx, by show _ ∧ _; rw [e]; exact hr⟩
/-- The beginning of such a stack. -/
theorem stk_pre {B : Nat} {w : World} {g c : Nat} {L : List Int} (h : GrowN B w (.slice (some ⟨g, 0, none⟩) L.length c) L) (r : Nat) (hk : r ≤ L.length) : GrowN B w (.slice (some ⟨g, 0, none⟩) r c) (L.take r) ∧ L.length ≤ c ∧ c ≤ maxLen ∧ B ≤ g := by
  have hlt : (L.take r).length = r := by simp; omega
  rcases h.2 with ⟨h1, _⟩ | ⟨g', cap, cur, h1, h2, h3, h4, h5, h6, h7⟩
  · cases h1
  · cases h1
    refine ⟨⟨by rw [hlt]; simp [intCells]; omega, .inr ⟨g, c, cur, by rw [hlt], h2, h3, by omega, h5, h6, ?_⟩⟩, h4, h5, h2⟩
    rw [hlt]
    have e : intCells (L.take r) = (intCells L).take r := by simp [intCells]
    rw [e, ← h7, List.take_take, Nat.mul_one, Nat.mul_one, Nat.min_eq_left hk]

theorem src_oneV (w : World) (x : Int) (t : TypeId) : SrcAt (w.alloc (.cells #[.int .i64 x] t)) (some ⟨w.heap.size, 0, none⟩) 1 1 (intCells [x]) := src_lits w [x] 1 rfl t
/-- A number is put onto a stack. -/
theorem stk_push {W w2 w3 : World} {h r c : Nat} {v' : Value} {L : List Int} {x : Int} (hg : Grew w2 w3 W.heap.size 3 1 (.slice (some ⟨h, 0, none⟩) r c) v' (r + 1) (intCells (L.take r) ++ intCells [x])) (hr : r ≤ L.length) (hB : W.heap.size ≤ h) (he : Ext W w2) :
    ∃ h' c', v' = .slice (some ⟨h', 0, none⟩) (r + 1) c' ∧ 1 ≤ c' ∧ Ext W w3 ∧ GrowN W.heap.size w3 (.slice (some ⟨h', 0, none⟩) (r + 1) c') (L.take r ++ [x]) := by
  have hl : (L.take r).length = r := by simp; omega
  have hx := hg.ext he (fun b hb => by
    have : h = b := by simpa [Value.ownBlock] using hb
    omega)
  have hg' : Grew w2 w3 W.heap.size 3 1 (.slice (some ⟨h, 0, none⟩) r c) v' ((L.take r).length + 1) (intCells (L.take r) ++ intCells [x]) := by rw [hl]; exact hg
  have hG := GrowN.step hg' rfl
  obtain ⟨g, cap, rfl, h1, -, -, -, -⟩ := hG.form (by simp)
  have e : (L.take r ++ [x]).length = r + 1 := by simp; omega
  rw [e] at hG h1
  exact ⟨g, cap, by rw [e], by omega, hx, hG⟩

set_option maxHeartbeats 3200000 in
set_option maxRecDepth 100000 in
theorem resultOf_any {w : World} {rv sv : Value} {l : List (Int × Int)} {S : Sg} {b B : Nat} (hrv : rv = .slice (some ⟨b, 0, none⟩) l.length l.length) (hR : RGrow B w b l.length l l.length) (hp : ProgOK l) (hs : SightAt w sv S) (ho : SgOK S) :
    Calls Tryz.prog 63 #[rv, sv] w fun e w' => e = .returned (.int .i64 (evl S l)) ∧ Ext w w' := by
  subst hrv
  obtain ⟨sa, sc, rfl, hn⟩ := hs
  have HP := Lib.hid hp
  have HO := Lib.hid ho
  obtain ⟨W1, hW1⟩ : ∃ W1 : World, W1 = w.alloc (.cells #[.int .i64 S.own, .int .i64 S.id, .int .i64 S.inp, .int .i64 S.rnd, .slice sa S.near.length sc] 100) := ⟨_, rfl⟩
  have hx1 : Ext w W1 := by rw [hW1]; exact (Ext.rfl' w).alloc' _
  have hb1 := row5_made w (.int .i64 S.own) (.int .i64 S.id) (.int .i64 S.inp) (.int .i64 S.rnd) (.slice sa S.near.length sc) 100
  rw [← hW1] at hb1
  have HB := Lib.hid hb1
  have HX1 := Lib.hid hx1
  have HN := Lib.hid (hn.ext hx1)
  have HR := Lib.hid (hR.ext hx1)
  have hlen : l.length ≤ 40 := by have := hp.1.2; omega
  have hlen1 : 1 ≤ l.length := by have := hp.1.1; omega
  obtain ⟨i0, hi, hz0, hz1, hz2⟩ := info_parts Tryz.info3
  have hmk : ∀ u : World, (Instr.makeSlice 24 (.int .i64 0) (.int .i64 (l.length : Int))).run Tryz.prog u = .ok (.slice (some ⟨u.heap.size, 0, none⟩) 0 l.length) (u.alloc (.cells (madeCells #[.int .i64 0] l.length) 3)) := fun u => by
    have h := run_make (P := Tryz.prog) u 24 3 i0 _ Tryz.underlying24 hi hz0 .i64 .i64 0 l.length (by omega) (by omega) (by rw [hz2]; omega) (by omega)
    simpa [hz1, Value.cells] using h
  have HW1 := Lib.hid hW1
  have HZ1 := Lib.hid (show W1.heap.size = w.heap.size + 1 by rw [hW1]; simp)
  clear hx1 hb1 hn hR hp ho hW1
  go_enter Tryz.func63, Tryz.ntmps63
  go_wp2_with fail
  have I0 := Lib.hid (And.intro hi (And.intro hz0 (And.intro hz1 hz2)))
  clear hmk hi hz0 hz1 hz2
  go_loopg [5, 15] l.length (fun g t5 i wr => ∃ k h c : Nat, k ≤ l.length ∧ g = l.length - k ∧ 1 ≤ c ∧ t5 = .slice (some ⟨h, 0, none⟩) (stk S l k).length c ∧ i = .int .i64 (k : Int) ∧ Hid (Ext W1 wr ∧ GrowN W1.heap.size wr (.slice (some ⟨h, 0, none⟩) (stk S l k).length c) (stk S l k)))
  case atStart =>
    refine ⟨0, _, _, Nat.zero_le _, rfl, hlen1, rfl, rfl, by rw [HW1.out]; exact (Ext.rfl' _).alloc' _, ?_⟩
    rw [HZ1.out]
    have := stk_start (w.alloc (.cells #[.int .i64 S.own, .int .i64 S.id, .int .i64 S.inp, .int .i64 S.rnd, .slice sa S.near.length sc] 100)) l.length hlen
    simpa [stk] using this
  case round =>
    obtain ⟨k, h, c, hk, rfl, hc1, rfl, rfl, Hr⟩ := hrel
    have hln : ((stk S l k).length : Int) = hg l k := stk_len S k fun j hj => HP.out.2.1 j (by omega)
    by_cases hlt : k < l.length
    · have hnd : (nd (gn l k) : Int) ≤ hg l k := (HP.out.2.1 k hlt).2
      have hkk := hg_hi l k
      have HLR := Lib.hid (stk_range S l k)
      have HST := Lib.hid (show stk S l (k + 1) = (stk S l k).take ((stk S l k).length - nd (gn l k)) ++ [clp (opv S (gn l k) (gp l k) ((stk S l k).drop ((stk S l k).length - nd (gn l k))))] from rfl)
      have HRR := HR.out.ext Hr.out.1
      obtain ⟨f, hf, hrl⟩ := HRR
      obtain ⟨m, p, hm, hx, e0, e1, e2, e3, hcp⟩ := (hrl k hlt).at
      have s0 := (hf.cell (i := k * 4) (by omega)).trans (congrArg some e0)
      have s1 := (hf.cell (i := k * 4 + 1) (by omega)).trans (congrArg some e1)
      have s2 := (hf.cell (i := k * 4 + 2) (by omega)).trans (congrArg some e2)
      have s3 := (hf.cell (i := k * 4 + 3) (by omega)).trans (congrArg some e3)
      rw [hx] at hnd HST
      clear hf hrl e0 e1 e2 e3 f
      generalize hL : stk S l k = L at *
      have hr : L.length - nd ((m : Int) + 1) + nd ((m : Int) + 1) = L.length := by omega
      generalize L.length - nd ((m : Int) + 1) = r at *
      have hz : (L.length : Int) - (nd ((m : Int) + 1) : Int) = (r : Int) := by omega
      obtain ⟨hG3, hLc, hcm, hBh⟩ := stk_pre Hr.out.2 r (by omega)
      have hI2 := stk_at Hr.out.2 HLR.out r (by omega)
      have HG3 := Lib.hid hG3
      unfold maxLen at hcm
      clear hG3
      have hu := (Ext.rfl' wr).alloc' (.cells #[.int .i64 ((m : Int) + 1), .string (bs (vword (gp l k) m)), .int .i64 (nd ((m : Int) + 1)), .func (.func (vf m)) #[] (vcap p m)] 92)
      have HU := Lib.hid hu
      have eg := vf_enters m hm
      obtain ⟨b0, b1, b2, b3, b4⟩ := HB.out
      have g0 := hu.cell' (Hr.out.1.cell' b0)
      have g1 := hu.cell' (Hr.out.1.cell' b1)
      have g2 := hu.cell' (Hr.out.1.cell' b2)
      have g3 := hu.cell' (Hr.out.1.cell' b3)
      have g4 := hu.cell' (Hr.out.1.cell' b4)
      obtain ⟨-, -, -, g5, -⟩ := row4_facts (row4_made wr (.int .i64 ((m : Int) + 1)) (.string (bs (vword (gp l k) m))) (.int .i64 (nd ((m : Int) + 1))) (.func (.func (vf m)) #[] (vcap p m)) 92)
      have hl40 : L.length ≤ 40 := by omega
      have hrL : r ≤ L.length := by omega
      have HRN := Lib.hid hr
      have HNL := Lib.hid hlt
      clear hln hkk hnd hr hL
      by_cases hcr : c = r
      · obtain rfl : r = c := hcr.symm
        have HC := Lib.hid (fun (W : World) (hW : Ext wr W) => ruleFn_any (w := W) m hm (S := S) (A := L.drop r) (sv := .agg #[.int .i64 S.own, .int .i64 S.id, .int .i64 S.inp, .int .i64 S.rnd, .slice sa S.near.length sc]) (av := .slice (some ⟨h, 0, none⟩) 0 0) ⟨sa, sc, rfl, HN.out.ext (Hr.out.1.trans' hW)⟩ HO.out ((hI2.1 rfl).ext hW) (allIn_drop HLR.out r) (by rw [List.length_drop]; have := HRN.out; omega) (gp l k) p (hW.cell' hcp))
        generalize opv S ((m : Int) + 1) (gp l k) (L.drop r) = z at *
        clear hx hm hcp b0 b1 b2 b3 b4 hI2
        generalize vword (gp l k) m = vw at *
        generalize vcap p m = vc at *
        generalize vf m = K at *
        generalize nd ((m : Int) + 1) = N at *
        generalize ((m : Int) + 1) = M at *
        have HUD := Lib.hid (Ext.rfl' (wr.alloc (.cells #[.int .i64 M, .string (bs vw), .int .i64 (N : Int), .func (.func K) #[] vc] 92))).drew'
        go_wp2_with fail
        go_region_held3 (fun w' => w'.cell? ⟨wr.heap.size, 3, none⟩ = some (.func (.func K) #[] vc) ∧ w'.cell? ⟨w.heap.size, 0, none⟩ = some (.int .i64 S.own) ∧ w'.cell? ⟨w.heap.size, 1, none⟩ = some (.int .i64 S.id) ∧ w'.cell? ⟨w.heap.size, 2, none⟩ = some (.int .i64 S.inp) ∧ w'.cell? ⟨w.heap.size, 3, none⟩ = some (.int .i64 S.rnd) ∧ w'.cell? ⟨w.heap.size, 4, none⟩ = some (.slice sa S.near.length sc) ∧ Hid (Ext (wr.alloc (.cells #[.int .i64 M, .string (bs vw), .int .i64 (N : Int), .func (.func K) #[] vc] 92)) w')) (first | exact ⟨g5, g0, g1, g2, g3, g4, HUD⟩ | exact ⟨hx.cell' ‹_›, hx.cell' ‹_›, hx.cell' ‹_›, hx.cell' ‹_›, hx.cell' ‹_›, hx.cell' ‹_›, Ext.trans' (Hid.out ‹_›) hx⟩) (first | (go_at_fn K; refine (HC.out _ (HU.out.trans' HUD.out)).mono ?_; rintro e w2 ⟨rfl, hx⟩))
        rename_i hh
        have HX2 := Lib.hid (HU.out.trans' (Hid.out hh.2.2.2.2.2.2))
        have HU2 := Lib.hid ((HX2.out).alloc' (.cells #[.int .i64 (clp z)] 3))
        have hc0 : ¬ r = 0 := by omega
        clear hh hx g0 g1 g2 g3 g4 g5 s0 s1 s2 s3
        go_wp2_with (at_builtin; refine wpList_app rfl (.tmp 33) (.tmp 37) 24 rfl W1.heap.size 3 i0 (.int .i64 0) 1 8 Tryz.underlying24 I0.out.1 I0.out.2.1 I0.out.2.2.1 I0.out.2.2.2 rfl (by decide) (.slice (some ⟨h, 0, none⟩) r r) r (intCells (L.take r)) rfl (by have := HG3.out.ext HU2.out; unfold GrowN at this; rw [show (L.take r).length = r by simp; omega] at this; exact this) (some ⟨w2.heap.size, 0, none⟩) 1 1 (intCells [clp z]) rfl (src_oneV w2 (clp z) 3) (by unfold maxLen; omega) (by omega) (Nat.le_trans Hr.out.1.size HU2.out.size) ?_; intro v' w3 hg; obtain ⟨h', c', rfl, hc', hx3, hs3⟩ := stk_push hg hrL hBh (Hr.out.1.trans' HU2.out); have H3 := Lib.hid (And.intro hx3 hs3); clear hg hx3 hs3)
        have hl2 : (stk S l (k + 1)).length = r + 1 := by rw [HST.out]; simp; omega
        have hlt' := HNL.out
        go_roundg (l.length - (k + 1))
        case measure => omega
        case rel => exact ⟨k + 1, h', c', by omega, rfl, hc', by rw [hl2], by go_num, H3.out.1, by rw [hl2, HST.out]; exact H3.out.2⟩
      · have HC := Lib.hid (fun (W : World) (hW : Ext wr W) => ruleFn_any (w := W) m hm (S := S) (A := L.drop r) (sv := .agg #[.int .i64 S.own, .int .i64 S.id, .int .i64 S.inp, .int .i64 S.rnd, .slice sa S.near.length sc]) (av := .slice (some ⟨h, r, none⟩) (L.length - r) (c - r)) ⟨sa, sc, rfl, HN.out.ext (Hr.out.1.trans' hW)⟩ HO.out ((hI2.2 hcr).ext hW) (allIn_drop HLR.out r) (by rw [List.length_drop]; have := HRN.out; omega) (gp l k) p (hW.cell' hcp))
        generalize opv S ((m : Int) + 1) (gp l k) (L.drop r) = z at *
        clear hx hm hcp b0 b1 b2 b3 b4 hI2
        generalize vword (gp l k) m = vw at *
        generalize vcap p m = vc at *
        generalize vf m = K at *
        generalize nd ((m : Int) + 1) = N at *
        generalize ((m : Int) + 1) = M at *
        have HUD := Lib.hid (Ext.rfl' (wr.alloc (.cells #[.int .i64 M, .string (bs vw), .int .i64 (N : Int), .func (.func K) #[] vc] 92))).drew'
        go_wp2_with fail
        go_region_held3 (fun w' => w'.cell? ⟨wr.heap.size, 3, none⟩ = some (.func (.func K) #[] vc) ∧ w'.cell? ⟨w.heap.size, 0, none⟩ = some (.int .i64 S.own) ∧ w'.cell? ⟨w.heap.size, 1, none⟩ = some (.int .i64 S.id) ∧ w'.cell? ⟨w.heap.size, 2, none⟩ = some (.int .i64 S.inp) ∧ w'.cell? ⟨w.heap.size, 3, none⟩ = some (.int .i64 S.rnd) ∧ w'.cell? ⟨w.heap.size, 4, none⟩ = some (.slice sa S.near.length sc) ∧ Hid (Ext (wr.alloc (.cells #[.int .i64 M, .string (bs vw), .int .i64 (N : Int), .func (.func K) #[] vc] 92)) w')) (first | exact ⟨g5, g0, g1, g2, g3, g4, HUD⟩ | exact ⟨hx.cell' ‹_›, hx.cell' ‹_›, hx.cell' ‹_›, hx.cell' ‹_›, hx.cell' ‹_›, hx.cell' ‹_›, Ext.trans' (Hid.out ‹_›) hx⟩) (first | (go_at_fn K; refine (HC.out _ (HU.out.trans' HUD.out)).mono ?_; rintro e w2 ⟨rfl, hx⟩))
        rename_i hh
        have HX2 := Lib.hid (HU.out.trans' (Hid.out hh.2.2.2.2.2.2))
        have HU2 := Lib.hid ((HX2.out).alloc' (.cells #[.int .i64 (clp z)] 3))
        have hc0 : ¬ c = 0 := by omega
        clear hh hx g0 g1 g2 g3 g4 g5 s0 s1 s2 s3 hcr
        go_wp2_with (at_builtin; refine wpList_app rfl (.tmp 33) (.tmp 37) 24 rfl W1.heap.size 3 i0 (.int .i64 0) 1 8 Tryz.underlying24 I0.out.1 I0.out.2.1 I0.out.2.2.1 I0.out.2.2.2 rfl (by decide) (.slice (some ⟨h, 0, none⟩) r c) r (intCells (L.take r)) rfl (by have := HG3.out.ext HU2.out; unfold GrowN at this; rw [show (L.take r).length = r by simp; omega] at this; exact this) (some ⟨w2.heap.size, 0, none⟩) 1 1 (intCells [clp z]) rfl (src_oneV w2 (clp z) 3) (by unfold maxLen; omega) (by omega) (Nat.le_trans Hr.out.1.size HU2.out.size) ?_; intro v' w3 hg; obtain ⟨h', c', rfl, hc', hx3, hs3⟩ := stk_push hg hrL hBh (Hr.out.1.trans' HU2.out); have H3 := Lib.hid (And.intro hx3 hs3); clear hg hx3 hs3)
        have hl2 : (stk S l (k + 1)).length = r + 1 := by rw [HST.out]; simp; omega
        have hlt' := HNL.out
        go_roundg (l.length - (k + 1))
        case measure => omega
        case rel => exact ⟨k + 1, h', c', by omega, rfl, hc', by rw [hl2], by go_num, H3.out.1, by rw [hl2, HST.out]; exact H3.out.2⟩
    · obtain rfl : k = l.length := by omega
      have hl1 : (stk S l l.length).length = 1 := by have := HP.out.2.2; omega
      rw [hl1] at Hr ⊢
      obtain ⟨g, cap, e, -, -, -, -, hcl⟩ := GrowN.form (l := stk S l l.length) (by have := Hr.out.2; rw [← hl1] at this; exact this) (by omega)
      have hc0 := hcl 0 (by omega)
      rw [hl1] at e
      cases e
      have HE := Lib.hid (show gi (stk S l l.length) 0 = evl S l from rfl)
      clear hcl hln hl1
      go_wp2_with fail
      go_ret
      exact ⟨by rw [← HE.out]; rfl, HX1.out.trans' Hr.out.1⟩
end Go.Proofs.YtbddjejpacaglaaGreatDoor
