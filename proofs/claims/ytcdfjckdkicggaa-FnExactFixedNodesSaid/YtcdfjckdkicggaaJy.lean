/- The contract of the model's isOrbits. -/
import Derived.Test.YtcdfjckdkicggaaJp
namespace Go.Proofs.Ytcdfjckdkicggaa
open Go.RowKit

theorem Try.infoSI : (Try.prog.info? 23).map (fun i => (i.zero, i.size, i.bytes)) = some (some (.slice none 0 0), 1, 24) := by kernel_rfl

/-- The codes of the first k nodes, in a row that grows. -/
def CodesAt (B : Nat) (w : World) (v : Value) (N : Net) (k : Nat) : Prop :=
  ∃ (R : Nat → Value) (T : Nat → List Nat), w.ownsRow B 23 1 v k ((List.range k).map R) ∧ ∀ i : Nat, i < k → OwnI w (R i) (code N (i : Int)) (T i) ∧ ∀ b ∈ T i, B ≤ b
theorem CodesAt.ext {B k : Nat} {w w' : World} {v : Value} {N : Net} (h : CodesAt B w v N k) (he : Ext w w') : CodesAt B w' v N k := by
  obtain ⟨R, T, h1, h2⟩ := h
  exact ⟨R, T, owns_ext h1 he, fun i hi => ⟨(h2 i hi).1.ext he, (h2 i hi).2⟩⟩
theorem CodesAt.put {B k b x : Nat} {w : World} {v : Value} {N : Net} {u : Value} (h : CodesAt B w v N k) (hb : b < B) : CodesAt B (w.setCell ⟨b, x, none⟩ u) v N k := by
  obtain ⟨R, T, h1, h2⟩ := h
  exact ⟨R, T, ownsRow_setCell_below h1 hb _, fun i hi => ⟨(h2 i hi).1.keep fun c hc => Below.heap_setCell _ _ _ _ (by have := (h2 i hi).2 c hc; show c ≠ b; omega), (h2 i hi).2⟩⟩
theorem CodesAt.at {B k : Nat} {w : World} {v : Value} {N : Net} (h : CodesAt B w v N k) (hk : 0 < k) :
    ∃ g cap, v = .slice (some ⟨g, 0, none⟩) k cap ∧ k ≤ cap ∧ cap ≤ maxLen ∧ ∀ i : Nat, i < k → ∃ ca cc bs, w.cell? ⟨g, i, none⟩ = some (.slice ca (code N (i : Int)).length cc) ∧ OwnI w (.slice ca (code N (i : Int)).length cc) (code N (i : Int)) bs := by
  obtain ⟨R, T, h1, h2⟩ := h
  rcases h1.2 with ⟨_, h0⟩ | ⟨g, cap, cur, rfl, hb, hg, k1, k2, _⟩
  · omega
  · refine ⟨g, cap, rfl, k1, k2, fun i hi => ?_⟩
    obtain ⟨ca, cc, e⟩ := (h2 i hi).1.1.slice
    refine ⟨ca, cc, T i, ?_, by rw [← e]; exact (h2 i hi).1⟩
    rw [World.ownsRow.cellAt h1 i (by omega)]
    simp [hi, e]
theorem CodesAt.step {B k : Nat} {w w' : World} {v v' : Value} {N : Net} {x : Value} {bs : List Nat} (ho : OwnI w x (code N (k : Int)) bs) (hB : ∀ b ∈ bs, B ≤ b) {R : Nat → Value} {T : Nat → List Nat}
    (h1 : w.ownsRow B 23 1 v k ((List.range k).map R)) (h2 : ∀ i : Nat, i < k → OwnI w (R i) (code N (i : Int)) (T i) ∧ ∀ b ∈ T i, B ≤ b) (hg : Grew w w' B 23 1 v v' (k + 1) ((List.range k).map R ++ [x])) : CodesAt B w' v' N (k + 1) := by
  have hk : ∀ {y : Value} {l : List Int} {cs : List Nat}, OwnI w y l cs → OwnI w' y l cs := fun {y l cs} hy => hy.keep (kept_grown h1 hg.2.1 hy.1.typed (by decide))
  refine ⟨fun i => if i = k then x else R i, fun i => if i = k then bs else T i, ?_, fun i hi => ?_⟩
  · have e : (List.range (k + 1)).map (fun i => if i = k then x else R i) = (List.range k).map R ++ [x] := by
      rw [List.range_succ, List.map_append]
      congr 1
      · exact List.map_congr_left fun i hi => if_neg (by have := List.mem_range.1 hi; omega)
      · simp
    rw [e]; exact hg.1
  · by_cases e : i = k
    · subst e; simp only [if_true]; exact ⟨hk ho, hB⟩
    · simp only [e, if_false]; exact ⟨hk (h2 i (by omega)).1, (h2 i (by omega)).2⟩

/-- The row of orbits, entry k under way. -/
def orbRow (N : Net) (k j : Nat) (i : Nat) : Value := if i = k then .int .i64 j else copied (orbL N) k i
theorem orbRow_zero {N : Net} {k i : Nat} : copied (orbL N) k i = orbRow N k 0 i := by
  unfold orbRow copied
  by_cases e : i = k
  · subst e; simp
  · rw [if_neg e]
theorem orbRow_done {N : Net} {k j i : Nat} (h : orb N k = (j : Int)) (hk : k < N.ends.length) : orbRow N k j i = copied (orbL N) (k + 1) i := by
  unfold orbRow copied
  by_cases e : i = k
  · subst e; rw [if_pos rfl, if_pos (by omega), gi_orbL hk, h]
  · rw [if_neg e]
    by_cases h1 : i < k
    · rw [if_pos h1, if_pos (by omega)]
    · rw [if_neg h1, if_neg (by omega)]
theorem orbRow_set {w : World} {b n k j : Nat} {N : Net} (h : w.rowIs b 3 n (orbRow N k j)) : (w.setCell ⟨b, k, none⟩ (.int .i64 ((j : Int) + 1))).rowIs b 3 n (orbRow N k (j + 1)) :=
  (h.set k _).congr fun i _ => by
    unfold orbRow
    by_cases e : i = k
    · rw [if_pos e, if_pos e]; push_cast; rfl
    · rw [if_neg e, if_neg e, if_neg e]

set_option maxHeartbeats 6400000 in
set_option maxRecDepth 100000 in
theorem isOrbits_any {w : World} {v : Value} {N : Net} (h : NetAt w v N) (hG : GoodW N) :
    Calls Try.prog 62 #[v] w fun e w' => ∃ b, e = .returned (.slice (some ⟨b, 0, none⟩) N.ends.length N.ends.length) ∧ Ext w w' ∧ OwnI w' (.slice (some ⟨b, 0, none⟩) N.ends.length N.ends.length) (orbL N) [b] ∧ w.heap.size ≤ b := by
  have HN := Lib.hid h
  have HG := Lib.hid hG
  have h40 := hG.most
  clear hG
  obtain ⟨v0, v1, v2, rfl, hE, -, -⟩ := h
  obtain ⟨ea, -, -, ec, rfl, -, hel, hem, -⟩ := hE
  unfold maxLen at hem
  obtain ⟨i1, hii, hz0, hz1, hz2⟩ := info_parts Try.infoSI
  have I1 := Lib.hid (And.intro hii (And.intro hz0 (And.intro hz1 hz2)))
  clear hii hz0 hz1 hz2
  have hmk := run_make_row' (P := Try.prog) 23 3 (.int .i64 0) 8 Try.underlying23 Try.info3 rfl .i64 .i64 N.ends.length (by omega) (by omega)
  obtain ⟨WB, hWB⟩ : ∃ WB, WB = w.alloc (.cells #[.slice ea N.ends.length ec, v1, v2] 31) := ⟨_, rfl⟩
  have EB := Lib.hid (show Ext w WB by rw [hWB]; exact boxed_ext _ _ _ _ _)
  have RB := Lib.hid (show WB.rowIs w.heap.size 31 3 (tri (.slice ea N.ends.length ec) v1 v2) by rw [hWB]; exact boxed_row _ _ _ _ _)
  have ZB := Lib.hid (show WB.heap.size = w.heap.size + 1 by rw [hWB]; simp)
  obtain ⟨W0, hW0⟩ : ∃ W0, W0 = WB.alloc (.cells (madeCells #[.int .i64 0] N.ends.length) 3) := ⟨_, rfl⟩
  have E0 := Lib.hid (show Ext WB W0 by rw [hW0]; exact (Ext.rfl' _).alloc' _)
  have Z0 := Lib.hid (show W0.heap.size = w.heap.size + 2 by rw [hW0]; have := ZB.out; simp; omega)
  have R0 := Lib.hid (show W0.rowIs (w.heap.size + 1) 3 N.ends.length (copied (orbL N) 0) by
    rw [hW0, ← ZB.out]; exact (World.rowIs_made WB (.int .i64 0) N.ends.length 3).congr fun i _ => by simp [copied])
  obtain ⟨p0, p1, p2, -, -, -⟩ := row3_facts RB.out
  obtain ⟨q0, q1, q2, -, -, -⟩ := row3_facts (row_ext RB.out E0.out)
  rw [hW0, hWB] at q0 q1 q2
  rw [hWB] at p0 p1 p2
  go_enter Try.func62, Try.ntmps62
  go_wp2
  rw [← hWB, ← hW0]
  clear hmk p0 p1 p2 q0 q1 q2 hWB hW0
  go_loopg [3, 13] N.ends.length (fun g s i wr => ∃ k : Nat, k ≤ N.ends.length ∧ g = N.ends.length - k ∧ i = .int .i64 k ∧ Hid (Ext WB wr ∧ wr.rowIs (w.heap.size + 1) 3 N.ends.length (copied (orbL N) k) ∧ CodesAt (w.heap.size + 2) wr s N k))
  case atStart => exact ⟨0, Nat.zero_le _, rfl, rfl, E0.out, R0.out, fun _ => undef, fun _ => [], World.ownsRow_nil _ _ _ _, fun i hi => absurd hi (by omega)⟩
  case round =>
    obtain ⟨k, hk, rfl, rfl, Hr⟩ := hrel
    by_cases hlt : k < N.ends.length
    · obtain ⟨p0, p1, p2, -, -, -⟩ := row3_facts (row_ext RB.out Hr.out.1)
      go_wp2_with fail
      (with_reducible refine (isFrom_any k hlt (HN.out.ext (EB.out.trans' Hr.out.1)) HG.out).mono ?_)
      rintro e w1 ⟨vc, bc, rfl, hx1, oc, fc⟩
      have X1 := Lib.hid hx1
      have OC := Lib.hid oc
      have FC := Lib.hid fc
      have C1 := Lib.hid (Hr.out.2.2.ext hx1)
      obtain ⟨ca, cc, rfl⟩ := oc.1.slice
      obtain ⟨R, T, c1, c2⟩ := C1.out
      have O1 := Lib.hid c1
      have O2 := Lib.hid c2
      have ZR := Lib.hid (show w.heap.size + 2 ≤ w1.heap.size by have := Hr.out.2.1.lt; have := hx1.size; omega)
      have ZR2 := Lib.hid (show w.heap.size + 2 ≤ wr.heap.size by have := Hr.out.2.1.lt; omega)
      clear hx1 oc fc c1 c2 p0 p1 p2
      go_wp2_with (at_builtin; refine wpList_app rfl (.tmp 16) (.tmp 20) 92 rfl (w.heap.size + 2) 23 i1 (.slice none 0 0) 1 24 Try.underlying92 I1.out.1 I1.out.2.1 I1.out.2.2.1 I1.out.2.2.2 rfl (by decide) u3 k ((List.range k).map R) rfl (owns_ext O1.out ((Ext.rfl' _).alloc' _)) (some ⟨w1.heap.size, 0, none⟩) 1 1 [.slice ca (code N k).length cc] rfl (src_one w1 (.slice ca (code N k).length cc) 23 rfl) (by unfold maxLen; omega) (by omega) (by have := ZR.out; simp; omega) ?_)
      intro v' w3 hg
      have XA : Ext w1 (w1.alloc (.cells #[.slice ca (code N k).length cc] 23)) := (Ext.rfl' _).alloc' _
      have C3 := Lib.hid (CodesAt.step (OC.out.ext XA) (fun b hb => by have := FC.out.2 b hb; have := ZR2.out; omega) (owns_ext O1.out XA) (fun i hi => ⟨(O2.out i hi).1.ext XA, (O2.out i hi).2⟩) hg)
      have X3 := Lib.hid (grown_ext (Hr.out.1.trans' (X1.out.trans' XA)) (by have := ZB.out; omega) (owns_ext O1.out XA) hg.2.1)
      have R3 := Lib.hid (show w3.rowIs (w.heap.size + 1) 3 N.ends.length (orbRow N k 0) from (row_grown (row_ext Hr.out.2.1 (X1.out.trans' XA)) (owns_ext O1.out XA) hg.2.1 (by decide)).congr fun i _ => orbRow_zero)
      clear hg XA
      obtain ⟨cg, ccap, rfl, hc1, hc2, -⟩ := C3.out.at (Nat.succ_pos k)
      unfold maxLen at hc2
      obtain ⟨wo, hwo⟩ : ∃ wo : World, wo = wr := ⟨_, rfl⟩
      subst hwo
      go_wp2_with fail
      go_loopg [24] (k + 1) (fun g _ wx => ∃ j : Nat, j ≤ k ∧ g = k + 1 - j ∧ Hid (Ext WB wx ∧ wx.rowIs (w.heap.size + 1) 3 N.ends.length (orbRow N k j) ∧ CodesAt (w.heap.size + 2) wx (.slice (some ⟨cg, 0, none⟩) (k + 1) ccap) N (k + 1) ∧ ∀ u : Nat, u < j → code N (u : Int) ≠ code N (k : Int)))
      case atStart => exact ⟨0, Nat.zero_le _, rfl, X3.out, R3.out, C3.out, fun u hu => absurd hu (by omega)⟩
      case round =>
        obtain ⟨j, hj, rfl, Hs⟩ := hrel
        obtain ⟨_, _, e, -, -, hcell⟩ := Hs.out.2.2.1.at (Nat.succ_pos k)
        simp only [Value.slice.injEq, Option.some.injEq, Addr.mk.injEq, and_true, true_and] at e
        obtain ⟨rfl, rfl⟩ := e
        obtain ⟨xa, xc, xb, x1, xo⟩ := hcell j (by omega)
        obtain ⟨ya, yc, yb, y1, yo⟩ := hcell k (by omega)
        have hov := Hs.out.2.1.cell hlt
        have hof := Hs.out.2.1.frozen k
        have hov' : wr.cell? ⟨w.heap.size + 1, k, none⟩ = some (.int .i64 j) := by rw [hov]; simp [orbRow]
        have XO := Lib.hid xo.read
        have YO := Lib.hid yo.read
        clear hcell hov xo yo
        have hb1 : (j : Int) < (k : Int) + 1 := by omega
        have hb2 : (k : Int) < (k : Int) + 1 := by omega
        have hb3 : j < k + 1 := by omega
        have hb4 : k < k + 1 := by omega
        by_cases he : code N (j : Int) = code N (k : Int)
        · have HE := Lib.hid (show decide (code N (j : Int) = code N (k : Int)) = true from decide_eq_true he)
          have HO := Lib.hid (orb_eq (N := N) (v := k) (w := j) (by omega) he Hs.out.2.2.2)
          clear he
          go_wp2_with fail
          go_region_held3 (fun w' => w'.cell? ⟨w.heap.size + 1, k, none⟩ = some (.int .i64 j) ∧ w'.cell? ⟨cg, j, none⟩ = some (.slice xa (code N j).length xc) ∧ w'.cell? ⟨cg, k, none⟩ = some (.slice ya (code N k).length yc) ∧ Hid (Ext wr w'))
            (first | exact ⟨hov', x1, y1, Lib.hid (Ext.rfl' wr).drew'⟩ | exact ⟨hx.cell' hov', hx.cell' x1, hx.cell' y1, Lib.hid ((Ext.rfl' wr).drew'.trans' hx)⟩)
            (first | (go_at_call 46; (with_reducible refine (l1Same_any (XO.out.ext (Ext.rfl' wr).drew') (YO.out.ext (Ext.rfl' wr).drew')).mono ?_); rintro e w5 ⟨rfl, hx⟩; rw [HE.out]; have X5 := Lib.hid ((Ext.rfl' wr).drew'.trans' hx)))
          rename_i hh
          clear hh hx
          go_wp2
          go_roundg (N.ends.length - (k + 1))
          case measure => omega
          case rel => exact ⟨k + 1, by omega, rfl, by go_num, Hs.out.1.trans' X5.out, (row_ext Hs.out.2.1 X5.out).congr fun i _ => orbRow_done HO.out hlt, Hs.out.2.2.1.ext X5.out⟩
        · have HE := Lib.hid (show decide (code N (j : Int) = code N (k : Int)) = false from decide_eq_false he)
          have HNE := Lib.hid he
          have hjk : j < k := by
            rcases Nat.lt_or_ge j k with h1 | h1
            · exact h1
            · exact absurd (by rw [show j = k by omega]) he
          clear he
          go_wp2_with fail
          go_region_held3 (fun w' => w'.cell? ⟨w.heap.size + 1, k, none⟩ = some (.int .i64 j) ∧ w'.cell? ⟨cg, j, none⟩ = some (.slice xa (code N j).length xc) ∧ w'.cell? ⟨cg, k, none⟩ = some (.slice ya (code N k).length yc) ∧ Hid (Ext wr w'))
            (first | exact ⟨hov', x1, y1, Lib.hid (Ext.rfl' wr).drew'⟩ | exact ⟨hx.cell' hov', hx.cell' x1, hx.cell' y1, Lib.hid ((Ext.rfl' wr).drew'.trans' hx)⟩)
            (first | (go_at_call 46; (with_reducible refine (l1Same_any (XO.out.ext (Ext.rfl' wr).drew') (YO.out.ext (Ext.rfl' wr).drew')).mono ?_); rintro e w5 ⟨rfl, hx⟩; rw [HE.out]; have X5 := Lib.hid ((Ext.rfl' wr).drew'.trans' hx)))
          rename_i hh
          clear hh hx
          have ho5 := X5.out.cell' hov'
          have hf5 := (row_ext Hs.out.2.1 X5.out).frozen k
          go_wp2
          go_roundg (k + 1 - (j + 1))
          case measure => omega
          case rel =>
            refine ⟨j + 1, by omega, rfl, (Hs.out.1.trans' X5.out).store (by have := ZB.out; simp; omega) _, orbRow_set (row_ext Hs.out.2.1 X5.out), (Hs.out.2.2.1.ext X5.out).put (by omega), fun u hu => ?_⟩
            by_cases e : u = j
            · subst e; exact HNE.out
            · exact Hs.out.2.2.2 u (by omega)
    · obtain rfl : k = N.ends.length := by omega
      go_wp2
      go_ret
      exact ⟨w.heap.size + 1, rfl, EB.out.trans' Hr.out.1, row_ints Hr.out.2.1 (orbL_len N) h40 (fun i hi => by have := orbL_range i hi; unfold inI64; omega), by omega⟩
end Go.Proofs.Ytcdfjckdkicggaa
