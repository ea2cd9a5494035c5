/- RestRound: the program. -/
import Derived.Test.YtbddjejpacaglaaGreatDoorVrt
import Derived.Test.YtbddjejpacaglaaGreatDoorVrl
import Derived.Test.YtbddjejpacaglaaGreatDoorVrq
namespace Go.Proofs.YtbddjejpacaglaaGreatDoor
open Go.RowKit Go.Shelf
attribute [local go_sem] Oper.semAt_some

theorem run_loadVar1V {P : Program} (w : World) {t : TypeId} {d : TypeDesc} (hu : P.underlying t = some d) (hd : (match d with | .struct _ | .array _ _ => true | _ => false) = false) {a : Addr} {v : Value} (hc : w.cell? a = some v) : (loadVar t a).run P w = .ok v w := by
  cases d <;> first | (cases hd; done) | simp [loadVar, isAgg, run_underlying hu, hc]
theorem results_cell2V {fn : Func} {p q : Tmp} {t1 t2 : TypeId} {P : Program} (h : fn.results = #[.cell p t1, .cell q t2]) (tmps : Array Value) (w : World) {a1 a2 : Addr} {v1 v2 : Value}
    (hp : tmps.getD p undef = .pointer (some a1)) (hq : tmps.getD q undef = .pointer (some a2))
    (l1 : (loadVar t1 a1).run P w = .ok v1 w) (l2 : (loadVar t2 a2).run P w = .ok v2 w) : (results fn tmps).run P w = .ok (.tuple #[v1, v2]) w := by
  have hp' : tmps[p]?.getD undef = .pointer (some a1) := by simpa using hp
  have hq' : tmps[q]?.getD undef = .pointer (some a2) := by simpa using hq
  simp [results, h, asAddr, hp', hq', l1, l2]
theorem KeepsOthers.of_extV {W W' : World} (h : Ext W W') : KeepsOthers W W' := ⟨h.size, fun k _ hk _ => (h.block k (Array.getElem?_eq_some_iff.1 hk).1).trans hk⟩

/-- While no two lists that follow one another were equal: the boxes of the results, unwritten; the list before. -/
def RRAt (w : World) (L : Nat → List Int) (B : Nat) (k : Nat) (W : World) : Prop :=
  Ext w W ∧ B ≤ W.heap.size ∧ W.rowIs (w.heap.size + 1) 3 1 (fun _ => .int .i64 0) ∧ W.rowIs (w.heap.size + 1 + 1) 4 1 (fun _ => .bool false) ∧ (∀ j, j + 1 < k → L (j + 1) ≠ L j) ∧
    ∃ v bs, W.rowIs (w.heap.size + 1 + 1 + 1) 24 1 (fun _ => v) ∧ OwnI W v (if k = 0 then [] else L (k - 1)) bs ∧ ∀ b ∈ bs, w.heap.size + 4 ≤ b
theorem RRAt.kc {w : World} {L : Nat → List Int} {k B : Nat} {W W' : World} (h : RRAt w L B k W) (hk : Kc B W W') (hB : w.heap.size ≤ B) : RRAt w L B k W' := by
  obtain ⟨h1, h2, h3, h4, h5, v, bs, h6, h7, h8⟩ := h
  exact ⟨hk.ext h1 hB, Nat.le_trans h2 hk.size, hk.rowL h3, hk.rowL h4, h5, v, bs, hk.rowL h6, hk.keepI h7, h8⟩
/-- Behind the return from a round. -/
def RRIx (w : World) (L : Nat → List Int) (cd : Code) (k : Nat) (W : World) : Prop :=
  cd = .ret ∧ Ext w W ∧ ∃ i, k = i + 1 ∧ L (i + 1) = L i ∧ (∀ j, j < i → L (j + 1) ≠ L j) ∧ W.rowIs (w.heap.size + 1) 3 1 (fun _ => .int .i64 (i : Int)) ∧ W.rowIs (w.heap.size + 1 + 1) 4 1 (fun _ => .bool true)
theorem RRIx.kc {w : World} {L : Nat → List Int} {cd : Code} {k B : Nat} {W W' : World} (h : RRIx w L cd k W) (hk : Kc B W W') (hB : w.heap.size ≤ B) : RRIx w L cd k W' := by
  obtain ⟨h1, h2, i, h3, h4, h5, r1, r2⟩ := h
  exact ⟨h1, hk.ext h2 hB, i, h3, h4, h5, hk.rowL r1, hk.rowL r2⟩

set_option maxHeartbeats 6400000 in
set_option maxRecDepth 100000 in
theorem implRestRound_any {w : World} {pv vn vs : Value} {l : List (Int × Int)} {N : Net} {s : List Int} (r : Int) (h0 : EndSl w pv l) (h : NetAt w vn N) (hs : IntSl w vs s) (hP : Pw w) :
    Calls Tryz.prog 29 #[pv, vn, vs, .int .i64 r] w fun e w' => e = .returned (.tuple #[.int .i64 (rrAns l N s r), .bool (dec (RestB l N s r))]) ∧ Ext w w' := by
  have HPV := Lib.hid h0
  have HN := Lib.hid h
  have HS := Lib.hid hs
  have HPW := Lib.hid hP
  obtain ⟨v0, v1, v2, rfl, -, -, -⟩ := h
  obtain ⟨W0, hW0⟩ : ∃ W0, W0 = (((w.alloc (.cells #[v0, v1, v2] 35)).alloc (.cells #[.int .i64 0] 3)).alloc (.cells #[.bool false] 4)) := ⟨_, rfl⟩
  have EW0 := Lib.hid (show Ext w W0 by rw [hW0]; exact (((Ext.rfl' w).alloc' _).alloc' _).alloc' _)
  have ZW0 := Lib.hid (show W0.heap.size = w.heap.size + 3 by rw [hW0]; simp)
  have R0 := Lib.hid (show W0.rowIs w.heap.size 35 3 (tri v0 v1 v2) by rw [hW0]; exact ((row3_made w v0 v1 v2 35).alloc _).alloc _)
  have R1 := Lib.hid (show W0.rowIs (w.heap.size + 1) 3 1 (fun _ => .int .i64 0) by
    rw [hW0]
    have := (row1_madeL (w.alloc (.cells #[v0, v1, v2] 35)) (.int .i64 0) 3).alloc (.cells #[.bool false] 4)
    simp only [World.size_alloc] at this
    exact this)
  have R2 := Lib.hid (show W0.rowIs (w.heap.size + 1 + 1) 4 1 (fun _ => .bool false) by
    rw [hW0]
    have := row1_madeL ((w.alloc (.cells #[v0, v1, v2] 35)).alloc (.cells #[.int .i64 0] 3)) (.bool false) 4
    simp only [World.size_alloc] at this
    exact this)
  have t1 := R1.out.cell (i := 0) (by omega)
  have f1 := R1.out.frozen 0
  have t2 := R2.out.cell (i := 0) (by omega)
  have f2 := R2.out.frozen 0
  rw [hW0] at t1 f1 t2 f2
  clear h0 hs hP
  refine (callsIn_wide (n := 5)).1 ?_
  refine callsIn_of_wp_marks Tryz.func29 rfl trivial ?_ rfl
  simp only [Tryz.ntmps29, List.size_toArray, List.length_cons, List.length_nil, Nat.reduceAdd, Nat.reduceSub, Array.replicate_succ, Array.replicate_zero, List.push_toArray, List.append_toArray, List.nil_append, List.cons_append]
  by_cases hi : InB r 0 2000
  case neg =>
    have I := Lib.hid (dec_false hi)
    have D := Lib.hid (show ¬ RestB l N s r from fun h => hi h.1.2)
    clear hi
    gi_wp2_with (refine ⟨trivial, ?_⟩; gi_at_call 39; (with_reducible refine (callsIn_wide.2 (isBetweenK_any _ _ _ _)).mono ?_); rintro e w' ⟨rfl, rfl⟩; rw [I.out])
    rw [← hW0]
    refine ⟨_, results_cell2V rfl _ _ rfl rfl (run_loadVar1V _ Tryz.underlying3 rfl (R1.out.cell (i := 0) (by omega))) (run_loadVar1V _ Tryz.underlying4 rfl (R2.out.cell (i := 0) (by omega))), by rw [dec_false D.out, rrAns_f D.out], EW0.out⟩
  have I := Lib.hid (dec_true hi)
  have HI := Lib.hid hi
  obtain ⟨m, rfl⟩ := Int.eq_ofNat_of_zero_le hi.1
  have hm : m ≤ 2000 := by have := hi.2; omega
  clear hi
  obtain ⟨W1, hW1⟩ : ∃ W1, W1 = W0.alloc (.cells #[.slice none 0 0] 24) := ⟨_, rfl⟩
  have EW := Lib.hid (show Ext w W1 by rw [hW1]; exact EW0.out.alloc' _)
  have ZW := Lib.hid (show W1.heap.size = w.heap.size + 4 by rw [hW1]; have := ZW0.out; simp; omega)
  have Q0 := Lib.hid (show W1.rowIs w.heap.size 35 3 (tri v0 v1 v2) by rw [hW1]; exact R0.out.alloc _)
  have Q1 := Lib.hid (show W1.rowIs (w.heap.size + 1) 3 1 (fun _ => .int .i64 0) by rw [hW1]; exact R1.out.alloc _)
  have Q2 := Lib.hid (show W1.rowIs (w.heap.size + 1 + 1) 4 1 (fun _ => .bool false) by rw [hW1]; exact R2.out.alloc _)
  have Q3 := Lib.hid (show W1.rowIs (w.heap.size + 1 + 1 + 1) 24 1 (fun _ => .slice none 0 0) by
    rw [hW1]
    have := row1_madeL W0 (.slice none 0 0) 24
    rw [show W0.heap.size = w.heap.size + 1 + 1 + 1 by have := ZW0.out; omega] at this
    exact this)
  obtain ⟨q0, q1, q2, -, -, -⟩ := row3_facts Q0.out
  rw [hW1, hW0] at q0 q1 q2
  gi_wp2_with (refine ⟨trivial, ?_⟩; gi_at_call 39; (with_reducible refine (callsIn_wide.2 (isBetweenK_any _ _ _ _)).mono ?_); rintro e w' ⟨rfl, rfl⟩; rw [I.out])
  rw [← hW0, ← hW1]
  clear hW0 hW1 q0 q1 q2 t1 f1 t2 f2
  refine ⟨trivial, ?_⟩
  have hV := valueRunOf2_any (w0 := w) (w := W1) (m + 1) (by omega) EW.out (HPV.out.ext EW.out) HN.out (HS.out.ext EW.out) (HPW.out.ext EW.out)
  rw [show (((m + 1 : Nat) : Int)) = (m : Int) + 1 by omega] at hV
  (with_reducible refine (callsIn_wide.2 hV).mono ?_)
  clear hV
  rintro e w2 ⟨gf, lb, F0, rfl, hx, hr1, hr2, hr3⟩
  have X2 := Lib.hid hx
  have W2 := Lib.hid (EW.out.trans' hx)
  have Z2 := Lib.hid (show w.heap.size + 4 ≤ w2.heap.size by have := hx.size; have := ZW.out; omega)
  have HR1 := Lib.hid hr1
  have HR2 := Lib.hid hr2
  have HR3 := Lib.hid hr3
  clear hx hr1 hr2 hr3
  gi_wp2_with fail
  refine' rangeRun (n := 5) (gf := gf) (X := [w.heap.size + 1 + 1 + 1]) (c := cntV l N s (m + 1)) (Rd := RdL F0 N.ends.length (runV l N s)) (by omega) rfl HR1.out
    (HR3.out 4 w2 _ (by omega) (Ext.rfl' _) (fun b hb => by have := Z2.out; have := ZW.out; simp at hb; omega))
    (RRAt w (runV l N s) w2.heap.size) (RRIx w (runV l N s)) (fun k W W' hi hk => hi.kc hk (by have := Z2.out; omega)) (fun _ _ _ _ hs hk => hs.kc hk (by have := Z2.out; omega)) (fun k v W0 W W' hr hk => hr.kc hk)
    ⟨W2.out, Nat.le_refl _, row_ext Q1.out X2.out, row_ext Q2.out X2.out, fun j hj => absurd hj (by omega), .slice none 0 0, [], row_ext Q3.out X2.out, by simpa using own_nilV _, by simp⟩ _ ?assign ?body ?done ?stop
  case assign =>
    intro l' k v W K hK
    gi_wp2
    exact hK
  case body =>
    rintro l' k v W0 W hk hi0 hkc hr
    obtain ⟨a, q, bs, rfl, ho, hge⟩ := hr
    have hask : AskB l N s := by
      by_cases h : AskB l N s
      · exact h
      · rw [cntV_f h] at hk; omega
    have hw0 := hi0.2.1
    have hbs : ∀ b ∈ bs, w.heap.size + 4 ≤ b := fun b hb => by
      have h1 := hge b hb
      rcases Nat.eq_zero_or_pos k with h | h
      · have := (HR2.out b (h1.1 h)).1; have := ZW.out; omega
      · have := h1.2 h; have := Z2.out; omega
    obtain ⟨hx, hwb, r1, r2, hno, vb, bb, r3, hbo, hbb⟩ := RRAt.kc (B := w2.heap.size) hi0 hkc (by have := Z2.out; omega)
    obtain ⟨Lb, hLb⟩ : ∃ Lb, Lb = (if k = 0 then [] else runV l N s (k - 1)) := ⟨_, rfl⟩
    rw [← hLb] at hbo
    obtain ⟨ba, -, -, bq, rfl, -⟩ := id hbo.read
    have c3 := r3.cell (i := 0) (by omega)
    have HX := Lib.hid hx
    have E1 := Lib.hid r1
    have E2 := Lib.hid r2
    have E3 := Lib.hid r3
    have HO := Lib.hid ho
    have HBO := Lib.hid hbo
    have HNO := Lib.hid hno
    have HWB := Lib.hid hwb
    have HBS := Lib.hid hbs
    have HLb := Lib.hid hLb
    have HA := Lib.hid hask
    have HK := Lib.hid hk
    clear hx hwb r1 r2 r3 ho hbo hno hbs hLb hask hi0 hkc hge hk hbb hw0
    gi_wp2_with fail
    refine ⟨trivial, ?_⟩
    have hsl : IntSl W (.slice a N.ends.length q) (runV l N s k) := HO.out.read
    (with_reducible refine (CallsIn.inRound _ (callsIn_wide.2 (sEqualV_any hsl HBO.out.read))).mono ?_)
    clear hsl
    rintro e w3 ⟨rfl, hx⟩
    have X3 := Lib.hid hx
    clear hx c3
    have t1 := (row_ext E1.out X3.out).cell (i := 0) (by omega)
    have f1 := (row_ext E1.out X3.out).frozen 0
    have t2 := (row_ext E2.out X3.out).cell (i := 0) (by omega)
    have f2 := (row_ext E2.out X3.out).frozen 0
    have t3 := (row_ext E3.out X3.out).cell (i := 0) (by omega)
    have f3 := (row_ext E3.out X3.out).frozen 0
    by_cases he : runV l N s k = Lb
    · have Dd := Lib.hid (decide_eq_true he)
      rw [Dd.out]
      rcases k with _ | i
      · exfalso
        have h1 := HLb.out
        rw [if_pos rfl] at h1
        have h2 := length_runV HA.out.1 HA.out.2 0
        rw [he, h1] at h2
        have h3 := HA.out.2.1.1.1
        simp at h2
        omega
      · have HE := Lib.hid (show runV l N s (i + 1) = runV l N s i by have := HLb.out; rw [if_neg (by omega)] at this; simpa using he.trans this)
        clear he
        have ek : ((i + 1 : Nat) : Int) - 1 = (i : Int) := by omega
        have hik : i ≤ 2000 := by have := HK.out; rw [cntV_t HA.out] at this; omega
        gi_wp2_with fail
        refine ⟨((KeepsOthers.of_extV X3.out).trans (KeepsOthers.setCell _ _ _)).trans (KeepsOthers.setCell _ _ _), rfl, ((HX.out.trans' X3.out).store (by show w.heap.size ≤ w.heap.size + 1; omega) _).store (by show w.heap.size ≤ w.heap.size + 1 + 1; omega) _, i, rfl, HE.out, fun j hj => HNO.out j (by omega), (row1_setL (row_ext E1.out X3.out) _).setOther (by show w.heap.size + 1 ≠ w.heap.size + 1 + 1; omega) _, row1_setL ((row_ext E2.out X3.out).setOther (by show w.heap.size + 1 + 1 ≠ w.heap.size + 1; omega) _) _⟩
    · have NE := Lib.hid he
      have Dd := Lib.hid (decide_eq_false he)
      rw [Dd.out]
      clear he
      gi_wp2_with fail
      refine ⟨(KeepsOthers.of_extV X3.out).trans (KeepsOthers.setCell _ _ _), (KpT.of_ext X3.out HWB.out).trans' (KpT.storeL (by simp) (by have := Z2.out; show w.heap.size + 1 + 1 + 1 < w2.heap.size; omega) _), (HX.out.trans' X3.out).store (by show w.heap.size ≤ w.heap.size + 1 + 1 + 1; omega) _, by have := X3.out.size; have := HWB.out; simp; omega, (row_ext E1.out X3.out).setOther (by show w.heap.size + 1 ≠ w.heap.size + 1 + 1 + 1; omega) _, (row_ext E2.out X3.out).setOther (by show w.heap.size + 1 + 1 ≠ w.heap.size + 1 + 1 + 1; omega) _, fun j hj => ?_, _, bs, row1_setL (row_ext E3.out X3.out) _, ?_, HBS.out⟩
      · rcases Nat.lt_or_ge (j + 1) k with h | h
        · exact HNO.out j h
        · obtain rfl : k = j + 1 := by omega
          have := HLb.out
          rw [if_neg (by omega)] at this
          have h2 := NE.out
          rw [this] at h2
          simpa using h2
      · rw [if_neg (by omega)]
        have h1 : OwnI w3 (.slice a N.ends.length q) (runV l N s k) bs := HO.out.ext X3.out
        exact h1.keep fun b hb => Below.heap_setCell _ _ _ _ (by have := HBS.out b hb; show b ≠ w.heap.size + 1 + 1 + 1; omega)
  case done =>
    rintro D W hD hi hK
    obtain ⟨hx, hwb, r1, r2, hno, -⟩ := hi
    have DN := Lib.hid (show ¬ RestB l N s (m : Int) from fun ⟨hL, k, hk, hra⟩ => hno k (by rw [cntV_t hL.1]; rw [Int.toNat_natCast] at hk; omega) hra.1)
    have HX := Lib.hid hx
    have E1 := Lib.hid r1
    have E2 := Lib.hid r2
    have t1 := r1.cell (i := 0) (by omega)
    have f1 := r1.frozen 0
    have t2 := r2.cell (i := 0) (by omega)
    have f2 := r2.frozen 0
    clear hx hwb r1 r2 hno
    gi_wp2
    have hZ := Z2.out
    have hK' : ((W.setCell ⟨w.heap.size + 1, 0, none⟩ (.int .i64 0)).setCell ⟨w.heap.size + 1 + 1, 0, none⟩ (.bool false)).heap[D]? = some (.deferred (some [])) :=
      (Below.heap_setCell _ _ _ _ (by show D ≠ w.heap.size + 1 + 1; omega)).trans ((Below.heap_setCell _ _ _ _ (by show D ≠ w.heap.size + 1; omega)).trans hK)
    have KK := Lib.hid (Kc.put (B := w2.heap.size) (o' := .deferred none) hD hK' rfl)
    have G1 := Lib.hid (KK.out.rowL ((row1_setL E1.out (.int .i64 0)).setOther (by show w.heap.size + 1 ≠ w.heap.size + 1 + 1; omega) _))
    have G2 := Lib.hid (KK.out.rowL (row1_setL (E2.out.setOther (by show w.heap.size + 1 + 1 ≠ w.heap.size + 1; omega) _) (.bool false)))
    refine ⟨by simp, .inl ⟨_, _, rfl, run_takeDeferred hK', ?_⟩⟩
    exact ⟨_, results_cell2V rfl _ _ rfl rfl (run_loadVar1V _ Tryz.underlying3 rfl (G1.out.cell (i := 0) (by omega))) (run_loadVar1V _ Tryz.underlying4 rfl (G2.out.cell (i := 0) (by omega))), by rw [dec_false DN.out, rrAns_f DN.out], KK.out.ext ((HX.out.store (by show w.heap.size ≤ w.heap.size + 1; omega) _).store (by show w.heap.size ≤ w.heap.size + 1 + 1; omega) _) (by omega)⟩
  case stop =>
    rintro D cd k W hD hk hh hK
    obtain ⟨rfl, hx, i, rfl, heq, hno, r1, r2⟩ := hh
    have hask : AskB l N s := by
      by_cases h : AskB l N s
      · exact h
      · rw [cntV_f h] at hk; omega
    rw [cntV_t hask] at hk
    have E := Lib.hid (rrAns_t (r := (m : Int)) (k := i) ⟨hask, HI.out⟩ (by omega) ⟨heq, hno⟩)
    have KK := Lib.hid (Kc.put (B := w2.heap.size) (o' := .deferred none) hD hK rfl)
    have hZ := Z2.out
    gi_wp2
    refine ⟨by simp, .inl ⟨_, _, rfl, run_takeDeferred hK, ?_⟩⟩
    exact ⟨_, results_cell2V rfl _ _ rfl rfl (run_loadVar1V _ Tryz.underlying3 rfl ((KK.out.rowL r1).cell (i := 0) (by omega))) (run_loadVar1V _ Tryz.underlying4 rfl ((KK.out.rowL r2).cell (i := 0) (by omega))), by rw [dec_true E.out.1, E.out.2], KK.out.ext hx (by omega)⟩

theorem specRestV {w : World} {pv vn vs : Value} {l : List (Int × Int)} {N : Net} {s : List Int} (r : Int) (h0 : EndSl w pv l) (h : NetAt w vn N) (hs : IntSl w vs s) (_ : s.length ≤ 1048576) :
    Calls Tryz.prog 28 #[pv, vn, vs, .int .i64 r] w fun e w' => e = .returned (.tuple #[.int .i64 (rrAns l N s r), .bool (dec (RestB l N s r))]) ∧ Ext w w' := specRestRound_any r h0 h hs
theorem implRestV {w : World} {pv vn vs : Value} {l : List (Int × Int)} {N : Net} {s : List Int} (r : Int) (h0 : EndSl w pv l) (h : NetAt w vn N) (hs : IntSl w vs s) (_ : s.length ≤ 1048576) (hP : Pw w) :
    Calls Tryz.prog 29 #[pv, vn, vs, .int .i64 r] w fun e w' => e = .returned (.tuple #[.int .i64 (rrAns l N s r), .bool (dec (RestB l N s r))]) ∧ Ext w w' := implRestRound_any r h0 h hs hP
end Go.Proofs.YtbddjejpacaglaaGreatDoor
