/- The contracts of the model's buDouble and DoubleCover. -/
import Derived.Test.YtkeiaahlifdbiaaDe
import Derived.Test.YtkeiaahlifdbiaaGb
namespace Go.Proofs.Ytkeiaahlifdbiaa
open Go.RowKit

theorem HNet.putInput {W0 wr : World} {M : Net} {p : Nat} {v0 v1 v2 : Value} (h : HNet W0 wr M p v0 v1 v2) {k : Nat} (hk : k < M.inputs.length) :
    ∃ b c, v2 = .slice (some ⟨b, 0, none⟩) M.inputs.length c ∧ wr.cell? ⟨b, k, none⟩ = some (.int .i64 (gi M.inputs k)) ∧ wr.frozen? ⟨b, k, none⟩ = false ∧
      ∀ y : Int, inI64 y → HNet W0 (wr.setCell ⟨b, k, none⟩ (.int .i64 y)) { M with inputs := M.inputs.set k y } p v0 v1 v2 := by
  obtain ⟨bs, ho, hnd, hge⟩ := h.net
  obtain ⟨b, c, hv, hb, hx, hf, hp⟩ := ho.putInput hnd hk
  refine ⟨b, c, hv, hx, hf, fun y hy => ⟨h.ext.store (hge b hb).1 _, h.hp, h.box.of_block (Below.heap_setCell _ _ _ _ (fun e => (hge b hb).2 e.symm)), bs, hp wr y (fun _ _ => rfl) hy, hnd, hge⟩⟩

/-- A network in a box of its own that lies apart from block z. -/
structure HAv (W0 wr : World) (M : Net) (p z : Nat) (v0 v1 v2 : Value) : Prop where
  ext : Ext W0 wr
  hp : W0.heap.size ≤ p
  box : wr.rowIs p 29 3 (tri v0 v1 v2)
  net : ∃ bs, OwnNet wr (.agg #[v0, v1, v2]) M bs ∧ bs.Nodup ∧ ∀ b ∈ bs, W0.heap.size ≤ b ∧ b ≠ p ∧ b ≠ z
theorem HNet.av {W0 wr w2 : World} {M : Net} {p z : Nat} {v0 v1 v2 : Value} (h : HNet W0 wr M p v0 v1 v2) (hx : Ext wr w2) (hz : wr.heap.size ≤ z) : HAv W0 w2 M p z v0 v1 v2 := by
  obtain ⟨bs, ho, hnd, hge⟩ := h.net
  exact ⟨h.ext.trans' hx, h.hp, row_ext h.box hx, bs, ho.ext hx, hnd, fun b hb => ⟨(hge b hb).1, (hge b hb).2, by have := ho.lt b hb; omega⟩⟩
theorem HAv.h {W0 wr : World} {M : Net} {p z : Nat} {v0 v1 v2 : Value} (h : HAv W0 wr M p z v0 v1 v2) : HNet W0 wr M p v0 v1 v2 := by
  obtain ⟨bs, ho, hnd, hge⟩ := h.net
  exact ⟨h.ext, h.hp, h.box, bs, ho, hnd, fun b hb => ⟨(hge b hb).1, (hge b hb).2.1⟩⟩
theorem HAv.at {W0 wr : World} {M : Net} {p z : Nat} {v0 v1 v2 : Value} (h : HAv W0 wr M p z v0 v1 v2) {k : Nat} (hk : k < M.ends.length) :
    ∃ bs b c ax cx t, v0 = .slice (some ⟨b, 0, none⟩) M.ends.length c ∧ At wr M v0 v1 v2 bs b k (.slice ax (gr M.ends k).length cx) t ∧ p ∉ bs ∧ z ∉ bs ∧ ∀ y ∈ bs, W0.heap.size ≤ y ∧ y ≠ p ∧ y ≠ z := by
  obtain ⟨bs, ho, hnd, hge⟩ := h.net
  obtain ⟨b, c, ax, cx, t, hv, hat⟩ := own_at ho hnd hk
  exact ⟨bs, b, c, ax, cx, t, hv, hat, fun hb => (hge p hb).2.1 rfl, fun hb => (hge z hb).2.2 rfl, hge⟩
theorem HAv.put {W0 wr w1 : World} {M : Net} {p z : Nat} {v0 v1 v2 v' : Value} {bs : List Nat} {b k : Nat} {x : Value} {e : Int × Int} (h : HAv W0 wr M p z v0 v1 v2) (hp : p ∉ bs) (hz : z < wr.heap.size) (hge : ∀ y ∈ bs, W0.heap.size ≤ y ∧ y ≠ p ∧ y ≠ z) (P : Put wr w1 M v0 v1 v2 v' bs b k x e) :
    HAv W0 (w1.setCell ⟨b, k, none⟩ v') (addEnd M k e) p z v0 v1 v2 := by
  obtain ⟨ds, g1, g2, g3⟩ := P.net
  have hpw := h.box.lt
  have hex := h.ext.size
  refine ⟨P.ext W0 h.ext (fun y hy => (hge y hy).1), h.hp, (P.row hp h.box).2, ds, g1, g2, fun y hy => ?_⟩
  rcases g3 y hy with h1 | h1
  · exact hge y h1
  · exact ⟨by omega, by omega, by omega⟩

theorem part_put {W0 wr : World} {T : List (List (Int × Int))} {cc : Nat → Nat} {inp inp' : List Int} {p : Nat} {v0 v1 : Value} {a2 : Option Addr} {P c2 : Nat} (h : HNet W0 wr (partNet T cc inp) p v0 v1 (.slice a2 P c2)) {k : Nat} {y : Int} (hk : k < inp.length) (hy : inI64 y) (e : inp.set k y = inp') :
    ∃ bb z, a2 = some ⟨bb, 0, none⟩ ∧ wr.cell? ⟨bb, k, none⟩ = some z ∧ wr.frozen? ⟨bb, k, none⟩ = false ∧ HNet W0 (wr.setCell ⟨bb, k, none⟩ (.int .i64 y)) (partNet T cc inp') p v0 v1 (.slice a2 P c2) := by
  obtain ⟨b, c, hv, hx, hf, hp⟩ := h.putInput (k := k) hk
  refine ⟨b, _, by simp at hv; exact hv.1, hx, hf, ?_⟩
  rw [← e]
  exact hp y hy

set_option maxHeartbeats 12800000 in
set_option maxRecDepth 100000 in
theorem buDouble_any {w : World} {v : Value} {N : Net} (h : NetAt w v N) (hg : Good N) :
    Calls Try.prog 71 #[v] w fun e w' => ∃ v' bs, e = .returned v' ∧ Ext w w' ∧ OwnNet w' v' (dcNet N) bs ∧ Fresh w bs := by
  have HN0 := Lib.hid h
  obtain ⟨v0, v1, v2, rfl, hE, -, hP⟩ := h
  obtain ⟨a, eb, eo, d, rfl, ha, hnd, hm, hc⟩ := hE
  obtain ⟨pa, pb, po, pd, rfl, hpa, hpn, hpm, hpc⟩ := hP
  unfold maxLen at hm hpm
  have Hc := Lib.hid hc
  have Ha := Lib.hid ha
  have Hpc := Lib.hid hpc
  have Hpa := Lib.hid hpa
  clear hc ha hpc hpa
  have hpl : N.inputs.length = N.ends.length := by have := hg.2.2.2.1; omega
  have h40 : N.ends.length ≤ 40 := hg.1.2
  have H6 := Lib.hid (show ∀ v, v < N.ends.length → (gr N.ends v).length ≤ 6 from fun v hv => (hg.2.1 v hv).1)
  have UIN := Lib.hid (show ∀ v, v < N.ends.length → ∀ i, i < (gr N.ends v).length → (0 ≤ gn (gr N.ends v) i ∧ gn (gr N.ends v) i < 40) ∧ 0 ≤ gp (gr N.ends v) i ∧ gp (gr N.ends v) i ≤ 6 from fun v hv i hi => by
    obtain ⟨a1, a2, a3, a4⟩ := ((hg.2.1 v hv).2 i hi).1
    have := (hg.2.1 (gn (gr N.ends v) i).toNat (by omega)).1
    exact ⟨⟨a1, by omega⟩, a3, by omega⟩)
  have INP := Lib.hid (show ∀ v, v < N.ends.length → inI64 (gi N.inputs v) from fun v hv => by have := hg.2.2.2.2 v (by omega); unfold inI64; omega)
  have ALL := Lib.hid (dbNet_all hg)
  obtain ⟨i1, hi, hz0, hz1, hz2⟩ := info_parts Try.info44
  have I1 := Lib.hid (And.intro hi (And.intro hz0 (And.intro hz1 hz2)))
  clear hi hz0 hz1 hz2 hg
  obtain ⟨n, hn⟩ : ∃ n, n = N.ends.length := ⟨_, rfl⟩
  obtain ⟨P, hPP⟩ : ∃ P, P = n + n := ⟨_, rfl⟩
  rw [hpl] at hpn Hpa Hpc
  rw [← hn] at hnd h40 Ha Hc hpn Hpa Hpc UIN H6 INP
  have HNL := Lib.hid hn
  have HPL := Lib.hid hPP
  have hP80 : P ≤ 80 := by omega
  obtain ⟨W0, hW0⟩ : ∃ W0, W0 = (w.alloc (.cells #[.slice a n d, v1, .slice pa n pd] 29)).alloc (.cells #[.slice none 0 0, .slice none 0 0, .slice none 0 0] 29) := ⟨_, rfl⟩
  have EW := Lib.hid (show Ext w W0 by rw [hW0]; exact ((Ext.rfl' w).alloc' _).alloc' _)
  have RN := Lib.hid (show W0.rowIs w.heap.size 29 3 (tri (.slice a n d) v1 (.slice pa n pd)) by rw [hW0]; exact row_ext (row3_made w _ _ _ _) ((Ext.rfl' _).alloc' _))
  have RQ := Lib.hid (show W0.rowIs (w.heap.size + 1) 29 3 (tri (.slice none 0 0) (.slice none 0 0) (.slice none 0 0)) by rw [hW0]; simpa using row3_made (w.alloc (.cells #[.slice a n d, v1, .slice pa n pd] 29)) (.slice none 0 0) (.slice none 0 0) (.slice none 0 0) 29)
  have ZW := Lib.hid (show W0.heap.size = w.heap.size + 2 by rw [hW0]; simp)
  have hp2 : 2 * (n : Int) = (P : Int) := by omega
  obtain ⟨p0, p1, p2, -, -, -⟩ := row3_facts RN.out
  rw [← hn, hpl, ← hn]
  clear hn hPP hpl
  go_enter Try.func71, Try.ntmps71
  go_wp2_with fail
  rw [← hW0]
  clear hW0
  (with_reducible refine (neEmpty_any P (by omega)).mono ?_)
  rintro e w1 ⟨v', bs, rfl, hw, ho, hf⟩
  obtain ⟨a0, c0, a1, c1, a2, c2, rfl⟩ := ho.agg_blank
  have H1 := Lib.hid (show HNet W0 (w1.alloc (.cells #[.slice a0 P c0, .slice a1 0 c1, .slice a2 P c2] 29)) (dbNet N 0 0 0 0) w1.heap.size (.slice a0 P c0) (.slice a1 0 c1) (.slice a2 P c2) by
    have := HNet.made hw ho hf
    rw [dbNet_none, ← HNL.out, ← HPL.out]; exact this)
  obtain ⟨s0, s1, s2, -, -, -⟩ := row3_facts (row_ext RN.out H1.out.ext)
  clear hw ho hf p0 p1 p2
  go_wp2_with fail
  clear s0 s1 s2
  go_loopg [18] n (fun g i wr => ∃ v : Nat, v ≤ n ∧ g = n - v ∧ i = .int .i64 v ∧ Hid (HNet W0 wr (dbNet N v 0 0 0) w1.heap.size (.slice a0 P c0) (.slice a1 0 c1) (.slice a2 P c2)))
  case atStart => exact ⟨0, Nat.zero_le _, rfl, rfl, H1.out⟩
  case round =>
    obtain ⟨v, hv, rfl, rfl, Hr⟩ := hrel
    by_cases hlt : v < n
    · obtain ⟨z, hz, hrow⟩ := Hc.out v hlt
      obtain ⟨a4, b4, o4, d4, rfl, ha4, hn4, hm4, hc4⟩ := hrow
      unfold maxLen at hm4
      have Hc4 := Lib.hid hc4
      have Ha4 := Lib.hid ha4
      obtain rfl := Ha.out (by omega)
      have E1 := Lib.hid (EW.out.trans' Hr.out.ext)
      have hz' := E1.out.cell' hz
      have hd6 := H6.out v (by have := HNL.out; omega)
      clear hc4 ha4 hz
      go_wp2
      have hw0 : ∃ wo : World, wo = wr := ⟨_, rfl⟩
      obtain ⟨wo, rfl⟩ := hw0
      clear hz'
      go_loopg [25] (gr N.ends v).length (fun g i wx => ∃ i' : Nat, i' ≤ (gr N.ends v).length ∧ g = (gr N.ends v).length - i' ∧ i = .int .i64 i' ∧ Hid (HNet W0 wx (dbNet N v i' i' 0) w1.heap.size (.slice a0 P c0) (.slice a1 0 c1) (.slice a2 P c2)))
      case atStart => exact ⟨0, Nat.zero_le _, rfl, rfl, Hr.out⟩
      case round =>
        obtain ⟨i, hi, rfl, rfl, Hs⟩ := hrel
        by_cases hit : i < (gr N.ends v).length
        · obtain ⟨r1, r2, _, _⟩ := Hc4.out i hit
          obtain rfl := Ha4.out (by omega)
          obtain ⟨⟨hx0, hx40⟩, hy0, hy6⟩ := UIN.out v (by have := HNL.out; omega) i hit
          obtain ⟨x, hxx⟩ := Int.eq_ofNat_of_zero_le hx0
          obtain ⟨y, hyy⟩ : ∃ y, y = gp (gr N.ends v) i := ⟨_, rfl⟩
          have r1' := (EW.out.trans' Hs.out.ext).cell' r1
          have r2' := (EW.out.trans' Hs.out.ext).cell' r2
          rw [hxx] at r1' hx40
          rw [← hyy] at r2' hy0 hy6
          obtain ⟨f1, f2⟩ := dbNet_first (N := N) (v := v) (i := i) (by have := HNL.out; omega) hit
          obtain ⟨g1, g2⟩ := dbNet_second (N := N) (v := v) (i := i) (by have := HNL.out; omega) hit
          rw [hxx, ← hyy, ← HNL.out] at f2
          rw [hxx, ← hyy, ← HNL.out] at g2
          rw [← HNL.out] at g1
          have hl0 : (gr (dbNet N v i i 0).ends v).length ≤ 6 := by rw [f1, List.length_take, length_shiftRow]; omega
          obtain ⟨kk, hkk⟩ : ∃ kk : Nat, kk = n + v := ⟨_, rfl⟩
          have hl1 : (gr (dbNet N v (i + 1) i 0).ends kk).length ≤ 6 := by rw [hkk, g1, List.length_take]; omega
          rw [← hkk] at g2
          have hkP : kk < P := by have := HPL.out; omega
          have hlenA := dbNet_len N v i i 0
          have hlenB := dbNet_len N v (i + 1) i 0
          rw [← HNL.out, ← HPL.out] at hlenA hlenB
          obtain ⟨M0, hM0⟩ : ∃ M0, M0 = dbNet N v i i 0 := ⟨_, rfl⟩
          obtain ⟨M1, hM1⟩ : ∃ M1, M1 = dbNet N v (i + 1) i 0 := ⟨_, rfl⟩
          obtain ⟨M2, hM2⟩ : ∃ M2, M2 = dbNet N v (i + 1) (i + 1) 0 := ⟨_, rfl⟩
          have HS0 := Lib.hid (show HNet W0 wr M0 w1.heap.size (.slice a0 P c0) (.slice a1 0 c1) (.slice a2 P c2) by rw [hM0]; exact Hs.out)
          rw [← hM0] at f2 hl0 hlenA
          rw [← hM1] at f2 g2 hl1 hlenB
          rw [← hM2] at g2
          have F2 := Lib.hid f2
          have G2 := Lib.hid g2
          have HM2 := Lib.hid hM2
          have hwx : IntKind.i64.wrap ((x : Int) + (n : Int)) = (x : Int) + (n : Int) := IntWalk.i64_in _ (by omega)
          have hwv : IntKind.i64.wrap ((v : Int) + (n : Int)) = (kk : Int) := by rw [show (v : Int) + (n : Int) = (kk : Int) by omega]; exact IntWalk.i64_in _ (by omega)
          have hXA := (Ext.rfl' wr).alloc' (.cells #[.int .i64 (x : Int), .int .i64 y] 66)
          have E0' : (wr.alloc (.cells #[.int .i64 (x : Int), .int .i64 y] 66)).cell? ⟨wr.heap.size, 0, none⟩ = some (.int .i64 (x : Int)) := by rw [World.cell?_alloc_at _ _ _ _ rfl]; rfl
          have E1' : (wr.alloc (.cells #[.int .i64 (x : Int), .int .i64 y] 66)).cell? ⟨wr.heap.size, 1, none⟩ = some (.int .i64 y) := by rw [World.cell?_alloc_at _ _ _ _ rfl]; rfl
          have EL' : wr.heap.size < (wr.alloc (.cells #[.int .i64 (x : Int), .int .i64 y] 66)).heap.size := by simp
          have AV := Lib.hid (HS0.out.av hXA (z := wr.heap.size) (Nat.le_refl _))
          have hvP : v < P := by have := HPL.out; omega
          have HYY := Lib.hid hyy
          have HKK := Lib.hid hkk
          clear hkk hyy Hs f1 f2 g1 g2 hM0 hM1 hM2 r1 r2 hXA hx0 hxx
          go_upto_region 9 with fail
          generalize wr.alloc (.cells #[.int .i64 (x : Int), .int .i64 y] 66) = wr2 at *
          have HN := Lib.hid AV.out.h
          have E0 := Lib.hid E0'
          have E1 := Lib.hid E1'
          have EL := Lib.hid EL'
          have HP := Lib.hid (show inI64 ((x : Int) + (n : Int)) ∧ inI64 y from ⟨by unfold inI64; omega, by unfold inI64; omega⟩)
          have HP2 := Lib.hid (show inI64 (x : Int) ∧ inI64 y from ⟨by unfold inI64; omega, by unfold inI64; omega⟩)
          obtain ⟨bs, b, c, ax, cx, t, hv2, hat, hm0, hmz, hge⟩ := AV.out.at (k := v) (by omega)
          obtain ⟨rfl, rfl⟩ : a0 = some ⟨b, 0, none⟩ ∧ c0 = c := by simp at hv2; exact ⟨hv2.1, hv2.2.2⟩
          have FA := Lib.hid hat
          have hm := Lib.hid hm0
          have EB := Lib.hid hmz
          have HGE := Lib.hid hge
          clear hat hm0 hmz hge hv2 E0' E1' EL' r1' r2'
          have mkS : ∀ w' : World, Ext wr2 w' → w'.cell? ⟨w1.heap.size, 0, none⟩ = some (.slice (some ⟨b, 0, none⟩) P c0) ∧ w'.cell? ⟨b, v, none⟩ = some (.slice ax (gr (M0).ends v).length cx) ∧ w'.cell? ⟨wr.heap.size, 0, none⟩ = some (.int .i64 (x : Int)) ∧ w'.cell? ⟨wr.heap.size, 1, none⟩ = some (.int .i64 y) := fun w' h => ⟨h.cell' (row3_facts HN.out.box).1, h.cell' FA.out.cell, h.cell' E0.out, h.cell' E1.out⟩
          refine wp_region_gate (n := 18) (S := fun w' => w'.cell? ⟨w1.heap.size, 0, none⟩ = some (.slice (some ⟨b, 0, none⟩) P c0) ∧ w'.cell? ⟨b, v, none⟩ = some (.slice ax (gr (M0).ends v).length cx) ∧ w'.cell? ⟨wr.heap.size, 0, none⟩ = some (.int .i64 (x : Int)) ∧ w'.cell? ⟨wr.heap.size, 1, none⟩ = some (.int .i64 y)) (by kernel_rfl) (mkS _ (Ext.rfl' wr2).drew') (fun hHeld => ?_)
          iterate 15 (
            (first
              | refine wpAnyG_take (i := 0) (v := ?_) rfl (by decide +kernel) (by kernel_rfl) (by decide) (by kernel_rfl) (by kernel_rfl) (fun _ _ _ h => h) (Or.inl ⟨by rfl, ?_⟩) hHeld ?_
              | refine wpAnyG_take (i := 1) (v := ?_) rfl (by decide +kernel) (by kernel_rfl) (by decide) (by kernel_rfl) (by kernel_rfl) (fun _ _ _ h => h) (Or.inl ⟨by rfl, ?_⟩) hHeld ?_
              | refine wpAnyG_take (i := 2) (v := ?_) rfl (by decide +kernel) (by kernel_rfl) (by decide) (by kernel_rfl) (by kernel_rfl) (fun _ _ _ h => h) (Or.inl ⟨by rfl, ?_⟩) hHeld ?_
              | refine wpAnyG_take (i := 3) (v := ?_) rfl (by decide +kernel) (by kernel_rfl) (by decide) (by kernel_rfl) (by kernel_rfl) (fun _ _ _ h => h) (Or.inl ⟨by rfl, ?_⟩) hHeld ?_
              | refine wpAnyG_take (i := 4) (v := ?_) rfl (by decide +kernel) (by kernel_rfl) (by decide) (by kernel_rfl) (by kernel_rfl) (fun _ _ _ h => h) (Or.inl ⟨by rfl, ?_⟩) hHeld ?_
              | refine wpAnyG_take (i := 5) (v := ?_) rfl (by decide +kernel) (by kernel_rfl) (by decide) (by kernel_rfl) (by kernel_rfl) (fun _ _ _ h => h) (Or.inl ⟨by rfl, ?_⟩) hHeld ?_
              | refine wpAnyG_take (i := 6) (v := ?_) rfl (by decide +kernel) (by kernel_rfl) (by decide) (by kernel_rfl) (by kernel_rfl) (fun _ _ _ h => h) (Or.inl ⟨by rfl, ?_⟩) hHeld ?_
              | refine wpAnyG_take (i := 7) (v := ?_) rfl (by decide +kernel) (by kernel_rfl) (by decide) (by kernel_rfl) (by kernel_rfl) (fun _ _ _ h => h) (Or.inl ⟨by rfl, ?_⟩) hHeld ?_
              | refine wpAnyG_take (i := 8) (v := ?_) rfl (by decide +kernel) (by kernel_rfl) (by decide) (by kernel_rfl) (by kernel_rfl) (fun _ _ _ h => h) (Or.inl ⟨by rfl, ?_⟩) hHeld ?_
              | refine wpAnyG_take (i := 9) (v := ?_) rfl (by decide +kernel) (by kernel_rfl) (by decide) (by kernel_rfl) (by kernel_rfl) (fun _ _ _ h => h) (Or.inl ⟨by rfl, ?_⟩) hHeld ?_
              | refine wpAnyG_take (i := 10) (v := ?_) rfl (by decide +kernel) (by kernel_rfl) (by decide) (by kernel_rfl) (by kernel_rfl) (fun _ _ _ h => h) (Or.inl ⟨by rfl, ?_⟩) hHeld ?_
              | refine wpAnyG_take (i := 11) (v := ?_) rfl (by decide +kernel) (by kernel_rfl) (by decide) (by kernel_rfl) (by kernel_rfl) (fun _ _ _ h => h) (Or.inl ⟨by rfl, ?_⟩) hHeld ?_
              | refine wpAnyG_take (i := 12) (v := ?_) rfl (by decide +kernel) (by kernel_rfl) (by decide) (by kernel_rfl) (by kernel_rfl) (fun _ _ _ h => h) (Or.inl ⟨by rfl, ?_⟩) hHeld ?_
              | refine wpAnyG_take (i := 13) (v := ?_) rfl (by decide +kernel) (by kernel_rfl) (by decide) (by kernel_rfl) (by kernel_rfl) (fun _ _ _ h => h) (Or.inl ⟨by rfl, ?_⟩) hHeld ?_
              | refine wpAnyG_take (i := 14) (v := ?_) rfl (by decide +kernel) (by kernel_rfl) (by decide) (by kernel_rfl) (by kernel_rfl) (fun _ _ _ h => h) (Or.inl ⟨by rfl, ?_⟩) hHeld ?_
            )
            rotate_left 1
            · (intro w' hSw; (try dsimp only at hSw); go_simp; (try simp only [hwx])) <;> with_reducible rfl
            simp only [Act.put, List.setIfInBounds_toArray])
          refine wpAnyG_one (i := 15) rfl (by kernel_rfl) rfl (fun K hK => ?_)
          go_simp
          refine hK.out _ _ (fun _ => mkS _ (by first | exact (Ext.rfl' wr2).drew'.alloc' _ | exact ((Ext.rfl' wr2).alloc' _).drew')) (fun _ => ?_)
          clear hK K
          refine wpAnyG_one (i := 16) rfl (by kernel_rfl) rfl (fun K hK => ?_)
          refine wp_app2 (.tmp 36) (.tmp 44) 67 rfl 0 66 i1 (.agg #[.int .i64 0, .int .i64 0]) 2 16 Try.underlying67 I1.out.1 I1.out.2.1 I1.out.2.2.1 I1.out.2.2.2 rfl (by decide) (.slice ax (gr (M0).ends v).length cx) (gr (M0).ends v).length (endCells (gr (M0).ends v)) rfl ((FA.out.row.ext (by first | exact (Ext.rfl' wr2).drew'.alloc' _ | exact ((Ext.rfl' wr2).alloc' _).drew')).owns (fun _ _ => Nat.zero_le _)) (some ⟨wr2.heap.size, 0, none⟩) 1 1 [.int .i64 ((x : Int) + (n : Int)), .int .i64 (y)] rfl (by first | exact src_two wr2.drew _ _ 66 rfl rfl | exact src_two wr2 _ _ 66 rfl rfl | exact src_drew (src_two wr2 _ _ 66 rfl rfl)) (by unfold maxLen; omega) (by omega) (Nat.zero_le _) ?_
          intro v' w1s hg
          have PUs := Lib.hid (FA.out.put (p := ((x : Int) + (n : Int), y)) (by first | exact (Ext.rfl' wr2).drew'.alloc' _ | exact ((Ext.rfl' wr2).alloc' _).drew') HP.out hg)
          obtain ⟨ays, cys, rfl⟩ := PUs.out.form
          have MZ := Lib.hid (PUs.out.row hm.out HN.out.box)
          have cz := (row3_facts MZ.out.1).1
          have f1 := PUs.out.cell
          have f2 := PUs.out.frozen
          have g0 : w1s.cell? ⟨wr.heap.size, 0, none⟩ = some (.int .i64 (x : Int)) := by rw [World.cell?_of_block (w := wr2) (PUs.out.keep _ EL.out EB.out).1]; exact E0.out
          have g1 : w1s.cell? ⟨wr.heap.size, 1, none⟩ = some (.int .i64 y) := by rw [World.cell?_of_block (w := wr2) (PUs.out.keep _ EL.out EB.out).1]; exact E1.out
          clear hg
          refine hK.out _ _ (fun _ => ⟨cz, f1, g0, g1⟩) (fun hHeld' => ?_)
          have hHeld := hHeld' (by decide)
          clear hK K hHeld'
          (
            (first
              | refine wpAnyG_take (i := 17) (v := ?_) rfl (by decide +kernel) (by kernel_rfl) (by decide) (by kernel_rfl) (by kernel_rfl) (fun _ _ _ h => h) (Or.inl ⟨by rfl, ?_⟩) hHeld ?_
            )
            rotate_left 1
            · (intro w' hSw; (try dsimp only at hSw); go_simp) <;> with_reducible rfl
            simp only [Act.put, List.setIfInBounds_toArray])
          refine wpAnyG_one (i := 18) rfl (by kernel_rfl) rfl (fun K hK => ?_)
          go_simp
          refine hK.out _ _ (fun h => absurd rfl h) (fun _ => ?_)
          clear hK K
          refine wpAnyG_done (by kernel_rfl) ?_ _
          clear hHeld cz f1 f2 mkS MZ g0 g1
          have AV1 := Lib.hid (show HAv W0 (w1s.setCell ⟨b, v, none⟩ (.slice ays ((gr M0.ends v).length + 1) cys)) M1 w1.heap.size wr.heap.size (.slice (some ⟨b, 0, none⟩) P c0) (.slice a1 0 c1) (.slice a2 P c2) by rw [← F2.out]; exact AV.out.put hm.out EL.out HGE.out PUs.out)
          have G0 := Lib.hid (show (w1s.setCell ⟨b, v, none⟩ (.slice ays ((gr M0.ends v).length + 1) cys)).cell? ⟨wr.heap.size, 0, none⟩ = some (.int .i64 (x : Int)) by rw [World.cell?_of_block (w := wr2) (PUs.out.keep _ EL.out EB.out).2]; exact E0.out)
          have G1 := Lib.hid (show (w1s.setCell ⟨b, v, none⟩ (.slice ays ((gr M0.ends v).length + 1) cys)).cell? ⟨wr.heap.size, 1, none⟩ = some (.int .i64 y) by rw [World.cell?_of_block (w := wr2) (PUs.out.keep _ EL.out EB.out).2]; exact E1.out)
          have GL := Lib.hid (show wr.heap.size < (w1s.setCell ⟨b, v, none⟩ (.slice ays ((gr M0.ends v).length + 1) cys)).heap.size from World.block_lt_of_cell? _ _ G0.out)
          clear PUs AV E0 E1 EL EB HN HGE hm FA F2 HS0
          generalize w1s.setCell ⟨b, v, none⟩ (.slice ays ((gr M0.ends v).length + 1) cys) = wr3 at *
          have HM1 := Lib.hid AV1.out.h
          obtain ⟨bs2, b', c', bx, dx, t', hv3, hat, hm0, hmz, hge⟩ := AV1.out.at (k := kk) (by omega)
          obtain ⟨rfl, rfl⟩ : b = b' ∧ c0 = c' := by simp at hv3; exact ⟨hv3.1, hv3.2.2⟩
          have FB := Lib.hid hat
          have hm2 := Lib.hid hm0
          have GB := Lib.hid hmz
          have HGE := Lib.hid hge
          clear hat hm0 hmz hge hv3 hwx
          go_upto_region 10 with fail
          have mkS : ∀ w' : World, Ext wr3 w' → w'.cell? ⟨w1.heap.size, 0, none⟩ = some (.slice (some ⟨b, 0, none⟩) P c0) ∧ w'.cell? ⟨b, kk, none⟩ = some (.slice bx (gr (M1).ends kk).length dx) ∧ w'.cell? ⟨wr.heap.size, 0, none⟩ = some (.int .i64 (x : Int)) ∧ w'.cell? ⟨wr.heap.size, 1, none⟩ = some (.int .i64 y) := fun w' h => ⟨h.cell' (row3_facts HM1.out.box).1, h.cell' FB.out.cell, h.cell' G0.out, h.cell' G1.out⟩
          refine wp_region_gate (n := 16) (S := fun w' => w'.cell? ⟨w1.heap.size, 0, none⟩ = some (.slice (some ⟨b, 0, none⟩) P c0) ∧ w'.cell? ⟨b, kk, none⟩ = some (.slice bx (gr (M1).ends kk).length dx) ∧ w'.cell? ⟨wr.heap.size, 0, none⟩ = some (.int .i64 (x : Int)) ∧ w'.cell? ⟨wr.heap.size, 1, none⟩ = some (.int .i64 y)) (by kernel_rfl) (mkS _ (Ext.rfl' wr3).drew') (fun hHeld => ?_)
          iterate 13 (
            (first
              | refine wpAnyG_take (i := 0) (v := ?_) rfl (by decide +kernel) (by kernel_rfl) (by decide) (by kernel_rfl) (by kernel_rfl) (fun _ _ _ h => h) (Or.inl ⟨by rfl, ?_⟩) hHeld ?_
              | refine wpAnyG_take (i := 1) (v := ?_) rfl (by decide +kernel) (by kernel_rfl) (by decide) (by kernel_rfl) (by kernel_rfl) (fun _ _ _ h => h) (Or.inl ⟨by rfl, ?_⟩) hHeld ?_
              | refine wpAnyG_take (i := 2) (v := ?_) rfl (by decide +kernel) (by kernel_rfl) (by decide) (by kernel_rfl) (by kernel_rfl) (fun _ _ _ h => h) (Or.inl ⟨by rfl, ?_⟩) hHeld ?_
              | refine wpAnyG_take (i := 3) (v := ?_) rfl (by decide +kernel) (by kernel_rfl) (by decide) (by kernel_rfl) (by kernel_rfl) (fun _ _ _ h => h) (Or.inl ⟨by rfl, ?_⟩) hHeld ?_
              | refine wpAnyG_take (i := 4) (v := ?_) rfl (by decide +kernel) (by kernel_rfl) (by decide) (by kernel_rfl) (by kernel_rfl) (fun _ _ _ h => h) (Or.inl ⟨by rfl, ?_⟩) hHeld ?_
              | refine wpAnyG_take (i := 5) (v := ?_) rfl (by decide +kernel) (by kernel_rfl) (by decide) (by kernel_rfl) (by kernel_rfl) (fun _ _ _ h => h) (Or.inl ⟨by rfl, ?_⟩) hHeld ?_
              | refine wpAnyG_take (i := 6) (v := ?_) rfl (by decide +kernel) (by kernel_rfl) (by decide) (by kernel_rfl) (by kernel_rfl) (fun _ _ _ h => h) (Or.inl ⟨by rfl, ?_⟩) hHeld ?_
              | refine wpAnyG_take (i := 7) (v := ?_) rfl (by decide +kernel) (by kernel_rfl) (by decide) (by kernel_rfl) (by kernel_rfl) (fun _ _ _ h => h) (Or.inl ⟨by rfl, ?_⟩) hHeld ?_
              | refine wpAnyG_take (i := 8) (v := ?_) rfl (by decide +kernel) (by kernel_rfl) (by decide) (by kernel_rfl) (by kernel_rfl) (fun _ _ _ h => h) (Or.inl ⟨by rfl, ?_⟩) hHeld ?_
              | refine wpAnyG_take (i := 9) (v := ?_) rfl (by decide +kernel) (by kernel_rfl) (by decide) (by kernel_rfl) (by kernel_rfl) (fun _ _ _ h => h) (Or.inl ⟨by rfl, ?_⟩) hHeld ?_
              | refine wpAnyG_take (i := 10) (v := ?_) rfl (by decide +kernel) (by kernel_rfl) (by decide) (by kernel_rfl) (by kernel_rfl) (fun _ _ _ h => h) (Or.inl ⟨by rfl, ?_⟩) hHeld ?_
              | refine wpAnyG_take (i := 11) (v := ?_) rfl (by decide +kernel) (by kernel_rfl) (by decide) (by kernel_rfl) (by kernel_rfl) (fun _ _ _ h => h) (Or.inl ⟨by rfl, ?_⟩) hHeld ?_
              | refine wpAnyG_take (i := 12) (v := ?_) rfl (by decide +kernel) (by kernel_rfl) (by decide) (by kernel_rfl) (by kernel_rfl) (fun _ _ _ h => h) (Or.inl ⟨by rfl, ?_⟩) hHeld ?_
            )
            rotate_left 1
            · (intro w' hSw; (try dsimp only at hSw); go_simp; (try simp only [hwv])) <;> with_reducible rfl
            simp only [Act.put, List.setIfInBounds_toArray])
          refine wpAnyG_one (i := 13) rfl (by kernel_rfl) rfl (fun K hK => ?_)
          go_simp
          refine hK.out _ _ (fun _ => mkS _ (by first | exact (Ext.rfl' wr3).drew'.alloc' _ | exact ((Ext.rfl' wr3).alloc' _).drew')) (fun _ => ?_)
          clear hK K
          refine wpAnyG_one (i := 14) rfl (by kernel_rfl) rfl (fun K hK => ?_)
          refine wp_app2 (.tmp 58) (.tmp 60) 67 rfl 0 66 i1 (.agg #[.int .i64 0, .int .i64 0]) 2 16 Try.underlying67 I1.out.1 I1.out.2.1 I1.out.2.2.1 I1.out.2.2.2 rfl (by decide) (.slice bx (gr (M1).ends kk).length dx) (gr (M1).ends kk).length (endCells (gr (M1).ends kk)) rfl ((FB.out.row.ext (by first | exact (Ext.rfl' wr3).drew'.alloc' _ | exact ((Ext.rfl' wr3).alloc' _).drew')).owns (fun _ _ => Nat.zero_le _)) (some ⟨wr3.heap.size, 0, none⟩) 1 1 [.int .i64 ((x : Int)), .int .i64 (y)] rfl (by first | exact src_two wr3.drew _ _ 66 rfl rfl | exact src_two wr3 _ _ 66 rfl rfl | exact src_drew (src_two wr3 _ _ 66 rfl rfl)) (by unfold maxLen; omega) (by omega) (Nat.zero_le _) ?_
          intro v' w1t hg
          have PUt := Lib.hid (FB.out.put (p := ((x : Int), y)) (by first | exact (Ext.rfl' wr3).drew'.alloc' _ | exact ((Ext.rfl' wr3).alloc' _).drew') HP2.out hg)
          obtain ⟨ayt, cyt, rfl⟩ := PUt.out.form
          have MZ := Lib.hid (PUt.out.row hm2.out HM1.out.box)
          have cz := (row3_facts MZ.out.1).1
          have f1 := PUt.out.cell
          have f2 := PUt.out.frozen
          have g0 : w1t.cell? ⟨wr.heap.size, 0, none⟩ = some (.int .i64 (x : Int)) := by rw [World.cell?_of_block (w := wr3) (PUt.out.keep _ GL.out GB.out).1]; exact G0.out
          have g1 : w1t.cell? ⟨wr.heap.size, 1, none⟩ = some (.int .i64 y) := by rw [World.cell?_of_block (w := wr3) (PUt.out.keep _ GL.out GB.out).1]; exact G1.out
          clear hg
          refine hK.out _ _ (fun _ => ⟨cz, f1, g0, g1⟩) (fun hHeld' => ?_)
          have hHeld := hHeld' (by decide)
          clear hK K hHeld'
          (
            (first
              | refine wpAnyG_take (i := 15) (v := ?_) rfl (by decide +kernel) (by kernel_rfl) (by decide) (by kernel_rfl) (by kernel_rfl) (fun _ _ _ h => h) (Or.inl ⟨by rfl, ?_⟩) hHeld ?_
            )
            rotate_left 1
            · (intro w' hSw; (try dsimp only at hSw); go_simp) <;> with_reducible rfl
            simp only [Act.put, List.setIfInBounds_toArray])
          refine wpAnyG_one (i := 16) rfl (by kernel_rfl) rfl (fun K hK => ?_)
          go_simp
          refine hK.out _ _ (fun h => absurd rfl h) (fun _ => ?_)
          clear hK K
          refine wpAnyG_done (by kernel_rfl) ?_ _
          clear hHeld cz f1 f2 mkS MZ g0 g1
          have H3 := Lib.hid (show HNet W0 (w1t.setCell ⟨b, kk, none⟩ (.slice ayt ((gr M1.ends kk).length + 1) cyt)) M2 w1.heap.size (.slice (some ⟨b, 0, none⟩) P c0) (.slice a1 0 c1) (.slice a2 P c2) by rw [← G2.out]; exact (AV1.out.put hm2.out GL.out HGE.out PUt.out).h)
          clear PUt AV1 G0 G1 GL GB HM1 HGE hm2 FB
          go_wp2
          go_roundg ((gr N.ends v).length - (i + 1))
          case measure => omega
          case rel => exact ⟨i + 1, by omega, rfl, by go_num, by rw [← HM2.out]; exact H3.out⟩
        · obtain rfl : i = (gr N.ends v).length := by omega
          obtain ⟨_, hip, rfl, hI⟩ := Hpc.out v (by omega)
          have hvP : v < P := by have := HPL.out; omega
          obtain ⟨kk, hkk⟩ : ∃ kk : Nat, kk = n + v := ⟨_, rfl⟩
          have hkP : kk < P := by have := HPL.out; omega
          have hwv : IntKind.i64.wrap ((v : Int) + (n : Int)) = (kk : Int) := by rw [show (v : Int) + (n : Int) = (kk : Int) by omega]; exact IntWalk.i64_in _ (by omega)
          have HKK := Lib.hid hkk
          clear hkk
          obtain rfl := Hpa.out (by omega)
          obtain ⟨bb, z1, rfl, q4, q5, hm2⟩ := part_put (k := v) (y := gi N.inputs v) Hs.out (by rw [inpAt_len, ← HNL.out, ← HPL.out]; exact hvP) hI (inp_first (by have := HNL.out; omega))
          have M2 := Lib.hid (hm2.mono (Ext.rfl' _).drew')
          obtain ⟨p0, p1, p2, -, -, -⟩ := row3_facts Hs.out.box
          obtain ⟨s0, s1, s2, -, -, -⟩ := row3_facts (row_ext RN.out Hs.out.ext)
          have q3 := (EW.out.trans' Hs.out.ext).cell' hip
          have HIP := Lib.hid hip
          have HII := Lib.hid hI
          clear hm2 hip hI
          go_upto_region 12 with fail
          go_region
          clear p0 p1 p2 q3 q4 q5 s0 s1 s2
          revert M2
          generalize (wr.setCell ⟨bb, v, none⟩ (.int .i64 (gi N.inputs v))).drew = W2
          intro M2
          obtain ⟨bb', z2, hbb, q4, q5, hm2⟩ := part_put (inp' := inpAt N (v + 1) 0) (k := kk) (y := gi N.inputs v) M2.out (by rw [inpAt_len, ← HNL.out, ← HPL.out]; exact hkP) HII.out (by rw [HKK.out, HNL.out]; exact inp_second (by have := HNL.out; omega))
          obtain rfl : bb = bb' := by simpa using hbb
          have M3 := Lib.hid (show HNet W0 (W2.setCell ⟨bb, kk, none⟩ (.int .i64 (gi N.inputs v))).drew (dbNet N (v + 1) 0 0 0) w1.heap.size (.slice a0 P c0) (.slice a1 0 c1) (.slice (some ⟨bb, 0, none⟩) P c2) by
            have := hm2.mono (Ext.rfl' _).drew'
            rw [dbNet_next (fun u hu => H6.out u (by have := HNL.out; omega)) (by have := HNL.out; omega)] at this
            exact this)
          obtain ⟨p0, p1, p2, -, -, -⟩ := row3_facts M2.out.box
          obtain ⟨s0, s1, s2, -, -, -⟩ := row3_facts (row_ext RN.out M2.out.ext)
          have q3 := (EW.out.trans' M2.out.ext).cell' HIP.out
          clear hm2 hbb
          go_upto_region 13 with fail
          go_region
          clear p0 p1 p2 q3 q4 q5 s0 s1 s2
          revert M3
          generalize (W2.setCell ⟨bb, kk, none⟩ (.int .i64 (gi N.inputs v))).drew = W3
          intro M3
          go_wp2
          go_roundg (n - (v + 1))
          case measure => omega
          case rel => exact ⟨v + 1, by omega, rfl, by go_num, M3.out⟩
    · obtain rfl : v = n := by omega
      have A := ALL.out
      rw [← HNL.out] at A
      have A := Lib.hid A
      obtain ⟨bs, ho, hnd, hge⟩ := Hr.out.net
      have O4 := Lib.hid ho
      have E4 := Lib.hid (EW.out.trans' Hr.out.ext)
      have S4 := Lib.hid (show ∀ b ∈ bs, w.heap.size ≤ b ∧ b ≠ w.heap.size + 1 from fun b hb => by have := (hge b hb).1; have := ZW.out; omega)
      have N4 := Lib.hid hnd
      obtain ⟨r0, r1, r2, -, -, -⟩ := row3_facts Hr.out.box
      obtain ⟨s0, s1, s2, t0, t1, t2⟩ := row3_facts (row_ext RQ.out Hr.out.ext)
      clear ho hge hnd
      go_wp2
      have hc := close_at E4.out (show w.heap.size ≤ w.heap.size + 1 by omega) O4.out N4.out S4.out
      refine bodyPost_ret (v := .agg #[.slice a0 P c0, .slice a1 0 c1, .slice a2 P c2]) (by simp [results, Try.results71, go_sem, s0, s1, s2]) rfl ⟨_, bs, rfl, hc.1, by rw [← A.out]; exact hc.2.1, hc.2.2⟩
end Go.Proofs.Ytkeiaahlifdbiaa
