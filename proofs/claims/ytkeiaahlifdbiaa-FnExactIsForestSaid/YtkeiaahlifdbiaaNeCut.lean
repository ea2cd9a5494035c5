/- The contract of neCut: the network with the ports that are kept. -/
import Derived.Test.YtkeiaahlifdbiaaCut1
import Derived.Test.YtkeiaahlifdbiaaKd
import Derived.Deep.RegionHeld3
import Derived.Deep.RegionLaw
import Derived.Deep.CutRange
namespace Go.Proofs.Ytkeiaahlifdbiaa
open Go.RowKit

theorem Try.infoInts : (Try.prog.info? 23).map (fun i => (i.zero, i.size, i.bytes)) = some (some (.slice none 0 0), 1, 24) := by kernel_rfl

theorem length_cutNet (N : Net) (st : Nat → Nat → Bool) : (cutNet N st).ends.length = N.ends.length := by simp [cutNet]
theorem gr_cutNet {N : Net} {st : Nat → Nat → Bool} {k : Nat} (h : k < N.ends.length) : gr (cutNet N st).ends k = cutRow N st k := by simp [gr, cutNet, List.getD, h]
theorem cutRow_snoc {N : Net} {st : Nat → Nat → Bool} {k j en ep : Nat} (hj : j < (gr N.ends k).length) (hs : st k j = true) (hen : gn (gr N.ends k) j = en) (hep : gp (gr N.ends k) j = ep) :
    endCells ((cutRow N st k).take (cnt (st k) j)) ++ [.int .i64 en, .int .i64 (cnt (st en) ep)] = endCells ((cutRow N st k).take (cnt (st k) (j + 1))) ∧ cnt (st k) (j + 1) = cnt (st k) j + 1 := by
  obtain ⟨h1, h2⟩ := (cnt_plan (st k) (gr N.ends k).length).goes j hj hs
  have h := ends_snocS (cutRow N st k) (cnt (st k) j) (by show cnt (st k) j < (planRow _ _ _ _).length; rw [length_planRow]; exact h1)
  have e1 : gn (cutRow N st k) (cnt (st k) j) = en := by unfold cutRow; rw [gn_planRow h1, h2, hen]
  have e2 : gp (cutRow N st k) (cnt (st k) j) = (cnt (st en) ep : Nat) := by unfold cutRow; rw [gp_planRow h1, h2, hen, hep]; rfl
  rw [e1, e2] at h
  have e3 : cnt (st k) (j + 1) = cnt (st k) j + 1 := by rw [cnt_succ, if_pos hs]
  exact ⟨by rw [e3]; exact h, e3⟩
theorem cut_range {N : Net} {st : Nat → Nat → Bool} {k : Nat} (hg : Good N) (hk : k < N.ends.length) : ∀ i, i < (cutRow N st k).length → inI64 (gn (cutRow N st k) i) ∧ inI64 (gp (cutRow N st k) i) :=
  plan_range (cnt_plan (st k) _) fun i hi _ => by
    obtain ⟨⟨g1, g2, g3, g4⟩, _⟩ := (hg.2.1 k hk).2 i hi
    have h40 := hg.1.2
    have h6 := (hg.2.1 (gn (gr N.ends k) i).toNat (by omega)).1
    have := cnt_le (st (gn (gr N.ends k) i).toNat) (gp (gr N.ends k) i).toNat
    unfold inI64
    constructor <;> omega

set_option maxHeartbeats 3200000 in
set_option maxRecDepth 100000 in
theorem neCut_any {w : World} {v u : Value} {N : Net} {st : Nat → Nat → Bool} (h : NetAt w v N) (hk : BoolSS w u N st) (hg : Good N) :
    Calls Try.prog 159 #[v, u] w fun e w' => ∃ v' bs, e = .returned v' ∧ Ext w w' ∧ OwnNet w' v' (cutNet N st) bs ∧ Fresh w bs := by
  have GG := Lib.hid hg
  obtain ⟨-, -, s3, s4⟩ := good_small hg
  obtain ⟨v0, v1, v2, rfl, hE, hI, hP⟩ := h
  have HI := Lib.hid hI
  have HP := Lib.hid hP
  clear hI hP
  obtain ⟨ea, eb, eq, ec, rfl, hea, hel, hem, hec⟩ := hE
  obtain ⟨ka, kb, kq, kc, rfl, hka, hkl, hkm, hkc⟩ := hk
  unfold maxLen at hem hkm
  have h1 : 1 ≤ N.ends.length := hg.1.1
  have h40 : N.ends.length ≤ 40 := hg.1.2
  obtain rfl := hea (by omega)
  obtain rfl := hka (by omega)
  have Hec := Lib.hid hec
  have Hkc := Lib.hid hkc
  clear hec hkc hea hka hg
  obtain ⟨i3, hi, hz0, hz1, hz2⟩ := info_parts Try.info3
  obtain ⟨i44, hj, hy0, hy1, hy2⟩ := info_parts Try.info44
  obtain ⟨i70, hl, hx0, hx1, hx2⟩ := info_parts Try.info70
  have I3 := Lib.hid (And.intro hi (And.intro hz0 (And.intro hz1 hz2)))
  have I44 := Lib.hid (And.intro hj (And.intro hy0 (And.intro hy1 hy2)))
  have I70 := Lib.hid (And.intro hl (And.intro hx0 (And.intro hx1 hx2)))
  clear hi hz0 hz1 hz2 hj hy0 hy1 hy2 hl hx0 hx1 hx2
  have HX := Lib.hid (show Ext w ((w.alloc (.cells #[.slice (some ⟨eb, eq, none⟩) N.ends.length ec, v1, v2] 29)).alloc (.cells #[.slice none 0 0, .slice none 0 0, .slice none 0 0] 29)) from boxed2_ext w (.slice (some ⟨eb, eq, none⟩) N.ends.length ec) v1 v2)
  have HR := Lib.hid (show World.rowIs ((w.alloc (.cells #[.slice (some ⟨eb, eq, none⟩) N.ends.length ec, v1, v2] 29)).alloc (.cells #[.slice none 0 0, .slice none 0 0, .slice none 0 0] 29)) _ _ _ _ from boxed2_row w (.slice (some ⟨eb, eq, none⟩) N.ends.length ec) v1 v2)
  have HQ := Lib.hid (show World.rowIs ((w.alloc (.cells #[.slice (some ⟨eb, eq, none⟩) N.ends.length ec, v1, v2] 29)).alloc (.cells #[.slice none 0 0, .slice none 0 0, .slice none 0 0] 29)) _ _ _ _ from boxed2_res w (.slice (some ⟨eb, eq, none⟩) N.ends.length ec) v1 v2)
  have hmk := run_make_row' (P := Try.prog) 36 23 (.slice none 0 0) 24 Try.underlying36 Try.infoInts rfl .i64 .i64 N.ends.length (by omega) (by omega)
  go_enter Try.func159, Try.ntmps159
  go_wp2_with fail
  clear hmk
  have hZ := HQ.out.lt
  have HW := Lib.hid (show ((w.alloc (.cells #[.slice (some ⟨eb, eq, none⟩) N.ends.length ec, v1, v2] 29)).alloc (.cells #[.slice none 0 0, .slice none 0 0, .slice none 0 0] 29)).heap.size = w.heap.size + 1 + 1 by simp)
  revert HX HR HQ hZ HW
  generalize (w.alloc (.cells #[.slice (some ⟨eb, eq, none⟩) N.ends.length ec, v1, v2] 29)).alloc (.cells #[.slice none 0 0, .slice none 0 0, .slice none 0 0] 29) = W0
  intro HX HR HQ hZ HW
  go_loopg [23] N.ends.length (fun g i wr => ∃ (k : Nat) (R : Nat → Value) (T : Nat → List Nat), k ≤ N.ends.length ∧ g = N.ends.length - k ∧ i = .int .i64 k ∧ Hid (ToAt W0 wr N st (w.heap.size + 1 + 1) k R T))
  case atStart => exact ⟨0, fun _ => .slice none 0 0, fun _ => [], Nat.zero_le _, rfl, rfl, ⟨(Ext.rfl' W0).alloc' _, by have := HW.out; omega, by rw [← HW.out]; exact (World.rowIs_made W0 _ _ _).congr fun i _ => by simp, fun u hu => absurd hu (by omega)⟩⟩
  case round =>
    obtain ⟨k, R, T, hk, rfl, rfl, Hr⟩ := hrel
    by_cases hlt : k < N.ends.length
    · obtain ⟨x, hx, hrow⟩ := Hec.out k hlt
      have EX := Lib.hid (HX.out.trans' Hr.out.ext)
      have hcell := EX.out.cell' hx
      obtain ⟨ax, bx, ox, cx, rfl, hax, hlx, hmx, -⟩ := hrow
      unfold maxLen at hmx
      have h6 := (GG.out.2.1 k hlt).1
      obtain ⟨kx, hkx, ay, yb, oy, cy, rfl, hay, hly, hmy, hcy⟩ := Hkc.out k hlt
      have Hkx := Lib.hid hkx
      have Hcy := Lib.hid hcy
      have Hay := Lib.hid hay
      clear hx hax hkx hay hcy
      go_wp2
      have hw0 : ∃ wo : World, wo = wr := ⟨_, rfl⟩
      obtain ⟨wo, rfl⟩ := hw0
      clear hcell
      go_loopg [8, 30] (gr N.ends k).length (fun g s i wx => ∃ (j : Nat) (x : Value), j ≤ (gr N.ends k).length ∧ g = (gr N.ends k).length - j ∧ i = .int .i64 j ∧ s = .int .i64 (cnt (st k) j) ∧ Hid (ToIn W0 wo wx N st (w.heap.size + 1 + 1) k j x R T))
      case atStart => exact ⟨0, _, Nat.zero_le _, rfl, rfl, rfl, Hr.out.start⟩
      case round =>
        obtain ⟨j, x, hj, rfl, rfl, rfl, Hs⟩ := hrel
        have hcj := cnt_le (st k) j
        by_cases hjt : j < (gr N.ends k).length
        · obtain ⟨ya, yc, rfl⟩ := owns_slice Hs.out.own
          have f1 : wr.cell? ⟨w.heap.size + 1 + 1, k, none⟩ = some (.slice ya j yc) := by rw [Hs.out.row.cell hlt, if_neg (Nat.lt_irrefl k), if_pos rfl]
          have hww := Lib.hid Hs.out.hww
          obtain rfl := Hay.out (by omega)
          go_wp2_with (at_builtin; refine wpList_app rfl (.tmp 38) (.tmp 40) 23 rfl wo.heap.size 3 i3 (.int .i64 0) 1 8 Try.underlying23 I3.out.1 I3.out.2.1 I3.out.2.2.1 I3.out.2.2.2 rfl (by decide) (.slice ya j yc) j (intCells ((cnts (st k) (gr N.ends k).length).take j)) rfl (owns_ext Hs.out.own ((Ext.rfl' wr).alloc' _)) (some ⟨wr.heap.size, 0, none⟩) 1 1 [.int .i64 (cnt (st k) j)] rfl (src_one wr _ 3 rfl) (by unfold maxLen; omega) (by omega) ?_ ?_)
          · have := hww.out; (try simp); omega
          intro v' w4 hg
          obtain ⟨hr4, he4, hS⟩ := Hs.out.step hjt hg
          obtain ⟨xa, xc, rfl⟩ := owns_slice hg.1
          have f3 : w4.cell? ⟨w.heap.size + 1 + 1, k, none⟩ = some (.slice ya j yc) := by rw [hr4.cell hlt, if_neg (Nat.lt_irrefl k), if_pos rfl]
          have f4 := hr4.frozen k
          have S := Lib.hid hS
          have k1 := (HX.out.trans' hS.ext).cell' Hkx.out
          have k2 := (HX.out.trans' hS.ext).cell' (Hcy.out j hjt)
          clear hg hr4 he4 hS f1
          by_cases hs : st k j = true
          · have HS : Hid (cnt (st k) (j + 1) = cnt (st k) j + 1) := by show cnt (st k) (j + 1) = _; rw [cnt_succ, if_pos hs]
            rw [hs] at k2
            go_wp2
            go_roundg ((gr N.ends k).length - (j + 1))
            case measure => omega
            case rel => exact ⟨j + 1, _, by omega, rfl, by go_num, by rw [HS.out]; go_num, S.out⟩
          · have hs : st k j = false := by simpa using hs
            have HS : Hid (cnt (st k) (j + 1) = cnt (st k) j) := by show cnt (st k) (j + 1) = _; rw [cnt_succ, hs]; rfl
            rw [hs] at k2
            go_wp2
            go_roundg ((gr N.ends k).length - (j + 1))
            case measure => omega
            case rel => exact ⟨j + 1, _, by omega, rfl, by go_num, by rw [HS.out], S.out⟩
        · obtain rfl : j = (gr N.ends k).length := by omega
          obtain ⟨bs, hT⟩ := Hs.out.done h6
          have HT := Lib.hid hT
          clear hT
          go_wp2
          go_roundg (N.ends.length - (k + 1))
          case measure => omega
          case rel => exact ⟨k + 1, _, _, by omega, rfl, by go_num, HT.out⟩
    · obtain rfl : k = N.ends.length := by omega
      have hw0 : ∃ wo : World, wo = wr := ⟨_, rfl⟩
      obtain ⟨W2, rfl⟩ := hw0
      have EW := Lib.hid (HX.out.trans' Hr.out.ext)
      obtain ⟨C0, C1, C2, -, -, -⟩ := row3_facts (row_ext HR.out Hr.out.ext)
      have mkS : ∀ w', Ext W2 w' → w'.cell? ⟨w.heap.size, 1, none⟩ = some v1 ∧ w'.cell? ⟨w.heap.size, 2, none⟩ = some v2 ∧ Hid (Ext W2 w') := fun w' h => ⟨h.cell' C1, h.cell' C2, h⟩
      clear C0
      go_upto_region 14 with fail
      go_cut [10] from 54 to 61 (fun t3 wx => ∃ p, t3 = .pointer (some ⟨p, 0, none⟩) ∧ Hid (Mid W2 (cutNet N st) p wx))
      case first =>
        go_region_held3 (fun w' => w'.cell? ⟨w.heap.size, 1, none⟩ = some v1 ∧ w'.cell? ⟨w.heap.size, 2, none⟩ = some v2 ∧ Hid (Ext W2 w'))
          (first | exact mkS _ (Ext.rfl' W2).drew' | exact mkS _ ((Ext.rfl' W2).alloc' _).drew' | exact mkS _ (Ext.trans' (‹_ ∧ _ ∧ Hid (Ext W2 _)›).2.2.out hx) | exact mkS _ (Ext.alloc' (‹_ ∧ _ ∧ Hid (Ext W2 _)›).2.2.out _) | exact mkS _ (Ext.alloc' X2.out _) | exact mkS _ (((X2.out.store (X1.out.size) _).store (X1.out.size) _).store (X1.out.size) _) | exact mkS _ (((X2.out.store (Nat.le_refl _) _).store (Nat.le_refl _) _).store (Nat.le_refl _) _) | fail)
          (first | (go_at_call 130; (with_reducible refine (l1Own_any (HI.out.ext (EW.out.trans' (‹_ ∧ _ ∧ Hid (Ext W2 _)›).2.2.out)) s3).mono ?_); rintro e w1 ⟨a1, c1, b1, rfl, hx, ho, hf⟩; have X1 := Lib.hid (Ext.trans' (‹_ ∧ _ ∧ Hid (Ext W2 _)›).2.2.out hx); have O1 := Lib.hid ho; have F1 : Hid (Fresh W2 b1) := Fresh.of hf (‹_ ∧ _ ∧ Hid (Ext W2 _)›).2.2.out.size; try (first | (have R := Lib.hid (row_ext (Hid.out ‹Hid (World.rowIs _ _ 29 3 _)›) hx)) | (have R := Lib.hid (row_ext (row3_made _ _ _ _ _) hx)) | (have R := Lib.hid (row_ext (row_ext (row3_made W2 _ _ _ _) ((Ext.rfl' _).drew')) hx))); try (obtain ⟨p0, p1, p2, q0, q1, q2⟩ := row3_facts R.out))
                 | (go_at_call 130; (with_reducible refine (l1Own_any (HP.out.ext (EW.out.trans' (‹_ ∧ _ ∧ Hid (Ext W2 _)›).2.2.out)) s4).mono ?_); rintro e w2 ⟨a2, c2, b2, rfl, hx, ho, hf⟩; have X2 := Lib.hid (Ext.trans' (‹_ ∧ _ ∧ Hid (Ext W2 _)›).2.2.out hx); have O2 := Lib.hid ho; have F2 : Hid (Fresh w1 b2) := (by first | exact hf | exact Fresh.of hf (by simp)); have H12 : Hid (Ext w1 w2) := (by first | exact hx | exact ((Ext.rfl' _).alloc' _).trans' hx); try (first | (have R := Lib.hid (row_ext (Hid.out ‹Hid (World.rowIs _ _ 29 3 _)›) hx)) | (have R := Lib.hid (row_ext (row3_made _ _ _ _ _) hx)) | (have R := Lib.hid (row_ext (row_ext (row3_made W2 _ _ _ _) ((Ext.rfl' _).drew')) hx))); try (obtain ⟨p0, p1, p2, q0, q1, q2⟩ := row3_facts R.out)) | fail)
        all_goals (try clear p0 p1 p2 q0 q1 q2)
        · go_wp2_with fail
          go_meet
          case rel => exact ⟨_, rfl, mid_alloc X2.out X1.out F1.out O1.out H12.out F2.out O2.out⟩
        · go_wp2_with fail
          go_meet
          case rel => exact ⟨_, rfl, mid_store R.out X1.out.size X2.out F1.out X1.out O1.out H12.out F2.out O2.out⟩
        · go_wp2_with fail
          go_meet
          case rel => exact ⟨_, rfl, mid_store R.out (Nat.le_refl _) X2.out F1.out X1.out O1.out H12.out F2.out O2.out⟩
      case rest =>
        obtain ⟨p, rfl, HM⟩ := hcut
        obtain ⟨bx0, bx1, bx2, _, _, _⟩ := row3_facts (row_ext HR.out (Hr.out.ext.trans' HM.out.ext))
        clear C1 C2 mkS
        go_wp2_with fail
        clear bx0 bx1 bx2
        go_loopg [64] N.ends.length (fun g i wx => ∃ k : Nat, k ≤ N.ends.length ∧ g = N.ends.length - k ∧ i = .int .i64 k ∧ Hid (Und W2 (cutNet N st) p k wx))
        case atStart => exact ⟨0, Nat.zero_le _, rfl, rfl, HM.out.und⟩
        case round =>
          obtain ⟨k, hk, rfl, rfl, Hs⟩ := hrel
          by_cases hlt : k < N.ends.length
          · obtain ⟨x, hx, hrow⟩ := Hec.out k hlt
            obtain ⟨y, x1, x2, b1, b2, u1, u2, u3, ⟨R', T', hG⟩, u5⟩ := Hs.out
            obtain ⟨ya, yc, rfl⟩ := owns_slice hG.1
            have HU := Lib.hid (And.intro u1 (And.intro u2 (And.intro u3 u5)))
            have HG := Lib.hid hG
            have EX := Lib.hid (EW.out.trans' u2)
            have hcell := EX.out.cell' hx
            obtain ⟨ax, bx, ox, cx, rfl, hax, hlx, hmx, hcx⟩ := hrow
            unfold maxLen at hmx
            have Hcx := Lib.hid hcx
            have Hax := Lib.hid hax
            have h6 := (GG.out.2.1 k hlt).1
            obtain ⟨kx, hkx, ay, yb, oy, cy, rfl, hay, hly, hmy, hcy⟩ := Hkc.out k hlt
            have Hkx := Lib.hid hkx
            have Hcy := Lib.hid hcy
            have Hay := Lib.hid hay
            have HLn := Lib.hid (show (cutRow N st k).length = cnt (st k) (gr N.ends k).length from length_planRow _ _ _ _)
            clear hx hG u1 u2 u3 u5 hcx hax hkx hay hcy
            go_wp2
            have hw0 : ∃ wo : World, wo = wr := ⟨_, rfl⟩
            obtain ⟨wo, rfl⟩ := hw0
            clear hcell
            go_loopg [13, 71] (gr N.ends k).length (fun g s i wx => ∃ j : Nat, j ≤ (gr N.ends k).length ∧ g = (gr N.ends k).length - j ∧ i = .int .i64 j ∧ Hid (Ext wo wx ∧ wx.ownsRow wo.heap.size 66 2 s (cnt (st k) j) (endCells ((cutRow N st k).take (cnt (st k) j)))))
            case atStart => exact ⟨0, Nat.zero_le _, rfl, rfl, Ext.rfl' _, by simpa [endCells, cnt] using World.ownsRow_nil wo wo.heap.size 66 2⟩
            case round =>
              obtain ⟨j, hj, rfl, rfl, Hi⟩ := hrel
              have hcj := cnt_le (st k) j
              by_cases hjt : j < (gr N.ends k).length
              · obtain ⟨hq1, hq2, _⟩ := Hcx.out j hjt
                obtain rfl := Hax.out (by omega)
                obtain rfl := Hay.out (by omega)
                obtain ⟨⟨g1, g2, g3, g4⟩, _⟩ := (GG.out.2.1 k hlt).2 j hjt
                obtain ⟨en, hen⟩ := Int.eq_ofNat_of_zero_le g1
                obtain ⟨ep, hep⟩ := Int.eq_ofNat_of_zero_le g3
                rw [hen] at hq1 g2 g4
                rw [hep] at hq2 g4
                rw [Int.toNat_natCast] at g4
                have g2' : en < N.ends.length := by omega
                have g4' : ep < (gr N.ends en).length := by omega
                have q1 := Hi.out.1.cell' (EX.out.cell' hq1)
                have q2 := Hi.out.1.cell' (EX.out.cell' hq2)
                have hxe := (Ext.rfl' wr).alloc' (.cells #[.int .i64 en, .int .i64 ep] 66)
                have k1 := hxe.cell' (Hi.out.1.cell' (EX.out.cell' Hkx.out))
                have k2 := hxe.cell' (Hi.out.1.cell' (EX.out.cell' (Hcy.out j hjt)))
                by_cases hs : st k j = true
                · rw [hs] at k2
                  obtain ⟨rb, rq, rc, t1, t2⟩ := Hr.out.reads g2' g4'
                  have t1 := hxe.cell' (Hi.out.1.cell' (HU.out.2.1.cell' t1))
                  have t2 := hxe.cell' (Hi.out.1.cell' (HU.out.2.1.cell' t2))
                  have e0 : (wr.alloc (.cells #[.int .i64 en, .int .i64 ep] 66)).cell? ⟨wr.heap.size, 0, none⟩ = some (.int .i64 en) := by simp
                  have e1 : (wr.alloc (.cells #[.int .i64 en, .int .i64 ep] 66)).cell? ⟨wr.heap.size, 1, none⟩ = some (.int .i64 ep) := by simp
                  have HSN := Lib.hid (cutRow_snoc hjt hs hen hep)
                  have hzo := Lib.hid Hi.out.1.size
                  clear hq1 hq2 g1 g2 g3 g4 hen hep hxe hs
                  go_wp2_with fail
                  go_region_law (first
                    | (refine step_app rfl (.tmp 83) (.tmp 96) 67 rfl wo.heap.size 66 i44 (.agg #[.int .i64 0, .int .i64 0]) 2 16 Try.underlying67 I44.out.1 I44.out.2.1 I44.out.2.2.1 I44.out.2.2.2 rfl (by decide) u13 (cnt (st k) j) (endCells ((cutRow N st k).take (cnt (st k) j))) rfl (owns_ext Hi.out.2 (by first | exact ((Ext.rfl' wr).alloc' _).drew'.alloc' _ | exact (((Ext.rfl' wr).alloc' _).alloc' _).drew')) (some ⟨wr.heap.size + 1, 0, none⟩) 1 1 [.int .i64 en, .int .i64 (cnt (st en) ep)] rfl (by first | exact (by simpa using src_twoS (wr.alloc (.cells #[.int .i64 en, .int .i64 ep] 66)) (.int .i64 en) (.int .i64 (cnt (st en) ep)) 66 rfl rfl) | exact src_drewS (by simpa using src_twoS (wr.alloc (.cells #[.int .i64 en, .int .i64 ep] 66)) (.int .i64 en) (.int .i64 (cnt (st en) ep)) 66 rfl rfl) | exact (by simpa using src_twoS (wr.alloc (.cells #[.int .i64 en, .int .i64 ep] 66)).drew (.int .i64 en) (.int .i64 (cnt (st en) ep)) 66 rfl rfl)) (by unfold maxLen; omega) (by omega) (by have := hzo.out; (try simp); omega) ?_
                       intro v' w4 hg
                       have G4 : Hid (Ext wo w4 ∧ w4.ownsRow wo.heap.size 66 2 v' (cnt (st k) (j + 1)) (endCells ((cutRow N st k).take (cnt (st k) (j + 1))))) := ⟨hg.ext (by first | exact (Hi.out.1.alloc' _).drew'.alloc' _ | exact ((Hi.out.1.alloc' _).alloc' _).drew') (fun b hb => (Hi.out.2.lt b hb).1), by rw [← HSN.out.1, HSN.out.2]; exact hg.1⟩
                       clear hg)
                    | fail)
                  all_goals clear q1 q2 k1 k2 t1 t2 e0 e1
                  all_goals go_wp2
                  all_goals go_roundg ((gr N.ends k).length - (j + 1))
                  all_goals first | omega | exact ⟨j + 1, by omega, rfl, by go_num, G4.out⟩
                · have hs : st k j = false := by simpa using hs
                  have HS : Hid (cnt (st k) (j + 1) = cnt (st k) j) := by show cnt (st k) (j + 1) = _; rw [cnt_succ, hs]; rfl
                  rw [hs] at k2
                  have A2 : Hid (Ext wo (wr.alloc (.cells #[.int .i64 en, .int .i64 ep] 66)) ∧ (wr.alloc (.cells #[.int .i64 en, .int .i64 ep] 66)).ownsRow wo.heap.size 66 2 u13 (cnt (st k) (j + 1)) (endCells ((cutRow N st k).take (cnt (st k) (j + 1))))) := by
                    refine ⟨Hi.out.1.trans' hxe, ?_⟩
                    rw [HS.out]
                    exact owns_ext Hi.out.2 hxe
                  clear hq1 hq2 g1 g2 g3 g4 hen hep hxe hs
                  go_wp2
                  go_roundg ((gr N.ends k).length - (j + 1))
                  case measure => omega
                  case rel => exact ⟨j + 1, by omega, rfl, by go_num, A2.out⟩
              · obtain rfl : j = (gr N.ends k).length := by omega
                have hown := Hi.out.2
                rw [← HLn.out, List.take_of_length_le (Nat.le_refl _)] at hown
                obtain ⟨fs, ho, hnd, hge⟩ := end_own_of_row (l := cutRow N st k) hown (fun i hi => endCells_get _ i hi) (cut_range GG.out hlt)
                obtain ⟨oa, oc, rfl⟩ := ho.1.slice
                have HO := Lib.hid (And.intro ho hge)
                have hxr := (Ext.rfl' wr).alloc' (.cells #[.slice oa (cutRow N st k).length oc] 67)
                obtain ⟨p0, p1, p2, _, _, _⟩ := row3_facts (row_ext HU.out.2.2.1 (Hi.out.1.trans' hxr))
                obtain ⟨r0, r1, r2, _, _, _⟩ := row3_facts (row_ext HU.out.2.2.1 Hi.out.1)
                have hzo := Lib.hid (Nat.le_trans HU.out.2.1.size Hi.out.1.size)
                have hk30 : k ≤ 1048576 := by omega
                clear hown ho hnd hge hxr
                go_wp2_with (at_builtin; refine wpList_app rfl (.tmp 100) (.tmp 102) 27 rfl W2.heap.size 67 i70 (.slice none 0 0) 1 24 Try.underlying27 I70.out.1 I70.out.2.1 I70.out.2.2.1 I70.out.2.2.2 rfl (by decide) (.slice ya k yc) k ((List.range k).map R') rfl (owns_ext HG.out.1 (Hi.out.1.alloc' _)) (some ⟨wr.heap.size, 0, none⟩) 1 1 [.slice oa (cutRow N st k).length oc] rfl (src_one wr _ 67 rfl) (by unfold maxLen; omega) (by omega) ?_ ?_)
                · have := hzo.out; (try simp); omega
                intro v' w4 hg
                have hrw := row_grown (row_ext HU.out.2.2.1 (Hi.out.1.alloc' (.cells #[.slice oa (cutRow N st k).length oc] 67))) (owns_ext HG.out.1 (Hi.out.1.alloc' _)) hg.2.1 (by decide)
                obtain ⟨na, nc, rfl⟩ := owns_slice hg.1
                have HU2 := Lib.hid (und_step (N := cutNet N st) HU.out HG.out Hi.out.1 (by rw [gr_cutNet hlt]; exact HO.out.1) HO.out.2 hg)
                clear hg p0 p1 p2 r0 r1 r2
                obtain ⟨p0, p1, p2, s0, s1, s2⟩ := row3_facts hrw
                clear hrw
                go_wp2
                go_roundg (N.ends.length - (k + 1))
                case measure => omega
                case rel => exact ⟨k + 1, by omega, rfl, by go_num, HU2.out⟩
          · obtain rfl : k = N.ends.length := by omega
            obtain ⟨y, x1, x2, b1, b2, u1, u2, u3, u4, u5, u6', u7', u8'⟩ := Hs.out
            have u4 : GrowL W2.heap.size wr y (cutNet N st).ends (cutNet N st).ends.length := by rw [length_cutNet]; exact u4
            obtain ⟨bs, ho, hnd, hge⟩ := u4.done
            obtain ⟨ya, yc, rfl⟩ := ho.slice
            obtain ⟨xa, xc, rfl⟩ := u5.1.slice
            obtain ⟨za, zc, rfl⟩ := u6'.1.slice
            obtain ⟨p0, p1, p2, q0, q1, q2⟩ := row3_facts u3
            obtain ⟨p0', p1', p2', q0', q1', q2'⟩ := row3_facts (row_ext HQ.out (Hr.out.ext.trans' u2))
            have O := Lib.hid (net_of_parts (W := W2) (N := cutNet N st) ho u5 u6' hnd u7' hge u8')
            have K := Lib.hid (EW.out.trans' u2)
            have Hz := Hr.out.ext.size
            clear u1 u2 u3 u5 u6' u7' u8' ho hnd hge u4
            go_wp2
            refine bodyPost_ret (v := .agg #[.slice ya (cutNet N st).ends.length yc, .slice xa (cutNet N st).ids.length xc, .slice za (cutNet N st).inputs.length zc]) (by simp [results, Try.results159, go_sem, p0', p1', p2']) rfl ?_
            have hc := close_net K.out O.out.1 O.out.2.1 (fun b hb => by have := O.out.2.2 b hb; omega)
            exact ⟨_, _, rfl, hc.1, hc.2.1, hc.2.2⟩
end Go.Proofs.Ytkeiaahlifdbiaa
