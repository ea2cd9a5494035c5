/- The contracts of the model's isWalk, isCode and isFrom. -/
import Derived.Test.YtdoaopeegcakiaaJd
import Derived.Test.YtdoaopeegcakiaaIc
import Derived.Deep.RegionHeld3
import Derived.Deep.RegionHeldLaw
namespace Go.Proofs.Ytdoaopeegcakiaa
open Go.RowKit

theorem has_iff (l : List Int) (x : Int) : Has l x ↔ x ∈ l := ⟨fun ⟨_, hj, e⟩ => e ▸ gi_in hj, fun h => let ⟨i, hi, e⟩ := in_gi h; ⟨i, hi, e⟩⟩

set_option maxHeartbeats 3200000 in
set_option maxRecDepth 100000 in
theorem isWalk_any {w : World} {v : Value} {N : Net} (x : Nat) (hx : x < N.ends.length) (h : NetAt w v N) (hG : GoodW N) :
    Calls Try.prog 77 #[v, .int .i64 x] w fun e w' => ∃ v' bs, e = .returned v' ∧ Ext w w' ∧ OwnI w' v' (wk N x) bs ∧ Fresh w bs := by
  have HN := Lib.hid h
  have HG := Lib.hid hG
  have h40 := hG.most
  clear hG
  obtain ⟨v0, v1, v2, rfl, hE, hI, hP⟩ := h
  clear hE hI hP
  obtain ⟨i0, hi, hz0, hz1, hz2⟩ := info_parts Try.info3
  have I0 := Lib.hid (And.intro hi (And.intro hz0 (And.intro hz1 hz2)))
  clear hi hz0 hz1 hz2
  obtain ⟨WB, hWB⟩ : ∃ WB, WB = w.alloc (.cells #[v0, v1, v2] 31) := ⟨_, rfl⟩
  have EB := Lib.hid (show Ext w WB by rw [hWB]; exact boxed_ext _ _ _ _ _)
  have RB := Lib.hid (show WB.rowIs w.heap.size 31 3 (tri v0 v1 v2) by rw [hWB]; exact boxed_row _ _ _ _ _)
  have ZB := Lib.hid (show WB.heap.size = w.heap.size + 1 by rw [hWB]; simp)
  obtain ⟨W0, hW0⟩ : ∃ W0, W0 = WB.alloc (.cells #[.int .i64 x] 3) := ⟨_, rfl⟩
  have E0 := Lib.hid (show Ext WB W0 by rw [hW0]; exact (Ext.rfl' _).alloc' _)
  have G0 := Lib.hid (show GrowN (w.heap.size + 1) W0 (.slice (some ⟨w.heap.size + 1, 0, none⟩) 1 1) (wkTo N x 0) by
    have := World.ownsRow_lit (base := w.heap.size + 1) (e := 3) (size := 1) WB #[.int .i64 x] 1 (by have := ZB.out; omega) (by decide) (by simp)
    rw [hW0, ← ZB.out]; rw [← ZB.out] at this
    simpa [GrowN, wkTo, intCells] using this)
  go_enter Try.func77, Try.ntmps77
  go_wp2
  rw [← hWB, ← hW0]
  clear hWB hW0
  go_loopg [5, 6] N.ends.length (fun g s a wr => ∃ k : Nat, k ≤ N.ends.length ∧ g = N.ends.length - k ∧ a = .int .i64 k ∧ Hid (Ext WB wr ∧ GrowN (w.heap.size + 1) wr s (wkTo N x k)))
  case atStart => exact ⟨0, Nat.zero_le _, rfl, rfl, E0.out, G0.out⟩
  case round =>
    obtain ⟨k, hk, rfl, rfl, Hr⟩ := hrel
    obtain ⟨ob, oc, rfl, ho1, ho2, ho3, ho4, hcell⟩ := Hr.out.2.form (wkTo_pos N x k)
    unfold maxLen at ho2
    have hlen := wkTo_len HG.out.leads (v := (x : Int)) (by omega) k
    by_cases hlt : k < (wkTo N x k).length
    · have hc := hcell k hlt
      have hrg := wkTo_range HG.out.leads (v := (x : Int)) (by omega) k _ (gi_in hlt)
      obtain ⟨y, hy⟩ := Int.eq_ofNat_of_zero_le hrg.1
      have hyn : y < N.ends.length := by omega
      have hdeg := HG.out.deg y hyn
      have HL := Lib.hid (show wkTo N x (k + 1) = addTo (wkTo N x k) (gr N.ends y) (gr N.ends y).length by rw [wkTo_go hlt]; unfold rw'; rw [hy, Int.toNat_natCast])
      rw [hy] at hc
      clear hrg hy hcell
      obtain ⟨p0, p1, p2, -, -, -⟩ := row3_facts (row_ext RB.out Hr.out.1)
      have Hd := Lib.hid (Ext.rfl' wr).drew'
      have HO := Lib.hid (And.intro ho3 ho4)
      have hl1 : (wkTo N x k).length ≤ 40 := by omega
      clear ho3 ho4
      go_wp2_with fail
      go_region_held3 (fun w' => w'.cell? ⟨w.heap.size, 0, none⟩ = some v0 ∧ w'.cell? ⟨w.heap.size, 1, none⟩ = some v1 ∧ w'.cell? ⟨w.heap.size, 2, none⟩ = some v2 ∧ w'.cell? ⟨ob, k, none⟩ = some (.int .i64 y) ∧ Hid (Ext wr w'))
        (first | exact ⟨p0, p1, p2, hc, Hd⟩ | exact ⟨hx.cell' p0, hx.cell' p1, hx.cell' p2, hx.cell' hc, Hd.out.trans' hx⟩)
        (first | (go_at_call 110; (with_reducible refine (neNear_any y hyn (HN.out.ext (EB.out.trans' (Hr.out.1.trans' Hd.out))) (by omega)).mono ?_); rintro e w1 ⟨nv, nbs, rfl, hx, hon, hfn⟩; have X1 := Lib.hid hx; have ON := Lib.hid hon; have FN := Lib.hid hfn; obtain ⟨na, nb0, no, nc, rfl, -, -, -, -⟩ := hon.read; clear hfn hon))
      rename_i hh
      clear hh hx p0 p1 p2 hc
      go_wp2
      rw [length_nears] at *
      obtain ⟨wo, hwo⟩ : ∃ wo : World, wo = wr := ⟨_, rfl⟩
      subst hwo
      go_loopg [5, 24] (gr N.ends y).length (fun g s i wx => ∃ j : Nat, j ≤ (gr N.ends y).length ∧ g = (gr N.ends y).length - j ∧ i = .int .i64 j ∧ Hid (Ext WB wx ∧ GrowN (w.heap.size + 1) wx s (addTo (wkTo N x k) (gr N.ends y) j) ∧ OwnI wx (.slice na (gr N.ends y).length nc) (nears (gr N.ends y)) nbs ∧ Off s nbs))
      case atStart => exact ⟨0, Nat.zero_le _, rfl, rfl, Hr.out.1.trans' (Hd.out.trans' X1.out), (Hr.out.2.ext Hd.out).ext X1.out, ON.out, fun b hb e => by have := FN.out.2 b hb; have := HO.out.2; have := Hd.out.size; simp only [Value.ownBlock, Option.some.injEq] at e; omega⟩
      case round =>
        obtain ⟨j, hj, rfl, rfl, Hs⟩ := hrel
        have hpos : 0 < (addTo (wkTo N x k) (gr N.ends y) j).length := by have := (addTo_begins (wkTo N x k) (gr N.ends y) 0 j (by omega)).len; have := wkTo_pos N x k; simp only [addTo] at *; omega
        have hrj : ∀ t, t < (gr N.ends y).length → 0 ≤ gn (gr N.ends y) t ∧ gn (gr N.ends y) t < (N.ends.length : Int) := HG.out.leads.node y hyn
        have hin := addTo_range (l := wkTo N x k) (r := gr N.ends y) (n := N.ends.length) (j := j) (wkTo_range HG.out.leads (v := (x : Int)) (by omega) k) (fun t ht => hrj t (by omega))
        have hlj : (addTo (wkTo N x k) (gr N.ends y) j).length ≤ N.ends.length := nodup_len _ _ (addTo_nodup (wkTo_nodup N x k) j) hin
        have RD := Lib.hid (Hs.out.2.1.read fun i hi => by have := hin _ (gi_in hi); unfold inI64; omega)
        obtain ⟨ob', oc', rfl, q1, q2, q3, q4, -⟩ := Hs.out.2.1.form hpos
        unfold maxLen at q2
        clear hin
        by_cases hlj2 : j < (gr N.ends y).length
        · obtain ⟨na', nb', no', nc', e, ha, hl, hm, hcn⟩ := Hs.out.2.2.1.read
          simp only [Value.slice.injEq] at e
          obtain ⟨rfl, -, rfl⟩ := e
          rw [length_nears] at ha hl
          obtain rfl := ha (by omega)
          obtain ⟨_, hn1, rfl, _⟩ := hcn j (by rw [length_nears]; exact hlj2)
          rw [gi_nears _ _ hlj2] at hn1
          unfold maxLen at hm
          have hgr := hrj j hlj2
          clear hcn ha
          by_cases hmem : gn (gr N.ends y) j ∈ addTo (wkTo N x k) (gr N.ends y) j
          · have HD := Lib.hid (dec_true ((has_iff _ _).2 hmem))
            have HA := Lib.hid (show addTo (wkTo N x k) (gr N.ends y) (j + 1) = addTo (wkTo N x k) (gr N.ends y) j from addOne_in hmem)
            clear hmem
            go_wp2_with (go_at_call 76; (with_reducible refine (l1Has_any _ RD.out).mono ?_); rintro e w' ⟨rfl, rfl⟩; rw [HD.out])
            go_roundg ((gr N.ends y).length - (j + 1))
            case measure => omega
            case rel => exact ⟨j + 1, by omega, rfl, by go_num, by rw [HA.out]; exact Hs.out⟩
          · have HD := Lib.hid (dec_false (fun h => hmem ((has_iff _ _).1 h)))
            have HA := Lib.hid (show addTo (wkTo N x k) (gr N.ends y) (j + 1) = addTo (wkTo N x k) (gr N.ends y) j ++ [gn (gr N.ends y) j] from addOne_new hmem)
            have HS := Lib.hid (show w.heap.size + 1 ≤ wr.heap.size by have := Hs.out.1.size; have := ZB.out; omega)
            clear hmem
            go_wp2_with (first | (go_at_call 76; (with_reducible refine (l1Has_any _ RD.out).mono ?_); rintro e w' ⟨rfl, rfl⟩; rw [HD.out]) | (at_builtin; refine wpList_app2 rfl (.tmp 32) (.tmp 34) 23 rfl (w.heap.size + 1) 3 i0 (.int .i64 0) 1 8 Try.underlying23 I0.out.1 I0.out.2.1 I0.out.2.2.1 I0.out.2.2.2 rfl (by decide) _ (addTo (wkTo N x k) (gr N.ends y) j).length (intCells (addTo (wkTo N x k) (gr N.ends y) j)) rfl (Hs.out.2.1.ext ((Ext.rfl' _).alloc' _)) (some ⟨wr.heap.size, 0, none⟩) 1 1 (intCells [gn (gr N.ends y) j]) rfl (src_lits _ [gn (gr N.ends y) j] 1 rfl 3) (by unfold maxLen; omega) (by omega) (by have := HS.out; simp; omega) ?_))
            intro v' w3 hg
            have gx := Hs.out.2.1.ext ((Ext.rfl' wr).alloc' (.cells #[.int .i64 (gn (gr N.ends y) j)] 3))
            have FI := Lib.hid (show Ext WB w3 ∧ GrowN (w.heap.size + 1) w3 v' (addTo (wkTo N x k) (gr N.ends y) j ++ [gn (gr N.ends y) j]) ∧ OwnI w3 (.slice (some ⟨nb', no', none⟩) (gr N.ends y).length nc) (nears (gr N.ends y)) nbs ∧ Off v' nbs from
              ⟨grown_ext (Hs.out.1.alloc' _) (by have := ZB.out; omega) gx hg.1.2.1, GrowN.step hg.1 rfl, (Hs.out.2.2.1.ext ((Ext.rfl' _).alloc' _)).other Hs.out.2.2.2 hg.1.2.1, Hs.out.2.2.2.grew (w := wr.alloc (.cells #[.int .i64 (gn (gr N.ends y) j)] 3)) (fun b hb => by have := Hs.out.2.2.1.1.lt b hb; simp; omega) hg.2⟩)
            clear hg gx
            go_wp2
            go_roundg ((gr N.ends y).length - (j + 1))
            case measure => omega
            case rel => exact ⟨j + 1, by omega, rfl, by go_num, by rw [HA.out]; exact FI.out⟩
        · go_wp2
          go_roundg (N.ends.length - (k + 1))
          case measure => omega
          case rel =>
            obtain rfl : j = (gr N.ends y).length := by omega
            exact ⟨k + 1, by omega, rfl, by go_num, Hs.out.1, by rw [HL.out]; exact Hs.out.2.1⟩
    · go_wp2
      go_ret
      have hd := wk_done (N := N) (v := (x : Int)) (k := k) (by omega) hk
      obtain ⟨bs, ho, hn, hb⟩ := Hr.out.2.own fun i hi => by have := wkTo_range HG.out.leads (v := (x : Int)) (by omega) k _ (gi_in hi); unfold inI64; omega
      exact ⟨_, bs, rfl, EB.out.trans' Hr.out.1, by rw [hd]; exact ho, hn, fun b hb' => by have := hb b hb'; omega⟩
end Go.Proofs.Ytdoaopeegcakiaa
