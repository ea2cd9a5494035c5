/- The contract of coReach; a map that is extended along a walk. -/
import Derived.Test.YtgacbfblpkikkaaJe
import Derived.Test.YtgacbfblpkikkaaQk
namespace Go.Proofs.Ytgacbfblpkikkaa
open Go.RowKit Go.Maps

set_option maxHeartbeats 3200000 in
set_option maxRecDepth 100000 in
theorem coReach_any {w : World} {v : Value} {N : Net} (x : Nat) (hx : x < N.ends.length) (h : NetAt w v N) (hG : GoodW N) :
    Calls Try.prog 120 #[v, .int .i64 x] w fun e w' => ∃ v' bs, e = .returned v' ∧ Ext w w' ∧ OwnI w' v' (wk N x) bs ∧ Fresh w bs := by
  have HN := Lib.hid h
  have HG := Lib.hid hG
  have h40 := hG.most
  clear hG
  obtain ⟨v0, v1, v2, rfl, hE, hI, hP⟩ := h
  clear hE hI hP
  obtain ⟨i0, hi, hz0, hz1, hz2⟩ := info_parts Try.info3
  have I0 := Lib.hid (And.intro hi (And.intro hz0 (And.intro hz1 hz2)))
  clear hi hz0 hz1 hz2
  obtain ⟨WB, hWB⟩ : ∃ WB, WB = w.alloc (.cells #[v0, v1, v2] 29) := ⟨_, rfl⟩
  have EB := Lib.hid (show Ext w WB by rw [hWB]; exact boxed_ext _ _ _ _ _)
  have RB := Lib.hid (show WB.rowIs w.heap.size 29 3 (tri v0 v1 v2) by rw [hWB]; exact boxed_row _ _ _ _ _)
  have ZB := Lib.hid (show WB.heap.size = w.heap.size + 1 by rw [hWB]; simp)
  obtain ⟨W0, hW0⟩ : ∃ W0, W0 = WB.alloc (.cells #[.int .i64 x] 3) := ⟨_, rfl⟩
  have E0 := Lib.hid (show Ext WB W0 by rw [hW0]; exact (Ext.rfl' _).alloc' _)
  have G0 := Lib.hid (show GrowN (w.heap.size + 1) W0 (.slice (some ⟨w.heap.size + 1, 0, none⟩) 1 1) (wkTo N x 0) by
    have := World.ownsRow_lit (base := w.heap.size + 1) (e := 3) (size := 1) WB #[.int .i64 x] 1 (by have := ZB.out; omega) (by decide) (by simp)
    rw [hW0, ← ZB.out]; rw [← ZB.out] at this
    simpa [GrowN, wkTo, intCells] using this)
  go_enter Try.func120, Try.ntmps120
  go_wp2
  rw [← hWB, ← hW0]
  clear hWB hW0
  go_loopg [5, 6] N.ends.length (fun g s a wr => ∃ k : Nat, k ≤ N.ends.length ∧ g = N.ends.length - k ∧ a = .int .i64 k ∧ Hid (Ext WB wr ∧ GrowN (w.heap.size + 1) wr s (wkTo N x k)))
  case atStart => exact ⟨0, Nat.zero_le _, rfl, rfl, E0.out, G0.out⟩
  case round =>
    obtain ⟨k, hk, rfl, rfl, Hr⟩ := hrel
    obtain ⟨ob, oc, rfl, ho1, ho2, ho3, ho4, hcell⟩ := Hr.out.2.form (wkTo_pos N x k)
    unfold maxLen at ho2
    have hlen := wkTo_len HG.out.leads (v := (x : Int)) (by omega) k
    by_cases hlt : k < (wkTo N x k).length
    · have hc := hcell k hlt
      have hrg := wkTo_range HG.out.leads (v := (x : Int)) (by omega) k _ (gi_in hlt)
      obtain ⟨y, hy⟩ := Int.eq_ofNat_of_zero_le hrg.1
      have hyn : y < N.ends.length := by omega
      have hdeg := HG.out.deg y hyn
      have HL := Lib.hid (show wkTo N x (k + 1) = addTo (wkTo N x k) (gr N.ends y) (gr N.ends y).length by rw [wkTo_go hlt]; unfold rw'; rw [hy, Int.toNat_natCast])
      rw [hy] at hc
      clear hrg hy hcell
      obtain ⟨p0, p1, p2, -, -, -⟩ := row3_facts (row_ext RB.out Hr.out.1)
      have Hd := Lib.hid (Ext.rfl' wr).drew'
      have HO := Lib.hid (And.intro ho3 ho4)
      have hl1 : (wkTo N x k).length ≤ 40 := by omega
      clear ho3 ho4
      go_wp2_with fail
      go_region_held3 (fun w' => w'.cell? ⟨w.heap.size, 0, none⟩ = some v0 ∧ w'.cell? ⟨w.heap.size, 1, none⟩ = some v1 ∧ w'.cell? ⟨w.heap.size, 2, none⟩ = some v2 ∧ w'.cell? ⟨ob, k, none⟩ = some (.int .i64 y) ∧ Hid (Ext wr w'))
        (first | exact ⟨p0, p1, p2, hc, Hd⟩ | exact ⟨hx.cell' p0, hx.cell' p1, hx.cell' p2, hx.cell' hc, Hd.out.trans' hx⟩)
        (first | (go_at_call 135; (with_reducible refine (neNear_any y hyn (HN.out.ext (EB.out.trans' (Hr.out.1.trans' Hd.out))) (by omega)).mono ?_); rintro e w1 ⟨nv, nbs, rfl, hx, hon, hfn⟩; have X1 := Lib.hid hx; have ON := Lib.hid hon; have FN := Lib.hid hfn; obtain ⟨na, nb0, no, nc, rfl, -, -, -, -⟩ := hon.read; clear hfn hon))
      rename_i hh
      clear hh hx p0 p1 p2 hc
      go_wp2
      rw [length_nears] at *
      obtain ⟨wo, hwo⟩ : ∃ wo : World, wo = wr := ⟨_, rfl⟩
      subst hwo
      go_loopg [5, 24] (gr N.ends y).length (fun g s i wx => ∃ j : Nat, j ≤ (gr N.ends y).length ∧ g = (gr N.ends y).length - j ∧ i = .int .i64 j ∧ Hid (Ext WB wx ∧ GrowN (w.heap.size + 1) wx s (addTo (wkTo N x k) (gr N.ends y) j) ∧ OwnI wx (.slice na (gr N.ends y).length nc) (nears (gr N.ends y)) nbs ∧ Off s nbs))
      case atStart => exact ⟨0, Nat.zero_le _, rfl, rfl, Hr.out.1.trans' (Hd.out.trans' X1.out), (Hr.out.2.ext Hd.out).ext X1.out, ON.out, fun b hb e => by have := FN.out.2 b hb; have := HO.out.2; have := Hd.out.size; simp only [Value.ownBlock, Option.some.injEq] at e; omega⟩
      case round =>
        obtain ⟨j, hj, rfl, rfl, Hs⟩ := hrel
        have hpos : 0 < (addTo (wkTo N x k) (gr N.ends y) j).length := by have := (addTo_begins (wkTo N x k) (gr N.ends y) 0 j (by omega)).len; have := wkTo_pos N x k; simp only [addTo] at *; omega
        have hrj : ∀ t, t < (gr N.ends y).length → 0 ≤ gn (gr N.ends y) t ∧ gn (gr N.ends y) t < (N.ends.length : Int) := HG.out.leads.node y hyn
        have hin := addTo_range (l := wkTo N x k) (r := gr N.ends y) (n := N.ends.length) (j := j) (wkTo_range HG.out.leads (v := (x : Int)) (by omega) k) (fun t ht => hrj t (by omega))
        have hlj : (addTo (wkTo N x k) (gr N.ends y) j).length ≤ N.ends.length := nodup_len _ _ (addTo_nodup (wkTo_nodup N x k) j) hin
        have RD := Lib.hid (Hs.out.2.1.read fun i hi => by have := hin _ (gi_in hi); unfold inI64; omega)
        obtain ⟨ob', oc', rfl, q1, q2, q3, q4, -⟩ := Hs.out.2.1.form hpos
        unfold maxLen at q2
        clear hin
        by_cases hlj2 : j < (gr N.ends y).length
        · obtain ⟨na', nb', no', nc', e, ha, hl, hm, hcn⟩ := Hs.out.2.2.1.read
          simp only [Value.slice.injEq] at e
          obtain ⟨rfl, -, rfl⟩ := e
          rw [length_nears] at ha hl
          obtain rfl := ha (by omega)
          obtain ⟨_, hn1, rfl, _⟩ := hcn j (by rw [length_nears]; exact hlj2)
          rw [gi_nears _ _ hlj2] at hn1
          unfold maxLen at hm
          have hgr := hrj j hlj2
          clear hcn ha
          by_cases hmem : gn (gr N.ends y) j ∈ addTo (wkTo N x k) (gr N.ends y) j
          · have HD := Lib.hid (dec_true ((has_iff _ _).2 hmem))
            have HA := Lib.hid (show addTo (wkTo N x k) (gr N.ends y) (j + 1) = addTo (wkTo N x k) (gr N.ends y) j from addOne_in hmem)
            clear hmem
            go_wp2_with (go_at_call 93; (with_reducible refine (l1Has_any _ RD.out).mono ?_); rintro e w' ⟨rfl, rfl⟩; rw [HD.out])
            go_roundg ((gr N.ends y).length - (j + 1))
            case measure => omega
            case rel => exact ⟨j + 1, by omega, rfl, by go_num, by rw [HA.out]; exact Hs.out⟩
          · have HD := Lib.hid (dec_false (fun h => hmem ((has_iff _ _).1 h)))
            have HA := Lib.hid (show addTo (wkTo N x k) (gr N.ends y) (j + 1) = addTo (wkTo N x k) (gr N.ends y) j ++ [gn (gr N.ends y) j] from addOne_new hmem)
            have HS := Lib.hid (show w.heap.size + 1 ≤ wr.heap.size by have := Hs.out.1.size; have := ZB.out; omega)
            clear hmem
            go_wp2_with (first | (go_at_call 93; (with_reducible refine (l1Has_any _ RD.out).mono ?_); rintro e w' ⟨rfl, rfl⟩; rw [HD.out]) | (at_builtin; refine wpList_app2 rfl (.tmp 32) (.tmp 34) 23 rfl (w.heap.size + 1) 3 i0 (.int .i64 0) 1 8 Try.underlying23 I0.out.1 I0.out.2.1 I0.out.2.2.1 I0.out.2.2.2 rfl (by decide) _ (addTo (wkTo N x k) (gr N.ends y) j).length (intCells (addTo (wkTo N x k) (gr N.ends y) j)) rfl (Hs.out.2.1.ext ((Ext.rfl' _).alloc' _)) (some ⟨wr.heap.size, 0, none⟩) 1 1 (intCells [gn (gr N.ends y) j]) rfl (src_lits _ [gn (gr N.ends y) j] 1 rfl 3) (by unfold maxLen; omega) (by omega) (by have := HS.out; simp; omega) ?_))
            intro v' w3 hg
            have gx := Hs.out.2.1.ext ((Ext.rfl' wr).alloc' (.cells #[.int .i64 (gn (gr N.ends y) j)] 3))
            have FI := Lib.hid (show Ext WB w3 ∧ GrowN (w.heap.size + 1) w3 v' (addTo (wkTo N x k) (gr N.ends y) j ++ [gn (gr N.ends y) j]) ∧ OwnI w3 (.slice (some ⟨nb', no', none⟩) (gr N.ends y).length nc) (nears (gr N.ends y)) nbs ∧ Off v' nbs from
              ⟨grown_ext (Hs.out.1.alloc' _) (by have := ZB.out; omega) gx hg.1.2.1, GrowN.step hg.1 rfl, (Hs.out.2.2.1.ext ((Ext.rfl' _).alloc' _)).other Hs.out.2.2.2 hg.1.2.1, Hs.out.2.2.2.grew (w := wr.alloc (.cells #[.int .i64 (gn (gr N.ends y) j)] 3)) (fun b hb => by have := Hs.out.2.2.1.1.lt b hb; simp; omega) hg.2⟩)
            clear hg gx
            go_wp2
            go_roundg ((gr N.ends y).length - (j + 1))
            case measure => omega
            case rel => exact ⟨j + 1, by omega, rfl, by go_num, by rw [HA.out]; exact FI.out⟩
        · go_wp2
          go_roundg (N.ends.length - (k + 1))
          case measure => omega
          case rel =>
            obtain rfl : j = (gr N.ends y).length := by omega
            exact ⟨k + 1, by omega, rfl, by go_num, Hs.out.1, by rw [HL.out]; exact Hs.out.2.1⟩
    · go_wp2
      go_ret
      have hd := wk_done (N := N) (v := (x : Int)) (k := k) (by omega) hk
      obtain ⟨bs, ho, hn, hb⟩ := Hr.out.2.own fun i hi => by have := wkTo_range HG.out.leads (v := (x : Int)) (by omega) k _ (gi_in hi); unfold inI64; omega
      exact ⟨_, bs, rfl, EB.out.trans' Hr.out.1, by rw [hd]; exact ho, hn, fun b hb' => by have := hb b hb'; omega⟩

/-- Each end of a row without an image gets that of the end of the other row. -/
def extR (F : List Int) (r img : List (Int × Int)) : Nat → List Int
  | 0 => F
  | j + 1 => if gi (extR F r img j) (gn r j).toNat = -1 then (extR F r img j).set (gn r j).toNat (gn img j) else extR F r img j
/-- The images once k nodes of the walk have been looked at. -/
def extK (A B : Net) (x : Nat) : Nat → Option (List Int)
  | 0 => some ((List.replicate A.ends.length (-1)).set 0 (x : Int))
  | k + 1 => match extK A B x k with
    | none => none
    | some F => if (rw' A (gi (wk A 0) k)).length = (rw' B (gi F (gi (wk A 0) k).toNat)).length then some (extR F (rw' A (gi (wk A 0) k)) (rw' B (gi F (gi (wk A 0) k).toNat)) (rw' A (gi (wk A 0) k)).length) else none
theorem extK_none {A B : Net} {x k : Nat} (h : extK A B x k = none) : ∀ m, k ≤ m → extK A B x m = none
  | 0, hm => by obtain rfl : k = 0 := by omega
                exact h
  | m + 1, hm => by
    by_cases e : k = m + 1
    · subst e; exact h
    · simp only [extK]; rw [extK_none h m (by omega)]
/-- Images are missing or nodes. -/
def Img (B : Net) (F : List Int) (n : Nat) : Prop := F.length = n ∧ ∀ i, i < n → gi F i = -1 ∨ NdIn B (gi F i)
theorem length_extR (F : List Int) (r img : List (Int × Int)) : ∀ j, (extR F r img j).length = F.length
  | 0 => rfl
  | j + 1 => by simp only [extR]; split <;> simp [length_extR F r img j]
theorem setgi {l : List Int} {k i : Nat} {x : Int} (hk : k < l.length) : gi (l.set k x) i = if i = k then x else gi l i := by
  simp only [gi, List.getD]
  by_cases e : i = k
  · subst e; simp [hk]
  · rw [if_neg e, List.getElem?_set_ne (by omega)]
theorem extR_img {B : Net} {F : List Int} {n : Nat} {r img : List (Int × Int)} (h : Img B F n) (hr : ∀ i, i < r.length → 0 ≤ gn r i ∧ gn r i < (n : Int)) (hi : ∀ i, i < r.length → NdIn B (gn img i)) : ∀ j, j ≤ r.length → Img B (extR F r img j) n
  | 0, _ => h
  | j + 1, hj => by
    obtain ⟨a, b⟩ := extR_img h hr hi j (by omega)
    simp only [extR]
    split
    · have := hr j (by omega)
      refine ⟨by rw [List.length_set]; exact a, fun i hin => ?_⟩
      rw [setgi (by omega)]
      split
      · exact .inr (hi j (by omega))
      · exact b i hin
    · exact ⟨a, b⟩
/-- What has an image keeps it. -/
theorem extR_keep {F : List Int} {r img : List (Int × Int)} {i : Nat} (h : gi F i ≠ -1) : ∀ j, j ≤ r.length → (∀ t, t < r.length → (gn r t).toNat < F.length) → gi (extR F r img j) i = gi F i
  | 0, _, _ => rfl
  | j + 1, hj, hr => by
    have ih := extR_keep (img := img) h j (by omega) hr
    simp only [extR]
    split
    · rename_i h0
      rw [setgi (by rw [length_extR]; exact hr j (by omega))]
      split
      · rename_i e
        subst e
        rw [ih] at h0
        exact absurd h0 h
      · exact ih
    · exact ih
/-- All ends have an image at the end. -/
theorem extR_all {B : Net} {F : List Int} {n : Nat} {r img : List (Int × Int)} (h : Img B F n) (hr : ∀ i, i < r.length → 0 ≤ gn r i ∧ gn r i < (n : Int)) (hi : ∀ i, i < r.length → NdIn B (gn img i)) : ∀ j, j ≤ r.length → ∀ t, t < j → gi (extR F r img j) (gn r t).toNat ≠ -1
  | 0, _, t, ht => absurd ht (by omega)
  | j + 1, hj, t, ht => by
    have hF := h.1
    have hb := extR_img h hr hi j (by omega)
    have hrj := hr j (by omega)
    have hrt := hr t (by omega)
    have hij := hi j (by omega)
    unfold NdIn at hij
    simp only [extR]
    by_cases e : t = j
    · subst e
      split
      · rw [setgi (by rw [length_extR]; omega), if_pos rfl]; omega
      · rename_i h0; exact h0
    · have ih := extR_all h hr hi j (by omega) t (by omega)
      split
      · rw [setgi (by rw [length_extR]; omega)]
        split
        · omega
        · exact ih
      · exact ih
theorem wk_at {A : Net} {k : Nat} (hA : Leads' A) (h1 : 1 ≤ A.ends.length) (hk : k < (wk A 0).length) : k < (wkTo A 0 k).length ∧ gi (wk A 0) k = gi (wkTo A 0 k) k ∧ k < A.ends.length := by
  have hl := wkTo_len hA (v := 0) (by omega) A.ends.length
  have hkn : k < A.ends.length := by unfold wk at hk; omega
  have hlt : k < (wkTo A 0 k).length := by
    by_cases h : k < (wkTo A 0 k).length
    · exact h
    · have := wk_done (N := A) (v := 0) (k := k) (by omega) (by omega)
      rw [this] at hk
      omega
  exact ⟨hlt, (wk_begins (N := A) (v := 0) (by omega)).at hlt, hkn⟩
/-- What holds of the images on the way. -/
structure ExtAt (A B : Net) (F : List Int) (k : Nat) : Prop where
  img : Img B F A.ends.length
  got : ∀ v ∈ wkTo A 0 k, gi F v.toNat ≠ -1
theorem ext_at {A B : Net} (ga : GoodW A) (gb : GoodW B) {x : Nat} (hx : x < B.ends.length) : ∀ k, k ≤ (wk A 0).length → ∀ F, extK A B x k = some F → ExtAt A B F k
  | 0, _, F, h => by
    have h1 := ga.one
    simp only [extK, Option.some.injEq] at h
    subst h
    have hg : ∀ i, gi ((List.replicate A.ends.length (-1 : Int)).set 0 (x : Int)) i = if i = 0 then (x : Int) else gi (List.replicate A.ends.length (-1 : Int)) i := fun i => setgi (by simp; omega)
    refine ⟨⟨by simp, fun i hi => ?_⟩, fun v hv => ?_⟩
    · rw [hg]
      split
      · exact .inr ⟨by omega, by omega⟩
      · left; simp [gi, List.getD, hi]
    · simp only [wkTo, List.mem_singleton] at hv
      subst hv
      rw [show (0 : Int).toNat = 0 from rfl, hg, if_pos rfl]; omega
  | k + 1, hk, F, h => by
    simp only [extK] at h
    cases hF : extK A B x k with
    | none => rw [hF] at h; cases h
    | some G =>
      rw [hF] at h
      simp only at h
      obtain ⟨i1, i2⟩ := ext_at ga gb hx k (by omega) G hF
      obtain ⟨w1, w2, w3⟩ := wk_at ga.leads ga.one (k := k) (by omega)
      have hv := wkTo_range ga.leads (v := 0) (by have := ga.one; omega) k _ (gi_in w1)
      rw [← w2] at hv
      split at h
      · rename_i hlen
        simp only [Option.some.injEq] at h
        subst h
        have hn1 : gi G (gi (wk A 0) k).toNat ≠ -1 := by rw [w2]; exact i2 _ (gi_in w1)
        have hnd : NdIn B (gi G (gi (wk A 0) k).toNat) := (i1.2 (gi (wk A 0) k).toNat (by omega)).resolve_left hn1
        have hr : ∀ i, i < (rw' A (gi (wk A 0) k)).length → 0 ≤ gn (rw' A (gi (wk A 0) k)) i ∧ gn (rw' A (gi (wk A 0) k)) i < (A.ends.length : Int) := fun i hi => ga.leads.row hv.1 hv.2 hi
        have hi : ∀ i, i < (rw' A (gi (wk A 0) k)).length → NdIn B (gn (rw' B (gi G (gi (wk A 0) k).toNat)) i) := fun i hi => gb.leads.row hnd.1 hnd.2 (by omega)
        refine ⟨extR_img i1 hr hi _ (Nat.le_refl _), fun v hv2 => ?_⟩
        rw [wkTo_go w1, ← w2] at hv2
        rcases (addTo_mem _ _ _ _).1 hv2 with hv3 | ⟨t, ht, rfl⟩
        · rw [extR_keep (i2 v hv3) _ (Nat.le_refl _) fun t ht => by have := hr t ht; have := i1.1; omega]
          exact i2 v hv3
        · exact extR_all i1 hr hi _ (Nat.le_refl _) t ht
      · cases h
def Conn (A : Net) : Prop := (wk A 0).length = A.ends.length
def ExtB (A B : Net) (x : Int) : Prop := (Good A ∧ Conn A) ∧ Good B ∧ NdIn B x ∧ ∃ F, extK A B x.toNat (wk A 0).length = some F ∧ PmOK A B F
noncomputable def extAns (A B : Net) (x : Int) : List Int := if dec (ExtB A B x) = true then (extK A B x.toNat (wk A 0).length).getD [] else []
theorem extAns_t {A B : Net} {x : Int} {F : List Int} (h : ExtB A B x) (hF : extK A B x.toNat (wk A 0).length = some F) : extAns A B x = F := by unfold extAns; rw [if_pos (dec_true h), hF]; rfl
theorem extAns_f {A B : Net} {x : Int} (h : ¬ ExtB A B x) : extAns A B x = [] := by unfold extAns; rw [if_neg (by rw [dec_false h]; simp)]
theorem extAns_len (A B : Net) (x : Int) : (extAns A B x).length ≤ 40 := by
  by_cases h : ExtB A B x
  · obtain ⟨F, hF, hp⟩ := h.2.2.2
    rw [extAns_t h hF, hp.1]
    exact h.1.1.1.2
  · rw [extAns_f h]; simp
end Go.Proofs.Ytgacbfblpkikkaa
