/- The contract of neOwn: a copy of a network in memory of its own. -/
import Derived.Test.YtndgbildkeglfaaBuild
import Derived.Deep.RegionHeld3
import Derived.Deep.RegionLaw
import Derived.Deep.CutRange
namespace Go.Proofs.Ytndgbildkeglfaa
open Go.RowKit

/-- The new network at p has copies of the identifiers and the inputs, and no rows. -/
def Mid (W0 : World) (N : Net) (p : Nat) (wx : World) : Prop :=
  ∃ x1 x2 b1 b2, W0.heap.size ≤ p ∧ Ext W0 wx ∧ wx.rowIs p 30 3 (tri (.slice none 0 0) x1 x2) ∧ OwnI wx x1 N.ids b1 ∧ OwnI wx x2 N.inputs b2 ∧ (b1 ++ b2).Nodup ∧ ∀ b ∈ b1 ++ b2, W0.heap.size ≤ b

theorem own_two {W0 w1 w2 : World} {x1 x2 : Value} {l1 l2 : List Int} {b1 b2 : List Nat} (X1 : Ext W0 w1) (F1 : Fresh W0 b1) (O1 : OwnI w1 x1 l1 b1) (h12 : Ext w1 w2) (F2 : Fresh w1 b2) (O2 : OwnI w2 x2 l2 b2) :
    OwnI w2 x1 l1 b1 ∧ OwnI w2 x2 l2 b2 ∧ (b1 ++ b2).Nodup ∧ ∀ b ∈ b1 ++ b2, W0.heap.size ≤ b := by
  have h := F1.append (w1 := w1) O1.1.lt X1.size F2
  exact ⟨O1.ext h12, O2, h.1, h.2⟩

theorem mid_alloc {W0 w1 w2 : World} {N : Net} {x1 x2 : Value} {b1 b2 : List Nat} (X2 : Ext W0 w2) (X1 : Ext W0 w1) (F1 : Fresh W0 b1) (O1 : OwnI w1 x1 N.ids b1) (h12 : Ext w1 w2) (F2 : Fresh w1 b2) (O2 : OwnI w2 x2 N.inputs b2) :
    Mid W0 N w2.heap.size (w2.alloc (.cells #[.slice none 0 0, x1, x2] 30)) := by
  obtain ⟨h1, h2, h3, h4⟩ := own_two X1 F1 O1 h12 F2 O2
  exact ⟨x1, x2, b1, b2, X2.size, X2.alloc' _, row3_made _ _ _ _ _, h1.ext ((Ext.rfl' _).alloc' _), h2.ext ((Ext.rfl' _).alloc' _), h3, h4⟩

/-- A row that is kept where three cells of another type are stored. -/
theorem own_tri {w : World} {p : Nat} {y0 y1 y2 x0 x1 x2 : Value} (R : w.rowIs p 30 3 (tri y0 y1 y2)) : ∀ (t : Nat) (bs : List Nat), t ≠ 30 → Typed w t bs →
    ∀ b ∈ bs, (((w.setCell ⟨p, 0, none⟩ x0).setCell ⟨p, 1, none⟩ x1).setCell ⟨p, 2, none⟩ x2).heap[b]? = w.heap[b]? := by
  intro t bs hne ht b hb
  obtain ⟨cur, hc⟩ := ht b hb
  obtain ⟨cr, hr⟩ := rowIs.blk R
  have hbp : b ≠ p := type_ne hc hr hne
  rw [Below.heap_setCell _ _ _ _ hbp, Below.heap_setCell _ _ _ _ hbp, Below.heap_setCell _ _ _ _ hbp]

theorem mid_store {W0 w1 w2 : World} {N : Net} {p : Nat} {y0 y1 y2 x1 x2 : Value} {b1 b2 : List Nat} (R : w2.rowIs p 30 3 (tri y0 y1 y2)) (hp : W0.heap.size ≤ p) (X2 : Ext W0 w2) (F1 : Fresh W0 b1) (X1 : Ext W0 w1) (O1 : OwnI w1 x1 N.ids b1) (h12 : Ext w1 w2) (F2 : Fresh w1 b2) (O2 : OwnI w2 x2 N.inputs b2) :
    Mid W0 N p (((w2.setCell ⟨p, 0, none⟩ (.slice none 0 0)).setCell ⟨p, 1, none⟩ x1).setCell ⟨p, 2, none⟩ x2) := by
  obtain ⟨h1, h2, h3, h4⟩ := own_two X1 F1 O1 h12 F2 O2
  exact ⟨x1, x2, b1, b2, hp, ((X2.store hp _).store hp _).store hp _, row3_set2 (row3_set1 (row3_set0 R _) _) _, h1.keep (own_tri R 3 b1 (by decide) h1.1.typed), h2.keep (own_tri R 3 b2 (by decide) h2.1.typed), h3, h4⟩

theorem Mid.ext {W0 wx : World} {N : Net} {p : Nat} (h : Mid W0 N p wx) : Ext W0 wx := by
  obtain ⟨x1, x2, b1, b2, h1, h2, _⟩ := h
  exact h2

/-- .. and the first k rows. -/
def Und (W0 : World) (N : Net) (p k : Nat) (wx : World) : Prop :=
  ∃ v x1 x2 b1 b2, W0.heap.size ≤ p ∧ Ext W0 wx ∧ wx.rowIs p 30 3 (tri v x1 x2) ∧ GrowL W0.heap.size wx v N.ends k ∧ OwnI wx x1 N.ids b1 ∧ OwnI wx x2 N.inputs b2 ∧ (b1 ++ b2).Nodup ∧ ∀ b ∈ b1 ++ b2, W0.heap.size ≤ b
theorem Mid.und {W0 wx : World} {N : Net} {p : Nat} (h : Mid W0 N p wx) : Und W0 N p 0 wx := by
  obtain ⟨x1, x2, b1, b2, h1, h2, h3, h4, h5, h6, h7⟩ := h
  exact ⟨_, x1, x2, b1, b2, h1, h2, h3, GrowL.nil _ _ _, h4, h5, h6, h7⟩

theorem OwnSS.slice {w : World} {v : Value} {l : List (List (Int × Int))} {bs : List Nat} (h : OwnSS w v l bs) : ∃ a c, v = .slice a l.length c := by
  obtain ⟨R, b0, T, h1, _⟩ := h
  exact h1.slice
theorem owns_ext {w w' : World} {B t k n : Nat} {v : Value} {xs : List Value} (h : w.ownsRow B t k v n xs) (he : Ext w w') : w'.ownsRow B t k v n xs := by
  refine ⟨h.1, ?_⟩
  rcases h.2 with ⟨rfl, hn⟩ | ⟨g, cap, cur, rfl, hb, hh, rest⟩
  · exact .inl ⟨rfl, hn⟩
  · exact .inr ⟨g, cap, cur, rfl, hb, by rw [he.block g (Array.getElem?_eq_some_iff.1 hh).1]; exact hh, rest⟩
theorem owns_slice {w : World} {B t k n : Nat} {v : Value} {xs : List Value} (h : w.ownsRow B t k v n xs) : ∃ a c, v = .slice a n c := by
  rcases h.2 with ⟨rfl, rfl⟩ | ⟨g, cap, cur, rfl, hb, hh, rest⟩
  · exact ⟨none, 0, rfl⟩
  · exact ⟨_, cap, rfl⟩
theorem row_grown {w w' : World} {B t k n t' b m : Nat} {v : Value} {xs : List Value} {f : Nat → Value} (hr : w.rowIs b t' m f) (ho : w.ownsRow B t k v n xs) (hg : w.grownBy w' v.ownBlock) (hne : t' ≠ t) : w'.rowIs b t' m f :=
  hr.of_block (kept_grown ho hg (Typed.one hr) hne b (by simp))
theorem src_one (w : World) (x : Value) (t : Nat) (h1 : x.oneCell' = true) : SrcAt (w.alloc (.cells #[x] t)) (some ⟨w.heap.size, 0, none⟩) 1 1 [x] := by
  refine ⟨rfl, by simp, fun ad e j u hu => ?_, by simpa using h1⟩
  obtain rfl := Option.some.inj e
  have hj : j = 0 := by
    rcases j with _ | j
    · rfl
    · simp at hu
  subst hj
  obtain rfl : x = u := by simpa using hu
  rw [add_plain]
  simp

theorem und_step {W0 wr w1 w2 : World} {N : Net} {p k : Nat} {y x1 x2 v' v'' : Value} {b1 b2 bs : List Nat} {R : Nat → Value} {T : Nat → List Nat}
    (hU : W0.heap.size ≤ p ∧ Ext W0 wr ∧ wr.rowIs p 30 3 (tri y x1 x2) ∧ OwnI wr x1 N.ids b1 ∧ OwnI wr x2 N.inputs b2 ∧ (b1 ++ b2).Nodup ∧ ∀ b ∈ b1 ++ b2, W0.heap.size ≤ b)
    (hG : wr.ownsRow W0.heap.size 70 1 y k ((List.range k).map R) ∧ (∀ i, i < k → OwnE wr (R i) (gr N.ends i) (T i)) ∧ ((List.range k).flatMap T).Nodup ∧ ∀ b ∈ (List.range k).flatMap T, W0.heap.size ≤ b)
    (hx1 : Ext wr w1) (ho : OwnE w1 v' (gr N.ends k) bs) (hge : ∀ b ∈ bs, wr.heap.size ≤ b) (hg : Grew (w1.alloc (.cells #[v'] 70)) w2 W0.heap.size 70 1 y v'' (k + 1) ((List.range k).map R ++ [v'])) :
    Und W0 N p (k + 1) (w2.setCell ⟨p, 0, none⟩ v'') := by
  obtain ⟨hp, e0, hrow, i1, i2, hnd, hb12⟩ := hU
  obtain ⟨g1, g2, g3, g4⟩ := hG
  have hxa : Ext wr (w1.alloc (.cells #[v'] 70)) := hx1.alloc' _
  have o1 := owns_ext g1 hxa
  have hr2 : w2.rowIs p 30 3 (tri y x1 x2) := row_grown (row_ext hrow hxa) o1 hg.2.1 (by decide)
  obtain ⟨cr, hcr⟩ := rowIs.blk hr2
  have hst : ∀ (t : Nat) (cs : List Nat), t ≠ 30 → Typed w2 t cs → ∀ b ∈ cs, (w2.setCell ⟨p, 0, none⟩ v'').heap[b]? = w2.heap[b]? := fun t cs hne ht => kept_store hcr ht hne
  have hin : ∀ {x : Value} {l : List Int} {cs : List Nat}, OwnI wr x l cs → OwnI (w2.setCell ⟨p, 0, none⟩ v'') x l cs := fun h => by
    have h2 := (h.ext hxa).keep (kept_grown o1 hg.2.1 (h.ext hxa).1.typed (by decide))
    exact h2.keep (hst 3 _ (by decide) h2.1.typed)
  have hGL : GrowL W0.heap.size w2 v'' N.ends (k + 1) := by
    refine GrowL.step o1 (fun i hi => (g2 i hi).ext hxa) g3 g4 (ho.ext ((Ext.rfl' _).alloc' _)) (fun b hb => ⟨?_, fun hb' => ?_⟩) hg
    · have := hge b hb; have := e0.size; omega
    · obtain ⟨i, hi, hbi⟩ := List.mem_flatMap.1 hb'
      have := (g2 i (List.mem_range.1 hi)).1.lt b hbi
      have := hge b hb
      omega
  have hown2 := hGL
  refine ⟨v'', x1, x2, b1, b2, hp, ?_, row3_set0 hr2 _, hGL.keepT hcr, hin i1, hin i2, hnd, hb12⟩
  refine Ext.store ?_ hp _
  exact hg.ext (e0.trans' hxa) fun b hb => (o1.lt b hb).1

set_option maxHeartbeats 1600000 in
set_option maxRecDepth 100000 in
theorem neOwn_any {w : World} {v : Value} {N : Net} (h : NetAt w v N) (hs : N.small) :
    Calls Try.prog 101 #[v] w fun e w' => ∃ v' bs, e = .returned v' ∧ Ext w w' ∧ OwnNet w' v' N bs ∧ Fresh w bs := by
  obtain ⟨v0, v1, v2, rfl, hE, hI, hP⟩ := h
  obtain ⟨s1, s2, s3, s4⟩ := hs
  have HE := Lib.hid hE
  have HI := Lib.hid hI
  have HP := Lib.hid hP
  clear hE hI hP
  go_enter Try.func101, Try.ntmps101
  go_upto_region 1 with fail
  have C1 : ((w.alloc (Obj.cells #[v0, v1, v2] 30)).alloc (Obj.cells #[Value.slice none 0 0, Value.slice none 0 0, Value.slice none 0 0] 30)).cell? ⟨w.heap.size, 1, none⟩ = some v1 := by simp
  have C2 : ((w.alloc (Obj.cells #[v0, v1, v2] 30)).alloc (Obj.cells #[Value.slice none 0 0, Value.slice none 0 0, Value.slice none 0 0] 30)).cell? ⟨w.heap.size, 2, none⟩ = some v2 := by simp
  have EW := Lib.hid (((Ext.rfl' w).alloc' (Obj.cells #[v0, v1, v2] 30)).alloc' (Obj.cells #[Value.slice none 0 0, Value.slice none 0 0, Value.slice none 0 0] 30))
  have RB : Hid (_ ∧ True) := And.intro (row_ext (boxed_row w v0 v1 v2 30) ((Ext.rfl' (boxed w v0 v1 v2 30)).alloc' (Obj.cells #[Value.slice none 0 0, Value.slice none 0 0, Value.slice none 0 0] 30))) trivial
  have RR : Hid (((w.alloc (Obj.cells #[v0, v1, v2] 30)).alloc (Obj.cells #[Value.slice none 0 0, Value.slice none 0 0, Value.slice none 0 0] 30)).rowIs (w.heap.size + 1) 30 3 (tri (.slice none 0 0) (.slice none 0 0) (.slice none 0 0)) ∧ w.heap.size + 2 ≤ ((w.alloc (Obj.cells #[v0, v1, v2] 30)).alloc (Obj.cells #[Value.slice none 0 0, Value.slice none 0 0, Value.slice none 0 0] 30)).heap.size) := And.intro (by simpa using row3_made (w.alloc (Obj.cells #[v0, v1, v2] 30)) (Value.slice none 0 0) (Value.slice none 0 0) (Value.slice none 0 0) 30) (by simp)
  generalize (w.alloc (Obj.cells #[v0, v1, v2] 30)).alloc (Obj.cells #[Value.slice none 0 0, Value.slice none 0 0, Value.slice none 0 0] 30) = W0 at *
  have mkS : ∀ w', Ext W0 w' → w'.cell? ⟨w.heap.size, 1, none⟩ = some v1 ∧ w'.cell? ⟨w.heap.size, 2, none⟩ = some v2 ∧ Hid (Ext W0 w') := fun w' h => ⟨h.cell' C1, h.cell' C2, h⟩
  go_cut [3] from 6 to 12 (fun t3 wx => ∃ p, t3 = .pointer (some ⟨p, 0, none⟩) ∧ Hid (Mid W0 N p wx))
  case first =>
    go_region_held3 (fun w' => w'.cell? ⟨w.heap.size, 1, none⟩ = some v1 ∧ w'.cell? ⟨w.heap.size, 2, none⟩ = some v2 ∧ Hid (Ext W0 w'))
      (first | exact mkS _ (Ext.rfl' W0).drew' | exact mkS _ ((Ext.rfl' W0).alloc' _).drew' | exact mkS _ (Ext.trans' (‹_ ∧ _ ∧ Hid (Ext W0 _)›).2.2.out hx) | exact mkS _ (Ext.alloc' (‹_ ∧ _ ∧ Hid (Ext W0 _)›).2.2.out _) | exact mkS _ (Ext.alloc' X2.out _) | exact mkS _ (((X2.out.store (X1.out.size) _).store (X1.out.size) _).store (X1.out.size) _) | exact mkS _ (((X2.out.store (Nat.le_refl _) _).store (Nat.le_refl _) _).store (Nat.le_refl _) _) | fail)
      (first | (go_at_call 102; (with_reducible refine (l1Own_any (HI.out.ext (EW.out.trans' (‹_ ∧ _ ∧ Hid (Ext W0 _)›).2.2.out)) s3).mono ?_); rintro e w1 ⟨a1, c1, b1, rfl, hx, ho, hf⟩; have X1 := Lib.hid (Ext.trans' (‹_ ∧ _ ∧ Hid (Ext W0 _)›).2.2.out hx); have O1 := Lib.hid ho; have F1 : Hid (Fresh W0 b1) := Fresh.of hf (‹_ ∧ _ ∧ Hid (Ext W0 _)›).2.2.out.size; try (first | (have R := Lib.hid (row_ext (Hid.out ‹Hid (World.rowIs _ _ 30 3 _)›) hx)) | (have R := Lib.hid (row_ext (row3_made _ _ _ _ _) hx)) | (have R := Lib.hid (row_ext (row_ext (row3_made W0 _ _ _ _) ((Ext.rfl' _).drew')) hx))); try (obtain ⟨p0, p1, p2, q0, q1, q2⟩ := row3_facts R.out))
             | (go_at_call 102; (with_reducible refine (l1Own_any (HP.out.ext (EW.out.trans' (‹_ ∧ _ ∧ Hid (Ext W0 _)›).2.2.out)) s4).mono ?_); rintro e w2 ⟨a2, c2, b2, rfl, hx, ho, hf⟩; have X2 := Lib.hid (Ext.trans' (‹_ ∧ _ ∧ Hid (Ext W0 _)›).2.2.out hx); have O2 := Lib.hid ho; have F2 : Hid (Fresh w1 b2) := (by first | exact hf | exact Fresh.of hf (by simp)); have H12 : Hid (Ext w1 w2) := (by first | exact hx | exact ((Ext.rfl' _).alloc' _).trans' hx); try (first | (have R := Lib.hid (row_ext (Hid.out ‹Hid (World.rowIs _ _ 30 3 _)›) hx)) | (have R := Lib.hid (row_ext (row3_made _ _ _ _ _) hx)) | (have R := Lib.hid (row_ext (row_ext (row3_made W0 _ _ _ _) ((Ext.rfl' _).drew')) hx))); try (obtain ⟨p0, p1, p2, q0, q1, q2⟩ := row3_facts R.out)) | fail)
    all_goals (try clear p0 p1 p2 q0 q1 q2)
    · go_wp2_with fail
      go_meet
      case rel => exact ⟨_, rfl, mid_alloc X2.out X1.out F1.out O1.out H12.out F2.out O2.out⟩
    · go_wp2_with fail
      go_meet
      case rel => exact ⟨_, rfl, mid_store R.out X1.out.size X2.out F1.out X1.out O1.out H12.out F2.out O2.out⟩
    · go_wp2_with fail
      go_meet
      case rel => exact ⟨_, rfl, mid_store R.out (Nat.le_refl _) X2.out F1.out X1.out O1.out H12.out F2.out O2.out⟩
  case rest =>
    obtain ⟨p, rfl, HM⟩ := hcut
    obtain ⟨bx0, bx1, bx2, _, _, _⟩ := row3_facts (row_ext RB.out.1 HM.out.ext)
    obtain ⟨a, b, o, c, rfl, ha, hl, hm, hc⟩ := HE.out
    unfold maxLen at hm
    have Hc := Lib.hid hc
    have Ha := Lib.hid ha
    obtain ⟨i0, hi, hz0, hz1, hz2⟩ := info_parts Try.info70
    obtain ⟨i1, hj, hy0, hy1, hy2⟩ := info_parts Try.info44
    have I0 := Lib.hid (And.intro hi (And.intro hz0 (And.intro hz1 hz2)))
    have I1 := Lib.hid (And.intro hj (And.intro hy0 (And.intro hy1 hy2)))
    clear hi hz0 hz1 hz2 hj hy0 hy1 hy2 hc ha
    go_wp2_with fail
    clear bx0 bx1 bx2
    go_loopg [16] N.ends.length (fun g i wr => ∃ k : Nat, k ≤ N.ends.length ∧ g = N.ends.length - k ∧ i = .int .i64 k ∧ Hid (Und W0 N p k wr))
    case atStart => exact ⟨0, Nat.zero_le _, rfl, rfl, HM.out.und⟩
    case round =>
      obtain ⟨k, hk, rfl, rfl, Hr⟩ := hrel
      by_cases hlt : k < N.ends.length
      · obtain ⟨x, hx, hrow⟩ := Hc.out k hlt
        obtain rfl := Ha.out (by omega)
        obtain ⟨y, x1, x2, b1, b2, u1, u2, u3, ⟨R, T, hG⟩, u5⟩ := Hr.out
        have HU := Lib.hid (And.intro u1 (And.intro u2 (And.intro u3 u5)))
        have HG := Lib.hid hG
        have EX : Hid (Ext w wr) := Ext.trans' EW.out u2
        have hcell := EX.out.cell' hx
        have HR := Lib.hid (hrow.ext EX.out)
        obtain ⟨ax, bx, ox, cx, rfl, hax, hlx, hmx, hcx⟩ := hrow
        unfold maxLen at hmx
        have hlen := s2 k
        obtain ⟨p0, p1, p2, q0, q1, q2⟩ := row3_facts u3
        have pa := Ext.cell' ((Ext.rfl' wr).alloc' (.cells #[] 44)) p0
        have hk30 : k ≤ 1048576 := by omega
        clear hx hG u1 u2 u3 u5 hax hcx
        go_wp2_with fail
        go_region_law (first
          | (refine step_app rfl (.tmp 22) (.tmp 23) 70 rfl wr.heap.size 44 i1 (.agg #[.int .i64 0, .int .i64 0]) 2 16 Try.underlying70 I1.out.1 I1.out.2.1 I1.out.2.2.1 I1.out.2.2.2 rfl (by decide) _ 0 [] rfl (by first | exact World.ownsRow_lit _ #[] 0 (Nat.le_refl _) (by decide) rfl | exact World.ownsRow.drew (World.ownsRow_lit wr #[] 0 (Nat.le_refl _) (by decide) rfl)) ax (gr N.ends k).length cx (endCells (gr N.ends k)) rfl (HR.out.src (fun _ _ h => Ext.cell' (by first | exact (Ext.rfl' wr).drew'.alloc' _ | exact ((Ext.rfl' wr).alloc' _).drew') h)).2 (by unfold maxLen; omega) (by omega) (by simp) ?_
             intro v' w1 hg
             have hx1 : Ext wr w1 := hg.ext (by first | exact (Ext.rfl' wr).drew'.alloc' _ | exact ((Ext.rfl' wr).alloc' _).drew') (fun b hb => by obtain rfl := Option.some.inj (show some wr.heap.size = some b from hb); exact Nat.le_refl _)
             obtain ⟨bs, ho, hnd, hge⟩ := end_own_of_row (l := gr N.ends k) (by simpa using hg.1) (fun i hi => by simpa using endCells_get _ i hi) HR.out.range
             obtain ⟨a', c', rfl⟩ := ho.1.slice
             have c1 := hx1.cell' p0
             have c2 := (hx1.alloc' (.cells #[.slice a' (gr N.ends k).length c'] 70)).cell' p0
             have HA := Lib.hid (And.intro hx1 (And.intro ho hge))
             have O1 := Lib.hid (owns_ext HG.out.1 (hx1.alloc' (.cells #[.slice a' (gr N.ends k).length c'] 70)))
             have R1 := Lib.hid (row_ext HU.out.2.2.1 (hx1.alloc' (.cells #[.slice a' (gr N.ends k).length c'] 70)))
             have Z1 := Lib.hid (Nat.le_trans HU.out.2.1.size (hx1.alloc' (.cells #[.slice a' (gr N.ends k).length c'] 70)).size)
             clear hg hx1 ho hnd hge)
          | (refine step_app rfl (.tmp 21) (.tmp 25) 28 rfl W0.heap.size 70 i0 (.slice none 0 0) 1 24 Try.underlying28 I0.out.1 I0.out.2.1 I0.out.2.2.1 I0.out.2.2.2 rfl (by decide) y k _ rfl O1.out (some ⟨w1.heap.size, 0, none⟩) 1 1 [.slice a' (gr N.ends k).length c'] rfl (src_one w1 _ 70 rfl) (by unfold maxLen; omega) (by omega) Z1.out ?_
             intro v'' w2 hg
             obtain ⟨r0, r1, r2, t0, t1, t2⟩ := row3_facts (row_grown R1.out O1.out hg.2.1 (by decide))
             obtain ⟨a2, c2, rfl⟩ := owns_slice hg.1
             have HU2 := Lib.hid (und_step HU.out HG.out HA.out.1 HA.out.2.1 HA.out.2.2 hg)
             clear hg)
          | fail)
        all_goals clear p0 p1 p2 q0 q1 q2 pa c1 r0 r1 r2 t0 t1 t2
        all_goals go_wp2
        all_goals go_roundg (N.ends.length - (k + 1))
        all_goals first | omega | exact ⟨k + 1, by omega, rfl, by go_num, HU2.out⟩
      · obtain rfl : k = N.ends.length := by omega
        obtain ⟨y, x1, x2, b1, b2, u1, u2, u3, u4, u5, u6', u7', u8'⟩ := Hr.out
        obtain ⟨bs, ho, hnd, hge⟩ := u4.done
        obtain ⟨ya, yc, rfl⟩ := ho.slice
        obtain ⟨xa, xc, rfl⟩ := u5.1.slice
        obtain ⟨za, zc, rfl⟩ := u6'.1.slice
        obtain ⟨p0, p1, p2, q0, q1, q2⟩ := row3_facts u3
        obtain ⟨p0', p1', p2', q0', q1', q2'⟩ := row3_facts (row_ext RR.out.1 u2)
        have hnet := Lib.hid (net_of_parts (W := W0) ho u5 u6' hnd u7' hge u8')
        have H2 := Lib.hid u2
        clear u1 u2 u3 u5 u6' u7' u8' ho hnd hge
        have HZ := RR.out.2
        go_wp2
        refine bodyPost_ret (v := .agg #[.slice ya N.ends.length yc, .slice xa N.ids.length xc, .slice za N.inputs.length zc]) (by simp [results, Try.results101, go_sem, p0', p1', p2']) rfl ?_
        have hst : ∀ (wx : World) (p : Addr) (u : Value), p.block < W0.heap.size → ∀ b ∈ bs ++ (b1 ++ b2), (wx.setCell p u).heap[b]? = wx.heap[b]? := fun wx p u hp b hb' => Below.heap_setCell _ _ _ _ (by have := hnet.out.2.2 b hb'; omega)
        refine ⟨_, bs ++ (b1 ++ b2), rfl, ?_, ?_, hnet.out.2.of (by omega)⟩
        · exact (((EW.out.trans' H2.out).store (by show w.heap.size ≤ w.heap.size + 1; omega) _).store (by show w.heap.size ≤ w.heap.size + 1; omega) _).store (by show w.heap.size ≤ w.heap.size + 1; omega) _
        · exact ((hnet.out.1.keep (hst _ _ _ (by show w.heap.size + 1 < _; omega))).keep (hst _ _ _ (by show w.heap.size + 1 < _; omega))).keep (hst _ _ _ (by show w.heap.size + 1 < _; omega))
end Go.Proofs.Ytndgbildkeglfaa
