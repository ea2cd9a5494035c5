/- Several texts in one: NeOwn, NeIf, CpNet, Zero, App3, Gate. -/
import Derived.Test.YtkpdbceglejbnaaKc
import Derived.Deep.RegionHeld3
import Derived.Deep.RegionLaw
import Derived.Deep.CutRange
import Derived.Test.YtkpdbceglejbnaaKb
import Derived.StillTail
/- The contract of neOwn: a copy of a network in memory of its own. -/
namespace Go.Proofs.Ytkpdbceglejbnaa
open Go.RowKit

/-- The new network at p has copies of the identifiers and the inputs, and no rows. -/
def Mid (W0 : World) (N : Net) (p : Nat) (wx : World) : Prop :=
  ∃ x1 x2 b1 b2, W0.heap.size ≤ p ∧ Ext W0 wx ∧ wx.rowIs p 34 3 (tri (.slice none 0 0) x1 x2) ∧ OwnI wx x1 N.ids b1 ∧ OwnI wx x2 N.inputs b2 ∧ (b1 ++ b2).Nodup ∧ ∀ b ∈ b1 ++ b2, W0.heap.size ≤ b

theorem own_two {W0 w1 w2 : World} {x1 x2 : Value} {l1 l2 : List Int} {b1 b2 : List Nat} (X1 : Ext W0 w1) (F1 : Fresh W0 b1) (O1 : OwnI w1 x1 l1 b1) (h12 : Ext w1 w2) (F2 : Fresh w1 b2) (O2 : OwnI w2 x2 l2 b2) :
    OwnI w2 x1 l1 b1 ∧ OwnI w2 x2 l2 b2 ∧ (b1 ++ b2).Nodup ∧ ∀ b ∈ b1 ++ b2, W0.heap.size ≤ b := by
  have h := F1.append (w1 := w1) O1.1.lt X1.size F2
  exact ⟨O1.ext h12, O2, h.1, h.2⟩

theorem mid_alloc {W0 w1 w2 : World} {N : Net} {x1 x2 : Value} {b1 b2 : List Nat} (X2 : Ext W0 w2) (X1 : Ext W0 w1) (F1 : Fresh W0 b1) (O1 : OwnI w1 x1 N.ids b1) (h12 : Ext w1 w2) (F2 : Fresh w1 b2) (O2 : OwnI w2 x2 N.inputs b2) :
    Mid W0 N w2.heap.size (w2.alloc (.cells #[.slice none 0 0, x1, x2] 34)) := by
  obtain ⟨h1, h2, h3, h4⟩ := own_two X1 F1 O1 h12 F2 O2
  exact ⟨x1, x2, b1, b2, X2.size, X2.alloc' _, row3_made _ _ _ _ _, h1.ext ((Ext.rfl' _).alloc' _), h2.ext ((Ext.rfl' _).alloc' _), h3, h4⟩

/-- A row that is kept where three cells of another type are stored. -/
theorem own_tri {w : World} {p : Nat} {y0 y1 y2 x0 x1 x2 : Value} (R : w.rowIs p 34 3 (tri y0 y1 y2)) : ∀ (t : Nat) (bs : List Nat), t ≠ 34 → Typed w t bs →
    ∀ b ∈ bs, (((w.setCell ⟨p, 0, none⟩ x0).setCell ⟨p, 1, none⟩ x1).setCell ⟨p, 2, none⟩ x2).heap[b]? = w.heap[b]? := by
  intro t bs hne ht b hb
  obtain ⟨cur, hc⟩ := ht b hb
  obtain ⟨cr, hr⟩ := rowIs.blk R
  have hbp : b ≠ p := type_ne hc hr hne
  rw [Below.heap_setCell _ _ _ _ hbp, Below.heap_setCell _ _ _ _ hbp, Below.heap_setCell _ _ _ _ hbp]

theorem mid_store {W0 w1 w2 : World} {N : Net} {p : Nat} {y0 y1 y2 x1 x2 : Value} {b1 b2 : List Nat} (R : w2.rowIs p 34 3 (tri y0 y1 y2)) (hp : W0.heap.size ≤ p) (X2 : Ext W0 w2) (F1 : Fresh W0 b1) (X1 : Ext W0 w1) (O1 : OwnI w1 x1 N.ids b1) (h12 : Ext w1 w2) (F2 : Fresh w1 b2) (O2 : OwnI w2 x2 N.inputs b2) :
    Mid W0 N p (((w2.setCell ⟨p, 0, none⟩ (.slice none 0 0)).setCell ⟨p, 1, none⟩ x1).setCell ⟨p, 2, none⟩ x2) := by
  obtain ⟨h1, h2, h3, h4⟩ := own_two X1 F1 O1 h12 F2 O2
  exact ⟨x1, x2, b1, b2, hp, ((X2.store hp _).store hp _).store hp _, row3_set2 (row3_set1 (row3_set0 R _) _) _, h1.keep (own_tri R 3 b1 (by decide) h1.1.typed), h2.keep (own_tri R 3 b2 (by decide) h2.1.typed), h3, h4⟩

theorem Mid.ext {W0 wx : World} {N : Net} {p : Nat} (h : Mid W0 N p wx) : Ext W0 wx := by
  obtain ⟨x1, x2, b1, b2, h1, h2, _⟩ := h
  exact h2

/-- .. and the first k rows. -/
def Und (W0 : World) (N : Net) (p k : Nat) (wx : World) : Prop :=
  ∃ v x1 x2 b1 b2, W0.heap.size ≤ p ∧ Ext W0 wx ∧ wx.rowIs p 34 3 (tri v x1 x2) ∧ GrowL W0.heap.size wx v N.ends k ∧ OwnI wx x1 N.ids b1 ∧ OwnI wx x2 N.inputs b2 ∧ (b1 ++ b2).Nodup ∧ ∀ b ∈ b1 ++ b2, W0.heap.size ≤ b
theorem Mid.und {W0 wx : World} {N : Net} {p : Nat} (h : Mid W0 N p wx) : Und W0 N p 0 wx := by
  obtain ⟨x1, x2, b1, b2, h1, h2, h3, h4, h5, h6, h7⟩ := h
  exact ⟨_, x1, x2, b1, b2, h1, h2, h3, GrowL.nil _ _ _, h4, h5, h6, h7⟩

theorem OwnSS.slice {w : World} {v : Value} {l : List (List (Int × Int))} {bs : List Nat} (h : OwnSS w v l bs) : ∃ a c, v = .slice a l.length c := by
  obtain ⟨R, b0, T, h1, _⟩ := h
  exact h1.slice
theorem owns_ext {w w' : World} {B t k n : Nat} {v : Value} {xs : List Value} (h : w.ownsRow B t k v n xs) (he : Ext w w') : w'.ownsRow B t k v n xs := by
  refine ⟨h.1, ?_⟩
  rcases h.2 with ⟨rfl, hn⟩ | ⟨g, cap, cur, rfl, hb, hh, rest⟩
  · exact .inl ⟨rfl, hn⟩
  · exact .inr ⟨g, cap, cur, rfl, hb, by rw [he.block g (Array.getElem?_eq_some_iff.1 hh).1]; exact hh, rest⟩
theorem owns_slice {w : World} {B t k n : Nat} {v : Value} {xs : List Value} (h : w.ownsRow B t k v n xs) : ∃ a c, v = .slice a n c := by
  rcases h.2 with ⟨rfl, rfl⟩ | ⟨g, cap, cur, rfl, hb, hh, rest⟩
  · exact ⟨none, 0, rfl⟩
  · exact ⟨_, cap, rfl⟩
theorem row_grown {w w' : World} {B t k n t' b m : Nat} {v : Value} {xs : List Value} {f : Nat → Value} (hr : w.rowIs b t' m f) (ho : w.ownsRow B t k v n xs) (hg : w.grownBy w' v.ownBlock) (hne : t' ≠ t) : w'.rowIs b t' m f :=
  hr.of_block (kept_grown ho hg (Typed.one hr) hne b (by simp))
theorem src_one (w : World) (x : Value) (t : Nat) (h1 : x.oneCell' = true) : SrcAt (w.alloc (.cells #[x] t)) (some ⟨w.heap.size, 0, none⟩) 1 1 [x] := by
  refine ⟨rfl, by simp, fun ad e j u hu => ?_, by simpa using h1⟩
  obtain rfl := Option.some.inj e
  have hj : j = 0 := by
    rcases j with _ | j
    · rfl
    · simp at hu
  subst hj
  obtain rfl : x = u := by simpa using hu
  rw [add_plain]
  simp

theorem und_step {W0 wr w1 w2 : World} {N : Net} {p k : Nat} {y x1 x2 v' v'' : Value} {b1 b2 bs : List Nat} {R : Nat → Value} {T : Nat → List Nat}
    (hU : W0.heap.size ≤ p ∧ Ext W0 wr ∧ wr.rowIs p 34 3 (tri y x1 x2) ∧ OwnI wr x1 N.ids b1 ∧ OwnI wr x2 N.inputs b2 ∧ (b1 ++ b2).Nodup ∧ ∀ b ∈ b1 ++ b2, W0.heap.size ≤ b)
    (hG : wr.ownsRow W0.heap.size 93 1 y k ((List.range k).map R) ∧ (∀ i, i < k → OwnE wr (R i) (gr N.ends i) (T i)) ∧ ((List.range k).flatMap T).Nodup ∧ ∀ b ∈ (List.range k).flatMap T, W0.heap.size ≤ b)
    (hx1 : Ext wr w1) (ho : OwnE w1 v' (gr N.ends k) bs) (hge : ∀ b ∈ bs, wr.heap.size ≤ b) (hg : Grew (w1.alloc (.cells #[v'] 93)) w2 W0.heap.size 93 1 y v'' (k + 1) ((List.range k).map R ++ [v'])) :
    Und W0 N p (k + 1) (w2.setCell ⟨p, 0, none⟩ v'') := by
  obtain ⟨hp, e0, hrow, i1, i2, hnd, hb12⟩ := hU
  obtain ⟨g1, g2, g3, g4⟩ := hG
  have hxa : Ext wr (w1.alloc (.cells #[v'] 93)) := hx1.alloc' _
  have o1 := owns_ext g1 hxa
  have hr2 : w2.rowIs p 34 3 (tri y x1 x2) := row_grown (row_ext hrow hxa) o1 hg.2.1 (by decide)
  obtain ⟨cr, hcr⟩ := rowIs.blk hr2
  have hst : ∀ (t : Nat) (cs : List Nat), t ≠ 34 → Typed w2 t cs → ∀ b ∈ cs, (w2.setCell ⟨p, 0, none⟩ v'').heap[b]? = w2.heap[b]? := fun t cs hne ht => kept_store hcr ht hne
  have hin : ∀ {x : Value} {l : List Int} {cs : List Nat}, OwnI wr x l cs → OwnI (w2.setCell ⟨p, 0, none⟩ v'') x l cs := fun h => by
    have h2 := (h.ext hxa).keep (kept_grown o1 hg.2.1 (h.ext hxa).1.typed (by decide))
    exact h2.keep (hst 3 _ (by decide) h2.1.typed)
  have hGL : GrowL W0.heap.size w2 v'' N.ends (k + 1) := by
    refine GrowL.step o1 (fun i hi => (g2 i hi).ext hxa) g3 g4 (ho.ext ((Ext.rfl' _).alloc' _)) (fun b hb => ⟨?_, fun hb' => ?_⟩) hg
    · have := hge b hb; have := e0.size; omega
    · obtain ⟨i, hi, hbi⟩ := List.mem_flatMap.1 hb'
      have := (g2 i (List.mem_range.1 hi)).1.lt b hbi
      have := hge b hb
      omega
  have hown2 := hGL
  refine ⟨v'', x1, x2, b1, b2, hp, ?_, row3_set0 hr2 _, hGL.keepT hcr, hin i1, hin i2, hnd, hb12⟩
  refine Ext.store ?_ hp _
  exact hg.ext (e0.trans' hxa) fun b hb => (o1.lt b hb).1

set_option maxHeartbeats 1600000 in
set_option maxRecDepth 100000 in
theorem neOwn_any {w : World} {v : Value} {N : Net} (h : NetAt w v N) (hs : N.small) :
    Calls Try.prog 98 #[v] w fun e w' => ∃ v' bs, e = .returned v' ∧ Ext w w' ∧ OwnNet w' v' N bs ∧ Fresh w bs := by
  obtain ⟨v0, v1, v2, rfl, hE, hI, hP⟩ := h
  obtain ⟨s1, s2, s3, s4⟩ := hs
  have HE := Lib.hid hE
  have HI := Lib.hid hI
  have HP := Lib.hid hP
  clear hE hI hP
  go_enter Try.func98, Try.ntmps98
  go_upto_region 1 with fail
  have C1 : ((w.alloc (Obj.cells #[v0, v1, v2] 34)).alloc (Obj.cells #[Value.slice none 0 0, Value.slice none 0 0, Value.slice none 0 0] 34)).cell? ⟨w.heap.size, 1, none⟩ = some v1 := by simp
  have C2 : ((w.alloc (Obj.cells #[v0, v1, v2] 34)).alloc (Obj.cells #[Value.slice none 0 0, Value.slice none 0 0, Value.slice none 0 0] 34)).cell? ⟨w.heap.size, 2, none⟩ = some v2 := by simp
  have EW := Lib.hid (((Ext.rfl' w).alloc' (Obj.cells #[v0, v1, v2] 34)).alloc' (Obj.cells #[Value.slice none 0 0, Value.slice none 0 0, Value.slice none 0 0] 34))
  have RB : Hid (_ ∧ True) := And.intro (row_ext (boxed_row w v0 v1 v2 34) ((Ext.rfl' (boxed w v0 v1 v2 34)).alloc' (Obj.cells #[Value.slice none 0 0, Value.slice none 0 0, Value.slice none 0 0] 34))) trivial
  have RR : Hid (((w.alloc (Obj.cells #[v0, v1, v2] 34)).alloc (Obj.cells #[Value.slice none 0 0, Value.slice none 0 0, Value.slice none 0 0] 34)).rowIs (w.heap.size + 1) 34 3 (tri (.slice none 0 0) (.slice none 0 0) (.slice none 0 0)) ∧ w.heap.size + 2 ≤ ((w.alloc (Obj.cells #[v0, v1, v2] 34)).alloc (Obj.cells #[Value.slice none 0 0, Value.slice none 0 0, Value.slice none 0 0] 34)).heap.size) := And.intro (by simpa using row3_made (w.alloc (Obj.cells #[v0, v1, v2] 34)) (Value.slice none 0 0) (Value.slice none 0 0) (Value.slice none 0 0) 34) (by simp)
  generalize (w.alloc (Obj.cells #[v0, v1, v2] 34)).alloc (Obj.cells #[Value.slice none 0 0, Value.slice none 0 0, Value.slice none 0 0] 34) = W0 at *
  have mkS : ∀ w', Ext W0 w' → w'.cell? ⟨w.heap.size, 1, none⟩ = some v1 ∧ w'.cell? ⟨w.heap.size, 2, none⟩ = some v2 ∧ Hid (Ext W0 w') := fun w' h => ⟨h.cell' C1, h.cell' C2, h⟩
  go_cut [3] from 6 to 12 (fun t3 wx => ∃ p, t3 = .pointer (some ⟨p, 0, none⟩) ∧ Hid (Mid W0 N p wx))
  case first =>
    go_region_held3 (fun w' => w'.cell? ⟨w.heap.size, 1, none⟩ = some v1 ∧ w'.cell? ⟨w.heap.size, 2, none⟩ = some v2 ∧ Hid (Ext W0 w'))
      (first | exact mkS _ (Ext.rfl' W0).drew' | exact mkS _ ((Ext.rfl' W0).alloc' _).drew' | exact mkS _ (Ext.trans' (‹_ ∧ _ ∧ Hid (Ext W0 _)›).2.2.out hx) | exact mkS _ (Ext.alloc' (‹_ ∧ _ ∧ Hid (Ext W0 _)›).2.2.out _) | exact mkS _ (Ext.alloc' X2.out _) | exact mkS _ (((X2.out.store (X1.out.size) _).store (X1.out.size) _).store (X1.out.size) _) | exact mkS _ (((X2.out.store (Nat.le_refl _) _).store (Nat.le_refl _) _).store (Nat.le_refl _) _) | fail)
      (first | (go_at_call 148; (with_reducible refine (l1Own_any (HI.out.ext (EW.out.trans' (‹_ ∧ _ ∧ Hid (Ext W0 _)›).2.2.out)) s3).mono ?_); rintro e w1 ⟨a1, c1, b1, rfl, hx, ho, hf⟩; have X1 := Lib.hid (Ext.trans' (‹_ ∧ _ ∧ Hid (Ext W0 _)›).2.2.out hx); have O1 := Lib.hid ho; have F1 : Hid (Fresh W0 b1) := Fresh.of hf (‹_ ∧ _ ∧ Hid (Ext W0 _)›).2.2.out.size; try (first | (have R := Lib.hid (row_ext (Hid.out ‹Hid (World.rowIs _ _ 34 3 _)›) hx)) | (have R := Lib.hid (row_ext (row3_made _ _ _ _ _) hx)) | (have R := Lib.hid (row_ext (row_ext (row3_made W0 _ _ _ _) ((Ext.rfl' _).drew')) hx))); try (obtain ⟨p0, p1, p2, q0, q1, q2⟩ := row3_facts R.out))
             | (go_at_call 148; (with_reducible refine (l1Own_any (HP.out.ext (EW.out.trans' (‹_ ∧ _ ∧ Hid (Ext W0 _)›).2.2.out)) s4).mono ?_); rintro e w2 ⟨a2, c2, b2, rfl, hx, ho, hf⟩; have X2 := Lib.hid (Ext.trans' (‹_ ∧ _ ∧ Hid (Ext W0 _)›).2.2.out hx); have O2 := Lib.hid ho; have F2 : Hid (Fresh w1 b2) := (by first | exact hf | exact Fresh.of hf (by simp)); have H12 : Hid (Ext w1 w2) := (by first | exact hx | exact ((Ext.rfl' _).alloc' _).trans' hx); try (first | (have R := Lib.hid (row_ext (Hid.out ‹Hid (World.rowIs _ _ 34 3 _)›) hx)) | (have R := Lib.hid (row_ext (row3_made _ _ _ _ _) hx)) | (have R := Lib.hid (row_ext (row_ext (row3_made W0 _ _ _ _) ((Ext.rfl' _).drew')) hx))); try (obtain ⟨p0, p1, p2, q0, q1, q2⟩ := row3_facts R.out)) | fail)
    all_goals (try clear p0 p1 p2 q0 q1 q2)
    · go_wp2_with fail
      go_meet
      case rel => exact ⟨_, rfl, mid_alloc X2.out X1.out F1.out O1.out H12.out F2.out O2.out⟩
    · go_wp2_with fail
      go_meet
      case rel => exact ⟨_, rfl, mid_store R.out X1.out.size X2.out F1.out X1.out O1.out H12.out F2.out O2.out⟩
    · go_wp2_with fail
      go_meet
      case rel => exact ⟨_, rfl, mid_store R.out (Nat.le_refl _) X2.out F1.out X1.out O1.out H12.out F2.out O2.out⟩
  case rest =>
    obtain ⟨p, rfl, HM⟩ := hcut
    obtain ⟨bx0, bx1, bx2, _, _, _⟩ := row3_facts (row_ext RB.out.1 HM.out.ext)
    obtain ⟨a, b, o, c, rfl, ha, hl, hm, hc⟩ := HE.out
    unfold maxLen at hm
    have Hc := Lib.hid hc
    have Ha := Lib.hid ha
    obtain ⟨i0, hi, hz0, hz1, hz2⟩ := info_parts Try.info70
    obtain ⟨i1, hj, hy0, hy1, hy2⟩ := info_parts Try.info44
    have I0 := Lib.hid (And.intro hi (And.intro hz0 (And.intro hz1 hz2)))
    have I1 := Lib.hid (And.intro hj (And.intro hy0 (And.intro hy1 hy2)))
    clear hi hz0 hz1 hz2 hj hy0 hy1 hy2 hc ha
    go_wp2_with fail
    clear bx0 bx1 bx2
    go_loopg [16] N.ends.length (fun g i wr => ∃ k : Nat, k ≤ N.ends.length ∧ g = N.ends.length - k ∧ i = .int .i64 k ∧ Hid (Und W0 N p k wr))
    case atStart => exact ⟨0, Nat.zero_le _, rfl, rfl, HM.out.und⟩
    case round =>
      obtain ⟨k, hk, rfl, rfl, Hr⟩ := hrel
      by_cases hlt : k < N.ends.length
      · obtain ⟨x, hx, hrow⟩ := Hc.out k hlt
        obtain rfl := Ha.out (by omega)
        obtain ⟨y, x1, x2, b1, b2, u1, u2, u3, ⟨R, T, hG⟩, u5⟩ := Hr.out
        have HU := Lib.hid (And.intro u1 (And.intro u2 (And.intro u3 u5)))
        have HG := Lib.hid hG
        have EX : Hid (Ext w wr) := Ext.trans' EW.out u2
        have hcell := EX.out.cell' hx
        have HR := Lib.hid (hrow.ext EX.out)
        obtain ⟨ax, bx, ox, cx, rfl, hax, hlx, hmx, hcx⟩ := hrow
        unfold maxLen at hmx
        have hlen := s2 k
        obtain ⟨p0, p1, p2, q0, q1, q2⟩ := row3_facts u3
        have pa := Ext.cell' ((Ext.rfl' wr).alloc' (.cells #[] 95)) p0
        have hk30 : k ≤ 1048576 := by omega
        clear hx hG u1 u2 u3 u5 hax hcx
        go_wp2_with fail
        go_region_law (first
          | (refine step_app rfl (.tmp 22) (.tmp 23) 93 rfl wr.heap.size 95 i1 (.agg #[.int .i64 0, .int .i64 0]) 2 16 Try.underlying93 I1.out.1 I1.out.2.1 I1.out.2.2.1 I1.out.2.2.2 rfl (by decide) _ 0 [] rfl (by first | exact World.ownsRow_lit _ #[] 0 (Nat.le_refl _) (by decide) rfl | exact World.ownsRow.drew (World.ownsRow_lit wr #[] 0 (Nat.le_refl _) (by decide) rfl)) ax (gr N.ends k).length cx (endCells (gr N.ends k)) rfl (HR.out.src (fun _ _ h => Ext.cell' (by first | exact (Ext.rfl' wr).drew'.alloc' _ | exact ((Ext.rfl' wr).alloc' _).drew') h)).2 (by unfold maxLen; omega) (by omega) (by simp) ?_
             intro v' w1 hg
             have hx1 : Ext wr w1 := hg.ext (by first | exact (Ext.rfl' wr).drew'.alloc' _ | exact ((Ext.rfl' wr).alloc' _).drew') (fun b hb => by obtain rfl := Option.some.inj (show some wr.heap.size = some b from hb); exact Nat.le_refl _)
             obtain ⟨bs, ho, hnd, hge⟩ := end_own_of_row (l := gr N.ends k) (by simpa using hg.1) (fun i hi => by simpa using endCells_get _ i hi) HR.out.range
             obtain ⟨a', c', rfl⟩ := ho.1.slice
             have c1 := hx1.cell' p0
             have c2 := (hx1.alloc' (.cells #[.slice a' (gr N.ends k).length c'] 93)).cell' p0
             have HA := Lib.hid (And.intro hx1 (And.intro ho hge))
             have O1 := Lib.hid (owns_ext HG.out.1 (hx1.alloc' (.cells #[.slice a' (gr N.ends k).length c'] 93)))
             have R1 := Lib.hid (row_ext HU.out.2.2.1 (hx1.alloc' (.cells #[.slice a' (gr N.ends k).length c'] 93)))
             have Z1 := Lib.hid (Nat.le_trans HU.out.2.1.size (hx1.alloc' (.cells #[.slice a' (gr N.ends k).length c'] 93)).size)
             clear hg hx1 ho hnd hge)
          | (refine step_app rfl (.tmp 21) (.tmp 25) 32 rfl W0.heap.size 93 i0 (.slice none 0 0) 1 24 Try.underlying32 I0.out.1 I0.out.2.1 I0.out.2.2.1 I0.out.2.2.2 rfl (by decide) y k _ rfl O1.out (some ⟨w1.heap.size, 0, none⟩) 1 1 [.slice a' (gr N.ends k).length c'] rfl (src_one w1 _ 93 rfl) (by unfold maxLen; omega) (by omega) Z1.out ?_
             intro v'' w2 hg
             obtain ⟨r0, r1, r2, t0, t1, t2⟩ := row3_facts (row_grown R1.out O1.out hg.2.1 (by decide))
             obtain ⟨a2, c2, rfl⟩ := owns_slice hg.1
             have HU2 := Lib.hid (und_step HU.out HG.out HA.out.1 HA.out.2.1 HA.out.2.2 hg)
             clear hg)
          | fail)
        all_goals clear p0 p1 p2 q0 q1 q2 pa c1 r0 r1 r2 t0 t1 t2
        all_goals go_wp2
        all_goals go_roundg (N.ends.length - (k + 1))
        all_goals first | omega | exact ⟨k + 1, by omega, rfl, by go_num, HU2.out⟩
      · obtain rfl : k = N.ends.length := by omega
        obtain ⟨y, x1, x2, b1, b2, u1, u2, u3, u4, u5, u6', u7', u8'⟩ := Hr.out
        obtain ⟨bs, ho, hnd, hge⟩ := u4.done
        obtain ⟨ya, yc, rfl⟩ := ho.slice
        obtain ⟨xa, xc, rfl⟩ := u5.1.slice
        obtain ⟨za, zc, rfl⟩ := u6'.1.slice
        obtain ⟨p0, p1, p2, q0, q1, q2⟩ := row3_facts u3
        obtain ⟨p0', p1', p2', q0', q1', q2'⟩ := row3_facts (row_ext RR.out.1 u2)
        have hnet := Lib.hid (net_of_parts (W := W0) ho u5 u6' hnd u7' hge u8')
        have H2 := Lib.hid u2
        clear u1 u2 u3 u5 u6' u7' u8' ho hnd hge
        have HZ := RR.out.2
        go_wp2
        refine bodyPost_ret (v := .agg #[.slice ya N.ends.length yc, .slice xa N.ids.length xc, .slice za N.inputs.length zc]) (by simp [results, Try.results98, go_sem, p0', p1', p2']) rfl ?_
        have hst : ∀ (wx : World) (p : Addr) (u : Value), p.block < W0.heap.size → ∀ b ∈ bs ++ (b1 ++ b2), (wx.setCell p u).heap[b]? = wx.heap[b]? := fun wx p u hp b hb' => Below.heap_setCell _ _ _ _ (by have := hnet.out.2.2 b hb'; omega)
        refine ⟨_, bs ++ (b1 ++ b2), rfl, ?_, ?_, hnet.out.2.of (by omega)⟩
        · exact (((EW.out.trans' H2.out).store (by show w.heap.size ≤ w.heap.size + 1; omega) _).store (by show w.heap.size ≤ w.heap.size + 1; omega) _).store (by show w.heap.size ≤ w.heap.size + 1; omega) _
        · exact ((hnet.out.1.keep (hst _ _ _ (by show w.heap.size + 1 < _; omega))).keep (hst _ _ _ (by show w.heap.size + 1 < _; omega))).keep (hst _ _ _ (by show w.heap.size + 1 < _; omega))
end Go.Proofs.Ytkpdbceglejbnaa

/- The contracts of neIf and networkOrNone: the network itself where it is one, else none. -/
namespace Go.Proofs.Ytkpdbceglejbnaa
open Go.RowKit

def znet : Value := .agg #[.slice none 0 0, .slice none 0 0, .slice none 0 0]
def zeroNet : Net := ⟨[], [], []⟩

theorem NetAt.form {w : World} {v : Value} {N : Net} (h : NetAt w v N) : ∃ a0 c0 a1 c1 a2 c2, v = .agg #[.slice a0 N.ends.length c0, .slice a1 N.ids.length c1, .slice a2 N.inputs.length c2] := by
  obtain ⟨v0, v1, v2, rfl, hE, hI, hP⟩ := h
  obtain ⟨a0, _, _, c0, rfl, _⟩ := hE
  obtain ⟨a1, _, _, c1, rfl, _⟩ := hI
  obtain ⟨a2, _, _, c2, rfl, _⟩ := hP
  exact ⟨a0, c0, a1, c1, a2, c2, rfl⟩

theorem boxed2_ext (w : World) (v0 v1 v2 : Value) : Ext w ((boxed w v0 v1 v2 34).alloc (.cells #[.slice none 0 0, .slice none 0 0, .slice none 0 0] 34)) := (boxed_ext w v0 v1 v2 34).alloc' _
theorem boxed2_row (w : World) (v0 v1 v2 : Value) : ((boxed w v0 v1 v2 34).alloc (.cells #[.slice none 0 0, .slice none 0 0, .slice none 0 0] 34)).rowIs w.heap.size 34 3 (tri v0 v1 v2) := row_ext (boxed_row w v0 v1 v2 34) ((Ext.rfl' _).alloc' _)
theorem boxed2_res (w : World) (v0 v1 v2 : Value) : ((boxed w v0 v1 v2 34).alloc (.cells #[.slice none 0 0, .slice none 0 0, .slice none 0 0] 34)).rowIs (w.heap.size + 1) 34 3 (tri (.slice none 0 0) (.slice none 0 0) (.slice none 0 0)) := by
  simpa using row3_made (boxed w v0 v1 v2 34) (.slice none 0 0) (.slice none 0 0) (.slice none 0 0) 34

theorem store3_ext {w wx : World} (h : Ext w wx) {p : Nat} (hp : w.heap.size ≤ p) (a b c : Value) : Ext w (((wx.setCell ⟨p, 0, none⟩ a).setCell ⟨p, 1, none⟩ b).setCell ⟨p, 2, none⟩ c) :=
  ((h.store hp _).store hp _).store hp _

set_option maxHeartbeats 1600000 in
set_option maxRecDepth 100000 in
theorem networkOrNone_t {w : World} {v : Value} {N : Net} (h : NetAt w v N) (hg : Good N) :
    Calls Try.prog 143 #[v] w fun e w' => e = .returned (.tuple #[v, .bool true]) ∧ Ext w w' := by
  have HN := Lib.hid h
  obtain ⟨a0, c0, a1, c1, a2, c2, rfl⟩ := h.form
  have HX := Lib.hid (boxed2_ext w (.slice a0 N.ends.length c0) (.slice a1 N.ids.length c1) (.slice a2 N.inputs.length c2))
  have HR := Lib.hid (boxed2_row w (.slice a0 N.ends.length c0) (.slice a1 N.ids.length c1) (.slice a2 N.inputs.length c2))
  have HQ := Lib.hid (boxed2_res w (.slice a0 N.ends.length c0) (.slice a1 N.ids.length c1) (.slice a2 N.inputs.length c2))
  have G := Lib.hid (dec_true hg)
  clear h hg
  go_enter Try.func143, Try.ntmps143
  go_wp2_with (first | (go_at_call 73; (with_reducible refine (isNetwork_any (HN.out.ext HX.out)).mono ?_); rintro e w1 ⟨rfl, hw⟩; rw [G.out]; have K1 := Lib.hid (HX.out.trans' hw); obtain ⟨p0, p1, p2, _, _, _⟩ := row3_facts (row_ext HR.out hw); obtain ⟨q0, q1, q2, t0, t1, t2⟩ := row3_facts (row_ext HQ.out hw); clear hw))
  refine bodyPost_ret (v := .tuple #[.agg #[.slice a0 N.ends.length c0, .slice a1 N.ids.length c1, .slice a2 N.inputs.length c2], .bool true]) (by simp [results, Try.results143, go_sem, q0, q1, q2]) rfl ⟨rfl, ?_⟩
  exact store3_ext K1.out (by omega) _ _ _

set_option maxHeartbeats 1600000 in
set_option maxRecDepth 100000 in
theorem networkOrNone_f {w : World} {v : Value} {N : Net} (h : NetAt w v N) (hg : ¬ Good N) :
    Calls Try.prog 143 #[v] w fun e w' => e = .returned (.tuple #[znet, .bool false]) ∧ Ext w w' := by
  have HN := Lib.hid h
  obtain ⟨a0, c0, a1, c1, a2, c2, rfl⟩ := h.form
  have HX := Lib.hid (boxed2_ext w (.slice a0 N.ends.length c0) (.slice a1 N.ids.length c1) (.slice a2 N.inputs.length c2))
  have HQ := Lib.hid (boxed2_res w (.slice a0 N.ends.length c0) (.slice a1 N.ids.length c1) (.slice a2 N.inputs.length c2))
  have G := Lib.hid (dec_false hg)
  clear h hg
  go_enter Try.func143, Try.ntmps143
  go_wp2_with (first | (go_at_call 73; (with_reducible refine (isNetwork_any (HN.out.ext HX.out)).mono ?_); rintro e w1 ⟨rfl, hw⟩; rw [G.out]; have K1 := Lib.hid (HX.out.trans' hw); obtain ⟨q0, q1, q2, t0, t1, t2⟩ := row3_facts (row_ext HQ.out hw); clear hw))
  refine bodyPost_ret (v := .tuple #[znet, .bool false]) (by simp [results, Try.results143, go_sem, q0, q1, q2, znet]) rfl ⟨rfl, ?_⟩
  exact store3_ext K1.out (by omega) _ _ _
end Go.Proofs.Ytkpdbceglejbnaa

/- The contract of copyNetwork. -/
namespace Go.Proofs.Ytkpdbceglejbnaa
open Go.RowKit

def nilS : Value := .slice none 0 0
/-- The outer row of the copy lies in block w.heap.size + 2, the copy in the next one; k rows are copied. -/
def CpInv (w : World) (N : Net) (v0 v1 v2 : Value) (k : Nat) (wr : World) : Prop :=
  Ext w wr ∧ w.heap.size + 4 ≤ wr.heap.size ∧ wr.rowIs w.heap.size 34 3 (tri v0 v1 v2) ∧ wr.rowIs (w.heap.size + 1) 34 3 (tri (.slice none 0 0) (.slice none 0 0) (.slice none 0 0)) ∧
  wr.rowIs (w.heap.size + 3) 34 3 (tri (.slice (some ⟨w.heap.size + 2, 0, none⟩) N.ends.length N.ends.length) (.slice none 0 0) (.slice none 0 0)) ∧
  ∃ (R : Nat → Value) (T : Nat → List Nat), wr.rowIs (w.heap.size + 2) 93 N.ends.length (fun i => if i < k then R i else .slice none 0 0) ∧ (∀ i, i < k → OwnE wr (R i) (gr N.ends i) (T i)) ∧ ((List.range k).flatMap T).Nodup ∧ ∀ b ∈ (List.range k).flatMap T, w.heap.size + 4 ≤ b

theorem cp_start (w : World) (N : Net) (v0 v1 v2 : Value) :
    CpInv w N v0 v1 v2 0 ((((boxed w v0 v1 v2 34).alloc (.cells #[.slice none 0 0, .slice none 0 0, .slice none 0 0] 34)).alloc (.cells (madeCells #[.slice none 0 0] N.ends.length) 93)).alloc (.cells #[.slice (some ⟨w.heap.size + 2, 0, none⟩) N.ends.length N.ends.length, .slice none 0 0, .slice none 0 0] 34)) := by
  refine ⟨((boxed2_ext w v0 v1 v2).alloc' _).alloc' _, by simp, ((boxed2_row w v0 v1 v2).alloc _).alloc _, ((boxed2_res w v0 v1 v2).alloc _).alloc _, ?_, fun _ => .slice none 0 0, fun _ => [], ?_, fun i hi => absurd hi (by omega), by simp, by simp⟩
  · simpa using row3_made (((boxed w v0 v1 v2 34).alloc (.cells #[.slice none 0 0, .slice none 0 0, .slice none 0 0] 34)).alloc (.cells (madeCells #[.slice none 0 0] N.ends.length) 93)) (.slice (some ⟨w.heap.size + 2, 0, none⟩) N.ends.length N.ends.length) (.slice none 0 0) (.slice none 0 0) 34
  · have h := World.rowIs_made ((boxed w v0 v1 v2 34).alloc (.cells #[.slice none 0 0, .slice none 0 0, .slice none 0 0] 34)) (.slice none 0 0) N.ends.length 93
    exact (show _ by simpa using h.alloc _ : World.rowIs _ (w.heap.size + 2) 93 N.ends.length (fun _ => .slice none 0 0)).congr fun i _ => by simp

theorem cp_step {w wr w1 : World} {N : Net} {v0 v1 v2 x : Value} {k : Nat} {bs : List Nat} (h : CpInv w N v0 v1 v2 k wr) (hx : Ext wr w1) (ho : OwnE w1 x (gr N.ends k) bs) (hge : ∀ b ∈ bs, wr.heap.size ≤ b) :
    CpInv w N v0 v1 v2 (k + 1) (w1.setCell ⟨w.heap.size + 2, k, none⟩ x) := by
  obtain ⟨he, hsz, h0, h1, h3, R, T, hrow, hown, hnd, hb⟩ := h
  have hne : ∀ b, b ≠ w.heap.size + 2 → (w1.setCell ⟨w.heap.size + 2, k, none⟩ x).heap[b]? = w1.heap[b]? := fun b hb => Below.heap_setCell _ _ _ _ hb
  have hsz1 := hx.size
  refine ⟨(he.trans' hx).store (by show w.heap.size ≤ w.heap.size + 2; omega) _, by simp; omega, (row_ext h0 hx).of_block (hne _ (by omega)), (row_ext h1 hx).of_block (hne _ (by omega)), (row_ext h3 hx).of_block (hne _ (by omega)),
    fun i => if i = k then x else R i, fun i => if i = k then bs else T i, ((row_ext hrow hx).set k x).congr fun i hi => ?_, fun i hi => ?_, ?_⟩
  · by_cases e : i = k
    · subst e; simp
    · rw [if_neg e]
      simp only [if_neg e]
      by_cases hlt : i < k
      · rw [if_pos hlt, if_pos (by omega)]
      · rw [if_neg hlt, if_neg (by omega)]
  · by_cases e : i = k
    · subst e
      simp only [if_true]
      exact ho.keep fun b hb => hne b (by have := hge b hb; omega)
    · simp only [if_neg e]
      exact ((hown i (by omega)).ext hx).keep fun b hb' => hne b (by have := hb b (List.mem_flatMap.2 ⟨i, List.mem_range.2 (by omega), hb'⟩); omega)
  · have hcong : (List.range k).flatMap (fun i => if i = k then bs else T i) = (List.range k).flatMap T := by
      rw [List.flatMap_def, List.flatMap_def]
      congr 1
      exact List.map_congr_left fun i hi => if_neg (by have := List.mem_range.1 hi; omega)
    have hfl : (List.range (k + 1)).flatMap (fun i => if i = k then bs else T i) = (List.range k).flatMap T ++ bs := by
      rw [List.range_succ, List.flatMap_append, hcong]
      simp
    rw [hfl]
    refine ⟨List.nodup_append.2 ⟨hnd, ho.1.nodup, fun a ha b hb' e => ?_⟩, fun b hb' => ?_⟩
    · subst e
      obtain ⟨i, hi, hbi⟩ := List.mem_flatMap.1 ha
      have := (hown i (List.mem_range.1 hi)).1.lt a hbi
      have := hge a hb'
      omega
    · rcases List.mem_append.1 hb' with hb' | hb'
      · exact hb b hb'
      · have := hge b hb'; omega

theorem cp_done {w wr : World} {N : Net} {v0 v1 v2 : Value} (h : CpInv w N v0 v1 v2 N.ends.length wr) (hs : N.ends.length ≤ 1048576) :
    ∃ bs, OwnSS wr (.slice (some ⟨w.heap.size + 2, 0, none⟩) N.ends.length N.ends.length) N.ends bs ∧ bs.Nodup ∧ ∀ b ∈ bs, b = w.heap.size + 2 ∨ w.heap.size + 4 ≤ b := by
  obtain ⟨he, hsz, h0, h1, h3, R, T, hrow, hown, hnd, hb⟩ := h
  refine ⟨[w.heap.size + 2] ++ (List.range N.ends.length).flatMap T, ⟨R, [w.heap.size + 2], T, ⟨N.ends.length, Nat.le_refl _, small_max hs, .inr ⟨_, N.ends.length, _, rfl, rfl, by omega, hrow, fun i hi => by simp; intro h; omega⟩⟩, hown, rfl⟩, ?_, ?_⟩
  · refine List.nodup_append.2 ⟨by simp, hnd, fun a ha b hb' e => ?_⟩
    obtain rfl := List.mem_singleton.1 ha
    subst e
    have := hb _ hb'
    omega
  · intro b hb'
    rcases List.mem_append.1 hb' with hb' | hb'
    · exact .inl (List.mem_singleton.1 hb')
    · exact .inr (hb b hb')

theorem app_nil_own {w w' : World} {B : Nat} {v' : Value} {l : List Int} (hg : Grew w w' B 3 1 (.slice none 0 0) v' l.length (intCells l)) (hr : ∀ i, i < l.length → inI64 (gi l i)) (hB : w.heap.size = B) :
    Ext w w' ∧ ∃ bs, OwnI w' v' l bs ∧ Fresh w bs := by
  subst hB
  have hx : Ext w w' := hg.ext (Ext.rfl' w) (fun b hb => by simp [Value.ownBlock] at hb)
  obtain ⟨bs, ho, hnd, hge⟩ := own_of_cells hg.1 hr
  exact ⟨hx, bs, ho, hnd, hge⟩
theorem R3size {w : World} {b t n : Nat} {f : Nat → Value} (h : w.rowIs (b + 3) t n f) : b + 4 ≤ w.heap.size := h.lt

set_option maxHeartbeats 1600000 in
set_option maxRecDepth 100000 in
theorem copyNetwork_any {w : World} {v : Value} {N : Net} (h : NetAt w v N) (hs : N.small) :
    Calls Try.prog 152 #[v] w fun e w' => ∃ v' bs, e = .returned v' ∧ Ext w w' ∧ OwnNet w' v' N bs ∧ Fresh w bs := by
  obtain ⟨v0, v1, v2, rfl, hE, hI, hP⟩ := h
  obtain ⟨s1, s2, s3, s4⟩ := hs
  have HI := Lib.hid hI
  have HP := Lib.hid hP
  have HIr := Lib.hid hI.range
  have HPr := Lib.hid hP.range
  obtain ⟨a1, _, _, c1, rfl, _, _, hm1, _⟩ := hI
  obtain ⟨a2, _, _, c2, rfl, _, _, hm2, _⟩ := hP
  obtain ⟨a, b, o, c, rfl, ha, hl, hm, hc⟩ := hE
  unfold maxLen at hm
  have Hc := Lib.hid hc
  have Ha := Lib.hid ha
  obtain ⟨i0, hi, hz0, hz1, hz2⟩ := info_parts Try.info3
  obtain ⟨i1, hj, hy0, hy1, hy2⟩ := info_parts Try.info44
  have I0 := Lib.hid (And.intro hi (And.intro hz0 (And.intro hz1 hz2)))
  have I1 := Lib.hid (And.intro hj (And.intro hy0 (And.intro hy1 hy2)))
  clear hi hz0 hz1 hz2 hj hy0 hy1 hy2 hc ha
  have CS := Lib.hid (cp_start w N (.slice a N.ends.length c) (.slice a1 N.ids.length c1) (.slice a2 N.inputs.length c2))
  have hmk := run_make_row' (P := Try.prog) 32 93 (.slice none 0 0) 24 Try.underlying32 Try.info70 rfl .i64 .i64 N.ends.length (by omega) (by omega)
  go_enter Try.func152, Try.ntmps152
  go_wp2_with fail
  clear hmk
  go_loopg [14] N.ends.length (fun g i wr => ∃ k : Nat, k ≤ N.ends.length ∧ g = N.ends.length - k ∧ i = .int .i64 k ∧ Hid (CpInv w N (.slice a N.ends.length c) (.slice a1 N.ids.length c1) (.slice a2 N.inputs.length c2) k wr))
  case atStart => exact ⟨0, Nat.zero_le _, rfl, rfl, CS.out⟩
  case round =>
    obtain ⟨k, hk, rfl, rfl, Hr⟩ := hrel
    by_cases hlt : k < N.ends.length
    · obtain ⟨x, hx, hrow⟩ := Hc.out k hlt
      obtain rfl := Ha.out (by omega)
      have hcell := Hr.out.1.cell' hx
      have HR := Lib.hid (hrow.ext Hr.out.1)
      obtain ⟨ax, bx, ox, cx, rfl, hax, hlx, hmx, hcx⟩ := hrow
      unfold maxLen at hmx
      have hlen := s2 k
      obtain ⟨p0, p1, p2, q0, q1, q2⟩ := row3_facts Hr.out.2.2.2.2.1
      obtain ⟨R, T, hrow, _⟩ := Hr.out.2.2.2.2.2
      have f1 := hrow.cell hlt
      have f2 := hrow.frozen k
      have HO := Lib.hid hrow
      clear hx hrow hax hcx
      go_wp2_with fail
      go_region_law (first
        | (refine step_app rfl (.const (.slice none 0 0)) (.tmp 22) 93 rfl wr.heap.size 95 i1 (.agg #[.int .i64 0, .int .i64 0]) 2 16 Try.underlying93 I1.out.1 I1.out.2.1 I1.out.2.2.1 I1.out.2.2.2 rfl (by decide) (.slice none 0 0) 0 [] rfl (World.ownsRow_nil _ _ _ _) ax (gr N.ends k).length cx (endCells (gr N.ends k)) rfl (HR.out.src (fun _ _ h => Ext.cell' (Ext.rfl' wr).drew' h)).2 (by unfold maxLen; omega) (by omega) (by simp) ?_
           intro v' w1 hg
           have hx1 : Ext wr w1 := hg.ext (Ext.rfl' wr).drew' (fun b hb => by simp [Value.ownBlock] at hb)
           obtain ⟨bs, ho, hnd, hge⟩ := end_own_of_row (l := gr N.ends k) (by simpa using hg.1) (fun i hi => by simpa using endCells_get _ i hi) HR.out.range
           obtain ⟨a', c', rfl⟩ := ho.1.slice
           have c0 := hx1.cell' p0
           obtain ⟨f3, f4⟩ := And.intro ((row_ext HO.out hx1).cell hlt) ((row_ext HO.out hx1).frozen k)
           have HA := Lib.hid (cp_step Hr.out hx1 ho hge)
           clear hg hx1 ho hnd hge)
        | fail)
      all_goals clear p0 p1 p2 q0 q1 q2 c0 f1 f2 f3 f4
      all_goals go_wp2
      all_goals go_roundg (N.ends.length - (k + 1))
      all_goals first | omega | exact ⟨k + 1, by omega, rfl, by go_num, HA.out⟩
    · obtain rfl : k = N.ends.length := by omega
      obtain ⟨bs, ho, hnd, hge⟩ := cp_done Hr.out s1
      have HB := Lib.hid (And.intro ho (And.intro hnd hge))
      obtain ⟨u1, u2, u3, u4, u5, _⟩ := Hr.out
      have HU := Lib.hid (And.intro u1 (And.intro u2 (And.intro u3 (And.intro u4 u5))))
      obtain ⟨p0, p1, p2, q0, q1, q2⟩ := row3_facts u3
      obtain ⟨r0, r1, r2, t0, t1, t2⟩ := row3_facts u5
      clear u1 u2 u3 u4 u5 ho hnd hge
      go_wp2_with (at_builtin; refine wpList_app rfl (.const (.slice none 0 0)) _ 26 rfl wr.heap.size 3 i0 (.int .i64 0) 1 8 Try.underlying26 I0.out.1 I0.out.2.1 I0.out.2.2.1 I0.out.2.2.2 rfl (by decide) (.slice none 0 0) 0 [] rfl (World.ownsRow_nil _ _ _ _) a1 N.ids.length c1 (intCells N.ids) rfl (((HI.out.ext HU.out.1).src fun p v hp => hp).2) (by unfold maxLen; omega) (by omega) (Nat.le_refl _) ?_)
      intro v' w1 hg
      obtain ⟨hx1, b1, ho1, hf1⟩ := app_nil_own hg HIr.out rfl
      clear hg p0 p1 p2 q0 q1 q2 r0 r1 r2 t0 t1 t2
      obtain ⟨x1, y1, rfl⟩ := ho1.1.slice
      have EX1 : Hid (Ext w (w1.setCell ⟨w.heap.size + 1 + 1 + 1, 1, none⟩ (.slice x1 N.ids.length y1))) := (HU.out.1.trans' hx1).store (by show w.heap.size ≤ w.heap.size + 1 + 1 + 1; omega) _
      have hst1 : ∀ b, b ≠ w.heap.size + 3 → (w1.setCell ⟨w.heap.size + 1 + 1 + 1, 1, none⟩ (.slice x1 N.ids.length y1)).heap[b]? = w1.heap[b]? := fun b hb => Below.heap_setCell _ _ _ _ hb
      obtain ⟨q0, q1, q2, t0, t1, t2⟩ := row3_facts (row_ext HU.out.2.2.2.2 hx1)
      have R3 := Lib.hid (row3_set1 (row_ext HU.out.2.2.2.2 hx1) (.slice x1 N.ids.length y1))
      have R1 := Lib.hid ((row_ext HU.out.2.2.2.1 hx1).of_block (hst1 _ (by omega)))
      obtain ⟨p0, p1, p2, _, _, _⟩ := row3_facts ((row_ext HU.out.2.2.1 hx1).of_block (hst1 _ (by omega)))
      have hz1 := HU.out.2.1
      have H1 := Lib.hid (show OwnSS (w1.setCell ⟨w.heap.size + 1 + 1 + 1, 1, none⟩ (.slice x1 N.ids.length y1)) _ N.ends bs ∧ OwnI (w1.setCell ⟨w.heap.size + 1 + 1 + 1, 1, none⟩ (.slice x1 N.ids.length y1)) (.slice x1 N.ids.length y1) N.ids b1 ∧ (∀ b ∈ b1, w.heap.size + 4 ≤ b) ∧ b1.Nodup from
        ⟨(HB.out.1.ext hx1).keep fun b hb => hst1 b (by have := HB.out.2.2 b hb; omega), ho1.keep fun b hb => hst1 b (by have := hf1.2 b hb; omega), fun b hb => by have := hf1.2 b hb; omega, hf1.1⟩)
      clear hx1 ho1 hf1 hst1
      go_wp2_with (at_builtin; refine wpList_app rfl (.const (.slice none 0 0)) _ 26 rfl _ 3 i0 (.int .i64 0) 1 8 Try.underlying26 I0.out.1 I0.out.2.1 I0.out.2.2.1 I0.out.2.2.2 rfl (by decide) (.slice none 0 0) 0 [] rfl (World.ownsRow_nil _ _ _ _) a2 N.inputs.length c2 (intCells N.inputs) rfl (((HP.out.ext EX1.out).src fun p v hp => hp).2) (by unfold maxLen; omega) (by omega) (Nat.le_refl _) ?_)
      intro v' w2 hg
      obtain ⟨hx2, b2, ho2, hf2⟩ := app_nil_own hg HPr.out (by simp)
      clear hg p0 p1 p2 q0 q1 q2 t0 t1 t2
      obtain ⟨x2, y2, rfl⟩ := ho2.1.slice
      have hst2 : ∀ b, b ≠ w.heap.size + 3 → (w2.setCell ⟨w.heap.size + 1 + 1 + 1, 2, none⟩ (.slice x2 N.inputs.length y2)).heap[b]? = w2.heap[b]? := fun b hb => Below.heap_setCell _ _ _ _ hb
      obtain ⟨q0, q1, q2, t0, t1, t2⟩ := row3_facts (row_ext R3.out hx2)
      obtain ⟨p0, p1, p2, u0, u1, u2⟩ := row3_facts ((row_ext R1.out hx2).of_block (hst2 _ (by omega)))
      have hn := H1.out.1
      have hnet : Hid (OwnNet (w2.setCell ⟨w.heap.size + 1 + 1 + 1, 2, none⟩ (.slice x2 N.inputs.length y2)) (.agg #[.slice (some ⟨w.heap.size + 2, 0, none⟩) N.ends.length N.ends.length, .slice x1 N.ids.length y1, .slice x2 N.inputs.length y2]) N (bs ++ (b1 ++ b2)) ∧ Fresh w (bs ++ (b1 ++ b2)) ∧ (∀ b ∈ bs ++ (b1 ++ b2), b ≠ w.heap.size + 1)) := by
        have g2 : ∀ b ∈ b2, w.heap.size + 4 ≤ b := fun b hb => by have := hf2.2 b hb; simp at this; have := H1.out.2.1.1; have := HU.out.2.1; have := EX1.out; have hs1 := R1.out.lt; have := hf2.2 b hb; exact Nat.le_trans (R3size R3.out) this
        have n12 : (b1 ++ b2).Nodup := List.nodup_append.2 ⟨H1.out.2.2.2, hf2.1, fun x hx y hy e => by subst e; have := H1.out.2.1.1.lt x hx; have := hf2.2 x hy; omega⟩
        have g12 : ∀ b ∈ b1 ++ b2, w.heap.size + 4 ≤ b := fun b hb => by
          rcases List.mem_append.1 hb with hb | hb
          · exact H1.out.2.2.1 b hb
          · exact g2 b hb
        have k := net_of_parts (W := w) (N := N) ((H1.out.1.ext hx2).keep fun b hb => hst2 b (by have := HB.out.2.2 b hb; omega)) ((H1.out.2.1.ext hx2).keep fun b hb => hst2 b (by have := H1.out.2.2.1 b hb; omega)) (ho2.keep fun b hb => hst2 b (by have := g2 b hb; omega)) HB.out.2.1 n12
          (fun b hb => by have := HB.out.2.2 b hb; omega) (fun b hb => by have := g12 b hb; omega)
        refine ⟨k.1, k.2, fun b hb => ?_⟩
        rcases List.mem_append.1 hb with hb | hb
        · have := HB.out.2.2 b hb; omega
        · have := g12 b hb; omega
      have EX2 : Hid (Ext w (w2.setCell ⟨w.heap.size + 1 + 1 + 1, 2, none⟩ (.slice x2 N.inputs.length y2))) := (EX1.out.trans' hx2).store (by show w.heap.size ≤ w.heap.size + 1 + 1 + 1; omega) _
      clear hx2 ho2 hf2 hst2 hn
      go_wp2
      refine bodyPost_ret (v := .agg #[.slice (some ⟨w.heap.size + 2, 0, none⟩) N.ends.length N.ends.length, .slice x1 N.ids.length y1, .slice x2 N.inputs.length y2]) (by simp [results, Try.results152, go_sem, p0, p1, p2]) rfl ?_
      have hst : ∀ (wx : World) (p : Addr) (u : Value), p.block = w.heap.size + 1 → ∀ b ∈ bs ++ (b1 ++ b2), (wx.setCell p u).heap[b]? = wx.heap[b]? := fun wx p u hp b hb' => Below.heap_setCell _ _ _ _ (by have := hnet.out.2.2 b hb'; omega)
      refine ⟨_, bs ++ (b1 ++ b2), rfl, store3_ext EX2.out (by omega) _ _ _, ((hnet.out.1.keep (hst _ _ _ rfl)).keep (hst _ _ _ rfl)).keep (hst _ _ _ rfl), hnet.out.2.1⟩
end Go.Proofs.Ytkpdbceglejbnaa

/- The empty network in memory of its own; bounds of the marks; markNetwork from any mark on. No condition. -/
namespace Go.Proofs.Ytkpdbceglejbnaa
open Go.RowKit

theorem own_nilSS (w : World) : OwnSS w (.slice none 0 0) [] [] := ⟨fun _ => undef, [], fun _ => [], ⟨0, Nat.le_refl _, by unfold maxLen; omega, .inl ⟨rfl, rfl, none, ⟨rfl, rfl⟩, rfl⟩⟩, fun i hi => absurd hi (by simp), rfl⟩
theorem own_nilI (w : World) : OwnI w (.slice none 0 0) [] [] := ⟨⟨0, Nat.le_refl _, by unfold maxLen; omega, .inl ⟨rfl, rfl, none, ⟨rfl, rfl⟩, rfl⟩⟩, fun i hi => absurd hi (by simp)⟩
theorem own_zero (w : World) : OwnNet w znet zeroNet [] := ⟨_, _, _, [], [], [], rfl, own_nilSS w, own_nilI w, own_nilI w, rfl⟩
theorem zero_small : zeroNet.small := ⟨by simp [zeroNet], fun i => by simp [zeroNet, gr], by simp [zeroNet], by simp [zeroNet]⟩
theorem gr_out {α : Type} (l : List (List α)) (i : Nat) (h : l.length ≤ i) : gr l i = [] := by simp [gr, List.getD, List.getElem?_eq_none h]
theorem good_small {N : Net} (h : Good N) : N.small := by
  obtain ⟨⟨_, h1⟩, h2, h3, h4⟩ := h
  refine ⟨by omega, fun i => ?_, ?_, ?_⟩
  · by_cases hi : i < N.ends.length
    · have := (h2 i hi).1; omega
    · rw [gr_out _ _ (by omega)]; simp
  · rcases h3.1 with h | h <;> omega
  · have := h4.1; omega
theorem netLast_bound {N : Net} (h : N.small) : 0 ≤ netLast N ∧ netLast N ≤ 4398046511104 := by
  obtain ⟨h1, h2, h3, h4⟩ := h
  obtain ⟨a, b⟩ := kAt_le 1 N.ends h2 N.ends.length
  unfold netLast
  omega
theorem ret_net {v : Value} {b c : Bool} (h : b = c) : Ending.returned (.tuple #[v, .bool b]) = .returned (.tuple #[v, .bool c]) := by rw [h]

/-- A network in memory of its own is stored as the result. -/
theorem close_net {w wk : World} {x0 x1 x2 : Value} {M : Net} {ds : List Nat} (K : Ext w wk) (O : OwnNet wk (.agg #[x0, x1, x2]) M ds) (hn : ds.Nodup) (hb : ∀ b ∈ ds, w.heap.size + 2 ≤ b) :
    Ext w (((wk.setCell ⟨w.heap.size + 1, 0, none⟩ x0).setCell ⟨w.heap.size + 1, 1, none⟩ x1).setCell ⟨w.heap.size + 1, 2, none⟩ x2) ∧
      OwnNet (((wk.setCell ⟨w.heap.size + 1, 0, none⟩ x0).setCell ⟨w.heap.size + 1, 1, none⟩ x1).setCell ⟨w.heap.size + 1, 2, none⟩ x2) (.agg #[x0, x1, x2]) M ds ∧ Fresh w ds := by
  have hst : ∀ (wx : World) (p : Addr) (z : Value), p.block = w.heap.size + 1 → ∀ b ∈ ds, (wx.setCell p z).heap[b]? = wx.heap[b]? := fun wx p z hp b hb' => Below.heap_setCell _ _ _ _ (by have := hb b hb'; omega)
  exact ⟨store3_ext K (by omega) _ _ _, ((O.keep (hst _ _ _ rfl)).keep (hst _ _ _ rfl)).keep (hst _ _ _ rfl), hn, fun b hb' => by have := hb b hb'; omega⟩
end Go.Proofs.Ytkpdbceglejbnaa

/- append onto a slice in memory of its own that is there already: where the new one lies; one row of a list of rows is taken out and put back. -/
namespace Go.Proofs.Ytkpdbceglejbnaa
open Go.RowKit

theorem OwnSl.owns {w : World} {v : Value} {n k t : Nat} {f : Nat → Value} {bs : List Nat} {B : Nat} {xs : List Value} (h : OwnSl w v n k t f bs) (hb : ∀ b ∈ bs, B ≤ b) (hl : xs.length = n * k) (hx : ∀ i, i < n * k → xs[i]? = some (f i)) : w.ownsRow B t k v n xs := by
  obtain ⟨c, h1, h2, h3⟩ := h
  refine ⟨hl, ?_⟩
  rcases h3 with ⟨rfl, rfl, a, ⟨rfl, rfl⟩, rfl⟩ | ⟨b, m, g, rfl, rfl, ⟨hm, rfl⟩, ⟨cur, hc, hcs, hg⟩, hf⟩
  · exact .inl ⟨rfl, rfl⟩
  · refine .inr ⟨b, c, cur, rfl, hb b (by simp), hc, h1, h2, hcs, ?_⟩
    refine List.ext_getElem? fun i => ?_
    by_cases hi : i < n * k
    · rw [List.getElem?_take, if_pos hi, hx i hi, ← hf i hi]
      simpa using hg i (by omega)
    · rw [List.getElem?_take, if_neg hi, List.getElem?_eq_none (by omega)]
theorem OwnE.owns {w : World} {v : Value} {l : List (Int × Int)} {bs : List Nat} {B : Nat} (h : OwnE w v l bs) (hb : ∀ b ∈ bs, B ≤ b) : w.ownsRow B 95 2 v l.length (endCells l) := h.1.owns hb (by simp [endCells]) (fun i hi => endCells_get l i hi)
theorem OwnI.owns {w : World} {v : Value} {l : List Int} {bs : List Nat} {B : Nat} (h : OwnI w v l bs) (hb : ∀ b ∈ bs, B ≤ b) : w.ownsRow B 3 1 v l.length (intCells l) := h.1.owns hb (by simp [intCells]) (fun i hi => intCells_get l i (by omega))

/-- Where the slice that append gives lies. -/
theorem app_place {P : Program} (w : World) (base : Nat) (t ty e : TypeId) (i : TypeInfo) (z : Value) (size bytes : Nat) (ht : P.underlying t = some (.slice e)) (hi : P.info? e = some i) (hz : i.zero = some z)
    (hsize : i.size = size) (hby : i.bytes = bytes) (hzs : z.cells.size = size) (hsz : 0 < size)
    (v : Value) (n : Nat) (xs : List Value) (hown : w.ownsRow base e size v n xs)
    (ao : Option Addr) (m c : Nat) (news : List Value) (hsrc : SrcAt w ao m size news)
    (h63 : n + m ≤ maxLen) (hbytes : (n + m) * bytes ≤ 140737488355328) {v' : Value} {w' : World}
    (hr : (Builtin.append_ #[t, t] ty #[v, .slice ao m c]).run P w = .ok v' w') : ∀ b, v'.ownBlock = some b → v.ownBlock = some b ∨ w.heap.size ≤ b := by
  obtain ⟨hl, hnone, hnews, h1⟩ := hsrc
  cases ao with
  | none =>
    have h := run_append_owned_nil (P := P) base t ty e i size ht hi v n c xs hown
    obtain rfl := hnone rfl
    rw [h] at hr
    simp only [Result.ok.injEq] at hr
    obtain ⟨rfl, rfl⟩ := hr
    exact fun b hb => .inl hb
  | some ad =>
    have hnews := hnews ad rfl
    rcases hown.2 with ⟨rfl, rfl⟩ | ⟨g, cap, cur, rfl, hbg, hg, hnc, hcm, hcs, htake⟩
    · have hx : xs = [] := List.eq_nil_of_length_eq_zero (by simpa using hown.1)
      subst hx
      obtain ⟨v2, w2, hr2, h2, _⟩ := run_append_own (P := P) w w.heap.size t ty e i z size bytes ht hi hz hsize hby hzs hsz (.slice none 0 0) 0 [] (World.ownsRow_nil _ _ _ _) ad m c news hl hnews h1 h63 hbytes (Nat.le_refl _)
      rw [hr2] at hr
      simp only [Result.ok.injEq] at hr
      obtain ⟨rfl, rfl⟩ := hr
      exact fun b hb => .inr (h2.lt b hb).1
    · subst hsize
      subst hby
      have hsmall : n + m ≤ 9223372036854775807 := by simp only [maxLen] at h63; omega
      by_cases hroom : n + m ≤ cap
      · have hfit : n * i.size + news.length ≤ cur.size := by rw [hl, hcs, ← Nat.add_mul]; exact Nat.mul_le_mul_right _ hroom
        have h := run_append_room (P := P) w t ty e i ht hi g n cap cur hg ad m c news hl hnews h1 hroom hfit
        rw [h] at hr
        simp only [Result.ok.injEq] at hr
        obtain ⟨rfl, rfl⟩ := hr
        exact fun b hb => .inl hb
      · have holds : ∀ j u, xs[j]? = some u → w.cell? ((⟨g, 0, none⟩ : Addr).add j) = some u := hown.cells (g := g) rfl
        have h := run_append_grow (P := P) w t ty e i z ht hi hz ⟨g, 0, none⟩ n cap xs hown.1 holds ad m c news hl hnews (by omega) (by omega) (growslice_fits (by omega) hbytes)
        rw [h] at hr
        simp only [Result.ok.injEq] at hr
        obtain ⟨rfl, rfl⟩ := hr
        intro b hb
        simp only [Value.ownBlock, Option.some.injEq] at hb
        exact .inr (by omega)

def Grew2 (w w' : World) (base : Nat) (e : TypeId) (size : Nat) (v v' : Value) (n : Nat) (xs : List Value) : Prop := Grew w w' base e size v v' n xs ∧ ∀ b, v'.ownBlock = some b → v.ownBlock = some b ∨ w.heap.size ≤ b

theorem wp_app2 {P : Program} {w : World} {o : Oper} {a : Act} {K : Act → World → Prop} {Q : Exit → Act → World → Prop} (s x : Operand) (t : TypeId)
    (ho : o.op = .call { callee := .builtin .append, args := #[s, x], argTypes := #[t, t] })
    (base : Nat) (e : TypeId) (i : TypeInfo) (z : Value) (size bytes : Nat) (ht : P.underlying t = some (.slice e)) (hi : P.info? e = some i) (hz : i.zero = some z)
    (hsize : i.size = size) (hby : i.bytes = bytes) (hzs : z.cells.size = size) (hsz : 0 < size)
    (v : Value) (n : Nat) (xs : List Value) (hs : a.eval s = v) (hown : w.ownsRow base e size v n xs)
    (ao : Option Addr) (m c : Nat) (news : List Value) (hx : a.eval x = .slice ao m c) (hsrc : SrcAt w ao m size news)
    (h63 : n + m ≤ maxLen) (hbytes : (n + m) * bytes ≤ 140737488355328) (hbase : base ≤ w.heap.size)
    (h : ∀ v' w', Grew2 w w' base e size v v' (n + m) (xs ++ news) → K (a.put o.dst v') w') : o.wp P a w K Q := by
  obtain ⟨v', w', hr, h2⟩ := run_app (P := P) w base t o.type e i z size bytes ht hi hz hsize hby hzs hsz v n xs hown ao m c news hsrc h63 hbytes hbase
  have h3 := app_place (P := P) w base t o.type e i z size bytes ht hi hz hsize hby hzs hsz v n xs hown ao m c news hsrc h63 hbytes hr
  unfold Oper.wp execOp
  simp only [ho, resolve, invoke, builtin, Sem.run_bind, Sem.run_pure, Result.andThen_ok, List.map_toArray, List.map_cons, List.map_nil, hs, hx, hr]
  exact h v' w' ⟨h2, h3⟩

theorem wpList_app2 {P : Program} {w : World} {ops : Array Oper} {rest : List Oper} {o : Oper} {a : Act} {Q : Exit → Act → World → Prop} (hgd : o.guard = none) (s x : Operand) (t : TypeId)
    (ho : o.op = .call { callee := .builtin .append, args := #[s, x], argTypes := #[t, t] })
    (base : Nat) (e : TypeId) (i : TypeInfo) (z : Value) (size bytes : Nat) (ht : P.underlying t = some (.slice e)) (hi : P.info? e = some i) (hz : i.zero = some z)
    (hsize : i.size = size) (hby : i.bytes = bytes) (hzs : z.cells.size = size) (hsz : 0 < size)
    (v : Value) (n : Nat) (xs : List Value) (hs : a.eval s = v) (hown : w.ownsRow base e size v n xs)
    (ao : Option Addr) (m c : Nat) (news : List Value) (hx : a.eval x = .slice ao m c) (hsrc : SrcAt w ao m size news)
    (h63 : n + m ≤ maxLen) (hbytes : (n + m) * bytes ≤ 140737488355328) (hbase : base ≤ w.heap.size)
    (h : ∀ v' w', Grew2 w w' base e size v v' (n + m) (xs ++ news) → wpList P ops Q rest (a.put o.dst v') w') : wpList P ops Q (o :: rest) a w :=
  wpList_plain hgd fun _ hK => wp_app2 s x t ho base e i z size bytes ht hi hz hsize hby hzs hsz v n xs hs hown ao m c news hx hsrc h63 hbytes hbase fun v' w' h2 => hK _ _ (h v' w' h2)

theorem step_app2 {P : Program} {w : World} {ops : Array Oper} {o : Oper} {a : Act} {K : Act → World → Prop} {Q : Exit → Act → World → Prop} {E : Prop} (hgd : o.guard = none) (s x : Operand) (t : TypeId)
    (ho : o.op = .call { callee := .builtin .append, args := #[s, x], argTypes := #[t, t] })
    (base : Nat) (e : TypeId) (i : TypeInfo) (z : Value) (size bytes : Nat) (ht : P.underlying t = some (.slice e)) (hi : P.info? e = some i) (hz : i.zero = some z)
    (hsize : i.size = size) (hby : i.bytes = bytes) (hzs : z.cells.size = size) (hsz : 0 < size)
    (v : Value) (n : Nat) (xs : List Value) (hs : a.eval s = v) (hown : w.ownsRow base e size v n xs)
    (ao : Option Addr) (m c : Nat) (news : List Value) (hx : a.eval x = .slice ao m c) (hsrc : SrcAt w ao m size news)
    (h63 : n + m ≤ maxLen) (hbytes : (n + m) * bytes ≤ 140737488355328) (hbase : base ≤ w.heap.size)
    (h : ∀ v' w', Grew2 w w' base e size v v' (n + m) (xs ++ news) → K (a.put o.dst v') w') : if Region.wanted o (yielded ops a.tmps) = true then Oper.wp P o a w K Q else E := by
  have hw : Region.wanted o (yielded ops a.tmps) = true := by simp [Region.wanted, hgd]
  rw [if_pos hw]
  exact wp_app2 s x t ho base e i z size bytes ht hi hz hsize hby hzs hsz v n xs hs hown ao m c news hx hsrc h63 hbytes hbase h

theorem flatMap_congr {n : Nat} {S T : Nat → List Nat} (h : ∀ i, i < n → S i = T i) : (List.range n).flatMap S = (List.range n).flatMap T := by
  rw [List.flatMap_def, List.flatMap_def]
  congr 1
  exact List.map_congr_left fun i hi => h i (List.mem_range.1 hi)
theorem nodup_flat {n : Nat} {T : Nat → List Nat} (h1 : ∀ i, i < n → (T i).Nodup) (h2 : ∀ i j, i < n → j < n → i ≠ j → ∀ b ∈ T i, b ∉ T j) : ((List.range n).flatMap T).Nodup := by
  induction n with
  | zero => simp
  | succ n ih =>
    rw [List.range_succ, List.flatMap_append]
    refine List.nodup_append.2 ⟨ih (fun i hi => h1 i (by omega)) (fun i j hi hj => h2 i j (by omega) (by omega)), by simpa using h1 n (by omega), fun a ha b hb e => ?_⟩
    subst e
    obtain ⟨i, hi, hai⟩ := List.mem_flatMap.1 ha
    have := List.mem_range.1 hi
    exact h2 i n (by omega) (by omega) (by omega) a hai (by simpa using hb)
theorem gr_set {α : Type} (l : List (List α)) (k i : Nat) (r : List α) (hk : k < l.length) : gr (l.set k r) i = if i = k then r else gr l i := by
  unfold gr
  rw [List.getD_eq_getElem?_getD, List.getElem?_set]
  by_cases e : k = i
  · subst e; simp [hk]
  · rw [if_neg e, if_neg (fun h => e h.symm), List.getD_eq_getElem?_getD]

/-- One row is taken out and put back. -/
theorem OwnSS.focus {w : World} {v : Value} {l : List (List (Int × Int))} {bs : List Nat} (h : OwnSS w v l bs) (hnd : bs.Nodup) {k : Nat} (hk : k < l.length) :
    ∃ b c x t, v = .slice (some ⟨b, 0, none⟩) l.length c ∧ b ∈ bs ∧ w.cell? ⟨b, k, none⟩ = some x ∧ w.frozen? ⟨b, k, none⟩ = false ∧ OwnE w x (gr l k) t ∧ (∀ y ∈ t, y ∈ bs ∧ y ≠ b) ∧
      ∀ (w' : World) (x' : Value) (r : List (Int × Int)) (cs : List Nat), (∀ y, y < w.heap.size → y ∉ t → w'.heap[y]? = w.heap[y]?) → OwnE w' x' r cs → (∀ y ∈ cs, y ∈ t ∨ w.heap.size ≤ y) →
        ∃ ds, OwnSS (w'.setCell ⟨b, k, none⟩ x') v (l.set k r) ds ∧ ds.Nodup ∧ ∀ y ∈ ds, y ∈ bs ∨ w.heap.size ≤ y := by
  obtain ⟨R, b0, T, ⟨c, hc1, hc2, ho⟩, hrows, rfl⟩ := h
  rcases ho with ⟨hn, _⟩ | ⟨b, m, g, rfl, rfl, ⟨hm, hmc⟩, hrow, hg⟩
  · omega
  · obtain ⟨hd1, hd2⟩ := nodup_rows hnd
    have hT : ∀ i, i < l.length → ∀ y ∈ T i, y ∈ [b] ++ (List.range l.length).flatMap T := fun i hi y hy => List.mem_append.2 (.inr (List.mem_flatMap.2 ⟨i, List.mem_range.2 hi, hy⟩))
    have hbT : ∀ i, i < l.length → b ∉ T i := fun i hi => hd1 i hi b (by simp)
    refine ⟨b, c, R k, T k, rfl, by simp, by rw [hrow.cell (by omega), hg k (by omega)], hrow.frozen _, hrows k hk, fun y hy => ⟨hT k hk y hy, fun e => hbT k hk (e ▸ hy)⟩, ?_⟩
    intro w' x' r cs hw ho hcs
    have hblt : b < w.heap.size := hrow.lt
    have hne : ∀ y, y ≠ b → (w'.setCell ⟨b, k, none⟩ x').heap[y]? = w'.heap[y]? := fun y hy => Below.heap_setCell _ _ _ _ hy
    have hrow' : w'.rowIs b 93 m g := hrow.of_block (hw b hblt (hbT k hk))
    have hcb : ∀ y ∈ cs, y ≠ b := fun y hy e => by
      subst e
      rcases hcs y hy with h | h
      · exact hbT k hk h
      · omega
    have hsep : ∀ i, i < l.length → i ≠ k → ∀ y ∈ T i, y ∉ cs := fun i hi hik y hy hyc => by
      rcases hcs y hyc with h | h
      · exact hd2 i k hi hk hik y hy h
      · have := (hrows i hi).1.lt y hy; omega
    refine ⟨[b] ++ (List.range l.length).flatMap (fun i => if i = k then cs else T i), ⟨fun i => if i = k then x' else R i, [b], fun i => if i = k then cs else T i, ⟨c, by simpa using hc1, hc2, .inr ⟨b, m, _, rfl, by simp, ⟨by simpa using hm, hmc⟩, hrow'.set k x', ?_⟩⟩, ?_, by simp⟩, ?_, ?_⟩
    · intro i hi
      by_cases e : i = k
      · simp [e]
      · simp only [if_neg e]
        exact hg i (by simpa using hi)
    · intro i hi
      have hi : i < l.length := by simpa using hi
      rw [gr_set _ _ _ _ hk]
      by_cases e : i = k
      · subst e
        simp only [if_true]
        exact ho.keep fun y hy => hne y (hcb y hy)
      · simp only [if_neg e]
        exact (hrows i hi).keep fun y hy => by
          rw [hne y (fun e' => hbT i hi (e' ▸ hy)), hw y ((hrows i hi).1.lt y hy) (hd2 i k hi hk e y hy)]
    · refine List.nodup_append.2 ⟨by simp, nodup_flat (fun i hi => ?_) (fun i j hi hj hij y hy => ?_), fun a ha y hy e => ?_⟩
      · by_cases e : i = k
        · simp only [if_pos e]; exact ho.1.nodup
        · simp only [if_neg e]; exact (hrows i hi).1.nodup
      · by_cases e : i = k
        · subst e
          simp only [if_true] at hy
          rw [if_neg (fun h => hij h.symm)]
          exact fun hy' => hsep j hj (fun h => hij h.symm) y hy' hy
        · simp only [if_neg e] at hy
          by_cases e' : j = k
          · rw [if_pos e']; exact hsep i hi e y hy
          · rw [if_neg e']; exact hd2 i j hi hj hij y hy
      · obtain rfl := List.mem_singleton.1 ha
        subst e
        obtain ⟨i, hi, hyi⟩ := List.mem_flatMap.1 hy
        have hi := List.mem_range.1 hi
        by_cases e : i = k
        · simp only [if_pos e] at hyi; exact hcb a hyi rfl
        · simp only [if_neg e] at hyi; exact hbT i hi hyi
    · intro y hy
      rcases List.mem_append.1 hy with hy | hy
      · exact .inl (List.mem_append.2 (.inl hy))
      · obtain ⟨i, hi, hyi⟩ := List.mem_flatMap.1 hy
        have hi := List.mem_range.1 hi
        by_cases e : i = k
        · simp only [if_pos e] at hyi
          rcases hcs y hyi with h | h
          · exact .inl (hT k hk y h)
          · exact .inr h
        · simp only [if_neg e] at hyi
          exact .inl (hT i hi y hyi)

/-- The same of a network. -/
theorem OwnNet.focus {w : World} {v0 v1 v2 : Value} {N : Net} {bs : List Nat} (h : OwnNet w (.agg #[v0, v1, v2]) N bs) (hnd : bs.Nodup) {k : Nat} (hk : k < N.ends.length) :
    ∃ b c x t, v0 = .slice (some ⟨b, 0, none⟩) N.ends.length c ∧ b ∈ bs ∧ w.cell? ⟨b, k, none⟩ = some x ∧ w.frozen? ⟨b, k, none⟩ = false ∧ OwnE w x (gr N.ends k) t ∧ (∀ y ∈ t, y ∈ bs ∧ y ≠ b) ∧
      ∀ (w' : World) (x' : Value) (r : List (Int × Int)) (cs : List Nat), (∀ y, y < w.heap.size → y ∉ t → w'.heap[y]? = w.heap[y]?) → OwnE w' x' r cs → (∀ y ∈ cs, y ∈ t ∨ w.heap.size ≤ y) →
        ∃ ds, OwnNet (w'.setCell ⟨b, k, none⟩ x') (.agg #[v0, v1, v2]) { N with ends := N.ends.set k r } ds ∧ ds.Nodup ∧ ∀ y ∈ ds, y ∈ bs ∨ w.heap.size ≤ y := by
  obtain ⟨y0, y1, y2, b0, b1, b2, e, h0, h1, h2, rfl⟩ := h
  simp only [Value.agg.injEq, Array.mk.injEq, List.cons.injEq, and_true] at e
  obtain ⟨rfl, rfl, rfl⟩ := e
  obtain ⟨n0, n12, n3⟩ := List.nodup_append.1 hnd
  obtain ⟨b, c, x, t, hv, hb, hx, hf, hE, ht, hback⟩ := h0.focus n0 hk
  refine ⟨b, c, x, t, hv, by simp [hb], hx, hf, hE, fun y hy => ⟨by simp [(ht y hy).1], (ht y hy).2⟩, ?_⟩
  intro w' x' r cs hw ho hcs
  obtain ⟨ds, g1, g2, g3⟩ := hback w' x' r cs hw ho hcs
  have hlt : ∀ y ∈ b1 ++ b2, y < w.heap.size := fun y hy => by
    rcases List.mem_append.1 hy with hy | hy
    · exact h1.1.lt y hy
    · exact h2.1.lt y hy
  have hkeep : ∀ y ∈ b1 ++ b2, (w'.setCell ⟨b, k, none⟩ x').heap[y]? = w.heap[y]? := fun y hy => by
    rw [Below.heap_setCell _ _ _ _ (fun e => n3 b hb y hy e.symm), hw y (hlt y hy) (fun hyt => n3 y (ht y hyt).1 y hy rfl)]
  refine ⟨ds ++ (b1 ++ b2), ⟨_, _, _, ds, b1, b2, rfl, g1, h1.keep fun y hy => hkeep y (by simp [hy]), h2.keep fun y hy => hkeep y (by simp [hy]), rfl⟩, List.nodup_append.2 ⟨g2, n12, fun a ha y hy e => ?_⟩, fun y hy => ?_⟩
  · subst e
    rcases g3 a ha with h | h
    · exact n3 a h a hy rfl
    · have := hlt a hy; omega
  · rcases List.mem_append.1 hy with hy | hy
    · rcases g3 y hy with h | h
      · exact .inl (by simp [h])
      · exact .inr h
    · exact .inl (by simp only [List.mem_append] at hy ⊢; exact .inr hy)
end Go.Proofs.Ytkpdbceglejbnaa

/- A region that draws its order, whose last operation waits for all others and may break what the loads read: a law for its walk. No program in it. -/
namespace Go.Proofs.Ytkpdbceglejbnaa
open Go

section
variable {P : Program} {ops : Array Oper} {Q : Exit → Act → World → Prop} {S : World → Prop} {n : Nat}

/-- As the library's law, but behind operation n nothing is asked of S. -/
def wpAnyG (P : Program) (ops : Array Oper) (Q : Exit → Act → World → Prop) (S : World → Prop) (n : Nat) : Nat → Array Bool → Act → World → Prop
  | 0, listed, a, w => Region.ready .any ops listed = [] ∧ Q .normal a w
  | fuel + 1, listed, a, w =>
    (Region.ready .any ops listed = [] → Q .normal a w) ∧
    ∀ i ∈ Region.ready .any ops listed, wpOp P ops Q i (fun a' w' => (i ≠ n → S w') ∧ wpAnyG P ops Q S n fuel (listed.setIfInBounds i true) a' w') a w

theorem wpAny_of_gate : ∀ (fuel : Nat) (listed : Array Bool) (a : Act) (w : World), wpAnyG P ops Q S n fuel listed a w → wpAny P .any ops Q fuel listed a w
  | 0, _, _, _, h => h
  | fuel + 1, _, _, _, h => ⟨h.1, fun i hi => wpOp_mono (fun a' w' h' => wpAny_of_gate fuel _ a' w' h'.2) (h.2 i hi)⟩

theorem wpAnyG_first {i : Nat} {oi : Oper} {v : Value} (hi : ops[i]? = some oi) (hsel : ∀ (j : Nat) (o : Oper) cs b, ops[j]? = some o → o.op ≠ .select cs b)
    (hs : Region.sinkB .any ops n = true) (hc : Region.chainB .any ops n = true) (hn : n < ops.size) (hin : i < n)
    (hQ : ∀ c a w, Q (.panic c) (a.put oi.dst v) w → Q (.panic c) a w) :
    ∀ (fuel : Nat) (listed : Array Bool) (a : Act) (w : World), HeadInv .any ops n listed →
      (∀ j oj, ops[j]? = some oj → j ≠ i → listed.getD j true = false → (∀ e ∈ oj.after, Region.binds .any e = true → e.on ≠ i) → oi.apart ops oj = true) →
      i ∈ Region.ready .any ops listed → YieldsIf P ops S oi v a → S w →
      wpAnyG P ops Q S n fuel (listed.setIfInBounds i true) (a.put oi.dst v) w → wpAnyG P ops Q S n (fuel + 1) listed a w := by
  intro fuel
  induction fuel with
  | zero =>
    intro listed a w _ _ hr hy hS H
    refine ⟨fun h => (by rw [h] at hr; cases hr), fun j hj => ?_⟩
    by_cases hji : j = i
    · subst hji; exact hy.wpOp hi hS ⟨fun _ => hS, H⟩
    · have := ready_mono hj hji
      rw [H.1] at this
      cases this
  | succ fuel ih =>
    intro listed a w inv hfree hr hy hS H
    have hun := (mem_ready.1 hr).1
    refine ⟨fun h => (by rw [h] at hr; cases hr), fun j hj => ?_⟩
    have hjn : j < n := by
      rcases Nat.lt_or_ge j n with h | h
      · exact h
      · exact absurd hj (tail_waits hs hc hn inv _ i rfl hin hun j h)
    by_cases hji : j = i
    · subst hji; exact hy.wpOp hi hS ⟨fun _ => hS, H⟩
    · have h1 := H.2 j (ready_mono hj hji)
      obtain ⟨hjun, oj, hoj, hall⟩ := mem_ready.1 hj
      have hnot : ∀ e ∈ oj.after, Region.binds .any e = true → e.on ≠ i := fun e he hb heq => by
        have h1 := hall e he hb
        rw [heq, getD_both hun] at h1
        cases h1
      have h2 := wpOp_putIf hoj (hfree j oj hoj hji hjun hnot) (fun cs b => hsel i oi cs b hi) (fun cs b => hsel j oj cs b hoj) hQ hy h1
      have hfree' : ∀ k ok, ops[k]? = some ok → k ≠ i → (listed.setIfInBounds j true).getD k true = false →
          (∀ e ∈ ok.after, Region.binds .any e = true → e.on ≠ i) → oi.apart ops ok = true := fun k ok hk hki hun hno => by
        refine hfree k ok hk hki ?_ hno
        by_cases hjk : j = k
        · subst hjk; exact hjun
        · rw [getD_set_ne true hjk] at hun; exact hun
      refine wpOp_mono (fun a' w' h3 => ⟨h3.2.1, ih (listed.setIfInBounds j true) a' w' (inv.set hj hjn) hfree' (ready_mono hr (Ne.symm hji)) h3.1 (h3.2.1 (by omega)) ?_⟩) h2
      rw [Array.setIfInBounds_comm _ _ hji]
      exact h3.2.2

/-- The listed ones are closed under what they wait for, and the last one is not among them; as a Bool. -/
def headB (ops : Array Oper) (n : Nat) (listed : Array Bool) : Bool :=
  (listed.size == ops.size) && (List.range ops.size).all (fun j => match ops[j]? with | some oj => !listed.getD j false || oj.after.all (fun e => !Region.binds .any e || listed.getD e.on false) | none => true) &&
    (List.range ops.size).all (fun t => decide (t < n) || !listed.getD t true)
theorem headB_inv {listed : Array Bool} (h : headB ops n listed = true) : HeadInv .any ops n listed := by
  simp only [headB, Bool.and_eq_true, beq_iff_eq, List.all_eq_true, List.mem_range] at h
  obtain ⟨⟨h1, h2⟩, h3⟩ := h
  refine ⟨h1, fun j oj hj hl e he hb => ?_, fun t ht ht' => ?_⟩
  · have h4 := h2 j (Array.getElem?_eq_some_iff.1 hj).1
    simp only [hj, Bool.or_eq_true, Bool.not_eq_true', Array.all_eq_true_iff_forall_mem] at h4
    rcases h4 with h4 | h4
    · rw [h4] at hl; cases hl
    · rcases h4 e he with h5 | h5
      · rw [h5] at hb; cases hb
      · exact h5
  · have h4 := h3 t ht'
    simp only [Bool.or_eq_true, decide_eq_true_eq, Bool.not_eq_true'] at h4
    rcases h4 with h4 | h4
    · omega
    · exact h4

def gateB (ops : Array Oper) (n : Nat) : Bool := Region.noSelect ops && Region.sinkB .any ops n && Region.chainB .any ops n && decide (n < ops.size)

theorem wpAnyG_take {i : Nat} {oi : Oper} {v : Value} {fuel : Nat} {listed : Array Bool} {a : Act} {w : World} (hi : ops[i]? = some oi)
    (hr : (Region.ready .any ops listed).contains i = true) (hg : gateB ops n = true) (hin : i < n) (hh : headB ops n listed = true) (hf : Region.free .any ops listed i = true)
    (hQ : ∀ c a w, Q (.panic c) (a.put oi.dst v) w → Q (.panic c) a w) (hy : YieldsIf P ops S oi v a) (hS : S w)
    (h : wpAnyG P ops Q S n fuel (listed.setIfInBounds i true) (a.put oi.dst v) w) : wpAnyG P ops Q S n (fuel + 1) listed a w := by
  simp only [gateB, Bool.and_eq_true, decide_eq_true_eq] at hg
  exact wpAnyG_first hi (Region.noSelect_spec hg.1.1.1) hg.1.1.2 hg.1.2 hg.2 hin hQ fuel listed a w (headB_inv hh) (Region.free_spec hi hf) (by simpa using hr) hy hS h

/-- An operation that alone may come up now. -/
theorem wpAnyG_one {i : Nat} {o : Oper} {fuel : Nat} {listed : Array Bool} {a : Act} {w : World} (ho : ops[i]? = some o) (hr : Region.ready .any ops listed = [i]) (hgd : o.guard = none)
    (h : ∀ K' : Act → World → Prop, Shut (∀ a w, (i ≠ n → S w) → ((i ≠ n → S w) → wpAnyG P ops Q S n fuel (listed.setIfInBounds i true) a w) → K' a w) → Oper.wp P o a w K' Q) : wpAnyG P ops Q S n (fuel + 1) listed a w := by
  refine ⟨fun h0 => (by rw [hr] at h0; cases h0), fun j hj => ?_⟩
  rw [hr] at hj
  obtain rfl := List.mem_singleton.1 hj
  refine wpOp_step ho (fun K' hK => ?_)
  have hw : Region.wanted o (yielded ops a.tmps) = true := by simp [Region.wanted, hgd]
  rw [if_pos hw]
  exact h K' (fun a w hS hW => hK a w ⟨hS, hW hS⟩)

theorem wpAnyG_done {listed : Array Bool} {a : Act} {w : World} (hr : Region.ready .any ops listed = []) (h : Q .normal a w) :
    ∀ fuel, wpAnyG P ops Q S n fuel listed a w
  | 0 => ⟨hr, h⟩
  | _ + 1 => ⟨fun _ => h, by rw [hr]; simp⟩

theorem wp_region_gate {id : Nat} {a : Act} {w : World} (hm : P.follows .mixedOrders = true) (hS : S w.drew)
    (h : S w.drew → wpAnyG P ops Q S n ops.size (Array.replicate ops.size false) a w.drew) : (Code.region id ops true).wp P Q a w :=
  wp_region_any hm (wpAny_of_gate _ _ _ _ (h hS))
end
end Go.Proofs.Ytkpdbceglejbnaa
