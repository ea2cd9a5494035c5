/- FirstFaultOfRun: the plain mathematics, the model. -/
import Derived.Test.YtdcgpodjoalokaaMz
import Derived.Test.YtdcgpodjoalokaaMi
namespace Go.Proofs.Ytdcgpodjoalokaa
open Go.RowKit

theorem list_gi {a b : List Int} (hn : a.length = b.length) (h : ∀ j, j < a.length → gi a j = gi b j) : a = b := by
  refine List.ext_getElem hn fun i h1 h2 => ?_
  have := h i h1
  simpa [gi, List.getD, h1, h2] using this
def RunIn (M : Mach) (N : Net) (R : List (List Int)) : Prop := Asked M N ∧ InB (R.length : Int) 1 41 ∧ ∀ i, i < R.length → StsOK M N (gr R i)
def DiffAt (M : Mach) (N : Net) (R : List (List Int)) (k v : Nat) : Prop := gi (gr R k) v ≠ gi (runL M N k) v
def Bad (M : Mach) (N : Net) (R : List (List Int)) (k : Nat) : Prop := ∃ v, v < N.ends.length ∧ DiffAt M N R k v
noncomputable def faK (M : Mach) (N : Net) (R : List (List Int)) : Int := fstP (fun k => dec (Bad M N R k)) R.length
noncomputable def faV (M : Mach) (N : Net) (R : List (List Int)) (k : Nat) : Int := fstP (fun v => dec (DiffAt M N R k v)) N.ends.length
def FaultB (M : Mach) (N : Net) (R : List (List Int)) : Prop := RunIn M N R ∧ faK M N R ≠ -1
noncomputable def ffK (M : Mach) (N : Net) (R : List (List Int)) : Int := if dec (FaultB M N R) = true then faK M N R else 0
noncomputable def ffV (M : Mach) (N : Net) (R : List (List Int)) : Int := if dec (FaultB M N R) = true then faV M N R (faK M N R).toNat else 0
theorem ff_f {M : Mach} {N : Net} {R : List (List Int)} (h : ¬ FaultB M N R) : ffK M N R = 0 ∧ ffV M N R = 0 := by unfold ffK ffV; rw [dec_false h]; exact ⟨rfl, rfl⟩
theorem fault_hit {M : Mach} {N : Net} {R : List (List Int)} {k v : Nat} (h : RunIn M N R) (hk : k < R.length) (hno : ∀ j, j < k → ¬ Bad M N R j) (hv : v < N.ends.length) (hd : DiffAt M N R k v) (hnv : ∀ u, u < v → ¬ DiffAt M N R k u) :
    FaultB M N R ∧ ffK M N R = (k : Int) ∧ ffV M N R = (v : Int) := by
  have h1 : faK M N R = (k : Int) := fstP_hit (p := fun k => dec (Bad M N R k)) (fun j hj => dec_false (hno j hj)) (dec_true ⟨v, hv, hd⟩) _ hk
  have h2 : faV M N R k = (v : Int) := fstP_hit (p := fun v => dec (DiffAt M N R k v)) (fun j hj => dec_false (hnv j hj)) (dec_true hd) _ hv
  have h3 : FaultB M N R := ⟨h, by rw [h1]; omega⟩
  refine ⟨h3, ?_, ?_⟩
  · unfold ffK; rw [dec_true h3, if_pos rfl, h1]
  · unfold ffV; rw [dec_true h3, if_pos rfl, h1, Int.toNat_natCast, h2]
theorem fault_none {M : Mach} {N : Net} {R : List (List Int)} (h : ∀ j, j < R.length → ¬ Bad M N R j) : ¬ FaultB M N R := fun hb => hb.2 (fstP_none _ fun j hj => dec_false (h j hj))
theorem same_run {M : Mach} {N : Net} {R : List (List Int)} {k : Nat} (hs : StsOK M N (gr R k)) (h : ¬ Bad M N R k) : gr R k = runL M N k := by
  refine list_gi (by rw [hs.1, length_runL]) fun j hj => ?_
  rw [hs.1] at hj
  apply Classical.byContradiction
  intro hn
  exact h ⟨j, hj, hn⟩
theorem ret_iib {x y x' y' : Int} {b c : Bool} (h : x = x') (h' : y = y') (k : b = c) : Ending.returned (.tuple #[.int .i64 x, .int .i64 y, .bool b]) = .returned (.tuple #[.int .i64 x', .int .i64 y', .bool c]) := by rw [h, h', k]

set_option maxHeartbeats 6400000 in
set_option maxRecDepth 100000 in
theorem specFirstFaultOfRun_any {w : World} {vm vn : Value} {M : Mach} {N : Net} {vr : Value} {R : List (List Int)} (h : MachAt w vm M) (k : NetAt w vn N) (hr : IntSS w vr R) (_ : IISmall R) : Calls Try.prog 55 #[vm, vn, vr] w fun e w' => e = .returned (.tuple #[.int .i64 (ffK M N R), .int .i64 (ffV M N R), .bool (dec (FaultB M N R))]) ∧ Ext w w' := by
  have HRR := Lib.hid hr
  obtain ⟨ra, rc, rfl⟩ : ∃ ra rc, vr = .slice ra R.length rc := by obtain ⟨a, b, o, c, h, -⟩ := hr; exact ⟨a, c, h⟩
  obtain ⟨-, rm, rn⟩ := ssLen hr
  unfold maxLen at rm
  clear hr
  have HM := Lib.hid h
  have HN := Lib.hid k
  obtain ⟨a3, c3, a4, c4, a5, c5, a6, c6, rfl, h3, h4, -⟩ := h
  obtain ⟨v0, v1, v2, rfl, hE, -, hP⟩ := k
  obtain ⟨W1, hW1⟩ : ∃ W1, W1 = twoBox w (.int .i64 M.deg) (.int .i64 M.sts) (.int .i64 M.msgs) (.slice a3 M.start.length c3) (.slice a4 M.send.length c4) (.slice a5 M.cls.length c5) (.slice a6 M.out.length c6) v0 v1 v2 := ⟨_, rfl⟩
  have EW := Lib.hid (show Ext w W1 by rw [hW1]; exact twoBox_ext _ _ _ _ _ _ _ _ _ _ _)
  have RA := Lib.hid (show W1.rowIs w.heap.size 31 7 (sept (.int .i64 M.deg) (.int .i64 M.sts) (.int .i64 M.msgs) (.slice a3 M.start.length c3) (.slice a4 M.send.length c4) (.slice a5 M.cls.length c5) (.slice a6 M.out.length c6)) by rw [hW1]; exact twoBox_m _ _ _ _ _ _ _ _ _ _ _)
  have RB := Lib.hid (show W1.rowIs (w.heap.size + 1) 43 3 (tri v0 v1 v2) by rw [hW1]; exact twoBox_n _ _ _ _ _ _ _ _ _ _ _)
  have hsz : W1.heap.size = w.heap.size + 2 := by rw [hW1]; simp [twoBox]
  have HSZ := Lib.hid hsz
  have HE3 := Lib.hid (h3.ext EW.out)
  have HE4 := Lib.hid (h4.ext EW.out)
  have HNE := Lib.hid (hE.ext EW.out)
  have HNP := Lib.hid (hP.ext EW.out)
  obtain ⟨-, ms3, ns3⟩ := ssLen h3
  obtain ⟨-, ms4, ns4⟩ := ssLen h4
  unfold maxLen at ms3 ms4
  clear h3 h4 hE hP hsz
  obtain ⟨p0, p1, p2, p3, p4, p5, p6⟩ := row7_facts RA.out
  obtain ⟨q0, q1, q2, -, -, -⟩ := row3_facts RB.out
  unfold twoBox at hW1
  go_enter Try.func55, Try.ntmps55
  go_upto_region 1 with fail
  rw [← hW1]
  clear hW1
  go_wp2_with fail
  (with_reducible refine (maAsked_any (HM.out.ext EW.out) (HN.out.ext EW.out)).mono ?_)
  rintro e w2 ⟨rfl, hx⟩
  have Y1 := Lib.hid hx
  clear hx p0 p1 p2 p3 p4 p5 p6 q0 q1 q2
  obtain ⟨p0, p1, p2, p3, p4, p5, p6⟩ := row7_facts (row_ext RA.out Y1.out)
  obtain ⟨q0, q1, q2, -, -, -⟩ := row3_facts (row_ext RB.out Y1.out)
  have K1 := Lib.hid (EW.out.trans' Y1.out)
  by_cases ha : Asked M N
  case neg =>
    rw [dec_false ha]
    have DA := Lib.hid (show ¬ FaultB M N R from fun h => ha h.1.1)
    clear ha
    go_wp2
    go_ret3
    exact ⟨ret_iib (ff_f DA.out).1.symm (ff_f DA.out).2.symm (dec_false DA.out).symm, K1.out⟩
  rw [dec_true ha]
  have HA := Lib.hid ha
  clear ha
  by_cases hb : InB (R.length : Int) 1 41
  case neg =>
    have D := Lib.hid (dec_false hb)
    have DA := Lib.hid (show ¬ FaultB M N R from fun h => hb h.1.2.1)
    clear hb
    go_wp2_with (go_at_call 93; (with_reducible refine (l1In_any _ _ _ _).mono ?_); rintro e w' ⟨rfl, rfl⟩; rw [D.out])
    go_ret3
    exact ⟨ret_iib (ff_f DA.out).1.symm (ff_f DA.out).2.symm (dec_false DA.out).symm, K1.out⟩
  have HB := Lib.hid hb
  have D := Lib.hid (dec_true hb)
  have hlen : 1 ≤ R.length ∧ R.length ≤ 41 := by unfold InB at hb; omega
  clear hb
  have HRW := Lib.hid (HRR.out.ext K1.out)
  have hn40 : N.ends.length ≤ 40 := HA.out.2.1.1.2
  obtain ⟨ea, eb, eo, ec, rfl, -, el, em, -⟩ := HNE.out
  unfold maxLen at em
  have hst : 1 ≤ M.sts ∧ M.sts ≤ 12 := HA.out.1.1.2.1
  go_wp2_with (go_at_call 93; (with_reducible refine (l1In_any _ _ _ _).mono ?_); rintro e w' ⟨rfl, rfl⟩; rw [D.out])
  go_loopg [27] R.length (fun g0 i wr => ∃ j : Nat, j ≤ R.length ∧ g0 = R.length - j ∧ i = .int .i64 j ∧ w2 = wr ∧ Hid (∀ u, u < j → StsOK M N (gr R u)))
  case atStart => exact ⟨0, Nat.zero_le _, rfl, rfl, rfl, fun u hu => absurd hu (by omega)⟩
  case round =>
    obtain ⟨j, hj, rfl, rfl, rfl, Hr⟩ := hrel
    by_cases hlt : j < R.length
    · obtain ⟨b, o, xa, xc, rfl, z0, hx⟩ := ssRow HRW.out hlt
      have HX := Lib.hid hx
      clear hx
      have HQ := Lib.hid (show RowB (gr R j) (N.ends.length : Int) M.sts ↔ StsOK M N (gr R j) by unfold RowB StsOK; constructor <;> (rintro ⟨h1, h2⟩; exact ⟨by omega, h2⟩))
      by_cases hq : StsOK M N (gr R j)
      · have DQ := Lib.hid (dec_true (HQ.out.2 hq))
        have Hq := Lib.hid hq
        clear hq
        go_wp2_with fail
        (with_reducible refine (maRow_any _ _ HX.out (by omega) (by omega)).mono ?_)
        rintro e w3 ⟨rfl, rfl⟩
        rw [DQ.out]
        go_wp2
        go_roundg (R.length - (j + 1))
        case measure => omega
        case rel =>
          refine ⟨j + 1, by omega, rfl, by go_num, rfl, fun u hu => ?_⟩
          by_cases e : u = j
          · subst e; exact Hq.out
          · exact Hr.out u (by omega)
      · have DQ := Lib.hid (dec_false (fun h => hq (HQ.out.1 h)))
        have DA := Lib.hid (show ¬ FaultB M N R from fun h => hq (h.1.2.2 j hlt))
        clear hq
        go_wp2_with fail
        (with_reducible refine (maRow_any _ _ HX.out (by omega) (by omega)).mono ?_)
        rintro e w3 ⟨rfl, rfl⟩
        rw [DQ.out]
        go_wp2
        go_ret3
        exact ⟨ret_iib (ff_f DA.out).1.symm (ff_f DA.out).2.symm (dec_false DA.out).symm, K1.out⟩
    · obtain rfl : j = R.length := by omega
      have HIN := Lib.hid (show RunIn M N R from ⟨HA.out, HB.out, Hr.out⟩)
      clear Hr
      go_wp2_with fail
      (with_reducible refine (maStart_any (HM.out.ext K1.out) (HN.out.ext K1.out) HA.out).mono ?_)
      rintro e w3 ⟨sv, bs0, rfl, hx, ho, hf⟩
      obtain ⟨sa, sq, rfl⟩ := ho.read.isSlice
      rw [length_startL] at ho ⊢
      have X2 := Lib.hid hx
      have O2 := Lib.hid ho
      clear hx ho hf p0 p1 p2 p3 p4 p5 p6 q0 q1 q2
      go_wp2
      go_loopg [11, 45] R.length (fun g0 s i wr => ∃ (k : Nat) (sa : Option Addr) (sq : Nat) (bs : List Nat), k ≤ R.length ∧ g0 = R.length - k ∧ i = .int .i64 k ∧ s = .slice sa N.ends.length sq ∧ Hid (Ext w2 wr ∧ OwnI wr (.slice sa N.ends.length sq) (runL M N k) bs ∧ ∀ j, j < k → ¬ Bad M N R j))
      case atStart => exact ⟨0, sa, sq, bs0, Nat.zero_le _, rfl, rfl, rfl, X2.out, O2.out, fun j hj => absurd hj (by omega)⟩
      case round =>
        obtain ⟨k, sa, sq, bs, hk, rfl, rfl, rfl, Hr⟩ := hrel
        have KR := Lib.hid (K1.out.trans' Hr.out.1)
        by_cases hlt : k < R.length
        · obtain ⟨b, o, xa, xc, rfl, z0, hx⟩ := ssRow (HRW.out.ext Hr.out.1) hlt
          have HSK := Lib.hid (HIN.out.2.2 k hlt)
          have HSR := Lib.hid (show Sts M N (gr R k) from ⟨HA.out, HSK.out⟩)
          rw [HSK.out.1] at z0 hx
          have HX := Lib.hid hx
          clear hx
          obtain ⟨WR, hWR⟩ : ∃ W : World, W = wr := ⟨_, rfl⟩
          subst hWR
          go_wp2
          clear z0
          go_loopg [52] N.ends.length (fun g0 i wx => ∃ v : Nat, v ≤ N.ends.length ∧ g0 = N.ends.length - v ∧ i = .int .i64 v ∧ Hid (Ext WR wx ∧ ∀ u, u < v → ¬ DiffAt M N R k u))
          case atStart => exact ⟨0, Nat.zero_le _, rfl, rfl, Ext.rfl' _, fun u hu => absurd hu (by omega)⟩
          case round =>
            obtain ⟨v, hv, rfl, rfl, Hs⟩ := hrel
            by_cases hlv : v < N.ends.length
            · obtain ⟨xa', xb, xo, xd, e, hxa, -, xm, hxc⟩ := HX.out.ext Hs.out.1
              simp only [Value.slice.injEq] at e
              obtain ⟨rfl, -, rfl⟩ := e
              obtain ⟨ya', yb, yo, yd, e, hya, -, ym, hyc⟩ := (Hr.out.2.1.ext Hs.out.1).read
              simp only [Value.slice.injEq] at e
              obtain ⟨rfl, -, rfl⟩ := e
              unfold maxLen at xm ym
              have hsl := HSK.out.1
              have hrl := length_runL M N k
              obtain rfl := hxa (by omega)
              obtain rfl := hya (by omega)
              obtain ⟨_, z1, rfl, -⟩ := hxc v (by rw [HSK.out.1]; exact hlv)
              obtain ⟨_, z2, rfl, -⟩ := hyc v (by rw [length_runL]; exact hlv)
              obtain ⟨x, hx⟩ : ∃ x, gi (gr R k) v = x := ⟨_, rfl⟩
              obtain ⟨y, hy⟩ : ∃ y, gi (runL M N k) v = y := ⟨_, rfl⟩
              have HD := Lib.hid (show DiffAt M N R k v ↔ x ≠ y by unfold DiffAt; rw [hx, hy])
              rw [hx] at z1
              rw [hy] at z2
              clear hxa hya hxc hyc hx hy hsl hrl
              by_cases hd : x = y
              · have b2 : (x != y) = false := bne_eq_false_iff_eq.2 hd
                have Hd := Lib.hid (show ¬ DiffAt M N R k v from fun h => HD.out.1 h hd)
                clear hd
                go_wp2_with fail
                go_region_held3 (fun w' => w'.cell? ⟨xb, xo + v, none⟩ = some (.int .i64 x) ∧ w'.cell? ⟨yb, yo + v, none⟩ = some (.int .i64 y)) (go_keep) (fail)
                have HY := Lib.hid (Hs.out.1.drew')
                clear z1 z2
                go_wp2
                go_roundg (N.ends.length - (v + 1))
                case measure => omega
                case rel =>
                  refine ⟨v + 1, by omega, rfl, by go_num, HY.out, fun u hu => ?_⟩
                  by_cases e : u = v
                  · subst e; exact Hd.out
                  · exact Hs.out.2 u (by omega)
              · have b2 : (x != y) = true := bne_iff_ne.2 hd
                have FH := Lib.hid (fault_hit HIN.out hlt Hr.out.2.2 hlv (HD.out.2 hd) Hs.out.2)
                clear hd
                go_wp2_with fail
                go_region_held3 (fun w' => w'.cell? ⟨xb, xo + v, none⟩ = some (.int .i64 x) ∧ w'.cell? ⟨yb, yo + v, none⟩ = some (.int .i64 y)) (go_keep) (fail)
                have HY := Lib.hid (Hs.out.1.drew')
                clear z1 z2
                go_wp2
                go_ret3
                exact ⟨ret_iib FH.out.2.1.symm FH.out.2.2.symm (dec_true FH.out.1).symm, KR.out.trans' HY.out⟩
            · obtain rfl : v = N.ends.length := by omega
              have HNB := Lib.hid (show ¬ Bad M N R k from fun ⟨u, h1, h2⟩ => Hs.out.2 u h1 h2)
              have HSM := Lib.hid (same_run HSK.out HNB.out)
              have KS := Lib.hid (KR.out.trans' Hs.out.1)
              obtain ⟨p0, p1, p2, p3, p4, p5, p6⟩ := row7_facts (row_ext RA.out (Y1.out.trans' (Hr.out.1.trans' Hs.out.1)))
              obtain ⟨q0, q1, q2, -, -, -⟩ := row3_facts (row_ext RB.out (Y1.out.trans' (Hr.out.1.trans' Hs.out.1)))
              go_wp2_with fail
              (with_reducible refine (maStep_any (HM.out.ext KS.out) (HN.out.ext KS.out) (HX.out.ext Hs.out.1) HSR.out).mono ?_)
              rintro e w4 ⟨v4, bs4, rfl, hx, ho, -⟩
              obtain ⟨sa4, sq4, rfl⟩ := ho.read.isSlice
              rw [length_stepL] at ho ⊢
              have X4 := Lib.hid hx
              have O4 := Lib.hid (show OwnI w4 (.slice sa4 N.ends.length sq4) (runL M N (k + 1)) bs4 by show OwnI w4 _ (stepL M N (runL M N k)) bs4; rw [← HSM.out]; exact ho)
              clear hx ho p0 p1 p2 p3 p4 p5 p6 q0 q1 q2
              go_wp2
              go_roundg (R.length - (k + 1))
              case measure => omega
              case rel =>
                refine ⟨k + 1, sa4, sq4, bs4, by omega, rfl, by go_num, rfl, Hr.out.1.trans' (Hs.out.1.trans' X4.out), O4.out, fun u hu => ?_⟩
                by_cases e : u = k
                · subst e; exact HNB.out
                · exact Hr.out.2.2 u (by omega)
        · obtain rfl : k = R.length := by omega
          have DA := Lib.hid (fault_none Hr.out.2.2)
          go_wp2
          go_ret3
          exact ⟨ret_iib (ff_f DA.out).1.symm (ff_f DA.out).2.symm (dec_false DA.out).symm, KR.out⟩
end Go.Proofs.Ytdcgpodjoalokaa
