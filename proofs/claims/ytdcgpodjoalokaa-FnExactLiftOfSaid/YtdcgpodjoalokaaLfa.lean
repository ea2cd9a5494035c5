/- LiftOf: which permutations suit the edges; the contracts of goesBack and areSheetChanges. -/
import Derived.Test.YtdcgpodjoalokaaSe
import Derived.Test.YtdcgpodjoalokaaPm
namespace Go.Proofs.Ytdcgpodjoalokaa
open Go.RowKit

def BackOK (l : List Int) : Prop := ∀ s : Nat, s < l.length → gi l (gi l s).toNat = (s : Int)
def StubE (e : List Int) : Prop := gi e 0 = gi e 2 ∧ gi e 1 = gi e 3
def SheetOK (E P : List (List Int)) (k t : Nat) : Prop := PermOK (gr P t) k ∧ (StubE (gr E t) → BackOK (gr P t))
def SheetsOK (E P : List (List Int)) (k : Nat) : Prop := P.length = E.length ∧ ∀ t, t < E.length → SheetOK E P k t
theorem four_of {l : List Int} (h : l.length = 4) : l = [gi l 0, gi l 1, gi l 2, gi l 3] := by
  match l, h with
  | [_, _, _, _], _ => rfl
theorem perm_rangeL {l : List Int} {k : Nat} (h : PermOK l k) : ∀ s, s < l.length → 0 ≤ gi l s ∧ gi l s < (l.length : Int) := fun s hs => by
  obtain ⟨h1, h2⟩ : 0 ≤ gi l s ∧ gi l s ≤ (k : Int) - 1 := (h.2 s hs).1
  have := h.1
  omega

set_option maxHeartbeats 1600000 in
set_option maxRecDepth 100000 in
theorem goesBack_any {w : World} {v : Value} {l : List Int} (h : IntSl w v l) (hr : ∀ s, s < l.length → 0 ≤ gi l s ∧ gi l s < (l.length : Int)) :
    Calls Try.prog 158 #[v] w fun e w' => e = .returned (.bool (dec (BackOK l))) ∧ Ext w w' := by
  obtain ⟨a, b, o, c, rfl, ha, hl, hm, hc⟩ := h
  unfold maxLen at hm
  have HC := Lib.hid hc
  have HA := Lib.hid ha
  have HR := Lib.hid hr
  clear hc ha hr
  go_enter Try.func158, Try.ntmps158
  go_wp2_with fail
  go_loopg [7] l.length (fun g i wr => ∃ s : Nat, s ≤ l.length ∧ g = l.length - s ∧ i = .int .i64 s ∧ Hid (Ext w wr ∧ ∀ u, u < s → gi l (gi l u).toNat = (u : Int)))
  case atStart => exact ⟨0, Nat.zero_le _, rfl, rfl, Ext.rfl' _, fun u hu => absurd hu (by omega)⟩
  case round =>
    obtain ⟨s, hs, rfl, rfl, Hs⟩ := hrel
    by_cases hlt : s < l.length
    case pos =>
      obtain rfl := HA.out (by omega)
      obtain ⟨_, c0, rfl, -⟩ := HC.out s hlt
      have hrs := HR.out s hlt
      obtain ⟨x, hx⟩ := Int.eq_ofNat_of_zero_le hrs.1
      rw [hx] at c0
      have hxl : x < l.length := by omega
      obtain ⟨_, c1, rfl, -⟩ := HC.out x hxl
      obtain ⟨y, hy⟩ : ∃ y, y = gi l x := ⟨_, rfl⟩
      rw [← hy] at c1
      have HX := Lib.hid (show gi l (gi l s).toNat = y by rw [hx, Int.toNat_natCast, hy])
      have d0 := Hs.out.1.cell' c0
      have d1 := Hs.out.1.cell' c1
      clear c0 c1 hx hy hrs
      by_cases he : y = (s : Int)
      case pos =>
        have N2 := Lib.hid (show ∀ u, u < s + 1 → gi l (gi l u).toNat = (u : Int) from fun u hu => by
          by_cases e : u = s
          · subst e; rw [HX.out]; exact he
          · exact Hs.out.2 u (by omega))
        subst he
        go_wp2
        go_roundg (l.length - (s + 1))
        case measure => omega
        case rel => exact ⟨s + 1, by omega, rfl, by go_num, Hs.out.1, N2.out⟩
      have hb : (y == (s : Int)) = false := by simpa using he
      have D := Lib.hid (dec_false (show ¬ BackOK l from fun k => he (by rw [← HX.out]; exact k s hlt)))
      clear he
      go_wp2
      go_ret
      exact ⟨ret_bool D.out.symm, Hs.out.1⟩
    obtain rfl : s = l.length := by omega
    have D := Lib.hid (dec_true (show BackOK l from Hs.out.2))
    go_wp2
    go_ret
    exact ⟨ret_bool D.out.symm, Hs.out.1⟩

set_option maxHeartbeats 3200000 in
set_option maxRecDepth 100000 in
theorem areSheetChanges_any {w : World} {vp ve : Value} {P E : List (List Int)} (k : Nat) (hk : k ≤ 40) (hp : IntSS w vp P) (he : IntSS w ve E) (hr : ∀ t, t < E.length → (gr E t).length = 4) :
    Calls Try.prog 117 #[vp, .int .i64 k, ve] w fun e w' => e = .returned (.bool (dec (SheetsOK E P k))) ∧ Ext w w' := by
  obtain ⟨pa, pb, po, pc, rfl, hpa, hpl, hpm, hpc⟩ := hp
  obtain ⟨ea, eb, eo, ec, rfl, hea, hel, hem, hec⟩ := he
  unfold maxLen at hpm hem
  have HPA := Lib.hid hpa
  have HPC := Lib.hid hpc
  have HEA := Lib.hid hea
  have HEC := Lib.hid hec
  have HR := Lib.hid hr
  clear hpa hpc hea hec hr
  by_cases hlen : P.length = E.length
  case neg =>
    have D := Lib.hid (dec_false (show ¬ SheetsOK E P k from fun h => hlen h.1))
    have hb : (((P.length : Nat) : Int) == ((E.length : Nat) : Int)) = false := by
      rw [beq_eq_false_iff_ne]; intro h; exact hlen (by exact_mod_cast h)
    clear hlen
    go_enter Try.func117, Try.ntmps117
    go_wp2
    go_ret
    exact ⟨ret_bool D.out.symm, Ext.rfl' _⟩
  go_enter Try.func117, Try.ntmps117
  have HLEN := Lib.hid hlen
  obtain ⟨m, hm⟩ : ∃ m, m = E.length := ⟨_, rfl⟩
  have HM := Lib.hid hm
  rw [hlen]
  rw [← hm] at hel hlen ⊢
  rw [hlen] at hpl
  clear hlen hm
  go_wp2_with fail
  go_loopg [16] m (fun g i wr => ∃ t : Nat, t ≤ m ∧ g = m - t ∧ i = .int .i64 t ∧ Hid (Ext w wr ∧ ∀ u, u < t → SheetOK E P k u))
  case atStart => exact ⟨0, Nat.zero_le _, rfl, rfl, Ext.rfl' _, fun u hu => absurd hu (by omega)⟩
  case round =>
    obtain ⟨t, ht, rfl, rfl, Ht⟩ := hrel
    by_cases hlt : t < m
    case pos =>
      have htE : t < E.length := by rw [← HM.out]; exact hlt
      obtain rfl := HPA.out (by rw [HLEN.out]; omega)
      obtain rfl := HEA.out (by omega)
      obtain ⟨zp, c0, hzp⟩ := HPC.out t (by rw [HLEN.out]; exact htE)
      obtain ⟨ze, c1, hze⟩ := HEC.out t htE
      have HZP := Lib.hid hzp
      rw [four_of (HR.out t htE)] at hze
      have HZE := Lib.hid hze
      have C0 := Lib.hid c0
      have d0 := Ht.out.1.cell' c0
      have d1 := Ht.out.1.cell' c1
      clear hzp hze c0 c1
      go_wp2_with fail
      clear d0 d1
      (with_reducible refine (isPermutation_any k (by omega) (HZP.out.ext Ht.out.1)).mono ?_)
      rintro e w1 ⟨rfl, hx1⟩
      have X1 := Lib.hid (Ht.out.1.trans' hx1)
      clear hx1
      by_cases hpk : PermOK (gr P t) k
      case neg =>
        rw [dec_false hpk]
        have D := Lib.hid (dec_false (show ¬ SheetsOK E P k from fun h => hpk (h.2 t htE).1))
        go_wp2
        go_ret
        exact ⟨ret_bool D.out.symm, X1.out⟩
      rw [dec_true hpk]
      have HPK := Lib.hid hpk
      clear hpk
      go_wp2_with fail
      (with_reducible refine (isStub_any (HZE.out.ext X1.out)).mono ?_)
      rintro e w2 ⟨rfl, hx2⟩
      have X2 := Lib.hid (X1.out.trans' hx2)
      have d0 := X2.out.cell' C0.out
      clear hx2
      by_cases hst : StubE (gr E t)
      case neg =>
        rw [decide_eq_false (show ¬ (gi (gr E t) 0 = gi (gr E t) 2 ∧ gi (gr E t) 1 = gi (gr E t) 3) from hst)]
        have N2 := Lib.hid (show ∀ u, u < t + 1 → SheetOK E P k u from fun u hu => by
          by_cases e : u = t
          · subst e; exact ⟨HPK.out, fun h => absurd h hst⟩
          · exact Ht.out.2 u (by omega))
        clear hst
        go_wp2
        go_roundg (m - (t + 1))
        case measure => omega
        case rel => exact ⟨t + 1, by omega, rfl, by go_num, X2.out, N2.out⟩
      rw [decide_eq_true (show gi (gr E t) 0 = gi (gr E t) 2 ∧ gi (gr E t) 1 = gi (gr E t) 3 from hst)]
      have HST := Lib.hid hst
      clear hst
      go_wp2_with fail
      (with_reducible refine (goesBack_any (HZP.out.ext X2.out) (perm_rangeL HPK.out)).mono ?_)
      rintro e w3 ⟨rfl, hx3⟩
      have X3 := Lib.hid (X2.out.trans' hx3)
      clear hx3
      by_cases hbk : BackOK (gr P t)
      case neg =>
        rw [dec_false hbk]
        have D := Lib.hid (dec_false (show ¬ SheetsOK E P k from fun h => hbk ((h.2 t htE).2 HST.out)))
        clear d0
        go_wp2
        go_ret
        exact ⟨ret_bool D.out.symm, X3.out⟩
      rw [dec_true hbk]
      have N2 := Lib.hid (show ∀ u, u < t + 1 → SheetOK E P k u from fun u hu => by
        by_cases e : u = t
        · subst e; exact ⟨HPK.out, fun _ => hbk⟩
        · exact Ht.out.2 u (by omega))
      clear hbk d0
      go_wp2
      go_roundg (m - (t + 1))
      case measure => omega
      case rel => exact ⟨t + 1, by omega, rfl, by go_num, X3.out, N2.out⟩
    obtain rfl : t = m := by omega
    have D := Lib.hid (dec_true (show SheetsOK E P k from ⟨HLEN.out, fun u hu => Ht.out.2 u (by rw [HM.out]; exact hu)⟩))
    go_wp2
    go_ret
    exact ⟨ret_bool D.out.symm, Ht.out.1⟩
end Go.Proofs.Ytdcgpodjoalokaa
