/- The contract of fibresByImage: a map from each image to the nodes that have it. -/
import Derived.Test.YtkpdbceglejbnaaQf
import Derived.Test.YtkpdbceglejbnaaJd
namespace Go.Proofs.Ytkpdbceglejbnaa
open Go.RowKit Go.Maps

theorem mapHint (n : Int) (w : World) : (Instr.makeMap 150 (some (.int .i64 n))).run Try.prog w = .ok (.map (some w.heap.size)) (w.alloc (.map #[] 0)) := by
  simp [Instr.makeMap, run_underlying Try.underlying150]; rfl
theorem zeroSI (w : World) : (zeroValue 26).run Try.prog w = .ok (.slice none 0 0) w := by kernel_rfl
theorem intK : Keyed Try.prog 3 := int_keyed Try.underlying3
theorem int_key {x : Int} (h : inI64 x) : keyOf Try.prog 3 (.int .i64 x) = some (lk x) := key_mk Try.underlying3 h
abbrev MapI (w : World) (b n m : Nat) (f : Lit → Option Value) : Prop := MapV w Try.prog 3 b n m f
theorem MapI.turn {w : World} {b n m : Nat} {f g : Lit → Option Value} (h : MapI w b n m f) (hg : ∀ x : Int, g (lk x) = f (lk x)) : MapI w b n m g :=
  MapV.congr h fun kl hk => by obtain ⟨x, rfl⟩ := key_int Try.underlying3 hk; exact hg x
theorem MapI.ext {w w' : World} {b n m : Nat} {f : Lit → Option Value} (h : MapI w b n m f) (he : Ext w w') : MapI w' b n m f := MapV.block h (he.block b (MapV.lt h))
theorem ext_row {W w w' : World} {row : Option Nat} (he : Ext W w) (hg : w.grownBy w' row) (hr : ∀ k, row = some k → W.heap.size ≤ k) : Ext W w' := he.grown hg he.size hr

theorem map_kept {w W w2 : World} {b n q B j : Nat} {f : Lit → Option Value} {v : Value} {xs : List Value} (h : MapI w b n q f) (hx : Ext w W) (ho : w.ownsRow B 3 1 v j xs) (hg : W.grownBy w2 v.ownBlock) : MapI w2 b n q f := by
  refine MapV.kept (MapI.ext h hx) hg fun e => ?_
  obtain ⟨cur, h1⟩ := owns_typed ho _ e.symm
  obtain ⟨es, cl, h2⟩ := MapV.isMap h
  rw [h1] at h2
  cases h2
/-- How many of the first k numbers are an image. -/
def cntF (m : List Int) : Nat → Nat
  | 0 => 0
  | k + 1 => if (fib m (k : Int)).length = 0 then cntF m k else cntF m k + 1
theorem cntF_le (m : List Int) : ∀ k, cntF m k ≤ k
  | 0 => Nat.le_refl _
  | k + 1 => by have := cntF_le m k; simp only [cntF]; split <;> omega
/-- A map of the fibres of m: what stands at the numbers below c that are an image. -/
structure FMap (B : Nat) (w : World) (b : Nat) (m : List Int) (c : Nat) (R : Nat → Value) : Prop where
  map : ∃ n, MapI w b n (cntF m c) (fm c (fun z => 0 < (fib m (z : Int)).length) R)
  fam : Fam B w c R (fun i => fib m (i : Int))
  ge : B ≤ b
theorem FMap.ext {B b c : Nat} {w w' : World} {m : List Int} {R : Nat → Value} (h : FMap B w b m c R) (he : Ext w w') : FMap B w' b m c R := by
  obtain ⟨⟨n, h1⟩, h2, h3⟩ := h
  exact ⟨⟨n, h1.ext he⟩, h2.ext he, h3⟩
theorem FMap.slice {B b c : Nat} {w : World} {m : List Int} {R : Nat → Value} (h : FMap B w b m c R) {z : Nat} (hz : z < c) : ∃ a k, R z = .slice a (fib m (z : Int)).length k := (h.fam.own z hz).slice
/-- All images are below c. -/
def ImIn (m : List Int) (c : Nat) : Prop := ∀ v, v < m.length → 0 ≤ gi m v ∧ gi m v < (c : Int)
def pAll : Nat → Prop := fun _ => True
def pTo (m : List Int) (k : Nat) : Nat → Prop := fun z => z < k → 0 < (fib m (z : Int)).length

theorem fm_put {c : Nat} {p : Nat → Prop} {R : Nat → Value} {z : Nat} {v : Value} (hz : z < c) (hp : p z) (x : Int) : fm c p (put1 R z v) (lk x) = upd (fm c p R) (lk z) (some v) (lk x) := by
  by_cases e : x = z
  · subst e
    rw [upd_same, fm_yes hz hp]
    simp [put1]
  · have e2 : lk x ≠ lk z := fun h => e (by simpa [lk] using h)
    rw [upd_other _ _ e2]
    by_cases h : 0 ≤ x ∧ x < (c : Int) ∧ p x.toNat
    · obtain ⟨y, rfl⟩ := Int.eq_ofNat_of_zero_le h.1
      have hp' : p y := by simpa using h.2.2
      rw [fm_yes (by omega) hp', fm_yes (by omega) hp']
      simp only [put1]
      rw [if_neg (by omega)]
    · rw [fm_no h, fm_no h]
theorem fm_more {k : Nat} (x : Int) : fm (k + 1) pAll nils (lk x) = upd (fm k pAll nils) (lk k) (some (.slice none 0 0)) (lk x) := by
  by_cases e : x = k
  · subst e
    rw [upd_same, fm_yes (by omega) trivial]; rfl
  · have e2 : lk x ≠ lk k := fun h => e (by simpa [lk] using h)
    rw [upd_other _ _ e2]
    by_cases h : 0 ≤ x ∧ x < (k : Int)
    · obtain ⟨y, rfl⟩ := Int.eq_ofNat_of_zero_le h.1
      rw [fm_yes (by omega) trivial, fm_yes (by omega) trivial]
    · rw [fm_no fun h' => h ⟨h'.1, by have := h'.2.1; omega⟩, fm_no fun h' => h ⟨h'.1, h'.2.1⟩]
theorem fm_keep {m : List Int} {c k : Nat} {R : Nat → Value} (h : 0 < (fib m (k : Int)).length) (x : Int) : fm c (pTo m (k + 1)) R (lk x) = fm c (pTo m k) R (lk x) := by
  by_cases h0 : 0 ≤ x ∧ x < (c : Int) ∧ pTo m k x.toNat
  · obtain ⟨y, rfl⟩ := Int.eq_ofNat_of_zero_le h0.1
    have hp : pTo m k y := by simpa using h0.2.2
    rw [fm_yes (by omega) hp, fm_yes (by omega) fun hy => by
      by_cases e : y = k
      · subst e; exact h
      · exact hp (by omega)]
  · rw [fm_no h0, fm_no (p := pTo m (k + 1)) fun h' => h0 ⟨h'.1, h'.2.1, fun hy => h'.2.2 (by omega)⟩]
theorem fm_drop {m : List Int} {c k : Nat} {R : Nat → Value} (h : (fib m (k : Int)).length = 0) (x : Int) : fm c (pTo m (k + 1)) R (lk x) = upd (fm c (pTo m k) R) (lk k) none (lk x) := by
  by_cases e : x = k
  · subst e
    rw [upd_same, fm_no fun h' => by
      have := h'.2.2 (by simp)
      simp at this
      omega]
  · have e2 : lk x ≠ lk k := fun h => e (by simpa [lk] using h)
    rw [upd_other _ _ e2]
    by_cases h0 : 0 ≤ x ∧ x < (c : Int) ∧ pTo m k x.toNat
    · obtain ⟨y, rfl⟩ := Int.eq_ofNat_of_zero_le h0.1
      have hp : pTo m k y := by simpa using h0.2.2
      rw [fm_yes (by omega) hp, fm_yes (by omega) fun hy => hp (by omega)]
    · rw [fm_no h0, fm_no (p := pTo m (k + 1)) fun h' => h0 ⟨h'.1, h'.2.1, fun hy => h'.2.2 (by omega)⟩]
theorem fm_zero (x : Int) : fm 0 pAll nils (lk x) = none := fm_no fun h => by have := h.1; have := h.2.1; omega
theorem fm_start {m : List Int} {c : Nat} {R : Nat → Value} (x : Int) : fm c (pTo m 0) R (lk x) = fm c pAll R (lk x) := by
  by_cases h0 : 0 ≤ x ∧ x < (c : Int)
  · obtain ⟨y, rfl⟩ := Int.eq_ofNat_of_zero_le h0.1
    rw [fm_yes (by omega) (fun h => absurd h (by omega)), fm_yes (by omega) trivial]
  · rw [fm_no fun h => h0 ⟨h.1, h.2.1⟩, fm_no fun h => h0 ⟨h.1, h.2.1⟩]
theorem fm_end {m : List Int} {c : Nat} {R : Nat → Value} (x : Int) : fm c (fun z => 0 < (fib m (z : Int)).length) R (lk x) = fm c (pTo m c) R (lk x) := by
  by_cases h0 : 0 ≤ x ∧ x < (c : Int)
  · obtain ⟨y, rfl⟩ := Int.eq_ofNat_of_zero_le h0.1
    by_cases hp : 0 < (fib m (y : Int)).length
    · rw [fm_yes (p := fun z => 0 < (fib m (z : Int)).length) (by omega) hp, fm_yes (p := pTo m c) (by omega) fun _ => hp]
    · rw [fm_no (p := fun z => 0 < (fib m (z : Int)).length) fun h => hp (by simpa using h.2.2), fm_no (p := pTo m c) fun h => hp (by have := h.2.2 (by have := h0.2; omega); simpa using this)]
  · rw [fm_no fun h => h0 ⟨h.1, h.2.1⟩, fm_no fun h => h0 ⟨h.1, h.2.1⟩]

set_option maxHeartbeats 3200000 in
set_option maxRecDepth 100000 in
theorem fibresByImage_any {w : World} {vm : Value} {m : List Int} (c : Nat) (hc : c ≤ 1048576) (h : IntSl w vm m) (hm20 : m.length ≤ 1048576) :
    Calls Try.prog 183 #[vm, .int .i64 c] w fun e w' => (ImIn m c ∧ ∃ b R, e = .returned (.tuple #[.map (some b), .bool true]) ∧ Ext w w' ∧ FMap w.heap.size w' b m c R) ∨ (¬ ImIn m c ∧ e = .returned (.tuple #[.map none, .bool false]) ∧ Ext w w') := by
  have HM20 := Lib.hid hm20
  obtain ⟨la, lb, lo, lc, rfl, hla, hll, hlm, hlc⟩ := h
  unfold maxLen at hlm
  have HLA := Lib.hid hla
  have HLC := Lib.hid hlc
  clear hla hlc
  obtain ⟨i0, hi, hz0, hz1, hz2⟩ := info_parts Try.info3
  have I0 := Lib.hid (show Try.prog.info? 3 = some i0 ∧ i0.zero = some (.int .i64 0) ∧ i0.size = 1 ∧ i0.bytes = 8 from ⟨hi, hz0, hz1, hz2⟩)
  clear hi hz0 hz1 hz2
  have hmm := mapHint
  go_enter Try.func183, Try.ntmps183
  go_wp2_with fail
  clear hmm
  go_loopg [16] c (fun g i wr => ∃ k : Nat, k ≤ c ∧ g = c - k ∧ i = .int .i64 k ∧ Hid (Ext w wr ∧ MapI wr w.heap.size k k (fm k pAll nils)))
  case atStart => exact ⟨0, Nat.zero_le _, rfl, rfl, (Ext.rfl' w).alloc' _, MapI.turn (MapV.made w Try.prog 3) fm_zero⟩
  case round =>
    obtain ⟨k, hk, rfl, rfl, Hr⟩ := hrel
    by_cases hlt : k < c
    · have hkey := int_key (x := (k : Int)) (by unfold inI64; omega)
      go_wp2_with (at_mapUpdate; refine wpList_putV rfl _ _ _ rfl Hr.out.2 intK Try.underlying150 (by unfold maxLen; omega) rfl rfl rfl hkey ?_; intro w1 hm1 hg1)
      rw [fm_no fun h => by have := h.2.1; omega] at hm1
      go_roundg (c - (k + 1))
      case measure => omega
      case rel => exact ⟨k + 1, by omega, rfl, by go_num, ext_row Hr.out.1 hg1 fun b hb => by cases hb; exact Nat.le_refl _, MapI.turn hm1 fm_more⟩
    · obtain rfl : k = c := by omega
      go_wp2_with fail
      go_loopg [24] m.length (fun g i wx => ∃ v : Nat, v ≤ m.length ∧ g = m.length - v ∧ i = .int .i64 v ∧ Hid (Ext w wx ∧ (∀ u, u < v → 0 ≤ gi m u ∧ gi m u < (k : Int)) ∧ ∃ R, MapI wx w.heap.size (k + v) k (fm k pAll R) ∧ Fam w.heap.size wx k R (fun (i : Nat) => fibTo m (i : Int) v)))
      case atStart => exact ⟨0, Nat.zero_le _, rfl, rfl, Hr.out.1, fun u hu => absurd hu (by omega), nils, Hr.out.2, Fam.nil _ _ _⟩
      case round =>
        obtain ⟨v, hv, rfl, rfl, Hs⟩ := hrel
        by_cases hvt : v < m.length
        · obtain ⟨_, hmy, rfl, hmr⟩ := HLC.out v hvt
          obtain ⟨hsE, hsI, R, hsM, hsF⟩ := Hs.out
          have SM := Lib.hid hsM
          have SF := Lib.hid hsF
          have SE := Lib.hid hsE
          have SI := Lib.hid hsI
          clear hsE hsI hsM hsF
          obtain ⟨x, hx⟩ : ∃ x, gi m v = x := ⟨_, rfl⟩
          rw [hx] at hmy hmr
          have HX := Lib.hid hx
          have hkey := int_key hmr
          clear hx hmr
          obtain rfl := HLA.out (by omega)
          have c1 := SE.out.cell' hmy
          clear hmy
          by_cases hxr : 0 ≤ x ∧ x < (k : Int)
          case neg =>
            have HF := Lib.hid (show ¬ ImIn m k from fun h => hxr (by have := h v hvt; rw [HX.out] at this; exact this))
            have hu := fm_no (c := k) (p := pAll) (R := R) (x := x) fun h => hxr ⟨h.1, h.2.1⟩
            go_wp2_with (at_lookup; refine wpList_lookV_ok rfl _ _ rfl SM.out intK Try.underlying150 (zeroSI _) rfl rfl hkey (.slice none 0 0) false (by rw [hu]; rfl) (by rw [hu]; rfl) ?_)
            go_ret2
            exact .inr ⟨HF.out, rfl, SE.out⟩
          obtain ⟨z, rfl⟩ := Int.eq_ofNat_of_zero_le hxr.1
          have hzk : z < k := by omega
          have HXR := Lib.hid hxr
          clear hxr
          have hu := fm_yes (c := k) (p := pAll) (R := R) hzk trivial
          obtain ⟨ra, rc, hRz⟩ := (SF.out.own z hzk).slice
          have hu1 : (fm k pAll R (lk (z : Int))).getD (.slice none 0 0) = .slice ra (fibTo m (z : Int) v).length rc := by rw [hu, ← hRz]; rfl
          have hu2 : (fm k pAll R (lk (z : Int))).isSome = true := by rw [hu]; rfl
          have HU2 := Lib.hid hu2
          have HRZ := Lib.hid hRz
          have hfl := fibTo_len m (z : Int) v
          have hm20 := HM20.out
          clear hu hRz
          go_wp2_with (first
            | (at_lookup; refine wpList_lookV_ok rfl _ _ rfl SM.out intK Try.underlying150 (zeroSI _) rfl rfl hkey _ true hu1 HU2.out ?_)
            | (at_builtin; refine wpList_app2 rfl _ _ 26 rfl w.heap.size 3 i0 (.int .i64 0) 1 8 Try.underlying26 I0.out.1 I0.out.2.1 I0.out.2.2.1 I0.out.2.2.2 rfl (by decide) (.slice ra (fibTo m (z : Int) v).length rc) (fibTo m (z : Int) v).length (intCells (fibTo m (z : Int) v)) rfl (by rw [← HRZ.out]; exact (SF.out.own z hzk).ext ((Ext.rfl' _).alloc' _)) (some ⟨wr.heap.size, 0, none⟩) 1 1 [.int .i64 (v : Int)] rfl (src_one wr _ _ rfl) (by unfold maxLen; omega) (by omega) (by have := SE.out.size; simp; omega) ?_; intro v' w2 hg2)
            | (at_mapUpdate; refine wpList_putV rfl _ _ _ rfl (map_kept SM.out ((Ext.rfl' _).alloc' _) (SF.out.own z hzk) (by rw [HRZ.out]; exact hg2.1.2.1)) intK Try.underlying150 (by unfold maxLen; omega) rfl rfl rfl hkey ?_; intro w3 hm3 hg3))
          rw [if_pos HU2.out] at hm3
          have HG2 : Grew2 (wr.alloc (.cells #[.int .i64 (v : Int)] 3)) w2 w.heap.size 3 1 (R z) v' ((fibTo m (z : Int) v).length + 1) (intCells (fibTo m (z : Int) v) ++ [.int .i64 (v : Int)]) := by rw [HRZ.out]; exact hg2
          have hE2 : Ext w w2 := ext_row (SE.out.alloc' (.cells #[.int .i64 (v : Int)] 3)) HG2.1.2.1 fun b hb => ((SF.out.own z hzk).lt b hb).1
          have hF2 := (SF.out.step ((Ext.rfl' _).alloc' _) hzk HG2)
          rw [app1_fib HX.out] at hF2
          obtain ⟨es, cl, hmb⟩ := MapV.isMap (map_kept SM.out ((Ext.rfl' _).alloc' _) (SF.out.own z hzk) HG2.1.2.1)
          go_roundg (m.length - (v + 1))
          case measure => omega
          case rel =>
            refine ⟨v + 1, by omega, rfl, by go_num, ext_row hE2 hg3 fun b hb => by cases hb; exact Nat.le_refl _, fun u hu => ?_, put1 R z v', MapI.turn hm3 fun x => fm_put hzk trivial x, hF2.turn hg3 fun cur h => ?_⟩
            · by_cases e : u = v
              · subst e; rw [HX.out]; exact HXR.out
              · exact SI.out u (by omega)
            · rw [h] at hmb; cases hmb
        · obtain rfl : v = m.length := by omega
          obtain ⟨hsE, hsI, R, hsM, hsF⟩ := Hs.out
          have SM := Lib.hid hsM
          have SF := Lib.hid hsF
          have SE := Lib.hid hsE
          have SI := Lib.hid (show ImIn m k from hsI)
          clear hsE hsI hsM hsF
          go_wp2_with fail
          go_loopg [45] k (fun g i wy => ∃ q : Nat, q ≤ k ∧ g = k - q ∧ i = .int .i64 q ∧ Hid (Ext w wy ∧ MapI wy w.heap.size (k + m.length) (cntF m q + (k - q)) (fm k (pTo m q) R) ∧ Fam w.heap.size wy k R (fun (i : Nat) => fib m (i : Int))))
          case atStart => exact ⟨0, Nat.zero_le _, rfl, rfl, SE.out, by simpa [cntF] using MapI.turn SM.out fm_start, SF.out⟩
          case round =>
            obtain ⟨q, hq, rfl, rfl, Ht⟩ := hrel
            by_cases hqt : q < k
            · have hkey := int_key (x := (q : Int)) (by unfold inI64; omega)
              have hu := fm_yes (c := k) (p := pTo m q) (R := R) hqt (fun h => absurd h (by omega))
              obtain ⟨ra, rc, hRz⟩ := (Ht.out.2.2.own q hqt).slice
              have hu1 : (fm k (pTo m q) R (lk (q : Int))).getD (.slice none 0 0) = .slice ra (fib m (q : Int)).length rc := by rw [hu, ← hRz]; rfl
              have HU2 := Lib.hid (show (fm k (pTo m q) R (lk (q : Int))).isSome = true by rw [hu]; rfl)
              clear hu hRz
              have hcl := cntF_le m q
              by_cases h0 : (fib m (q : Int)).length = 0
              · have hb0 : (((fib m (q : Int)).length : Int) == 0) = true := by simp [h0]
                have H0 := Lib.hid h0
                clear h0
                go_wp2_with (first
                  | (at_lookup; refine wpList_lookV rfl _ _ rfl Ht.out.2.1 intK Try.underlying150 (zeroSI _) rfl rfl hkey _ hu1 ?_)
                  | (at_delete; refine wpList_dropV rfl _ _ rfl Ht.out.2.1 intK Try.underlying150 rfl rfl hkey ?_; intro w3 hm3 hg3))
                rw [if_pos HU2.out] at hm3
                obtain ⟨es, cl, hmb⟩ := MapV.isMap Ht.out.2.1
                have hcn : cntF m (q + 1) = cntF m q := by simp only [cntF]; rw [if_pos H0.out]
                go_roundg (k - (q + 1))
                case measure => omega
                case rel =>
                  refine ⟨q + 1, by omega, rfl, by go_num, ext_row Ht.out.1 hg3 fun b hb => by cases hb; exact Nat.le_refl _, ?_, Ht.out.2.2.turn hg3 fun cur h => by rw [h] at hmb; cases hmb⟩
                  have e : cntF m (q + 1) + (k - (q + 1)) = cntF m q + (k - q) - 1 := by omega
                  rw [e]
                  exact MapI.turn hm3 fun x => fm_drop H0.out x
              · have hb0 : (((fib m (q : Int)).length : Int) == 0) = false := beq_eq_false_iff_ne.2 (by omega)
                have H0 := Lib.hid (show 0 < (fib m (q : Int)).length by omega)
                clear h0
                have hcn : cntF m (q + 1) = cntF m q + 1 := by simp only [cntF]; rw [if_neg (by have := H0.out; omega)]
                go_wp2_with (first
                  | (at_lookup; refine wpList_lookV rfl _ _ rfl Ht.out.2.1 intK Try.underlying150 (zeroSI _) rfl rfl hkey _ hu1 ?_))
                go_roundg (k - (q + 1))
                case measure => omega
                case rel =>
                  refine ⟨q + 1, by omega, rfl, by go_num, Ht.out.1, ?_, Ht.out.2.2⟩
                  have e : cntF m (q + 1) + (k - (q + 1)) = cntF m q + (k - q) := by omega
                  rw [e]
                  exact MapI.turn Ht.out.2.1 fun x => fm_keep H0.out x
            · obtain rfl : q = k := by omega
              go_wp2
              go_ret2
              refine .inl ⟨SI.out, _, R, rfl, Ht.out.1, ⟨_, MapI.turn (by simpa using Ht.out.2.1) fm_end⟩, Ht.out.2.2, Nat.le_refl _⟩
end Go.Proofs.Ytkpdbceglejbnaa
