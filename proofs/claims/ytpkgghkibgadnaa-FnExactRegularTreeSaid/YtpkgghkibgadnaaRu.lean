/- The contract of the program's RegularTree. -/
import Derived.Test.YtpkgghkibgadnaaRt
import Derived.Test.YtpkgghkibgadnaaSt
namespace Go.Proofs.Ytpkgghkibgadnaa
open Go.RowKit

theorem treeD_bd (d : Nat) : ∀ k i, 0 ≤ gi (treeD d k) i ∧ gi (treeD d k) i ≤ k
  | 0, i => by rcases i with _ | i <;> simp [gi, treeD]
  | k + 1, i => by
    by_cases h : i ≤ k
    · rw [gi_treeD_old d k h]; have := treeD_bd d k i; omega
    · by_cases e : i = k + 1
      · subst e; rw [gi_treeD_new]; have := treeD_bd d k (tpar d k); omega
      · have : gi (treeD d (k + 1)) i = 0 := by simp [gi, List.getD, List.getElem?_eq_none (show (treeD d (k + 1)).length ≤ i by rw [treeD_len]; omega)]
        rw [this]; omega
theorem treeE_in (d : Nat) : ∀ k, k ≤ 50 → d ≤ 6 → PairsIn (treeE d k)
  | 0, _, _ => PairsIn.nil
  | k + 1, h, h6 => PairsIn.app (treeE_in d k (by omega) h6) fun i hi => by
      obtain rfl : i = 0 := by simpa using hi
      have : tpar d k ≤ k + 1 := by
        unfold tpar
        split
        · omega
        · have := Nat.div_le_self (k - d) (d - 1); omega
      exact ⟨by unfold inI64; simp [gn]; omega, by unfold inI64; simp [gp]; omega⟩
theorem tree_fit {d v : Nat} (h6 : 0 < tcnt d v → d ≤ 6) (h : tcnt d v < 40) : edgesC (tcnt d v + 1) (treeE d (tcnt d v)) = true := by
  by_cases h0 : tcnt d v = 0
  · rw [h0]; rfl
  · refine tree_fits d (h6 (by omega)) _ (by omega) ?_ ?_
    · rcases Nat.eq_zero_or_pos d with e | e
      · subst e; exact absurd (by unfold tcnt; split <;> simp) h0
      · exact e
    · rintro rfl
      unfold tcnt; split <;> simp
theorem kids_snoc {d c t : Nat} : endCells (treeE d (c + t)) ++ [.int .i64 (tpar d (c + t) : Int), .int .i64 ((c : Int) + t + 1)] = endCells (treeE d (c + t + 1)) := by
  rw [treeE, ← endCells_snoc]
  simp
theorem dist_snoc {d k : Nat} : intCells (treeD d k) ++ [.int .i64 (gi (treeD d k) (tpar d k) + 1)] = intCells (treeD d (k + 1)) := by
  simp [intCells, treeD]
def treeNet (d k : Nat) : Net := madeTo (blank (k + 1) 0) (treeE d k) (treeE d k).length
def treeB (r : Option Nat) : Bool := r.isSome
def treeOr (d : Nat) (r : Option Nat) : Net := match r with | some k => treeNet d k | none => zeroNet
def TreeOK (n dep : Int) : Prop := 0 ≤ n ∧ 0 ≤ dep ∧ (0 < dep → n ≤ 6) ∧ (treeAt n.toNat dep 0).isSome = true
noncomputable def treeAns (n dep : Int) : Net := if dec (TreeOK n dep) = true then treeNet n.toNat ((treeAt n.toNat dep 0).getD 0) else zeroNet
theorem treeAns_t {n dep : Int} (h : TreeOK n dep) : treeAns n dep = treeNet n.toNat ((treeAt n.toNat dep 0).getD 0) := by simp [treeAns, dec_true h]
theorem treeAns_f {n dep : Int} (h : ¬ TreeOK n dep) : treeAns n dep = zeroNet := by simp [treeAns, dec_false h]

set_option maxHeartbeats 6400000 in
set_option maxRecDepth 100000 in
theorem tree_core {w : World} (d : Nat) (dep : Int) (hdep : 0 ≤ dep) (h6 : 0 < dep → d ≤ 6) :
    Calls Try.prog 18 #[.int .i64 d, .int .i64 dep] w fun e w' => ∃ v' bs, e = .returned (.tuple #[v', .bool (treeB (treeAt d dep 0))]) ∧ Ext w w' ∧ OwnNet w' v' (treeOr d (treeAt d dep 0)) bs ∧ Fresh w bs := by
  have HX := Lib.hid ((Ext.rfl' w).alloc' (.cells #[.slice none 0 0, .slice none 0 0, .slice none 0 0] 29))
  have HR := Lib.hid (And.intro (row3_made w (.slice none 0 0) (.slice none 0 0) (.slice none 0 0) 29) (show (w.alloc (.cells #[.slice none 0 0, .slice none 0 0, .slice none 0 0] 29)).heap.size = w.heap.size + 1 by simp))
  obtain ⟨i2, hi, hz0, hz1, hz2⟩ := info_parts Try.infoT2'
  have I2 := Lib.hid (And.intro hi (And.intro hz0 (And.intro hz1 hz2)))
  obtain ⟨i3, hj, hy0, hy1, hy2⟩ := info_parts Try.info3
  have I3 := Lib.hid (And.intro hj (And.intro hy0 (And.intro hy1 hy2)))
  have H6 := Lib.hid h6
  clear hi hz0 hz1 hz2 hj hy0 hy1 hy2
  obtain ⟨res, hres⟩ : ∃ res, res = treeAt d dep 0 := ⟨_, rfl⟩
  rw [← hres]
  have HRES := Lib.hid hres
  clear hres
  have hd0 : ¬ (d : Int) < 0 := by omega
  have hp0 : ¬ dep < 0 := by omega
  go_enter Try.func18, Try.ntmps18
  by_cases hz : 0 < dep
  · have hd6 : ¬ 6 < (d : Int) := by have := h6 hz; omega
    have hdn : d ≤ 6 := h6 hz
    go_wp2_with fail
    generalize w.alloc (.cells #[.slice none 0 0, .slice none 0 0, .slice none 0 0] 29) = W0 at *
    go_loopg [6, 7, 8] 41 (fun g es ds vv wr => ∃ v c : Nat, v ≤ c + 1 ∧ c < 40 ∧ Hid (c = tcnt d v ∧ treeAt d dep v = res) ∧ g = 41 - v ∧ vv = .int .i64 v ∧ Hid (Ext W0 wr ∧ wr.ownsRow W0.heap.size 62 2 es c (endCells (treeE d c)) ∧ wr.ownsRow W0.heap.size 3 1 ds (c + 1) (intCells (treeD d c))))
    case atStart =>
      refine ⟨0, 0, by omega, by omega, ⟨rfl, HRES.out.symm⟩, rfl, rfl, ((Ext.rfl' W0).alloc' _).alloc' _, ?_, ?_⟩
      · rw [← HR.out.2]
        exact owns_ext (owns_lit W0 62 2) ((Ext.rfl' _).alloc' _)
      · have := World.ownsRow_lit (base := W0.heap.size) (e := 3) (size := 1) (W0.alloc (.cells #[] 62)) #[.int .i64 0] 1 (by simp) (by decide) (by simp)
        have hz := HR.out.2
        simp at this
        rw [← hz]
        simpa [treeD, intCells] using this
    case round =>
      obtain ⟨v, c, hvc, hc40, HV, rfl, rfl, Hr⟩ := hrel
      obtain ⟨dg, dc, rfl, hdc, hdm, hdcell⟩ := owns_at Hr.out.2.2 (treeD_len d c) (by omega)
      unfold maxLen at hdm
      have ST := Lib.hid (treeAt_step (d := d) (depth := dep) (v := v) (by omega))
      by_cases hv : v < c + 1
      · have q0 := hdcell v hv
        obtain ⟨dv, hdv⟩ : ∃ dv, dv = gi (treeD d c) v := ⟨_, rfl⟩
        have hbd := treeD_bd d c v
        rw [← hdv] at q0 hbd
        have HDV := Lib.hid hdv
        have hv1 : (v : Int) < (c : Int) + 1 := by omega
        clear hdcell hdv
        by_cases hlt : dv < dep
        · obtain ⟨kk, hkk⟩ : ∃ kk, kk = tkid d v := ⟨_, rfl⟩
          have hkd : kk ≤ 6 := by rw [hkk]; unfold tkid; split <;> omega
          have hkv : (v = 0 → kk = d) ∧ (0 < v → kk + 1 = d) := by
            rw [hkk]; unfold tkid
            refine ⟨fun e => by rw [if_pos e], fun e => ?_⟩
            rw [if_neg (by omega)]
            have : d ≠ 0 := fun e0 => by
              have h1 := HV.out.1
              unfold tcnt at h1
              rw [if_neg (by omega), e0] at h1
              simp at h1
              omega
            omega
          have HKK := Lib.hid hkk
          have HKV := Lib.hid hkv
          clear hkk hkv
          go_upto_if 43 with (fail)
          go_cut [9] from 44 to 46 (fun t9 wx => t9 = .int .i64 kk ∧ wx = wr)
          case first =>
            by_cases h0 : v = 0
            · subst h0
              obtain rfl := HKV.out.1 rfl
              go_wp2
              go_meet
              exact ⟨rfl, rfl⟩
            · have h0' : 0 < v := by omega
              have hk1 := HKV.out.2 h0'
              go_wp2
              go_meet
              refine ⟨?_, rfl⟩
              have e : (kk : Int) = (d : Int) - 1 := by omega
              first | rw [e] | simp [e]
          obtain ⟨rfl, rfl⟩ := hcut
          clear q0 hv1
          have hw0 : ∃ wo : World, wo = wc := ⟨_, rfl⟩
          obtain ⟨wo, rfl⟩ := hw0
          go_wp2_with fail
          go_loopg [6, 7, 47] kk (fun g es ds i wx => ∃ j : Nat, j ≤ kk ∧ g = kk - j ∧ i = .int .i64 j ∧ Hid (Ext W0 wx ∧ wx.ownsRow W0.heap.size 62 2 es (c + j) (endCells (treeE d (c + j))) ∧ wx.ownsRow W0.heap.size 3 1 ds (c + j + 1) (intCells (treeD d (c + j)))))
          case atStart => exact ⟨0, Nat.zero_le _, rfl, rfl, Hr.out⟩
          case round =>
            obtain ⟨j, hj, rfl, rfl, Hs⟩ := hrel
            obtain ⟨eg, ec, rfl, hec, hem, hecell⟩ := owns_at Hs.out.2.2 (treeD_len d (c + j)) (by omega)
            unfold maxLen at hem
            by_cases hjt : j < kk
            · have HZ := Lib.hid Hs.out.1.size
              have htp : tpar d (c + j) = v := by rw [HV.out.1]; exact tpar_at (by rw [← HKK.out]; exact hjt)
              have hdj : gi (treeD d (c + j)) v = dv := by rw [gi_treeD_le d j c (by omega)]; exact HDV.out.symm
              have SE := Lib.hid (show treeE d (c + j) ++ [((v : Int), (c : Int) + (j : Int) + 1)] = treeE d (c + (j + 1)) by
                show _ = treeE d ((c + j) + 1)
                rw [treeE, htp]
                simp)
              have SN := Lib.hid (show intCells (treeD d (c + j)) ++ [.int .i64 (dv + 1)] = intCells (treeD d (c + (j + 1))) by
                have := dist_snoc (d := d) (k := c + j)
                rw [htp, hdj] at this
                exact this)
              have HDJ := Lib.hid hdj
              clear hecell htp hdj
              go_wp2_with (first
                | (at_builtin; refine wpList_app rfl (.tmp 49) (.tmp 54) 61 rfl W0.heap.size 62 i2 (.agg #[.int .i64 0, .int .i64 0]) 2 16 Try.underlying61 I2.out.1 I2.out.2.1 I2.out.2.2.1 I2.out.2.2.2 rfl (by decide) u6 (c + j) (endCells (treeE d (c + j))) rfl (owns_ext Hs.out.2.1 ((Ext.rfl' wr).alloc' _)) (some ⟨wr.heap.size, 0, none⟩) 1 1 [.int .i64 (v : Int), .int .i64 ((c : Int) + (j : Int) + 1)] rfl (src_two wr _ _ _ rfl rfl) (by unfold maxLen; omega) (by omega) (Nat.le_trans HZ.out ((Ext.rfl' wr).alloc' _).size) ?_; intro v' w3 hg; have d3 := owns_stay (owns_ext Hs.out.2.2 ((Ext.rfl' wr).alloc' _)) (owns_ext Hs.out.2.1 ((Ext.rfl' wr).alloc' _)) hg.2.1 (by decide); obtain ⟨g5, g6⟩ := flat_step2 ((Ext.rfl' wr).alloc' _) Hs.out.2.1 hg; rw [SE.out] at g5; have G5 := Lib.hid g5; have G6 := Lib.hid (g6 W0 Hs.out.1 (Nat.le_refl _)); have D3 := Lib.hid d3; obtain ⟨g', c', hv', -, -, hc'⟩ := owns_at d3 (treeD_len d (c + j)) (by omega); obtain ⟨rfl, rfl⟩ : eg = g' ∧ ec = c' := (by simpa using hv'); have c0 := hc' v (by omega); rw [HDJ.out] at c0; have hv2 : (v : Int) < (c : Int) + (j : Int) + 1 := (by omega); clear hg g5 g6 d3 hv' hc')
                | (at_builtin; refine wpList_app rfl (.tmp 56) (.tmp 62) 23 rfl W0.heap.size 3 i3 (.int .i64 0) 1 8 Try.underlying23 I3.out.1 I3.out.2.1 I3.out.2.2.1 I3.out.2.2.2 rfl (by decide) (.slice (some ⟨eg, 0, none⟩) (c + j + 1) ec) (c + j + 1) (intCells (treeD d (c + j))) rfl (owns_ext D3.out ((Ext.rfl' w3).alloc' _)) (some ⟨w3.heap.size, 0, none⟩) 1 1 [.int .i64 (dv + 1)] rfl (src_one w3 _ _ rfl) (by unfold maxLen; omega) (by omega) (Nat.le_trans G6.out.size ((Ext.rfl' w3).alloc' _).size) ?_; intro v'' w4 hg; have e4 := owns_stay (owns_ext G5.out ((Ext.rfl' w3).alloc' _)) (owns_ext D3.out ((Ext.rfl' w3).alloc' _)) hg.2.1 (by decide); have E4 := Lib.hid e4; have D4 := Lib.hid (show w4.ownsRow W0.heap.size 3 1 v'' (c + (j + 1) + 1) (intCells (treeD d (c + (j + 1)))) by rw [← SN.out]; exact hg.1); have X4 := Lib.hid (hg.ext (G6.out.alloc' _) fun b hb => (D3.out.lt b hb).1); clear hg e4)
                | fail)
              go_roundg (kk - (j + 1))
              case measure => omega
              case rel => exact ⟨j + 1, by omega, rfl, by go_num, X4.out, E4.out, D4.out⟩
            · obtain rfl : j = kk := by omega
              have HNX := Lib.hid (show c + j = tcnt d (v + 1) by rw [tcnt_succ, ← HKK.out, ← HV.out.1])
              clear hecell
              by_cases hbig : 40 ≤ c + j
              · have hbi : (40 : Int) < (c : Int) + (j : Int) + 1 := by omega
                have HRN : Hid (res = none) := by
                  have := ST.out
                  rw [if_pos (by rw [← HV.out.1, ← HDV.out]; exact ⟨hv, hlt⟩), if_pos (by rw [← HNX.out]; exact hbig), HV.out.2] at this
                  exact this
                have EX := Lib.hid (HX.out.trans' Hs.out.1)
                obtain ⟨s0, s1, s2, t0, t1, t2⟩ := row3_facts (row_ext HR.out.1 Hs.out.1)
                go_wp2_with fail
                refine bodyPost_ret (v := .tuple #[znet, .bool false]) (by simp [results, Try.results18, go_sem, s0, s1, s2, znet]) rfl ⟨_, [], by rw [HRN.out]; rfl, store3_ext EX.out (Nat.le_refl _) _ _ _, by rw [HRN.out]; exact own_zero _, Fresh.nil _⟩
              · have hbi : ¬ (40 : Int) < (c : Int) + (j : Int) + 1 := by omega
                have HRN : Hid (treeAt d dep (v + 1) = res) := by
                  have := ST.out
                  rw [if_pos (by rw [← HV.out.1, ← HDV.out]; exact ⟨hv, hlt⟩), if_neg (by rw [← HNX.out]; exact hbig), HV.out.2] at this
                  exact this.symm
                go_wp2
                go_roundg (41 - (v + 1))
                case measure => omega
                case rel => exact ⟨v + 1, c + j, by omega, by omega, ⟨HNX.out, HRN.out⟩, rfl, by go_num, Hs.out⟩
        · have HRN : Hid (res = some c) := by
            have := ST.out
            rw [if_neg (by rw [← HV.out.1, ← HDV.out]; exact fun k => hlt k.2), HV.out.2, ← HV.out.1] at this
            exact this
          have F := Lib.hid (flat_of_owns (E := treeE d c) Hr.out.2.1 (by rw [treeE_len]) (treeE_in d c (by omega) hdn))
          have MB := Lib.hid (mbAns_ok (n := c + 1) (by omega) (by omega) (edgesC_ok (by have := tree_fit (d := d) (v := v) (fun _ => hdn) (by rw [← HV.out.1]; exact hc40); rwa [← HV.out.1] at this)))
          have EX := Lib.hid (HX.out.trans' Hr.out.1)
          have FL := Lib.hid (show FlatSl wr u6 (treeE d c).length (treeE d c) by rw [treeE_len]; exact F.out)
          have CALL := madeBy_any (c + 1) (by omega) FL.out
          have hcast : ((c + 1 : Nat) : Int) = (c : Int) + 1 := by omega
          rw [hcast, MB.out] at CALL
          have HC := Lib.hid CALL
          clear CALL hcast
          go_wp2_with fail
          (with_reducible refine HC.out.mono ?_)
          rintro e w4 ⟨v', bs, rfl, hw, ho, hf⟩
          obtain ⟨a0, c0', a1, c1', a2, c2', rfl⟩ := ho.agg
          have E4 := Lib.hid (EX.out.trans' hw)
          have O4 := Lib.hid (show OwnNet w4 _ (treeNet d c) bs from ho)
          have F4 := Lib.hid hf.1
          have S4 := Lib.hid (show ∀ b ∈ bs, w.heap.size ≤ b ∧ b ≠ w.heap.size from fun b hb => by have := hf.2 b hb; have := Hr.out.1.size; have := HR.out.2; omega)
          obtain ⟨s0, s1, s2, t0, t1, t2⟩ := row3_facts (row_ext HR.out.1 (Hr.out.1.trans' hw))
          clear hw ho hf
          go_wp2
          have hc := close_at E4.out (Nat.le_refl _) O4.out F4.out S4.out
          refine bodyPost_ret (v := .tuple #[.agg #[.slice a0 (treeNet d c).ends.length c0', .slice a1 (treeNet d c).ids.length c1', .slice a2 (treeNet d c).inputs.length c2'], .bool true]) (by simp [results, Try.results18, go_sem, s0, s1, s2, treeNet]) rfl ⟨_, bs, by rw [HRN.out]; rfl, hc.1, by rw [HRN.out]; exact hc.2.1, hc.2.2⟩
      · have HRN : Hid (res = some c) := by
          have := ST.out
          rw [if_neg (by rw [← HV.out.1]; exact fun k => hv k.1), HV.out.2, ← HV.out.1] at this
          exact this
        have hv1 : ¬ (v : Int) < (c : Int) + 1 := by omega
        clear hdcell
        have F := Lib.hid (flat_of_owns (E := treeE d c) Hr.out.2.1 (by rw [treeE_len]) (treeE_in d c (by omega) hdn))
        have MB := Lib.hid (mbAns_ok (n := c + 1) (by omega) (by omega) (edgesC_ok (by have := tree_fit (d := d) (v := v) (fun _ => hdn) (by rw [← HV.out.1]; exact hc40); rwa [← HV.out.1] at this)))
        have EX := Lib.hid (HX.out.trans' Hr.out.1)
        have FL := Lib.hid (show FlatSl wr u6 (treeE d c).length (treeE d c) by rw [treeE_len]; exact F.out)
        have CALL := madeBy_any (c + 1) (by omega) FL.out
        have hcast : ((c + 1 : Nat) : Int) = (c : Int) + 1 := by omega
        rw [hcast, MB.out] at CALL
        have HC := Lib.hid CALL
        clear CALL hcast
        go_wp2_with fail
        (with_reducible refine HC.out.mono ?_)
        rintro e w4 ⟨v', bs, rfl, hw, ho, hf⟩
        obtain ⟨a0, c0', a1, c1', a2, c2', rfl⟩ := ho.agg
        have E4 := Lib.hid (EX.out.trans' hw)
        have O4 := Lib.hid (show OwnNet w4 _ (treeNet d c) bs from ho)
        have F4 := Lib.hid hf.1
        have S4 := Lib.hid (show ∀ b ∈ bs, w.heap.size ≤ b ∧ b ≠ w.heap.size from fun b hb => by have := hf.2 b hb; have := Hr.out.1.size; have := HR.out.2; omega)
        obtain ⟨s0, s1, s2, t0, t1, t2⟩ := row3_facts (row_ext HR.out.1 (Hr.out.1.trans' hw))
        clear hw ho hf
        go_wp2
        have hc := close_at E4.out (Nat.le_refl _) O4.out F4.out S4.out
        refine bodyPost_ret (v := .tuple #[.agg #[.slice a0 (treeNet d c).ends.length c0', .slice a1 (treeNet d c).ids.length c1', .slice a2 (treeNet d c).inputs.length c2'], .bool true]) (by simp [results, Try.results18, go_sem, s0, s1, s2, treeNet]) rfl ⟨_, bs, by rw [HRN.out]; rfl, hc.1, by rw [HRN.out]; exact hc.2.1, hc.2.2⟩
  · obtain rfl : dep = 0 := by omega
    have HRN : Hid (res = some 0) := by
      have e := HRES.out
      rw [treeAt_step (by omega), if_neg (fun k => absurd k.2 (by show ¬ ((0 : Int) < 0); omega))] at e
      exact e
    go_wp2_with fail
    generalize w.alloc (.cells #[.slice none 0 0, .slice none 0 0, .slice none 0 0] 29) = W0 at *
    go_loopg [6, 7, 8] 0 (fun g es ds vv wr => g = 0 ∧ vv = .int .i64 0 ∧ Hid (Ext W0 wr ∧ wr.ownsRow W0.heap.size 62 2 es 0 (endCells (treeE d 0)) ∧ wr.ownsRow W0.heap.size 3 1 ds 1 (intCells (treeD d 0))))
    case atStart =>
      refine ⟨rfl, rfl, ((Ext.rfl' W0).alloc' _).alloc' _, ?_, ?_⟩
      · rw [← HR.out.2]
        exact owns_ext (owns_lit W0 62 2) ((Ext.rfl' _).alloc' _)
      · have := World.ownsRow_lit (base := W0.heap.size) (e := 3) (size := 1) (W0.alloc (.cells #[] 62)) #[.int .i64 0] 1 (by simp) (by decide) (by simp)
        have hz := HR.out.2
        simp at this
        rw [← hz]
        simpa [treeD, intCells] using this
    case round =>
      obtain ⟨rfl, rfl, Hr⟩ := hrel
      obtain ⟨dg, dc, rfl, hdc, hdm, hdcell⟩ := owns_at Hr.out.2.2 (treeD_len d 0) (by omega)
      unfold maxLen at hdm
      have q0 : wr.cell? ⟨dg, 0, none⟩ = some (.int .i64 0) := hdcell 0 (by omega)
      have F := Lib.hid (flat_of_owns (E := treeE d 0) Hr.out.2.1 (by rw [treeE_len]) PairsIn.nil)
      have MB := Lib.hid (mbAns_ok (n := 1) (by omega) (by omega) (edgesC_ok (show edgesC 1 (treeE d 0) = true from rfl)))
      have EX := Lib.hid (HX.out.trans' Hr.out.1)
      have FL := Lib.hid (show FlatSl wr u6 (treeE d 0).length (treeE d 0) by rw [treeE_len]; exact F.out)
      have CALL := madeBy_any 1 (by omega) FL.out
      rw [MB.out] at CALL
      have HC := Lib.hid (show Calls Try.prog 38 #[.int .i64 1, u6] wr _ from CALL)
      clear CALL hdcell
      go_wp2_with fail
      (with_reducible refine HC.out.mono ?_)
      rintro e w4 ⟨v', bs, rfl, hw, ho, hf⟩
      obtain ⟨a0, c0', a1, c1', a2, c2', rfl⟩ := ho.agg
      have E4 := Lib.hid (EX.out.trans' hw)
      have O4 := Lib.hid (show OwnNet w4 _ (treeNet d 0) bs from ho)
      have F4 := Lib.hid hf.1
      have S4 := Lib.hid (show ∀ b ∈ bs, w.heap.size ≤ b ∧ b ≠ w.heap.size from fun b hb => by have := hf.2 b hb; have := Hr.out.1.size; have := HR.out.2; omega)
      obtain ⟨s0, s1, s2, t0, t1, t2⟩ := row3_facts (row_ext HR.out.1 (Hr.out.1.trans' hw))
      clear hw ho hf
      go_wp2
      have hc := close_at E4.out (Nat.le_refl _) O4.out F4.out S4.out
      refine bodyPost_ret (v := .tuple #[.agg #[.slice a0 (treeNet d 0).ends.length c0', .slice a1 (treeNet d 0).ids.length c1', .slice a2 (treeNet d 0).inputs.length c2'], .bool true]) (by simp [results, Try.results18, go_sem, s0, s1, s2, treeNet]) rfl ⟨_, bs, by rw [HRN.out]; rfl, hc.1, by rw [HRN.out]; exact hc.2.1, hc.2.2⟩

theorem tree_ans {d : Nat} {dep : Int} (h0 : 0 ≤ dep) (h6 : 0 < dep → (d : Int) ≤ 6) : dec (TreeOK d dep) = treeB (treeAt d dep 0) ∧ treeAns d dep = treeOr d (treeAt d dep 0) := by
  cases hr : treeAt d dep 0 with
  | none =>
    have hn : ¬ TreeOK d dep := fun k => by
      have := k.2.2.2
      rw [Int.toNat_natCast, hr] at this
      exact absurd this (by decide)
    exact ⟨dec_false hn, treeAns_f hn⟩
  | some k =>
    have hy : TreeOK d dep := ⟨by omega, h0, h6, by rw [Int.toNat_natCast, hr]; rfl⟩
    exact ⟨dec_true hy, by rw [treeAns_t hy, Int.toNat_natCast, hr]; rfl⟩

set_option maxHeartbeats 1600000 in
set_option maxRecDepth 100000 in
theorem tree_any {w : World} (n dep : Int) :
    Calls Try.prog 18 #[.int .i64 n, .int .i64 dep] w fun e w' => ∃ v' bs, e = .returned (.tuple #[v', .bool (dec (TreeOK n dep))]) ∧ Ext w w' ∧ OwnNet w' v' (treeAns n dep) bs ∧ Fresh w bs := by
  by_cases h : 0 ≤ n ∧ 0 ≤ dep ∧ (0 < dep → n ≤ 6)
  · obtain ⟨h0, h1, h6⟩ := h
    obtain ⟨d, rfl⟩ := Int.eq_ofNat_of_zero_le h0
    obtain ⟨e1, e2⟩ := tree_ans (d := d) h1 h6
    rw [e1, e2]
    exact tree_core d dep h1 (fun k => by have := h6 k; omega)
  · have D := Lib.hid (dec_false (show ¬ TreeOK n dep from fun k => h ⟨k.1, k.2.1, k.2.2.1⟩))
    have A := Lib.hid (treeAns_f (show ¬ TreeOK n dep from fun k => h ⟨k.1, k.2.1, k.2.2.1⟩))
    have HX := Lib.hid ((Ext.rfl' w).alloc' (.cells #[.slice none 0 0, .slice none 0 0, .slice none 0 0] 29))
    by_cases h0 : n < 0
    · clear h
      go_enter Try.func18, Try.ntmps18
      go_wp2_with fail
      refine bodyPost_ret (v := .tuple #[znet, .bool false]) (by simp [results, Try.results18, go_sem, znet]) rfl (by first | exact ⟨_, [], ret_net D.out.symm, HX.out, by rw [A.out]; exact own_zero _, Fresh.nil _⟩ | exact ⟨_, ret_net D.out.symm, HX.out, [], by rw [A.out]; exact own_zero _, Fresh.nil _⟩)
    · by_cases h1 : dep < 0
      · clear h
        go_enter Try.func18, Try.ntmps18
        go_wp2_with fail
        refine bodyPost_ret (v := .tuple #[znet, .bool false]) (by simp [results, Try.results18, go_sem, znet]) rfl (by first | exact ⟨_, [], ret_net D.out.symm, HX.out, by rw [A.out]; exact own_zero _, Fresh.nil _⟩ | exact ⟨_, ret_net D.out.symm, HX.out, [], by rw [A.out]; exact own_zero _, Fresh.nil _⟩)
      · have h2 : 0 < dep := by omega
        have h3 : 6 < n := by omega
        clear h
        go_enter Try.func18, Try.ntmps18
        go_wp2_with fail
        refine bodyPost_ret (v := .tuple #[znet, .bool false]) (by simp [results, Try.results18, go_sem, znet]) rfl (by first | exact ⟨_, [], ret_net D.out.symm, HX.out, by rw [A.out]; exact own_zero _, Fresh.nil _⟩ | exact ⟨_, ret_net D.out.symm, HX.out, [], by rw [A.out]; exact own_zero _, Fresh.nil _⟩)
end Go.Proofs.Ytpkgghkibgadnaa
