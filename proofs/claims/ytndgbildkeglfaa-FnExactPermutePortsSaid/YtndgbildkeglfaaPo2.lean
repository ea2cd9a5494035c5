import Derived.Test.YtndgbildkeglfaaRow
import Derived.Test.YtndgbildkeglfaaOe2
import Derived.Test.YtndgbildkeglfaaZero
import Derived.Test.YtndgbildkeglfaaPp
import Derived.Test.YtndgbildkeglfaaChG
import Derived.Test.YtndgbildkeglfaaNePo
import Derived.Test.YtndgbildkeglfaaHold2
/- Contracts of neNode and hasNode. -/
namespace Go.Proofs.Ytndgbildkeglfaa
open Go.RowKit

def NodeOK (N : Net) (x : Int) : Prop := 0 ≤ x ∧ x < N.ends.length
def NodeAns (N : Net) (x : Int) : Prop := Good N ∧ NodeOK N x

set_option maxHeartbeats 1600000 in
set_option maxRecDepth 100000 in
theorem neNode_any {w : World} {v : Value} {N : Net} (x : Int) (h : NetAt w v N) :
    Calls Try.prog 79 #[v, .int .i64 x] w fun e w' => e = .returned (.bool (dec (NodeAns N x))) ∧ Ext w w' := by
  have HN := Lib.hid h
  obtain ⟨v0, v1, v2, rfl, hE, hI, hP⟩ := h
  clear hI hP
  obtain ⟨a, b, o, c, rfl, ha, hl, hm, hc⟩ := hE
  unfold maxLen at hm
  clear ha hc
  have HX := Lib.hid (boxed_ext w (.slice a N.ends.length c) v1 v2 30)
  have HR := Lib.hid (boxed_row w (.slice a N.ends.length c) v1 v2 30)
  by_cases hg : Good N
  · have G := Lib.hid (dec_true hg)
    have hfin := Lib.hid (dec_congr (p := InB x 0 (N.ends.length - 1)) (q := NodeAns N x) ⟨fun h => ⟨hg, h.1, by have := h.2; omega⟩, fun h => ⟨h.2.1, by have := h.2.2; omega⟩⟩)
    clear hg
    go_enter Try.func79, Try.ntmps79
    go_wp2_with (first | (go_at_call 66; (with_reducible refine (neGood_any (HN.out.ext HX.out)).mono ?_); rintro e w1 ⟨rfl, hw⟩; rw [G.out]; have K1 := Lib.hid (HX.out.trans' hw); obtain ⟨p0, p1, p2, _, _, _⟩ := row3_facts (row_ext HR.out hw); clear hw) | (go_at_call 88; (with_reducible refine (l1In_any _ _ _ _).mono ?_); rintro e w1 ⟨rfl, rfl⟩))
    go_ret
    exact ⟨ret_bool hfin.out, K1.out⟩
  · have G := Lib.hid (dec_false hg)
    have HF := Lib.hid (show ¬ NodeAns N x from fun h => hg h.1)
    clear hg
    go_enter Try.func79, Try.ntmps79
    go_wp2_with (first | (go_at_call 66; (with_reducible refine (neGood_any (HN.out.ext HX.out)).mono ?_); rintro e w1 ⟨rfl, hw⟩; rw [G.out]; have K1 := Lib.hid (HX.out.trans' hw); clear hw))
    go_ret
    exact ⟨ret_f HF.out, K1.out⟩

set_option maxRecDepth 100000 in
theorem hasNode_any {w : World} {v : Value} {N : Net} (x : Int) (h : NetAt w v N) :
    Calls Try.prog 81 #[v, .int .i64 x] w fun e w' => e = .returned (.bool (dec (NodeOK N x))) ∧ Ext w w' := by
  obtain ⟨v0, v1, v2, rfl, hE, hI, hP⟩ := h
  clear hI hP
  obtain ⟨a, b, o, c, rfl, ha, hl, hm, hc⟩ := hE
  unfold maxLen at hm
  clear ha hc
  have HX := Lib.hid (boxed_ext w (.slice a N.ends.length c) v1 v2 30)
  by_cases h1 : 0 ≤ x
  · by_cases h2 : x < N.ends.length
    · have HF := Lib.hid (show NodeOK N x from ⟨h1, h2⟩)
      go_enter Try.func81, Try.ntmps81
      go_wp2
      go_ret
      exact ⟨ret_t HF.out, HX.out⟩
    · have HF := Lib.hid (show ¬ NodeOK N x from fun h => h2 h.2)
      go_enter Try.func81, Try.ntmps81
      go_wp2
      go_ret
      exact ⟨ret_f HF.out, HX.out⟩
  · have HF := Lib.hid (show ¬ NodeOK N x from fun h => h1 h.1)
    go_enter Try.func81, Try.ntmps81
    go_wp2
    go_ret
    exact ⟨ret_f HF.out, HX.out⟩

end Go.Proofs.Ytndgbildkeglfaa

/- The program's change of the ports' order: after answers portsNet. -/
namespace Go.Proofs.Ytndgbildkeglfaa
open Go.RowKit

set_option maxHeartbeats 800000 in
set_option maxRecDepth 100000 in
theorem nodeSame_any {w : World} {c : Value} {N : Net} {x y kk : Int} {l : List Int} (v : Nat) (h : ChgAt w c kk N x y l) (hk2 : (kk == 2) = false) (hk3 : (kk == 3) = false) :
    Calls Try.prog 113 #[c, .int .i64 v] w fun e w' => e = .returned (.int .i64 v) ∧ Ext w w' := by
  obtain ⟨v0, v1, v2, v3, rfl, _, _⟩ := h
  have HX := Lib.hid ((Ext.rfl' w).alloc' (.cells #[.int .i64 kk, v0, v1, v2, .int .i64 x, .int .i64 y, v3] 91))
  obtain ⟨c0, c1, c2, c3, c4, c5, c6⟩ := chg_cells w kk v0 v1 v2 v3 x y
  go_enter Try.func113, Try.ntmps113
  go_wp2
  go_ret
  exact ⟨rfl, HX.out⟩

set_option maxHeartbeats 800000 in
set_option maxRecDepth 100000 in
theorem portAfter1_any {w : World} {c : Value} {N : Net} {y : Int} {l : List Int} (n v i : Nat) (h : ChgAt w c 1 N n y l) (hv : v < N.ends.length) (hi : i < (gr N.ends v).length) (hl : l.length = (gr N.ends n).length) (hn : i ≤ 1048576) :
    Calls Try.prog 120 #[c, .agg #[.int .i64 v, .int .i64 i]] w fun e w' => e = .returned (.int .i64 (gi (pl N n l v) i)) ∧ Ext w w' := by
  by_cases e : v = n
  · have hpl : pl N n l v = l := by unfold pl; rw [if_pos e]
    rw [hpl]
    subst e
    obtain ⟨v0, v1, v2, v3, rfl, _, a, b, o, cc, rfl, ha, hll, hm, hc⟩ := h
    unfold maxLen at hm
    have hil : i < l.length := by omega
    obtain ⟨_, hz, rfl, _⟩ := hc i hil
    obtain rfl := ha (by omega)
    have hX := ((Ext.rfl' w).alloc' (.cells #[.int .i64 1, v0, v1, v2, .int .i64 v, .int .i64 y, .slice (some ⟨b, o, none⟩) l.length cc] 91)).alloc' (.cells #[.int .i64 v, .int .i64 i] 44)
    have HX := Lib.hid hX
    have hY := (Ext.rfl' (w.alloc (.cells #[.int .i64 1, v0, v1, v2, .int .i64 v, .int .i64 y, .slice (some ⟨b, o, none⟩) l.length cc] 91))).alloc' (.cells #[.int .i64 v, .int .i64 i] 44)
    obtain ⟨c0, c1, c2, c3, c4, c5, c6⟩ := chg_cells w 1 v0 v1 v2 (.slice (some ⟨b, o, none⟩) l.length cc) v y
    have c0 := hY.cell' c0
    have c1 := hY.cell' c1
    have c2 := hY.cell' c2
    have c3 := hY.cell' c3
    have c4 := hY.cell' c4
    have c5 := hY.cell' c5
    have c6 := hY.cell' c6
    have d0 : ((w.alloc (.cells #[.int .i64 1, v0, v1, v2, .int .i64 v, .int .i64 y, .slice (some ⟨b, o, none⟩) l.length cc] 91)).alloc (.cells #[.int .i64 v, .int .i64 i] 44)).cell? ⟨w.heap.size + 1, 0, none⟩ = some (.int .i64 v) := by simp
    have d1 : ((w.alloc (.cells #[.int .i64 1, v0, v1, v2, .int .i64 v, .int .i64 y, .slice (some ⟨b, o, none⟩) l.length cc] 91)).alloc (.cells #[.int .i64 v, .int .i64 i] 44)).cell? ⟨w.heap.size + 1, 1, none⟩ = some (.int .i64 i) := by simp
    have z1 := hX.cell' hz
    clear ha hc hz hX hY hl hpl
    go_enter Try.func120, Try.ntmps120
    go_wp2
    go_ret
    exact ⟨rfl, HX.out⟩
  · have hpl : gi (pl N n l v) i = i := by unfold pl; rw [if_neg e]; exact gi_idl hi
    rw [hpl]
    have H := Lib.hid h
    obtain ⟨v0, v1, v2, v3, rfl, _, _⟩ := h
    have hb : ((v : Int) == (n : Int)) = false := beq_eq_false_iff_ne.2 (by omega)
    have hX := ((Ext.rfl' w).alloc' (.cells #[.int .i64 1, v0, v1, v2, .int .i64 n, .int .i64 y, v3] 91)).alloc' (.cells #[.int .i64 v, .int .i64 i] 44)
    have HX := Lib.hid hX
    have hY := (Ext.rfl' (w.alloc (.cells #[.int .i64 1, v0, v1, v2, .int .i64 n, .int .i64 y, v3] 91))).alloc' (.cells #[.int .i64 v, .int .i64 i] 44)
    obtain ⟨c0, c1, c2, c3, c4, c5, c6⟩ := chg_cells w 1 v0 v1 v2 (v3) n y
    have c0 := hY.cell' c0
    have c1 := hY.cell' c1
    have c2 := hY.cell' c2
    have c3 := hY.cell' c3
    have c4 := hY.cell' c4
    have c5 := hY.cell' c5
    have c6 := hY.cell' c6
    have d0 : ((w.alloc (.cells #[.int .i64 1, v0, v1, v2, .int .i64 n, .int .i64 y, v3] 91)).alloc (.cells #[.int .i64 v, .int .i64 i] 44)).cell? ⟨w.heap.size + 1, 0, none⟩ = some (.int .i64 v) := by simp
    have d1 : ((w.alloc (.cells #[.int .i64 1, v0, v1, v2, .int .i64 n, .int .i64 y, v3] 91)).alloc (.cells #[.int .i64 v, .int .i64 i] 44)).cell? ⟨w.heap.size + 1, 1, none⟩ = some (.int .i64 i) := by simp
    clear hX hY hl hpl e
    go_enter Try.func120, Try.ntmps120
    go_wp2_with (go_at_call 118; (with_reducible refine (stayingAll_any _ _ (H.out.ext HX.out) rfl rfl hv (Nat.le_of_lt hi) hn).mono ?_); rintro e w1 ⟨rfl, hw⟩; have K1 := Lib.hid (HX.out.trans' hw); clear hw)
    go_ret
    exact ⟨rfl, K1.out⟩

theorem portsAfter1_any {w : World} {c : Value} {N : Net} {y : Int} {l : List Int} (n v : Nat) (h : ChgAt w c 1 N n y l) (hg : Good N) (hv : v < N.ends.length) (hp : PermOK l (gr N.ends n).length) :
    Calls Try.prog 114 #[c, .int .i64 v] w fun e w' => ∃ v' bs, e = .returned v' ∧ Ext w w' ∧ OwnE w' v' (portsRow N n l v) bs ∧ Fresh w bs := by
  have hG : ∀ i, i < (gr N.ends v).length → ∃ en ep : Nat, gn (gr N.ends v) i = en ∧ gp (gr N.ends v) i = ep ∧ en < N.ends.length ∧ ep < (gr N.ends en).length ∧ newPort N n l v i = gi (pl N n l en) ep := fun i hi => by
    obtain ⟨⟨g1, g2, g3, g4⟩, _⟩ := (hg.2.1 v hv).2 i hi
    obtain ⟨en, hen⟩ := Int.eq_ofNat_of_zero_le g1
    obtain ⟨ep, hep⟩ := Int.eq_ofNat_of_zero_le g3
    rw [hen] at g2 g4
    rw [hep, Int.toNat_natCast] at g4
    exact ⟨en, ep, hen, hep, by omega, by omega, by unfold newPort; rw [hen, hep]; rfl⟩
  have h6 : ∀ u, u < N.ends.length → (gr N.ends u).length ≤ 6 := fun u hu => (hg.2.1 u hu).1
  have h40 := hg.1.2
  refine portsAfterG_any v (gr N.ends v).length h hg hv (pl_plan hp v) (nn := gn (gr N.ends v)) (pp := newPort N n l v) (fun i hi _ => ?_) (fun w' hw => ?_) (fun w' i hw hi => ?_) (fun w' i hw hi _ => ?_) (fun w' i hw hi _ => ?_) (fun w' i hw hi _ => ?_)
  · obtain ⟨en, ep, e1, e2, e3, e4, e5⟩ := hG i hi
    obtain ⟨q, hq, hq2⟩ := perm_range (pl_perm hp en) e4
    have := h6 en e3
    rw [e1, e5, hq]
    unfold inI64
    omega
  · exact stayingAll_any v _ (h.ext hw) rfl rfl hv (Nat.le_refl _) (by have := h6 v hv; omega)
  · exact staysAll_any v i (h.ext hw) rfl rfl hv hi
  · obtain ⟨q, hq, hq2⟩ := perm_range (pl_perm hp v) hi
    have e : ((gi (pl N n l v) i).toNat : Int) = gi (pl N n l v) i := by omega
    rw [e]
    exact portAfter1_any n v i (h.ext hw) hv hi hp.1 (by have := h6 v hv; omega)
  · obtain ⟨en, ep, e1, e2, e3, e4, e5⟩ := hG i hi
    rw [e1]
    exact nodeSame_any en (h.ext hw) rfl rfl
  · obtain ⟨en, ep, e1, e2, e3, e4, e5⟩ := hG i hi
    rw [e1, e2, e5]
    exact portAfter1_any n en ep (h.ext hw) e3 e4 hp.1 (by have := h6 en e3; omega)

theorem after1_any {w : World} {c : Value} {N : Net} {y : Int} {l : List Int} (n : Nat) (h : ChgAt w c 1 N n y l) (hg : Good N) (hp : PermOK l (gr N.ends n).length) :
    Calls Try.prog 93 #[c] w fun e w' => ∃ v' bs, e = .returned v' ∧ Ext w w' ∧ OwnNet w' v' (portsNet N n l) bs ∧ Fresh w bs :=
  afterG_any (l := idl N.ends.length) (ro := portsRow N n l) h rfl hg (idl_perm _) (fun w' v hw hv => by rw [gi_idl hv]; exact nodeSame_any v (h.ext hw) rfl rfl) (fun w' v hw hv => portsAfter1_any n v (h.ext hw) hg hv hp)
theorem chg_one {w : World} {v0 v1 v2 v3 : Value} {N : Net} {l : List Int} (k x y : Int) (h : NetAt w (.agg #[v0, v1, v2]) N) (hl : IntSl w v3 l) : ChgAt w (.agg #[.int .i64 k, v0, v1, v2, .int .i64 x, .int .i64 y, v3]) k N x y l := ⟨_, _, _, _, rfl, h, hl⟩
end Go.Proofs.Ytndgbildkeglfaa

/- The contracts of both PermutePorts. No condition but that the list is short. -/
namespace Go.Proofs.Ytndgbildkeglfaa
open Go.RowKit

theorem node_nat {N : Net} {x : Int} (h : NodeAns N x) : ∃ k : Nat, x = k ∧ k < N.ends.length := ⟨x.toNat, by have := h.2.1; omega, by have := h.2; unfold NodeOK at this; omega⟩
def PoB (N : Net) (x : Int) (l : List Int) : Prop := NodeAns N x ∧ PermOK l (gr N.ends x.toNat).length
noncomputable def poAns (N : Net) (x : Int) (l : List Int) : Net := if dec (PoB N x l) = true then portsNet N x.toNat l else zeroNet
theorem poAns_t {N : Net} {x : Int} {l : List Int} (h : PoB N x l) : poAns N x l = portsNet N x.toNat l := by simp [poAns, dec_true h]
theorem poAns_f {N : Net} {x : Int} {l : List Int} (h : ¬ PoB N x l) : poAns N x l = zeroNet := by simp [poAns, dec_false h]
theorem poAns_small (N : Net) (x : Int) (l : List Int) : (poAns N x l).small := by
  by_cases h : PoB N x l
  · rw [poAns_t h]
    obtain ⟨s1, s2, s3, s4⟩ := good_small h.1.1
    refine ⟨by show (rowEnds N _ _).length ≤ _; rw [length_rowEnds]; exact s1, fun i => ?_, ?_, ?_⟩
    · show (gr (rowEnds N _ _) i).length ≤ _
      by_cases hi : i < N.ends.length
      · rw [gr_rowEnds _ _ _ hi]; unfold portsRow; rw [length_planRow]; exact s2 _
      · rw [gr_out _ _ (by rw [length_rowEnds]; omega)]; simp
    · show (if N.ids.length = 0 then [] else renInts N.ends.length _ N.ids).length ≤ _
      by_cases hd : N.ids.length = 0
      · rw [if_pos hd]; simp
      · rw [if_neg hd, length_renInts]; omega
    · show (renInts N.ends.length _ N.inputs).length ≤ _
      rw [length_renInts]; omega
  · rw [poAns_f h]; exact zero_small

set_option maxHeartbeats 1600000 in
set_option maxRecDepth 100000 in
theorem specPermutePorts_any {w : World} {v u : Value} {N : Net} {l : List Int} (x : Int) (h : NetAt w v N) (hl : IntSl w u l) (_ : l.length ≤ 1048576) :
    Calls Try.prog 53 #[v, .int .i64 x, u] w fun e w' => ∃ v' bs, e = .returned (.tuple #[v', .bool (dec (PoB N x l))]) ∧ Ext w w' ∧ OwnNet w' v' (poAns N x l) bs ∧ Fresh w bs := by
  have HN := Lib.hid h
  have HL := Lib.hid hl
  obtain ⟨ul, _, _, uc, rfl, _, _, um, _⟩ := hl
  unfold maxLen at um
  obtain ⟨w0, v1, v2, rfl, hE, hI, hP⟩ := h
  obtain ⟨ea, eb, eq, ec, rfl, hea, hel, hem, hec⟩ := hE
  unfold maxLen at hem
  clear hI hP
  by_cases hg : NodeAns N x
  · have GG := Lib.hid hg.1
    have h40 : N.ends.length ≤ 40 := hg.1.1.2
    obtain ⟨k, rfl, hk⟩ := node_nat hg
    have h6 := (hg.1.2.1 k hk).1
    obtain rfl := hea (by omega)
    obtain ⟨z, hz, ra, rb, rq, rc, rfl, -, hrl, hrm, -⟩ := hec k hk
    unfold maxLen at hrm
    have HZ := Lib.hid hz
    have G1 := Lib.hid (dec_true hg.1)
    have G2 := Lib.hid (dec_true hg.2)
    have G3 := Lib.hid (dec_true hg)
    have K0 := Lib.hid (boxed2_ext w (.slice (some ⟨eb, eq, none⟩) N.ends.length ec) v1 v2)
    have R0 := Lib.hid (boxed2_row w (.slice (some ⟨eb, eq, none⟩) N.ends.length ec) v1 v2)
    have Q0 := Lib.hid (boxed2_res w (.slice (some ⟨eb, eq, none⟩) N.ends.length ec) v1 v2)
    clear hea hec hz
    by_cases hb : PermOK l (gr N.ends k).length
    · have P := Lib.hid hb
      have BD := Lib.hid (dec_true hb)
      have D : Hid (dec (PoB N k l) = true) := dec_true ⟨hg, hb⟩
      have E : Hid (poAns N k l = portsNet N k l) := poAns_t ⟨hg, hb⟩
      clear hb hg
      go_enter Try.func53, Try.ntmps53
      go_wp2_with fail
      (with_reducible refine (neNode_any _ (HN.out.ext K0.out)).mono ?_)
      rintro e w1 ⟨rfl, hw⟩
      rw [G3.out]
      have K1 := Lib.hid (K0.out.trans' hw)
      have R1 := Lib.hid (row_ext R0.out hw)
      have Q1 := Lib.hid (row_ext Q0.out hw)
      clear hw
      obtain ⟨p0, p1, p2, -, -, -⟩ := row3_facts R1.out
      have z1 := K1.out.cell' HZ.out
      go_wp2_with fail
      (with_reducible refine (nePerm_any (gr N.ends k).length (by omega) (HL.out.ext K1.out)).mono ?_)
      rintro e w2 ⟨rfl, hw⟩
      rw [BD.out]
      subst hw
      have K2 := K1
      have R2 := R1
      have Q2 := Q1
      clear z1
      clear p0 p1 p2
      obtain ⟨p0, p1, p2, -, -, -⟩ := row3_facts R2.out
      go_wp2_with fail
      (with_reducible refine (nePorts_any k (HN.out.ext K2.out) (HL.out.ext K2.out) GG.out hk P.out).mono ?_)
      rintro e wz ⟨y, bs, rfl, hw, ho, hf⟩
      obtain ⟨a0, c0, a1, c1, a2, c2, rfl⟩ := ho.agg
      have KZ := Lib.hid (K2.out.trans' hw)
      have OZ := Lib.hid ho
      have NZ := Lib.hid hf.1
      have BZ := Lib.hid (show ∀ b ∈ bs, w.heap.size + 2 ≤ b from fun b hb => by have := hf.2 b hb; have := Q2.out.lt; omega)
      obtain ⟨u0, u1, u2, s0, s1, s2⟩ := row3_facts (row_ext Q2.out hw)
      clear hw ho hf p0 p1 p2
      go_wp2
      refine bodyPost_ret (v := .tuple #[.agg #[.slice a0 (portsNet N k l).ends.length c0, .slice a1 (portsNet N k l).ids.length c1, .slice a2 (portsNet N k l).inputs.length c2], .bool true]) (by simp [results, Try.results53, go_sem, u0, u1, u2]) rfl ?_
      have hc := close_net KZ.out OZ.out NZ.out BZ.out
      exact ⟨_, bs, ret_net D.out.symm, hc.1, by rw [E.out]; exact hc.2.1, hc.2.2⟩
    · have BD := Lib.hid (dec_false hb)
      have D : Hid (dec (PoB N k l) = false) := dec_false fun j => hb j.2
      have E : Hid (poAns N k l = zeroNet) := poAns_f fun j => hb j.2
      clear hb hg
      go_enter Try.func53, Try.ntmps53
      go_wp2_with fail
      (with_reducible refine (neNode_any _ (HN.out.ext K0.out)).mono ?_)
      rintro e w1 ⟨rfl, hw⟩
      rw [G3.out]
      have K1 := Lib.hid (K0.out.trans' hw)
      have R1 := Lib.hid (row_ext R0.out hw)
      have Q1 := Lib.hid (row_ext Q0.out hw)
      clear hw
      obtain ⟨p0, p1, p2, -, -, -⟩ := row3_facts R1.out
      have z1 := K1.out.cell' HZ.out
      go_wp2_with fail
      (with_reducible refine (nePerm_any (gr N.ends k).length (by omega) (HL.out.ext K1.out)).mono ?_)
      rintro e w2 ⟨rfl, hw⟩
      rw [BD.out]
      subst hw
      have K2 := K1
      have R2 := R1
      have Q2 := Q1
      clear z1
      clear p0 p1 p2
      obtain ⟨q0, q1, q2, t0, t1, t2⟩ := row3_facts Q2.out
      go_wp2
      refine bodyPost_ret (v := .tuple #[znet, .bool false]) (by simp [results, Try.results53, go_sem, q0, q1, q2, znet]) rfl ⟨_, [], ret_net D.out.symm, store3_ext K2.out (by omega) _ _ _, by rw [E.out]; exact own_zero _, Fresh.nil _⟩
  · have D : Hid (dec (PoB N x l) = false) := dec_false fun j => hg j.1
    have E : Hid (poAns N x l = zeroNet) := poAns_f fun j => hg j.1
    have K0 := Lib.hid (boxed2_ext w (.slice ea N.ends.length ec) v1 v2)
    have R0 := Lib.hid (boxed2_row w (.slice ea N.ends.length ec) v1 v2)
    have Q0 := Lib.hid (boxed2_res w (.slice ea N.ends.length ec) v1 v2)
    clear hea hec
    have G3 := Lib.hid (dec_false hg)
    clear hg
    go_enter Try.func53, Try.ntmps53
    go_wp2_with fail
    (with_reducible refine (neNode_any _ (HN.out.ext K0.out)).mono ?_)
    rintro e w1 ⟨rfl, hw⟩
    rw [G3.out]
    have K1 := Lib.hid (K0.out.trans' hw)
    have R1 := Lib.hid (row_ext R0.out hw)
    have Q1 := Lib.hid (row_ext Q0.out hw)
    clear hw
    obtain ⟨q0, q1, q2, t0, t1, t2⟩ := row3_facts Q1.out
    go_wp2
    refine bodyPost_ret (v := .tuple #[znet, .bool false]) (by simp [results, Try.results53, go_sem, q0, q1, q2, znet]) rfl ⟨_, [], ret_net D.out.symm, store3_ext K1.out (by omega) _ _ _, by rw [E.out]; exact own_zero _, Fresh.nil _⟩

set_option maxHeartbeats 1600000 in
set_option maxRecDepth 100000 in
theorem permutePorts_any {w : World} {v u : Value} {N : Net} {l : List Int} (x : Int) (h : NetAt w v N) (hl : IntSl w u l) (_ : l.length ≤ 1048576) :
    Calls Try.prog 55 #[v, .int .i64 x, u] w fun e w' => ∃ v' bs, e = .returned (.tuple #[v', .bool (dec (PoB N x l))]) ∧ Ext w w' ∧ OwnNet w' v' (poAns N x l) bs ∧ Fresh w bs := by
  have HN := Lib.hid h
  have HL := Lib.hid hl
  obtain ⟨ul, _, _, uc, rfl, _, _, um, _⟩ := hl
  unfold maxLen at um
  obtain ⟨w0, v1, v2, rfl, hE, hI, hP⟩ := h
  obtain ⟨ea, eb, eq, ec, rfl, hea, hel, hem, hec⟩ := hE
  unfold maxLen at hem
  clear hI hP
  by_cases hg : NodeAns N x
  · have GG := Lib.hid hg.1
    have h40 : N.ends.length ≤ 40 := hg.1.1.2
    obtain ⟨k, rfl, hk⟩ := node_nat hg
    have h6 := (hg.1.2.1 k hk).1
    obtain rfl := hea (by omega)
    obtain ⟨z, hz, ra, rb, rq, rc, rfl, -, hrl, hrm, -⟩ := hec k hk
    unfold maxLen at hrm
    have HZ := Lib.hid hz
    have G1 := Lib.hid (dec_true hg.1)
    have G2 := Lib.hid (dec_true hg.2)
    have G3 := Lib.hid (dec_true hg)
    have K0 := Lib.hid (boxed2_ext w (.slice (some ⟨eb, eq, none⟩) N.ends.length ec) v1 v2)
    have R0 := Lib.hid (boxed2_row w (.slice (some ⟨eb, eq, none⟩) N.ends.length ec) v1 v2)
    have Q0 := Lib.hid (boxed2_res w (.slice (some ⟨eb, eq, none⟩) N.ends.length ec) v1 v2)
    clear hea hec hz
    by_cases hb : PermOK l (gr N.ends k).length
    · have P := Lib.hid hb
      have BD := Lib.hid (dec_true hb)
      have D : Hid (dec (PoB N k l) = true) := dec_true ⟨hg, hb⟩
      have E : Hid (poAns N k l = portsNet N k l) := poAns_t ⟨hg, hb⟩
      clear hb hg
      go_enter Try.func55, Try.ntmps55
      go_wp2_with fail
      (with_reducible refine (isNetwork_any (HN.out.ext K0.out)).mono ?_)
      rintro e w1 ⟨rfl, hw⟩
      rw [G1.out]
      have K1 := Lib.hid (K0.out.trans' hw)
      have R1 := Lib.hid (row_ext R0.out hw)
      have Q1 := Lib.hid (row_ext Q0.out hw)
      clear hw
      obtain ⟨p0, p1, p2, -, -, -⟩ := row3_facts R1.out
      go_wp2_with fail
      (with_reducible refine (hasNode_any _ (HN.out.ext K1.out)).mono ?_)
      rintro e w2 ⟨rfl, hw⟩
      rw [G2.out]
      have K2 := Lib.hid (K1.out.trans' hw)
      have R2 := Lib.hid (row_ext R1.out hw)
      have Q2 := Lib.hid (row_ext Q1.out hw)
      clear hw p0 p1 p2
      obtain ⟨p0, p1, p2, -, -, -⟩ := row3_facts R2.out
      have z1 := K2.out.cell' HZ.out
      go_wp2_with fail
      (with_reducible refine (isPermutation_any (gr N.ends k).length (by omega) (HL.out.ext K2.out)).mono ?_)
      rintro e w3 ⟨rfl, hw⟩
      rw [BD.out]
      have K3 := Lib.hid (K2.out.trans' hw)
      have R3 := Lib.hid (row_ext R2.out hw)
      have Q3 := Lib.hid (row_ext Q2.out hw)
      clear hw p0 p1 p2 z1
      obtain ⟨p0, p1, p2, -, -, -⟩ := row3_facts R3.out
      go_wp2_with fail
      (with_reducible refine (after1_any k (chg_one 1 k 0 (HN.out.ext K3.out) (HL.out.ext K3.out)) GG.out P.out).mono ?_)
      rintro e wz ⟨y, bs, rfl, hw, ho, hf⟩
      obtain ⟨a0, c0, a1, c1, a2, c2, rfl⟩ := ho.agg
      have KZ := Lib.hid (K3.out.trans' hw)
      have OZ := Lib.hid ho
      have NZ := Lib.hid hf.1
      have BZ := Lib.hid (show ∀ b ∈ bs, w.heap.size + 2 ≤ b from fun b hb => by have := hf.2 b hb; have := Q3.out.lt; omega)
      obtain ⟨u0, u1, u2, s0, s1, s2⟩ := row3_facts (row_ext Q3.out hw)
      clear hw ho hf p0 p1 p2
      go_wp2
      refine bodyPost_ret (v := .tuple #[.agg #[.slice a0 (portsNet N k l).ends.length c0, .slice a1 (portsNet N k l).ids.length c1, .slice a2 (portsNet N k l).inputs.length c2], .bool true]) (by simp [results, Try.results55, go_sem, u0, u1, u2]) rfl ?_
      have hc := close_net KZ.out OZ.out NZ.out BZ.out
      exact ⟨_, bs, ret_net D.out.symm, hc.1, by rw [E.out]; exact hc.2.1, hc.2.2⟩
    · have BD := Lib.hid (dec_false hb)
      have D : Hid (dec (PoB N k l) = false) := dec_false fun j => hb j.2
      have E : Hid (poAns N k l = zeroNet) := poAns_f fun j => hb j.2
      clear hb hg
      go_enter Try.func55, Try.ntmps55
      go_wp2_with fail
      (with_reducible refine (isNetwork_any (HN.out.ext K0.out)).mono ?_)
      rintro e w1 ⟨rfl, hw⟩
      rw [G1.out]
      have K1 := Lib.hid (K0.out.trans' hw)
      have R1 := Lib.hid (row_ext R0.out hw)
      have Q1 := Lib.hid (row_ext Q0.out hw)
      clear hw
      obtain ⟨p0, p1, p2, -, -, -⟩ := row3_facts R1.out
      go_wp2_with fail
      (with_reducible refine (hasNode_any _ (HN.out.ext K1.out)).mono ?_)
      rintro e w2 ⟨rfl, hw⟩
      rw [G2.out]
      have K2 := Lib.hid (K1.out.trans' hw)
      have R2 := Lib.hid (row_ext R1.out hw)
      have Q2 := Lib.hid (row_ext Q1.out hw)
      clear hw p0 p1 p2
      obtain ⟨p0, p1, p2, -, -, -⟩ := row3_facts R2.out
      have z1 := K2.out.cell' HZ.out
      go_wp2_with fail
      (with_reducible refine (isPermutation_any (gr N.ends k).length (by omega) (HL.out.ext K2.out)).mono ?_)
      rintro e w3 ⟨rfl, hw⟩
      rw [BD.out]
      have K3 := Lib.hid (K2.out.trans' hw)
      have R3 := Lib.hid (row_ext R2.out hw)
      have Q3 := Lib.hid (row_ext Q2.out hw)
      clear hw p0 p1 p2 z1
      obtain ⟨q0, q1, q2, t0, t1, t2⟩ := row3_facts Q3.out
      go_wp2
      refine bodyPost_ret (v := .tuple #[znet, .bool false]) (by simp [results, Try.results55, go_sem, q0, q1, q2, znet]) rfl ⟨_, [], ret_net D.out.symm, store3_ext K3.out (by omega) _ _ _, by rw [E.out]; exact own_zero _, Fresh.nil _⟩
  · have D : Hid (dec (PoB N x l) = false) := dec_false fun j => hg j.1
    have E : Hid (poAns N x l = zeroNet) := poAns_f fun j => hg j.1
    have K0 := Lib.hid (boxed2_ext w (.slice ea N.ends.length ec) v1 v2)
    have R0 := Lib.hid (boxed2_row w (.slice ea N.ends.length ec) v1 v2)
    have Q0 := Lib.hid (boxed2_res w (.slice ea N.ends.length ec) v1 v2)
    clear hea hec
    by_cases hy : Good N
    · have G1 := Lib.hid (dec_true hy)
      have G2 : Hid (dec (NodeOK N x) = false) := dec_false fun j => hg ⟨hy, j⟩
      clear hg hy
      go_enter Try.func55, Try.ntmps55
      go_wp2_with fail
      (with_reducible refine (isNetwork_any (HN.out.ext K0.out)).mono ?_)
      rintro e w1 ⟨rfl, hw⟩
      rw [G1.out]
      have K1 := Lib.hid (K0.out.trans' hw)
      have R1 := Lib.hid (row_ext R0.out hw)
      have Q1 := Lib.hid (row_ext Q0.out hw)
      clear hw
      obtain ⟨p0, p1, p2, -, -, -⟩ := row3_facts R1.out
      go_wp2_with fail
      (with_reducible refine (hasNode_any _ (HN.out.ext K1.out)).mono ?_)
      rintro e w2 ⟨rfl, hw⟩
      rw [G2.out]
      have K2 := Lib.hid (K1.out.trans' hw)
      have R2 := Lib.hid (row_ext R1.out hw)
      have Q2 := Lib.hid (row_ext Q1.out hw)
      clear hw p0 p1 p2
      obtain ⟨q0, q1, q2, t0, t1, t2⟩ := row3_facts Q2.out
      go_wp2
      refine bodyPost_ret (v := .tuple #[znet, .bool false]) (by simp [results, Try.results55, go_sem, q0, q1, q2, znet]) rfl ⟨_, [], ret_net D.out.symm, store3_ext K2.out (by omega) _ _ _, by rw [E.out]; exact own_zero _, Fresh.nil _⟩
    · have G1 := Lib.hid (dec_false hy)
      clear hg hy
      go_enter Try.func55, Try.ntmps55
      go_wp2_with fail
      (with_reducible refine (isNetwork_any (HN.out.ext K0.out)).mono ?_)
      rintro e w1 ⟨rfl, hw⟩
      rw [G1.out]
      have K1 := Lib.hid (K0.out.trans' hw)
      have R1 := Lib.hid (row_ext R0.out hw)
      have Q1 := Lib.hid (row_ext Q0.out hw)
      clear hw
      obtain ⟨q0, q1, q2, t0, t1, t2⟩ := row3_facts Q1.out
      go_wp2
      refine bodyPost_ret (v := .tuple #[znet, .bool false]) (by simp [results, Try.results55, go_sem, q0, q1, q2, znet]) rfl ⟨_, [], ret_net D.out.symm, store3_ext K1.out (by omega) _ _ _, by rw [E.out]; exact own_zero _, Fresh.nil _⟩
end Go.Proofs.Ytndgbildkeglfaa

/- The walk of FnExactPermutePorts: whatever the arguments, the law answers true and changes nothing that was there. No condition but that the answer is short. -/
namespace Go.Proofs.Ytndgbildkeglfaa
open Go.RowKit

set_option maxHeartbeats 6400000 in
set_option maxRecDepth 100000 in
theorem walk_PermutePorts_of {w : World} {v0 : Value} {N0 : Net} {v2 : Value} {l2 : List Int} (n1 : Int) (h0 : NetAt w v0 N0) (h2 : IntSl w v2 l2) (hll : (poAns N0 n1 l2).small) :
    Calls Try.prog 14 #[v0, .int .i64 n1, v2] w fun e w' => e = .returned (.bool true) ∧ Ext w w' := by
  have HLL := Lib.hid hll
  have HQ := Lib.hid (netLast_bound hll)
  have HN0 := Lib.hid h0
  obtain ⟨v00, v01, v02, rfl, hE, hI, hP⟩ := h0
  clear hE hI hP
  have HN2 := Lib.hid h2
  obtain ⟨la2, _, _, lc2, rfl, -, -, lm2, -⟩ := h2
  unfold maxLen at lm2
  have K0 := Lib.hid (boxed_ext w v00 v01 v02 25)
  have Rp0_0 := Lib.hid (show World.rowIs (boxed w v00 v01 v02 25) w.heap.size 25 3 (tri v00 v01 v02) from boxed_row w v00 v01 v02 25)
  have hbb : (dec (PoB N0 n1 l2) != dec (PoB N0 n1 l2)) = false := by simp
  by_cases hg2 : l2.length ≤ 1048576
  case neg =>
    go_enter Try.func14, Try.ntmps14
    go_wp2
    go_ret
    exact ⟨rfl, K0.out⟩
  case pos =>
    go_enter Try.func14, Try.ntmps14
    go_wp2_with fail
    (with_reducible refine (szNetwork_any _ (HN0.out.ext K0.out) (by omega) (by omega)).mono ?_)
    rintro e w1 ⟨r0, rfl, hw, hr00, hr10, hr2⟩
    have Z0 := Lib.hid (show w.heap.size + 1 ≤ w1.heap.size from by have := hw.size; simpa using this)
    have K0_1 := Lib.hid (K0.out.trans' hw)
    have Rp0_1 := Lib.hid (row_ext Rp0_0.out hw)
    have S0 := Lib.hid hr2
    clear hw hr2
    obtain ⟨c10, c11, c12, -, -, -⟩ := row3_facts Rp0_1.out
    by_cases hneg0 : r0 < 0
    case pos =>
      go_wp2
      go_ret
      exact ⟨rfl, K0_1.out⟩
    case neg =>
      have hs0 := Lib.hid (S0.out (by omega))
      clear c10 c11 c12
      obtain ⟨c20, c21, c22, -, -, -⟩ := row3_facts Rp0_1.out
      go_wp2_with fail
      (with_reducible refine (toNetwork_own (HN0.out.ext K0_1.out) hs0.out).mono ?_)
      rintro e w2 ⟨xy0, by0, rfl, hw, ho, hf⟩
      have Z1 := Lib.hid (show w1.heap.size ≤ w2.heap.size from by have := hw.size; simpa using this)
      have K0_2 := Lib.hid (K0_1.out.trans' hw)
      have Rp0_2 := Lib.hid (row_ext Rp0_1.out hw)
      have Oy0_2 := Lib.hid ho.read
      clear hw ho hf
      clear c20 c21 c22
      obtain ⟨c30, c31, c32, -, -, -⟩ := row3_facts Rp0_2.out
      go_wp2_with fail
      (with_reducible refine (toIntS_own (HN2.out.ext K0_2.out) hg2).mono ?_)
      rintro e w3 ⟨y2a, y2c, by2, rfl, hw, ho, hf⟩
      have Z2 := Lib.hid (show w2.heap.size ≤ w3.heap.size from by have := hw.size; simpa using this)
      have K0_3 := Lib.hid (K0_2.out.trans' hw)
      have Rp0_3 := Lib.hid (row_ext Rp0_2.out hw)
      have Oy0_3 := Lib.hid (Oy0_2.out.ext hw)
      have Oy2_3 := Lib.hid ho.read
      clear hw ho hf
      clear c30 c31 c32
      obtain ⟨c40, c41, c42, -, -, -⟩ := row3_facts Rp0_3.out
      clear c40 c41 c42
      go_wp2_with fail
      (with_reducible refine (specPermutePorts_any n1 Oy0_3.out Oy2_3.out hg2).mono ?_)
      rintro e w4 ⟨xw, bw, rfl, hw, ho, hf⟩
      have Z3 := Lib.hid (show w3.heap.size ≤ w4.heap.size from by have := hw.size; simpa using this)
      have LOw := Lib.hid (show ∀ b ∈ bw, w3.heap.size ≤ b from fun b hb => by have := hf.2 b hb; simpa using this)
      have HIw := Lib.hid (show ∀ b ∈ bw, b < w4.heap.size from ho.lt)
      have NDw : Hid bw.Nodup := hf.1
      obtain ⟨wa0, wc0, wa1, wc1, wa2, wc2, rfl⟩ := ho.agg
      have K0_4 := Lib.hid (K0_3.out.trans' hw)
      have Rp0_4 := Lib.hid (row_ext Rp0_3.out hw)
      have Oy0_4 := Lib.hid (Oy0_3.out.ext hw)
      have Oy2_4 := Lib.hid (Oy2_3.out.ext hw)
      have Ow_4 := Lib.hid ho
      clear hw ho hf
      have hA := (Ext.rfl' w4).alloc' (.cells #[.slice wa0 (poAns N0 n1 l2).ends.length wc0, .slice wa1 (poAns N0 n1 l2).ids.length wc1, .slice wa2 (poAns N0 n1 l2).inputs.length wc2] 30)
      have K0_5 := Lib.hid (K0_4.out.trans' hA)
      have Rp0_5 := Lib.hid (row_ext Rp0_4.out hA)
      have Ow_5 := Lib.hid (Ow_4.out.ext hA)
      have Oy0_5 := Lib.hid (Oy0_4.out.ext hA)
      have Oy2_5 := Lib.hid (Oy2_4.out.ext hA)
      have Rw_5 := Lib.hid (row3_made w4 (.slice wa0 (poAns N0 n1 l2).ends.length wc0) (.slice wa1 (poAns N0 n1 l2).ids.length wc1) (.slice wa2 (poAns N0 n1 l2).inputs.length wc2) 30)
      clear hA
      obtain ⟨c50, c51, c52, -, -, -⟩ := row3_facts Rp0_5.out
      go_wp2_with fail
      (with_reducible refine (toNetwork_own (HN0.out.ext K0_5.out) hs0.out).mono ?_)
      rintro e w5 ⟨xx0, bx0, rfl, hw, ho, hf⟩
      have Z4 := Lib.hid (show w4.heap.size + 1 ≤ w5.heap.size from by have := hw.size; simpa using this)
      have LOx0 := Lib.hid (show ∀ b ∈ bx0, w4.heap.size + 1 ≤ b from fun b hb => by have := hf.2 b hb; simpa using this)
      have HIx0 := Lib.hid (show ∀ b ∈ bx0, b < w5.heap.size from ho.lt)
      have NDx0 : Hid bx0.Nodup := hf.1
      obtain ⟨x0a0, x0c0, x0a1, x0c1, x0a2, x0c2, rfl⟩ := ho.agg
      have K0_6 := Lib.hid (K0_5.out.trans' hw)
      have Rp0_6 := Lib.hid (row_ext Rp0_5.out hw)
      have Rw_6 := Lib.hid (row_ext Rw_5.out hw)
      have Ow_6 := Lib.hid (Ow_5.out.ext hw)
      have Ox0_6 := Lib.hid ho
      clear hw ho hf
      clear c50 c51 c52
      obtain ⟨c60, c61, c62, -, -, -⟩ := row3_facts Rp0_6.out
      have hA := (Ext.rfl' w5).alloc' (.cells #[.slice x0a0 N0.ends.length x0c0, .slice x0a1 N0.ids.length x0c1, .slice x0a2 N0.inputs.length x0c2] 30)
      have K0_7 := Lib.hid (K0_6.out.trans' hA)
      have Rp0_7 := Lib.hid (row_ext Rp0_6.out hA)
      have Rw_7 := Lib.hid (row_ext Rw_6.out hA)
      have Ow_7 := Lib.hid (Ow_6.out.ext hA)
      have Ox0_7 := Lib.hid (Ox0_6.out.ext hA)
      have Rx0_7 := Lib.hid (row3_made w5 (.slice x0a0 N0.ends.length x0c0) (.slice x0a1 N0.ids.length x0c1) (.slice x0a2 N0.inputs.length x0c2) 30)
      clear hA
      clear c60 c61 c62
      obtain ⟨c70, c71, c72, -, -, -⟩ := row3_facts Rp0_7.out
      go_wp2_with fail
      (with_reducible refine (toIntS_own (HN2.out.ext K0_7.out) hg2).mono ?_)
      rintro e w6 ⟨x2a, x2c, bx2, rfl, hw, ho, hf⟩
      have Z5 := Lib.hid (show w5.heap.size + 1 ≤ w6.heap.size from by have := hw.size; simpa using this)
      have LOx2 := Lib.hid (show ∀ b ∈ bx2, w5.heap.size + 1 ≤ b from fun b hb => by have := hf.2 b hb; simpa using this)
      have HIx2 := Lib.hid (show ∀ b ∈ bx2, b < w6.heap.size from ho.1.lt)
      have NDx2 : Hid bx2.Nodup := hf.1
      have K0_8 := Lib.hid (K0_7.out.trans' hw)
      have Rp0_8 := Lib.hid (row_ext Rp0_7.out hw)
      have Rw_8 := Lib.hid (row_ext Rw_7.out hw)
      have Rx0_8 := Lib.hid (row_ext Rx0_7.out hw)
      have Ow_8 := Lib.hid (Ow_7.out.ext hw)
      have Ox0_8 := Lib.hid (Ox0_7.out.ext hw)
      have Ox2_8 := Lib.hid ho
      clear hw ho hf
      clear c70 c71 c72
      obtain ⟨c80, c81, c82, -, -, -⟩ := row3_facts Rp0_8.out
      clear c80 c81 c82
      obtain ⟨c90, c91, c92, -, -, -⟩ := row3_facts Rx0_8.out
      go_wp2_with fail
      (with_reducible refine (permutePorts_any n1 Ox0_8.out.read Ox2_8.out.read hg2).mono ?_)
      rintro e w7 ⟨xg, bg, rfl, hw, ho, hf⟩
      have Z6 := Lib.hid (show w6.heap.size ≤ w7.heap.size from by have := hw.size; simpa using this)
      have LOg := Lib.hid (show ∀ b ∈ bg, w6.heap.size ≤ b from fun b hb => by have := hf.2 b hb; simpa using this)
      have HIg := Lib.hid (show ∀ b ∈ bg, b < w7.heap.size from ho.lt)
      have NDg : Hid bg.Nodup := hf.1
      obtain ⟨ga0, gc0, ga1, gc1, ga2, gc2, rfl⟩ := ho.agg
      have K0_9 := Lib.hid (K0_8.out.trans' hw)
      have Rp0_9 := Lib.hid (row_ext Rp0_8.out hw)
      have Rw_9 := Lib.hid (row_ext Rw_8.out hw)
      have Rx0_9 := Lib.hid (row_ext Rx0_8.out hw)
      have Ow_9 := Lib.hid (Ow_8.out.ext hw)
      have Ox0_9 := Lib.hid (Ox0_8.out.ext hw)
      have Ox2_9 := Lib.hid (Ox2_8.out.ext hw)
      have Og_9 := Lib.hid ho
      clear hw ho hf
      have hA := (Ext.rfl' w7).alloc' (.cells #[.slice ga0 (poAns N0 n1 l2).ends.length gc0, .slice ga1 (poAns N0 n1 l2).ids.length gc1, .slice ga2 (poAns N0 n1 l2).inputs.length gc2] 30)
      have K0_10 := Lib.hid (K0_9.out.trans' hA)
      have Rp0_10 := Lib.hid (row_ext Rp0_9.out hA)
      have Rw_10 := Lib.hid (row_ext Rw_9.out hA)
      have Rx0_10 := Lib.hid (row_ext Rx0_9.out hA)
      have Ow_10 := Lib.hid (Ow_9.out.ext hA)
      have Ox0_10 := Lib.hid (Ox0_9.out.ext hA)
      have Ox2_10 := Lib.hid (Ox2_9.out.ext hA)
      have Og_10 := Lib.hid (Og_9.out.ext hA)
      have Rg_10 := Lib.hid (row3_made w7 (.slice ga0 (poAns N0 n1 l2).ends.length gc0) (.slice ga1 (poAns N0 n1 l2).ids.length gc1) (.slice ga2 (poAns N0 n1 l2).inputs.length gc2) 30)
      clear hA
      clear c90 c91 c92
      obtain ⟨c100, c101, c102, -, -, -⟩ := row3_facts Rg_10.out
      obtain ⟨c110, c111, c112, -, -, -⟩ := row3_facts Rw_10.out
      go_wp2_with fail
      (with_reducible refine (eqNetwork_same Og_10.out.read Ow_10.out.read).mono ?_)
      rintro e w8 ⟨rfl, hw⟩
      have Z7 := Lib.hid (show w7.heap.size + 1 ≤ w8.heap.size from by have := hw.size; simpa using this)
      have K0_11 := Lib.hid (K0_10.out.trans' hw)
      have Rp0_11 := Lib.hid (row_ext Rp0_10.out hw)
      have Rw_11 := Lib.hid (row_ext Rw_10.out hw)
      have Rx0_11 := Lib.hid (row_ext Rx0_10.out hw)
      have Rg_11 := Lib.hid (row_ext Rg_10.out hw)
      have Ow_11 := Lib.hid (Ow_10.out.ext hw)
      have Ox0_11 := Lib.hid (Ox0_10.out.ext hw)
      have Ox2_11 := Lib.hid (Ox2_10.out.ext hw)
      have Og_11 := Lib.hid (Og_10.out.ext hw)
      clear hw
      clear c100 c101 c102 c110 c111 c112
      obtain ⟨c120, c121, c122, -, -, -⟩ := row3_facts Rp0_11.out
      obtain ⟨c130, c131, c132, -, -, -⟩ := row3_facts Rx0_11.out
      go_wp2_with fail
      have Hd := Lib.hid (Ext.rfl' w8).drew'
      go_region_held3 (fun w' => w'.cell? ⟨w.heap.size, 0, none⟩ = some v00 ∧ w'.cell? ⟨w.heap.size, 1, none⟩ = some v01 ∧ w'.cell? ⟨w.heap.size, 2, none⟩ = some v02 ∧ w'.cell? ⟨w5.heap.size, 0, none⟩ = some (.slice x0a0 N0.ends.length x0c0) ∧ w'.cell? ⟨w5.heap.size, 1, none⟩ = some (.slice x0a1 N0.ids.length x0c1) ∧ w'.cell? ⟨w5.heap.size, 2, none⟩ = some (.slice x0a2 N0.inputs.length x0c2) ∧ Hid (Ext w8 w')) (first | exact ⟨c120, c121, c122, c130, c131, c132, Hd⟩ | exact ⟨hx.cell' (Hd.out.cell' c120), hx.cell' (Hd.out.cell' c121), hx.cell' (Hd.out.cell' c122), hx.cell' (Hd.out.cell' c130), hx.cell' (Hd.out.cell' c131), hx.cell' (Hd.out.cell' c132), Hd.out.trans' hx⟩ | exact ⟨hy.cell' (hx.cell' (Hd.out.cell' c120)), hy.cell' (hx.cell' (Hd.out.cell' c121)), hy.cell' (hx.cell' (Hd.out.cell' c122)), hy.cell' (hx.cell' (Hd.out.cell' c130)), hy.cell' (hx.cell' (Hd.out.cell' c131)), hy.cell' (hx.cell' (Hd.out.cell' c132)), (Hd.out.trans' hx).trans' hy⟩)
        (first | (go_at_call 21; (with_reducible refine (toNetwork_own (HN0.out.ext (K0_11.out.trans' Hd.out)) hs0.out).mono ?_); rintro e wa0 ⟨z, bz, rfl, hx, hoz, hfz⟩; have OZ := Lib.hid hoz.read; have HXZ := Lib.hid hx; clear hoz hfz) | (go_at_call 23; (with_reducible refine (eqNetwork_same (Ox0_11.out.read.ext (Hd.out.trans' HXZ.out)) OZ.out).mono ?_); rintro e wb0 ⟨rfl, hy⟩))
      rename_i hh
      have HY := hh.2.2.2.2.2.2
      clear hh hx hy HXZ OZ
      clear c120 c121 c122 c130 c131 c132
      clear Hd
      have Z8 := Lib.hid (show w8.heap.size ≤ wb0.heap.size from by have := HY.out.size; simpa using this)
      have K0_12 := Lib.hid (K0_11.out.trans' HY.out)
      have Rp0_12 := Lib.hid (row_ext Rp0_11.out HY.out)
      have Rw_12 := Lib.hid (row_ext Rw_11.out HY.out)
      have Rx0_12 := Lib.hid (row_ext Rx0_11.out HY.out)
      have Rg_12 := Lib.hid (row_ext Rg_11.out HY.out)
      have Ow_12 := Lib.hid (Ow_11.out.ext HY.out)
      have Ox0_12 := Lib.hid (Ox0_11.out.ext HY.out)
      have Ox2_12 := Lib.hid (Ox2_11.out.ext HY.out)
      have Og_12 := Lib.hid (Og_11.out.ext HY.out)
      clear HY
      go_wp2_with fail
      (with_reducible refine (toIntS_own (HN2.out.ext K0_12.out) hg2).mono ?_)
      rintro e w9 ⟨z2a, z2c, bz2, rfl, hw, ho, hf⟩
      have Z9 := Lib.hid (show wb0.heap.size ≤ w9.heap.size from by have := hw.size; simpa using this)
      have K0_13 := Lib.hid (K0_12.out.trans' hw)
      have Rp0_13 := Lib.hid (row_ext Rp0_12.out hw)
      have Rw_13 := Lib.hid (row_ext Rw_12.out hw)
      have Rx0_13 := Lib.hid (row_ext Rx0_12.out hw)
      have Rg_13 := Lib.hid (row_ext Rg_12.out hw)
      have Ow_13 := Lib.hid (Ow_12.out.ext hw)
      have Ox0_13 := Lib.hid (Ox0_12.out.ext hw)
      have Ox2_13 := Lib.hid (Ox2_12.out.ext hw)
      have Og_13 := Lib.hid (Og_12.out.ext hw)
      have Oz2_13 := Lib.hid ho.read
      clear hw ho hf
      obtain ⟨c140, c141, c142, -, -, -⟩ := row3_facts Rp0_13.out
      clear c140 c141 c142
      go_wp2_with fail
      (with_reducible refine (eqIntS_same Ox2_13.out.read Oz2_13.out).mono ?_)
      rintro e w10 ⟨rfl, hw⟩
      have Z10 := Lib.hid (show w9.heap.size ≤ w10.heap.size from by have := hw.size; simpa using this)
      have K0_14 := Lib.hid (K0_13.out.trans' hw)
      have Rp0_14 := Lib.hid (row_ext Rp0_13.out hw)
      have Rw_14 := Lib.hid (row_ext Rw_13.out hw)
      have Rx0_14 := Lib.hid (row_ext Rx0_13.out hw)
      have Rg_14 := Lib.hid (row_ext Rg_13.out hw)
      have Ow_14 := Lib.hid (Ow_13.out.ext hw)
      have Ox0_14 := Lib.hid (Ox0_13.out.ext hw)
      have Ox2_14 := Lib.hid (Ox2_13.out.ext hw)
      have Og_14 := Lib.hid (Og_13.out.ext hw)
      have Oz2_14 := Lib.hid (Oz2_13.out.ext hw)
      clear hw
      obtain ⟨c150, c151, c152, -, -, -⟩ := row3_facts Rx0_14.out
      go_wp2_with fail
      (with_reducible refine (markNetwork_own Ox0_14.out NDx0.out hs0.out).mono ?_)
      obtain ⟨hq00, hq01⟩ := netLast_bound hs0.out
      rintro e w11 ⟨rfl, hc, hm⟩
      have Z11 := Lib.hid (show w10.heap.size ≤ w11.heap.size from by have := hc.size; simpa using this)
      have K0_15 := Lib.hid (Chg.ext K0_14.out hc fun b hb => by have := LOx0.out b hb; have := Z0.out; have := Z1.out; have := Z2.out; have := Z3.out; have := Z4.out; have := Z5.out; have := Z6.out; have := Z7.out; have := Z8.out; have := Z9.out; have := Z10.out; have := Z11.out; omega)
      have Rp0_15 := Lib.hid (Rp0_14.out.of_block (hc.block _ Rp0_14.out.lt fun hb => by have := LOx0.out _ hb; have := HIx0.out _ hb; have := Z0.out; have := Z1.out; have := Z2.out; have := Z3.out; have := Z4.out; have := Z5.out; have := Z6.out; have := Z7.out; have := Z8.out; have := Z9.out; have := Z10.out; have := Z11.out; omega))
      have Rw_15 := Lib.hid (Rw_14.out.of_block (hc.block _ Rw_14.out.lt fun hb => by have := LOx0.out _ hb; have := HIx0.out _ hb; have := Z0.out; have := Z1.out; have := Z2.out; have := Z3.out; have := Z4.out; have := Z5.out; have := Z6.out; have := Z7.out; have := Z8.out; have := Z9.out; have := Z10.out; have := Z11.out; omega))
      have Rx0_15 := Lib.hid (Rx0_14.out.of_block (hc.block _ Rx0_14.out.lt fun hb => by have := LOx0.out _ hb; have := HIx0.out _ hb; have := Z0.out; have := Z1.out; have := Z2.out; have := Z3.out; have := Z4.out; have := Z5.out; have := Z6.out; have := Z7.out; have := Z8.out; have := Z9.out; have := Z10.out; have := Z11.out; omega))
      have Rg_15 := Lib.hid (Rg_14.out.of_block (hc.block _ Rg_14.out.lt fun hb => by have := LOx0.out _ hb; have := HIx0.out _ hb; have := Z0.out; have := Z1.out; have := Z2.out; have := Z3.out; have := Z4.out; have := Z5.out; have := Z6.out; have := Z7.out; have := Z8.out; have := Z9.out; have := Z10.out; have := Z11.out; omega))
      have Ow_15 := Lib.hid (Ow_14.out.keep fun b hb => hc.block b (Ow_14.out.lt b hb) fun hb' => by have := LOx0.out b hb'; have := HIx0.out b hb'; have := LOw.out b hb; have := HIw.out b hb; have := Z0.out; have := Z1.out; have := Z2.out; have := Z3.out; have := Z4.out; have := Z5.out; have := Z6.out; have := Z7.out; have := Z8.out; have := Z9.out; have := Z10.out; have := Z11.out; omega)
      have Ox2_15 := Lib.hid (Ox2_14.out.keep fun b hb => hc.block b (Ox2_14.out.1.lt b hb) fun hb' => by have := LOx0.out b hb'; have := HIx0.out b hb'; have := LOx2.out b hb; have := HIx2.out b hb; have := Z0.out; have := Z1.out; have := Z2.out; have := Z3.out; have := Z4.out; have := Z5.out; have := Z6.out; have := Z7.out; have := Z8.out; have := Z9.out; have := Z10.out; have := Z11.out; omega)
      have Og_15 := Lib.hid (Og_14.out.keep fun b hb => hc.block b (Og_14.out.lt b hb) fun hb' => by have := LOx0.out b hb'; have := HIx0.out b hb'; have := LOg.out b hb; have := HIg.out b hb; have := Z0.out; have := Z1.out; have := Z2.out; have := Z3.out; have := Z4.out; have := Z5.out; have := Z6.out; have := Z7.out; have := Z8.out; have := Z9.out; have := Z10.out; have := Z11.out; omega)
      clear hc hm
      clear c150 c151 c152
      go_wp2_with fail
      (with_reducible refine (markIntS_any _ Ox2_15.out hg2 (by omega) (by omega)).mono ?_)
      rintro e w12 ⟨rfl, hc, hm⟩
      have Z12 := Lib.hid (show w11.heap.size ≤ w12.heap.size from by have := hc.size; simpa using this)
      have K0_16 := Lib.hid (Chg.ext K0_15.out hc fun b hb => by have := LOx2.out b hb; have := Z0.out; have := Z1.out; have := Z2.out; have := Z3.out; have := Z4.out; have := Z5.out; have := Z6.out; have := Z7.out; have := Z8.out; have := Z9.out; have := Z10.out; have := Z11.out; have := Z12.out; omega)
      have Rp0_16 := Lib.hid (Rp0_15.out.of_block (hc.block _ Rp0_15.out.lt fun hb => by have := LOx2.out _ hb; have := HIx2.out _ hb; have := Z0.out; have := Z1.out; have := Z2.out; have := Z3.out; have := Z4.out; have := Z5.out; have := Z6.out; have := Z7.out; have := Z8.out; have := Z9.out; have := Z10.out; have := Z11.out; have := Z12.out; omega))
      have Rw_16 := Lib.hid (Rw_15.out.of_block (hc.block _ Rw_15.out.lt fun hb => by have := LOx2.out _ hb; have := HIx2.out _ hb; have := Z0.out; have := Z1.out; have := Z2.out; have := Z3.out; have := Z4.out; have := Z5.out; have := Z6.out; have := Z7.out; have := Z8.out; have := Z9.out; have := Z10.out; have := Z11.out; have := Z12.out; omega))
      have Rg_16 := Lib.hid (Rg_15.out.of_block (hc.block _ Rg_15.out.lt fun hb => by have := LOx2.out _ hb; have := HIx2.out _ hb; have := Z0.out; have := Z1.out; have := Z2.out; have := Z3.out; have := Z4.out; have := Z5.out; have := Z6.out; have := Z7.out; have := Z8.out; have := Z9.out; have := Z10.out; have := Z11.out; have := Z12.out; omega))
      have Ow_16 := Lib.hid (Ow_15.out.keep fun b hb => hc.block b (Ow_15.out.lt b hb) fun hb' => by have := LOx2.out b hb'; have := HIx2.out b hb'; have := LOw.out b hb; have := HIw.out b hb; have := Z0.out; have := Z1.out; have := Z2.out; have := Z3.out; have := Z4.out; have := Z5.out; have := Z6.out; have := Z7.out; have := Z8.out; have := Z9.out; have := Z10.out; have := Z11.out; have := Z12.out; omega)
      have Og_16 := Lib.hid (Og_15.out.keep fun b hb => hc.block b (Og_15.out.lt b hb) fun hb' => by have := LOx2.out b hb'; have := HIx2.out b hb'; have := LOg.out b hb; have := HIg.out b hb; have := Z0.out; have := Z1.out; have := Z2.out; have := Z3.out; have := Z4.out; have := Z5.out; have := Z6.out; have := Z7.out; have := Z8.out; have := Z9.out; have := Z10.out; have := Z11.out; have := Z12.out; omega)
      clear hc hm
      obtain ⟨c160, c161, c162, -, -, -⟩ := row3_facts Rg_16.out
      obtain ⟨c170, c171, c172, -, -, -⟩ := row3_facts Rw_16.out
      go_wp2_with fail
      (with_reducible refine (eqNetwork_same Og_16.out.read Ow_16.out.read).mono ?_)
      rintro e w13 ⟨rfl, hw⟩
      have Z13 := Lib.hid (show w12.heap.size ≤ w13.heap.size from by have := hw.size; simpa using this)
      have K0_17 := Lib.hid (K0_16.out.trans' hw)
      have Rp0_17 := Lib.hid (row_ext Rp0_16.out hw)
      have Rw_17 := Lib.hid (row_ext Rw_16.out hw)
      have Rg_17 := Lib.hid (row_ext Rg_16.out hw)
      have Ow_17 := Lib.hid (Ow_16.out.ext hw)
      have Og_17 := Lib.hid (Og_16.out.ext hw)
      clear hw
      clear c160 c161 c162 c170 c171 c172
      obtain ⟨c180, c181, c182, -, -, -⟩ := row3_facts Rg_17.out
      go_wp2_with fail
      (with_reducible refine (markNetwork_own Og_17.out NDg.out HLL.out).mono ?_)
      rintro e w14 ⟨rfl, hc, hm⟩
      have Z14 := Lib.hid (show w13.heap.size ≤ w14.heap.size from by have := hc.size; simpa using this)
      have K0_18 := Lib.hid (Chg.ext K0_17.out hc fun b hb => by have := LOg.out b hb; have := Z0.out; have := Z1.out; have := Z2.out; have := Z3.out; have := Z4.out; have := Z5.out; have := Z6.out; have := Z7.out; have := Z8.out; have := Z9.out; have := Z10.out; have := Z11.out; have := Z12.out; have := Z13.out; have := Z14.out; omega)
      have Rp0_18 := Lib.hid (Rp0_17.out.of_block (hc.block _ Rp0_17.out.lt fun hb => by have := LOg.out _ hb; have := HIg.out _ hb; have := Z0.out; have := Z1.out; have := Z2.out; have := Z3.out; have := Z4.out; have := Z5.out; have := Z6.out; have := Z7.out; have := Z8.out; have := Z9.out; have := Z10.out; have := Z11.out; have := Z12.out; have := Z13.out; have := Z14.out; omega))
      have Rw_18 := Lib.hid (Rw_17.out.of_block (hc.block _ Rw_17.out.lt fun hb => by have := LOg.out _ hb; have := HIg.out _ hb; have := Z0.out; have := Z1.out; have := Z2.out; have := Z3.out; have := Z4.out; have := Z5.out; have := Z6.out; have := Z7.out; have := Z8.out; have := Z9.out; have := Z10.out; have := Z11.out; have := Z12.out; have := Z13.out; have := Z14.out; omega))
      have Rg_18 := Lib.hid (Rg_17.out.of_block (hc.block _ Rg_17.out.lt fun hb => by have := LOg.out _ hb; have := HIg.out _ hb; have := Z0.out; have := Z1.out; have := Z2.out; have := Z3.out; have := Z4.out; have := Z5.out; have := Z6.out; have := Z7.out; have := Z8.out; have := Z9.out; have := Z10.out; have := Z11.out; have := Z12.out; have := Z13.out; have := Z14.out; omega))
      have Ow_18 := Lib.hid (Ow_17.out.keep fun b hb => hc.block b (Ow_17.out.lt b hb) fun hb' => by have := LOg.out b hb'; have := HIg.out b hb'; have := LOw.out b hb; have := HIw.out b hb; have := Z0.out; have := Z1.out; have := Z2.out; have := Z3.out; have := Z4.out; have := Z5.out; have := Z6.out; have := Z7.out; have := Z8.out; have := Z9.out; have := Z10.out; have := Z11.out; have := Z12.out; have := Z13.out; have := Z14.out; omega)
      have Og_18 := Lib.hid hm
      clear hc hm
      clear c180 c181 c182
      obtain ⟨c190, c191, c192, -, -, -⟩ := row3_facts Rg_18.out
      obtain ⟨hq0, _⟩ := HQ.out
      have hqq : (netLast (poAns N0 n1 l2) != netLast (poAns N0 n1 l2)) = false := by simp
      go_wp2_with fail
      (with_reducible refine (heldNetwork_any Og_18.out.read HLL.out).mono ?_)
      rintro e w15 ⟨rfl, hw⟩
      have Z15 := Lib.hid (show w14.heap.size ≤ w15.heap.size from by have := hw.size; simpa using this)
      have K0_19 := Lib.hid (K0_18.out.trans' hw)
      have Rp0_19 := Lib.hid (row_ext Rp0_18.out hw)
      have Rw_19 := Lib.hid (row_ext Rw_18.out hw)
      have Rg_19 := Lib.hid (row_ext Rg_18.out hw)
      have Ow_19 := Lib.hid (Ow_18.out.ext hw)
      have Og_19 := Lib.hid (Og_18.out.ext hw)
      clear hw
      clear c190 c191 c192
      obtain ⟨c200, c201, c202, -, -, -⟩ := row3_facts Rp0_19.out
      go_wp2_with fail
      (with_reducible refine (toNetwork_own (HN0.out.ext K0_19.out) hs0.out).mono ?_)
      rintro e w16 ⟨xu0, bu0, rfl, hw, ho, hf⟩
      have Z16 := Lib.hid (show w15.heap.size ≤ w16.heap.size from by have := hw.size; simpa using this)
      have K0_20 := Lib.hid (K0_19.out.trans' hw)
      have Rp0_20 := Lib.hid (row_ext Rp0_19.out hw)
      have Rw_20 := Lib.hid (row_ext Rw_19.out hw)
      have Rg_20 := Lib.hid (row_ext Rg_19.out hw)
      have Ow_20 := Lib.hid (Ow_19.out.ext hw)
      have Og_20 := Lib.hid (Og_19.out.ext hw)
      have Ou0_20 := Lib.hid ho.read
      clear hw ho hf
      clear c200 c201 c202
      obtain ⟨c210, c211, c212, -, -, -⟩ := row3_facts Rp0_20.out
      go_wp2_with fail
      (with_reducible refine (toIntS_own (HN2.out.ext K0_20.out) hg2).mono ?_)
      rintro e w17 ⟨u2a, u2c, bu2, rfl, hw, ho, hf⟩
      have Z17 := Lib.hid (show w16.heap.size ≤ w17.heap.size from by have := hw.size; simpa using this)
      have K0_21 := Lib.hid (K0_20.out.trans' hw)
      have Rp0_21 := Lib.hid (row_ext Rp0_20.out hw)
      have Rw_21 := Lib.hid (row_ext Rw_20.out hw)
      have Rg_21 := Lib.hid (row_ext Rg_20.out hw)
      have Ow_21 := Lib.hid (Ow_20.out.ext hw)
      have Og_21 := Lib.hid (Og_20.out.ext hw)
      have Ou0_21 := Lib.hid (Ou0_20.out.ext hw)
      have Ou2_21 := Lib.hid ho.read
      clear hw ho hf
      clear c210 c211 c212
      obtain ⟨c220, c221, c222, -, -, -⟩ := row3_facts Rp0_21.out
      clear c220 c221 c222
      go_wp2_with fail
      (with_reducible refine (permutePorts_any n1 Ou0_21.out Ou2_21.out hg2).mono ?_)
      rintro e w18 ⟨xh, bh, rfl, hw, ho, hf⟩
      have Z18 := Lib.hid (show w17.heap.size ≤ w18.heap.size from by have := hw.size; simpa using this)
      have LOh := Lib.hid (show ∀ b ∈ bh, w17.heap.size ≤ b from fun b hb => by have := hf.2 b hb; simpa using this)
      have HIh := Lib.hid (show ∀ b ∈ bh, b < w18.heap.size from ho.lt)
      have NDh : Hid bh.Nodup := hf.1
      obtain ⟨ha0, hc0, ha1, hc1, ha2, hc2, rfl⟩ := ho.agg
      have K0_22 := Lib.hid (K0_21.out.trans' hw)
      have Rp0_22 := Lib.hid (row_ext Rp0_21.out hw)
      have Rw_22 := Lib.hid (row_ext Rw_21.out hw)
      have Rg_22 := Lib.hid (row_ext Rg_21.out hw)
      have Ow_22 := Lib.hid (Ow_21.out.ext hw)
      have Og_22 := Lib.hid (Og_21.out.ext hw)
      have Ou0_22 := Lib.hid (Ou0_21.out.ext hw)
      have Ou2_22 := Lib.hid (Ou2_21.out.ext hw)
      have Oh_22 := Lib.hid ho
      clear hw ho hf
      have hA := (Ext.rfl' w18).alloc' (.cells #[.slice ha0 (poAns N0 n1 l2).ends.length hc0, .slice ha1 (poAns N0 n1 l2).ids.length hc1, .slice ha2 (poAns N0 n1 l2).inputs.length hc2] 30)
      have K0_23 := Lib.hid (K0_22.out.trans' hA)
      have Rp0_23 := Lib.hid (row_ext Rp0_22.out hA)
      have Rw_23 := Lib.hid (row_ext Rw_22.out hA)
      have Rg_23 := Lib.hid (row_ext Rg_22.out hA)
      have Ow_23 := Lib.hid (Ow_22.out.ext hA)
      have Og_23 := Lib.hid (Og_22.out.ext hA)
      have Oh_23 := Lib.hid (Oh_22.out.ext hA)
      have Ou0_23 := Lib.hid (Ou0_22.out.ext hA)
      have Ou2_23 := Lib.hid (Ou2_22.out.ext hA)
      have Rh_23 := Lib.hid (row3_made w18 (.slice ha0 (poAns N0 n1 l2).ends.length hc0) (.slice ha1 (poAns N0 n1 l2).ids.length hc1) (.slice ha2 (poAns N0 n1 l2).inputs.length hc2) 30)
      clear hA
      obtain ⟨c230, c231, c232, -, -, -⟩ := row3_facts Rh_23.out
      obtain ⟨c240, c241, c242, -, -, -⟩ := row3_facts Rw_23.out
      go_wp2_with fail
      (with_reducible refine (eqNetwork_same Oh_23.out.read Ow_23.out.read).mono ?_)
      rintro e w19 ⟨rfl, hw⟩
      have Z19 := Lib.hid (show w18.heap.size + 1 ≤ w19.heap.size from by have := hw.size; simpa using this)
      have K0_24 := Lib.hid (K0_23.out.trans' hw)
      have Rp0_24 := Lib.hid (row_ext Rp0_23.out hw)
      have Rw_24 := Lib.hid (row_ext Rw_23.out hw)
      have Rg_24 := Lib.hid (row_ext Rg_23.out hw)
      have Rh_24 := Lib.hid (row_ext Rh_23.out hw)
      have Ow_24 := Lib.hid (Ow_23.out.ext hw)
      have Og_24 := Lib.hid (Og_23.out.ext hw)
      have Oh_24 := Lib.hid (Oh_23.out.ext hw)
      clear hw
      clear c230 c231 c232 c240 c241 c242
      obtain ⟨c250, c251, c252, -, -, -⟩ := row3_facts Rg_24.out
      obtain ⟨hq0, _⟩ := HQ.out
      have hqq : (netLast (poAns N0 n1 l2) != netLast (poAns N0 n1 l2)) = false := by simp
      go_wp2_with fail
      (with_reducible refine (heldNetwork_any Og_24.out.read HLL.out).mono ?_)
      rintro e w20 ⟨rfl, hw⟩
      have Z20 := Lib.hid (show w19.heap.size ≤ w20.heap.size from by have := hw.size; simpa using this)
      have K0_25 := Lib.hid (K0_24.out.trans' hw)
      have Rp0_25 := Lib.hid (row_ext Rp0_24.out hw)
      have Rw_25 := Lib.hid (row_ext Rw_24.out hw)
      have Rg_25 := Lib.hid (row_ext Rg_24.out hw)
      have Rh_25 := Lib.hid (row_ext Rh_24.out hw)
      have Ow_25 := Lib.hid (Ow_24.out.ext hw)
      have Og_25 := Lib.hid (Og_24.out.ext hw)
      have Oh_25 := Lib.hid (Oh_24.out.ext hw)
      clear hw
      clear c250 c251 c252
      go_wp2
      go_ret
      exact ⟨rfl, K0_25.out⟩
theorem walk_PermutePorts {w : World} {v0 : Value} {N0 : Net} {v2 : Value} {l2 : List Int} (n1 : Int) (h0 : NetAt w v0 N0) (h2 : IntSl w v2 l2) :
    Calls Try.prog 14 #[v0, .int .i64 n1, v2] w fun e w' => e = .returned (.bool true) ∧ Ext w w' := walk_PermutePorts_of n1 h0 h2 (poAns_small N0 n1 l2)
end Go.Proofs.Ytndgbildkeglfaa
