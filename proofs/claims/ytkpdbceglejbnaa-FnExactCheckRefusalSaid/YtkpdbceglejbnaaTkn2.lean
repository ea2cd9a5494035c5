/- The contracts of both sides' LeastDepthFor. -/
import Derived.Test.YtkpdbceglejbnaaTkm
namespace Go.Proofs.Ytkpdbceglejbnaa
open Go.RowKit

theorem ret_iX {x y : Int} {b c : Bool} (h0 : x = y) (h : b = c) : Ending.returned (.tuple #[.int .i64 x, .bool b]) = .returned (.tuple #[.int .i64 y, .bool c]) := by rw [h0, h]
theorem can_mono {N : Net} (hN : NodesIn N) {t : Int} {s k : Nat} (h : Can N t (seqC N s)) : Can N t (seqC N (s + k)) := by
  have hE : ∀ u v, u < N.ends.length → v < N.ends.length → gi (seqC N (s + k)) u = gi (seqC N (s + k)) v → gi (seqC N s) u = gi (seqC N s) v := fun u v hu hv e => by
    by_cases x : gi (seqC N s) u = gi (seqC N s) v
    · exact x
    · exact absurd e (seq_apart hN hu hv x)
  rintro ⟨u, v, hu, hv, hx⟩
  rw [seqC_len] at hu hv
  refine h ⟨u, v, by rw [seqC_len]; exact hu, by rw [seqC_len]; exact hv, ?_⟩
  rcases hx with ⟨h1, h2, h3, h4⟩ | ⟨h1, h2, h3, h4⟩ | ⟨h1, h2, h3⟩
  · refine .inl ⟨h1, h2, h3, fun ⟨x, hx⟩ => h4 ⟨x, ?_⟩⟩
    have hxl := hx.1
    rw [seqC_len] at hxl
    exact ⟨by rw [seqC_len]; exact hxl, fun y hy e => by rw [seqC_len] at hy; exact hx.2 y (by rw [seqC_len]; exact hy) (hE y x hy hxl e)⟩
  · exact .inr (.inl ⟨h1, h2, hE u v hu hv h3, h4⟩)
  · exact .inr (.inr ⟨h1, h2, hE u v hu hv h3⟩)
/-- The least depth at which a task can be met. -/
def LfAt (N : Net) (t : Int) (s : Nat) : Prop := Can N t (seqC N s) ∧ ∀ r, r < s → ¬ Can N t (seqC N r)
open Classical in
noncomputable def lfAns (N : Net) (t : Int) : Int := if h : MtB N t ∧ ∃ s, LfAt N t s then ((Classical.choose h.2 : Nat) : Int) else 0
theorem lf_f {N : Net} {t : Int} (h : ¬ MtB N t) : lfAns N t = 0 ∧ dec (MtB N t) = false := by
  unfold lfAns; rw [dif_neg (fun k => h k.1)]; exact ⟨rfl, dec_false h⟩
theorem lf_t {N : Net} {t : Int} {s : Nat} (h : MtB N t) (k : LfAt N t s) : lfAns N t = (s : Int) ∧ dec (MtB N t) = true := by
  have hb : MtB N t ∧ ∃ s, LfAt N t s := ⟨h, s, k⟩
  refine ⟨?_, dec_true h⟩
  unfold lfAns; rw [dif_pos hb]
  have hs := Classical.choose_spec hb.2
  have e : Classical.choose hb.2 = s := by
    rcases Nat.lt_trichotomy (Classical.choose hb.2) s with x | x | x
    · exact absurd hs.1 (k.2 _ x)
    · exact x
    · exact absurd k.1 (hs.2 _ x)
  rw [e]

set_option maxHeartbeats 1600000 in
set_option maxRecDepth 100000 in
theorem leastDepthFor_any {w : World} {v : Value} {N : Net} (t : Int) (h : NetAt w v N) :
    Calls Try.prog 32 #[v, .int .i64 t] w fun e w' => e = .returned (.tuple #[.int .i64 (lfAns N t), .bool (dec (MtB N t))]) ∧ Ext w w' := by
  have HN := Lib.hid h
  obtain ⟨v0, v1, v2, rfl, -, -, -⟩ := h
  have HX := Lib.hid (boxed_ext w v0 v1 v2 34)
  have HR := Lib.hid (row3_made w v0 v1 v2 34)
  obtain ⟨p0, p1, p2, -, -, -⟩ := row3_facts HR.out
  by_cases ht : InB t 1 3
  case neg =>
    have D := Lib.hid (lf_f (N := N) fun k : MtB N t => ht k.1.2)
    clear p0 p1 p2
    go_enter Try.func32, Try.ntmps32
    go_wp2_with (go_at_call 54; (with_reducible refine (taskKind_f ht _).mono ?_); rintro e _ ⟨rfl, rfl⟩)
    go_ret2
    exact ⟨ret_iX D.out.1.symm D.out.2.symm, HX.out⟩
  by_cases hg : Good N
  case neg =>
    have G := Lib.hid (dec_false hg)
    have D := Lib.hid (lf_f (N := N) fun k : MtB N t => hg k.1.1)
    clear hg
    go_enter Try.func32, Try.ntmps32
    go_wp2_with (first | (go_at_call 54; (with_reducible refine (taskKind_t ht _).mono ?_); rintro e _ ⟨rfl, rfl⟩) | (go_at_call 73; (with_reducible refine (isNetwork_any (HN.out.ext HX.out)).mono ?_); rintro e w1 ⟨rfl, hw⟩; rw [G.out]; have K1 := Lib.hid (HX.out.trans' hw); obtain ⟨q0, q1, q2, -, -, -⟩ := row3_facts (row_ext HR.out hw); have R1 := Lib.hid (row_ext HR.out hw); clear hw p0 p1 p2))
    go_ret2
    exact ⟨ret_iX D.out.1.symm D.out.2.symm, K1.out⟩
  have G := Lib.hid (dec_true hg)
  have HG := Lib.hid hg
  have NI := Lib.hid (good_nodes hg)
  have hn : 0 < N.ends.length := hg.1.1
  have h40 : N.ends.length ≤ 40 := hg.1.2
  clear hg
  go_enter Try.func32, Try.ntmps32
  go_wp2_with (first | (go_at_call 54; (with_reducible refine (taskKind_t ht _).mono ?_); rintro e _ ⟨rfl, rfl⟩) | (go_at_call 73; (with_reducible refine (isNetwork_any (HN.out.ext HX.out)).mono ?_); rintro e w1 ⟨rfl, hw⟩; rw [G.out]; have K1 := Lib.hid (HX.out.trans' hw); obtain ⟨q0, q1, q2, -, -, -⟩ := row3_facts (row_ext HR.out hw); have R1 := Lib.hid (row_ext HR.out hw); clear hw p0 p1 p2))
  (with_reducible refine (classesByDepth_any (HN.out.ext K1.out) NI.out hn (by omega)).mono ?_)
  rintro e w6 ⟨v', rfl, hw, hgr⟩
  have K6 := Lib.hid (K1.out.trans' hw)
  have R6 := Lib.hid (row_ext R1.out hw)
  obtain ⟨b, c, rfl, hc1, hc2, hrows⟩ := hgr.rows (by rw [clsTo_len]; omega)
  rw [clsTo_len] at hc1 hrows ⊢
  have HRW := Lib.hid hrows
  unfold maxLen at hc2
  have hst80 : stOf N < 80 := by have := stOf_lt NI.out hn; omega
  clear hgr hrows hw q0 q1 q2
  obtain ⟨S, hS⟩ : ∃ S, S = stOf N := ⟨_, rfl⟩
  rw [← hS] at hc1 HRW hst80 ⊢
  have HS := Lib.hid hS
  clear hS
  go_wp2_with fail
  go_loopg [25] (S + 1) (fun g i wr => ∃ k : Nat, k ≤ S + 1 ∧ g = S + 1 - k ∧ i = .int .i64 k ∧ Hid ((∀ s, s < k → ¬ Can N t (seqC N s)) ∧ Ext w6 wr))
  case atStart => exact ⟨0, Nat.zero_le _, rfl, rfl, fun s hs => absurd hs (by omega), Ext.rfl' _⟩
  case round =>
    obtain ⟨k, hk, rfl, rfl, Hr⟩ := hrel
    by_cases hlt : k < S + 1
    · obtain ⟨xv, cs, hcell, hO, -⟩ := HRW.out k hlt
      rw [gr_clsTo (by omega)] at hO
      have hcell' := Hr.out.2.cell' hcell
      have RD := Lib.hid (hO.read.ext Hr.out.2)
      have KR := Lib.hid (K6.out.trans' Hr.out.2)
      obtain ⟨q0, q1, q2, -, -, -⟩ := row3_facts (row_ext R6.out Hr.out.2)
      clear hcell hO
      by_cases hc : Can N t (seqC N k)
      · have C := Lib.hid (dec_true hc)
        have D := Lib.hid (lf_t (N := N) (t := t) (s := k) ⟨⟨HG.out, ht⟩, by have := can_mono NI.out (k := S - k) hc; rw [show k + (S - k) = S by omega, HS.out] at this; exact this⟩ ⟨hc, Hr.out.1⟩)
        clear hc
        go_wp2_with (go_at_call 67; (with_reducible refine (canWith_any ht (HN.out.ext KR.out) RD.out (seqC_len N k) HG.out).mono ?_); rintro e w7 ⟨rfl, hx⟩; rw [C.out]; have K7 := Lib.hid (Hr.out.2.trans' hx); clear hx)
        go_ret2
        exact ⟨ret_iX D.out.1.symm D.out.2.symm, K6.out.trans' K7.out⟩
      · have C := Lib.hid (dec_false hc)
        have HC := Lib.hid hc
        clear hc
        go_wp2_with (go_at_call 67; (with_reducible refine (canWith_any ht (HN.out.ext KR.out) RD.out (seqC_len N k) HG.out).mono ?_); rintro e w7 ⟨rfl, hx⟩; rw [C.out]; have K7 := Lib.hid (Hr.out.2.trans' hx); clear hx)
        clear q0 q1 q2
        go_roundg (S + 1 - (k + 1))
        case measure => omega
        case rel =>
          refine ⟨k + 1, by omega, rfl, by go_num, fun s hs => ?_, K7.out⟩
          by_cases e : s = k
          · subst e; exact HC.out
          · exact Hr.out.1 s (by omega)
    · have e : k = S + 1 := by omega
      subst e
      have D := Lib.hid (lf_f (N := N) (t := t) fun k => Hr.out.1 S (by omega) (by have := k.2; unfold twC at this; rw [HS.out]; exact this))
      go_wp2
      go_ret2
      exact ⟨ret_iX D.out.1.symm D.out.2.symm, K6.out.trans' Hr.out.2⟩

set_option maxHeartbeats 1600000 in
set_option maxRecDepth 100000 in
theorem specLeastDepthFor_any {w : World} {v : Value} {N : Net} (t : Int) (h : NetAt w v N) :
    Calls Try.prog 31 #[v, .int .i64 t] w fun e w' => e = .returned (.tuple #[.int .i64 (lfAns N t), .bool (dec (MtB N t))]) ∧ Ext w w' := by
  have HN := Lib.hid h
  obtain ⟨v0, v1, v2, rfl, -, -, -⟩ := h
  obtain ⟨W1, hW1⟩ : ∃ W1, W1 = w.alloc (.cells #[v0, v1, v2] 34) := ⟨_, rfl⟩
  have HX := Lib.hid (show Ext w W1 by rw [hW1]; exact boxed_ext _ _ _ _ _)
  have HR := Lib.hid (show W1.rowIs w.heap.size 34 3 (tri v0 v1 v2) by rw [hW1]; exact boxed_row _ _ _ _ _)
  obtain ⟨p0, p1, p2, -, -, -⟩ := row3_facts HR.out
  by_cases hg : Good N
  case neg =>
    have G := Lib.hid (dec_false hg)
    have D := Lib.hid (lf_f (N := N) fun k : MtB N t => hg k.1.1)
    clear hg
    have P0 : ∀ x' : Wx W1, x'.w.cell? ⟨w.heap.size, 0, none⟩ = some v0 := fun x' => x'.ok.cell' p0
    have P1 : ∀ x' : Wx W1, x'.w.cell? ⟨w.heap.size, 1, none⟩ = some v1 := fun x' => x'.ok.cell' p1
    have P2 : ∀ x' : Wx W1, x'.w.cell? ⟨w.heap.size, 2, none⟩ = some v2 := fun x' => x'.ok.cell' p2
    go_enter Try.func31, Try.ntmps31
    go_wp2_with fail
    rw [← hW1]
    clear hW1 p0 p1 p2
    refine wp_region_ext (by kernel_rfl) (by kernel_rfl) ?_
    repeat (go_big_quiet_step ((go_at_call 62; exact in_ext_bool (neGood_any (HN.out.ext (HX.out.trans' (Wx.ok _)))) G.out)))
    refine wpQuiet_nil ?_
    rintro wq ⟨⟨_, hq⟩, rfl⟩
    have K1 := Lib.hid (HX.out.trans' hq)
    clear hq P0 P1 P2
    go_wp2
    go_ret2
    exact ⟨ret_iX D.out.1.symm D.out.2.symm, K1.out⟩
  have G := Lib.hid (dec_true hg)
  by_cases ht : InB t 1 3
  case neg =>
    have T := Lib.hid (dec_false ht)
    have D := Lib.hid (lf_f (N := N) fun k : MtB N t => ht k.1.2)
    clear hg ht
    have P0 : ∀ x' : Wx W1, x'.w.cell? ⟨w.heap.size, 0, none⟩ = some v0 := fun x' => x'.ok.cell' p0
    have P1 : ∀ x' : Wx W1, x'.w.cell? ⟨w.heap.size, 1, none⟩ = some v1 := fun x' => x'.ok.cell' p1
    have P2 : ∀ x' : Wx W1, x'.w.cell? ⟨w.heap.size, 2, none⟩ = some v2 := fun x' => x'.ok.cell' p2
    go_enter Try.func31, Try.ntmps31
    go_wp2_with fail
    rw [← hW1]
    clear hW1 p0 p1 p2
    refine wp_region_ext (by kernel_rfl) (by kernel_rfl) ?_
    repeat (go_big_quiet_step (first | (go_at_call 62; exact in_ext_bool (neGood_any (HN.out.ext (HX.out.trans' (Wx.ok _)))) G.out) | (go_at_call 53; exact in_same_bool (imTask_any _ _) T.out)))
    refine wpQuiet_nil ?_
    rintro wq ⟨⟨_, hq⟩, rfl⟩
    have K1 := Lib.hid (HX.out.trans' hq)
    clear hq P0 P1 P2
    go_wp2
    go_ret2
    exact ⟨ret_iX D.out.1.symm D.out.2.symm, K1.out⟩
  have T := Lib.hid (dec_true ht)
  have NI := Lib.hid (good_nodes hg)
  have hn : 0 < N.ends.length := hg.1.1
  have h40 : N.ends.length ≤ 40 := hg.1.2
  have HG := Lib.hid hg
  have HL := Lib.hid (twC_len N)
  have HRG := Lib.hid (show ∀ i, i < (twC N).length → 0 ≤ gi (twC N) i ∧ inI64 (gi (twC N) i) from seq_range N hg _)
  have mkS : ∀ w' : World, Ext W1 w' → w'.cell? ⟨w.heap.size, 0, none⟩ = some v0 ∧ w'.cell? ⟨w.heap.size, 1, none⟩ = some v1 ∧ w'.cell? ⟨w.heap.size, 2, none⟩ = some v2 ∧ Hid (Ext W1 w') := fun w' h => ⟨h.cell' p0, h.cell' p1, h.cell' p2, h⟩
  by_cases hc : Can N t (twC N)
  case neg =>
    have CC := Lib.hid (dec_false hc)
    have D := Lib.hid (lf_f (N := N) fun k : MtB N t => hc k.2)
    clear hg hc p0 p1 p2
    go_enter Try.func31, Try.ntmps31
    go_wp2_with fail
    rw [← hW1]
    clear hW1
    go_region_held3 (fun w' => w'.cell? ⟨w.heap.size, 0, none⟩ = some v0 ∧ w'.cell? ⟨w.heap.size, 1, none⟩ = some v1 ∧ w'.cell? ⟨w.heap.size, 2, none⟩ = some v2 ∧ Hid (Ext W1 w')) (first | exact mkS _ (Ext.rfl' W1).drew' | exact mkS _ XG.out | exact mkS _ XA.out | exact mkS _ XB.out | fail)
    (first | (go_at_call 62; (with_reducible refine (neGood_any (HN.out.ext (HX.out.trans' (‹_ ∧ _ ∧ _ ∧ Hid (Ext W1 _)›).2.2.2.out))).mono ?_); rintro e wG ⟨rfl, hx⟩; rw [G.out]; have XG := Lib.hid (Ext.trans' (‹_ ∧ _ ∧ _ ∧ Hid (Ext W1 _)›).2.2.2.out hx); clear hx) | (go_at_call 53; (with_reducible refine (imTask_any _ _).mono ?_); rintro e _ ⟨rfl, rfl⟩; rw [T.out]) | (go_at_call 68; (with_reducible refine (viTwins_any (HN.out.ext (HX.out.trans' XG.out)) NI.out hn (by omega)).mono ?_); rintro e wA ⟨b, rfl, hx, ho, -⟩; have XA := Lib.hid (Ext.trans' XG.out hx); have OA := Lib.hid (show IntSl wA _ (twC N) from ho.read); clear hx ho) | (go_at_call 64; (with_reducible refine (imCan_any ht (HN.out.ext (HX.out.trans' XA.out)) OA.out HL.out HG.out HRG.out).mono ?_); rintro e wB ⟨rfl, hx⟩; rw [CC.out]; have XB := Lib.hid (Ext.trans' XA.out hx); clear hx))
    all_goals go_wp2
    all_goals go_ret2
    all_goals exact ⟨ret_iX D.out.1.symm D.out.2.symm, (HX.out.trans' XB.out)⟩
  have CC := Lib.hid (dec_true hc)
  have HMB := Lib.hid (show MtB N t from ⟨⟨hg, ht⟩, hc⟩)
  have HCN := Lib.hid hc
  clear hc
  clear hg p0 p1 p2
  go_enter Try.func31, Try.ntmps31
  go_wp2_with fail
  rw [← hW1]
  clear hW1
  go_region_held3 (fun w' => w'.cell? ⟨w.heap.size, 0, none⟩ = some v0 ∧ w'.cell? ⟨w.heap.size, 1, none⟩ = some v1 ∧ w'.cell? ⟨w.heap.size, 2, none⟩ = some v2 ∧ Hid (Ext W1 w')) (first | exact mkS _ (Ext.rfl' W1).drew' | exact mkS _ XG.out | exact mkS _ XA.out | exact mkS _ XB.out | fail)
    (first | (go_at_call 62; (with_reducible refine (neGood_any (HN.out.ext (HX.out.trans' (‹_ ∧ _ ∧ _ ∧ Hid (Ext W1 _)›).2.2.2.out))).mono ?_); rintro e wG ⟨rfl, hx⟩; rw [G.out]; have XG := Lib.hid (Ext.trans' (‹_ ∧ _ ∧ _ ∧ Hid (Ext W1 _)›).2.2.2.out hx); clear hx) | (go_at_call 53; (with_reducible refine (imTask_any _ _).mono ?_); rintro e _ ⟨rfl, rfl⟩; rw [T.out]) | (go_at_call 68; (with_reducible refine (viTwins_any (HN.out.ext (HX.out.trans' XG.out)) NI.out hn (by omega)).mono ?_); rintro e wA ⟨b, rfl, hx, ho, -⟩; have XA := Lib.hid (Ext.trans' XG.out hx); have OA := Lib.hid (show IntSl wA _ (twC N) from ho.read); clear hx ho) | (go_at_call 64; (with_reducible refine (imCan_any ht (HN.out.ext (HX.out.trans' XA.out)) OA.out HL.out HG.out HRG.out).mono ?_); rintro e wB ⟨rfl, hx⟩; rw [CC.out]; have XB := Lib.hid (Ext.trans' XA.out hx); clear hx))
  have KB := Lib.hid (HX.out.trans' XB.out)
  have RB := Lib.hid (row_ext HR.out XB.out)
  have hst80 : stOf N < 80 := by have := stOf_lt NI.out hn; omega
  obtain ⟨S, hS⟩ : ∃ S, S = stOf N := ⟨_, rfl⟩
  have HCS := Lib.hid (show Can N t (seqC N S) by rw [hS]; exact HCN.out)
  rw [← hS] at hst80
  clear hS mkS
  go_wp2_with fail
  go_loopg [6] (S + 1) (fun g i wr => ∃ k : Nat, k ≤ S ∧ g = S + 1 - k ∧ i = .int .i64 (k : Int) ∧ Hid ((∀ s, s < k → ¬ Can N t (seqC N s)) ∧ Ext wB wr))
  case atStart => exact ⟨0, Nat.zero_le _, rfl, rfl, fun s hs => absurd hs (by omega), Ext.rfl' _⟩
  case round =>
    obtain ⟨k, hk, rfl, rfl, Hr⟩ := hrel
    obtain ⟨p0, p1, p2, -, -, -⟩ := row3_facts (row_ext RB.out Hr.out.2)
    have KR := Lib.hid (KB.out.trans' Hr.out.2)
    have mkT : ∀ w' : World, Ext wr w' → w'.cell? ⟨w.heap.size, 0, none⟩ = some v0 ∧ w'.cell? ⟨w.heap.size, 1, none⟩ = some v1 ∧ w'.cell? ⟨w.heap.size, 2, none⟩ = some v2 ∧ Hid (Ext wr w') := fun w' h => ⟨h.cell' p0, h.cell' p1, h.cell' p2, h⟩
    have HLk := Lib.hid (seqC_len N k)
    have HRk := Lib.hid (seq_range N HG.out k)
    clear p0 p1 p2
    by_cases hc : Can N t (seqC N k)
    · have C2 := Lib.hid (dec_true hc)
      have D := Lib.hid (lf_t (N := N) (t := t) (s := k) HMB.out ⟨hc, Hr.out.1⟩)
      clear hc
      go_wp2_with fail
      go_region_held3 (fun w' => w'.cell? ⟨w.heap.size, 0, none⟩ = some v0 ∧ w'.cell? ⟨w.heap.size, 1, none⟩ = some v1 ∧ w'.cell? ⟨w.heap.size, 2, none⟩ = some v2 ∧ Hid (Ext wr w')) (first | exact mkT _ (Ext.rfl' wr).drew' | exact mkT _ XC.out | exact mkT _ XD.out | fail)
        (first | (go_at_call 65; (with_reducible refine (viClasses_any k (by omega) (HN.out.ext (KR.out.trans' (‹_ ∧ _ ∧ _ ∧ Hid (Ext wr _)›).2.2.2.out)) NI.out hn (by omega)).mono ?_); rintro e wC ⟨b, rfl, hx, ho, -⟩; have XC := Lib.hid (Ext.trans' (‹_ ∧ _ ∧ _ ∧ Hid (Ext wr _)›).2.2.2.out hx); have OC := Lib.hid ho.read; clear hx ho) | (go_at_call 64; (with_reducible refine (imCan_any ht (HN.out.ext (KR.out.trans' XC.out)) OC.out HLk.out HG.out HRk.out).mono ?_); rintro e wD ⟨rfl, hx⟩; rw [C2.out]; have XD := Lib.hid (Ext.trans' XC.out hx); clear hx))
      all_goals go_wp2
      all_goals go_ret2
      all_goals exact ⟨ret_iX D.out.1.symm D.out.2.symm, KR.out.trans' XD.out⟩
    · have C2 := Lib.hid (dec_false hc)
      have HC := Lib.hid hc
      have hkS : k < S := by
        by_cases e : k = S
        · subst e; exact absurd HCS.out hc
        · omega
      clear hc
      go_wp2_with fail
      go_region_held3 (fun w' => w'.cell? ⟨w.heap.size, 0, none⟩ = some v0 ∧ w'.cell? ⟨w.heap.size, 1, none⟩ = some v1 ∧ w'.cell? ⟨w.heap.size, 2, none⟩ = some v2 ∧ Hid (Ext wr w')) (first | exact mkT _ (Ext.rfl' wr).drew' | exact mkT _ XC.out | exact mkT _ XD.out | fail)
        (first | (go_at_call 65; (with_reducible refine (viClasses_any k (by omega) (HN.out.ext (KR.out.trans' (‹_ ∧ _ ∧ _ ∧ Hid (Ext wr _)›).2.2.2.out)) NI.out hn (by omega)).mono ?_); rintro e wC ⟨b, rfl, hx, ho, -⟩; have XC := Lib.hid (Ext.trans' (‹_ ∧ _ ∧ _ ∧ Hid (Ext wr _)›).2.2.2.out hx); have OC := Lib.hid ho.read; clear hx ho) | (go_at_call 64; (with_reducible refine (imCan_any ht (HN.out.ext (KR.out.trans' XC.out)) OC.out HLk.out HG.out HRk.out).mono ?_); rintro e wD ⟨rfl, hx⟩; rw [C2.out]; have XD := Lib.hid (Ext.trans' XC.out hx); clear hx))
      all_goals go_wp2
      all_goals go_roundg (S + 1 - (k + 1))
      case measure => omega
      case rel =>
        refine ⟨k + 1, by omega, rfl, by go_num, fun s hs => ?_, Hr.out.2.trans' XD.out⟩
        by_cases e : s = k
        · subst e; exact HC.out
        · exact Hr.out.1 s (by omega)
end Go.Proofs.Ytkpdbceglejbnaa
