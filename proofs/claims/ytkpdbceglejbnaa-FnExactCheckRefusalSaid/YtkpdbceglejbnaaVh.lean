/- The contracts of finerClasses and of the function values in it. -/
import Derived.Test.YtkpdbceglejbnaaVe
import Derived.Test.YtkpdbceglejbnaaVg
import Derived.Laws.EntriesVeiled
namespace Go.Proofs.Ytkpdbceglejbnaa
open Go.RowKit

/-- What the program asks of two nodes of one class. -/
def Near2 (N : Net) (c : List Int) (u v : Nat) : Prop := gi c u = gi c v ∧ AllLike (gr N.ends u).length (gr N.ends v).length fun i => dec (SameEnd c (gn (gr N.ends u) i) (gp (gr N.ends u) i) (gn (gr N.ends v) i) (gp (gr N.ends v) i))
theorem near2_iff {N : Net} {c : List Int} {u v : Nat} : Near2 N c u v ↔ gi c u = gi c v ∧ (gr N.ends u).length = (gr N.ends v).length ∧ LikeE N c u v := by
  unfold Near2 AllLike LikeE
  refine and_congr Iff.rfl (and_congr Iff.rfl ⟨fun h i hi => ?_, fun h i hi => ?_⟩)
  · exact dec_iff.1 (h i hi)
  · exact dec_true (h i hi)

theorem enters_same (args : Array Value) (w : World) : (callFunc 168 args).run Try.prog w = .ok (.enter 168 args) w := enters_of Try.func168 (by kernel_rfl) rfl args w

set_option maxHeartbeats 1600000 in
set_option maxRecDepth 100000 in
theorem near2_any {w : World} {nb cb fb : Nat} {vc : Value} {N : Net} {c : List Int} (h : NetBox w nb N) (hc0 : w.cell? ⟨cb, 0, none⟩ = some vc) (hC : IntSl w vc c)
    (hf : w.cell? ⟨fb, 0, none⟩ = some (.func (.func 168) #[] #[.pointer (some ⟨cb, 0, none⟩)])) (hl : c.length = N.ends.length) (hN : NodesIn N) (x y : Nat) (hx : x < N.ends.length) (hy : y < N.ends.length) :
    Calls Try.prog 169 #[.int .i64 x, .int .i64 y, .pointer (some ⟨cb, 0, none⟩), .pointer (some ⟨nb, 0, none⟩), .pointer (some ⟨fb, 0, none⟩)] w fun e w' => e = .returned (.bool (dec (Near2 N c x y))) ∧ Ext w w' := by
  have HC := Lib.hid hC
  have HC0 := Lib.hid hc0
  obtain ⟨v0, v2, n0, -, hE, -⟩ := h
  obtain ⟨a, b1, o, d, rfl, ha, hn, hm, hc⟩ := hE
  obtain ⟨a2, b2, o2, d2, rfl, ha2, hn2, hm2, hc2⟩ := hC
  unfold maxLen at hm hm2
  obtain rfl := ha (by omega)
  obtain rfl := ha2 (by omega)
  obtain ⟨zx, hzx, hrx⟩ := hc x hx
  have HRX := Lib.hid hrx
  obtain ⟨ax, _, _, cx, rfl, _, hnx, hmx, _⟩ := hrx
  obtain ⟨zy, hzy, hry⟩ := hc y hy
  have HRY := Lib.hid hry
  obtain ⟨ay, _, _, cy, rfl, _, hny, hmy, _⟩ := hry
  obtain ⟨_, hix, rfl, _⟩ := hc2 x (by omega)
  obtain ⟨_, hiy, rfl, _⟩ := hc2 y (by omega)
  unfold maxLen at hmx hmy
  have hx2 : x < c.length := by omega
  have hy2 : y < c.length := by omega
  clear hc hc2 ha ha2
  have c0 : ∀ x' : Wx w, x'.w.cell? ⟨cb, 0, none⟩ = _ := fun x' => x'.ok.cell' hc0
  have c1 : ∀ x' : Wx w, x'.w.cell? ⟨nb, 0, none⟩ = _ := fun x' => x'.ok.cell' n0
  have c2 : ∀ x' : Wx w, x'.w.cell? ⟨fb, 0, none⟩ = _ := fun x' => x'.ok.cell' hf
  have c3 : ∀ x' : Wx w, x'.w.cell? ⟨b1, o + x, none⟩ = _ := fun x' => x'.ok.cell' hzx
  have c4 : ∀ x' : Wx w, x'.w.cell? ⟨b1, o + y, none⟩ = _ := fun x' => x'.ok.cell' hzy
  have c5 : ∀ x' : Wx w, x'.w.cell? ⟨b2, o2 + x, none⟩ = _ := fun x' => x'.ok.cell' hix
  have c6 : ∀ x' : Wx w, x'.w.cell? ⟨b2, o2 + y, none⟩ = _ := fun x' => x'.ok.cell' hiy
  clear hc0 n0 hf hzx hzy hix hiy
  by_cases h1 : gi c x = gi c y
  · have d1 : (gi c x == gi c y) = true := by simp [h1]
    have A := Lib.hid (show AllLike (gr N.ends x).length (gr N.ends y).length (fun i => dec (SameEnd c (gn (gr N.ends x) i) (gp (gr N.ends x) i) (gn (gr N.ends y) i) (gp (gr N.ends y) i))) ↔ Near2 N c x y from ⟨fun k => ⟨h1, k⟩, fun k => k.2⟩)
    have CALL : ∀ x' : Wx w, Calls Try.prog 170 #[.slice ax (gr N.ends x).length cx, .slice ay (gr N.ends y).length cy, .func (.func 168) #[] #[.pointer (some ⟨cb, 0, none⟩)]] x'.w fun e w' => e = .returned (.bool (dec (Near2 N c x y))) ∧ Ext x'.w w' := fun x' => by
      rw [← dec_congr A.out]
      refine equalFunc_any 168 #[.pointer (some ⟨cb, 0, none⟩)] enters_same _ (HRX.out.ext x'.ok) (HRY.out.ext x'.ok) fun W hW i hi hi2 => ?_
      have k1 := hN.node x hx i hi
      have k2 := hN.node y hy i hi2
      exact sameEnds_any (hW.cell' (x'.ok.cell' HC0.out)) (HC.out.ext (x'.ok.trans' hW)) _ _ _ _ (by omega) (by omega)
    clear h1
    go_enter Try.func169, Try.ntmps169
    go_wp2_with fail
    refine wp_region_ext (by kernel_rfl) (by kernel_rfl) ?_
    repeat (go_big_quiet_step ((go_at_call 170; exact in_ext (CALL _))))
    refine wpQuiet_nil ?_
    rintro _ ⟨⟨wq, hq⟩, rfl⟩
    have HY := Lib.hid hq
    clear hq
    go_wp2
    go_ret
    exact ⟨rfl, HY.out⟩
  · have d1 : (gi c x == gi c y) = false := by simp [h1]
    have Hn := Lib.hid (dec_false (p := Near2 N c x y) fun h => h1 h.1)
    clear h1
    go_enter Try.func169, Try.ntmps169
    go_wp2_with fail
    refine wp_region_ext (by kernel_rfl) (by kernel_rfl) ?_
    repeat (go_big_quiet_step (fail))
    refine wpQuiet_nil ?_
    rintro _ ⟨⟨wq, hq⟩, rfl⟩
    have HY := Lib.hid hq
    clear hq
    go_wp2
    go_ret
    exact ⟨bool_of Hn.out.symm, HY.out⟩

theorem enters_near (args : Array Value) (w : World) : (callFunc 169 args).run Try.prog w = .ok (.enter 169 args) w := enters_of Try.func169 (by kernel_rfl) rfl args w
theorem enters_alike (args : Array Value) (w : World) : (callFunc 125 args).run Try.prog w = .ok (.enter 125 args) w := enters_of Try.func125 (by kernel_rfl) rfl args w

theorem near2_next {N : Net} (hN : NodesIn N) (t : Nat) : num (fun u v => dec (Near2 N (seqC N t) u v)) N.ends.length = seqC N (t + 1) := by
  have h : numTo (fun u v => dec (Near2 N (seqC N t) u v)) N.ends.length = numTo (seqR N (t + 1)) N.ends.length := num_congr fun u v hu hv => by
    rw [Bool.eq_iff_iff, dec_iff, near2_iff, seq_next hN (by omega) hv]
  rw [seqC_num N (t + 1)]
  exact congrArg Prod.fst h

set_option maxHeartbeats 1600000 in
set_option maxRecDepth 100000 in
theorem finerClasses_any {w : World} {v vc : Value} {N : Net} {t : Nat} (h : NetAt w v N) (hC : IntSl w vc (seqC N t)) (hN : NodesIn N) (hs : N.ends.length ≤ 1048576) :
    Calls Try.prog 126 #[v, vc] w fun e w' => ∃ b, e = .returned (.slice (some ⟨b, 0, none⟩) N.ends.length N.ends.length) ∧ Ext w w' ∧ OwnI w' (.slice (some ⟨b, 0, none⟩) N.ends.length N.ends.length) (seqC N (t + 1)) [b] ∧ w.heap.size ≤ b := by
  obtain ⟨v0, v1, v2, rfl, hE, hI, hP⟩ := h
  obtain ⟨a, b1, o, d, rfl, ha, hn, hm, hc⟩ := id hE
  unfold maxLen at hm
  obtain ⟨xa, _, _, xc, rfl, -, hxn, hxm, -⟩ := id hC
  unfold maxLen at hxm
  obtain ⟨W, hW⟩ : ∃ W, W = (((w.alloc (.cells #[.slice a N.ends.length d, v1, v2] 34)).alloc (.cells #[.slice xa (seqC N t).length xc] 26)).alloc (.cells #[.func (.func 168) #[] #[.pointer (some ⟨w.heap.size + 1, 0, none⟩)]] 165)) := ⟨_, rfl⟩
  have HX := Lib.hid (show Ext w W by rw [hW]; exact (((Ext.rfl' w).alloc' _).alloc' _).alloc' _)
  have HB := Lib.hid (show NetBox W w.heap.size N ∧ W.cell? ⟨w.heap.size + 1, 0, none⟩ = some (.slice xa (seqC N t).length xc) ∧ W.cell? ⟨w.heap.size + 1 + 1, 0, none⟩ = some (.func (.func 168) #[] #[.pointer (some ⟨w.heap.size + 1, 0, none⟩)]) by
    rw [hW]
    obtain ⟨r0, _, r2, _⟩ := row3_facts (row_ext (row3_made w (.slice a N.ends.length d) v1 v2 34) (((Ext.rfl' _).alloc' (.cells #[.slice xa (seqC N t).length xc] 26)).alloc' (.cells #[.func (.func 168) #[] #[.pointer (some ⟨w.heap.size + 1, 0, none⟩)]] 165)))
    refine ⟨⟨_, _, r0, r2, hW ▸ hE.ext HX.out, hW ▸ hP.ext HX.out⟩, ((Ext.rfl' _).alloc' _).cell' ?_, ?_⟩
    · rw [World.cell?_alloc_at _ _ _ _ (by simp)]; rfl
    · rw [World.cell?_alloc_at _ _ _ _ (by simp)]; rfl)
  have CALL := numberClasses_any 169 #[.pointer (some ⟨w.heap.size + 1, 0, none⟩), .pointer (some ⟨w.heap.size, 0, none⟩), .pointer (some ⟨w.heap.size + 1 + 1, 0, none⟩)] enters_near N.ends.length hs (fun x y => dec (Near2 N (seqC N t) x y)) (w := W) fun W' hW' x y hx hy => by
    obtain ⟨k1, k2, k3⟩ := HB.out
    exact near2_any (k1.ext hW') (hW'.cell' k2) (hC.ext (HX.out.trans' hW')) (hW'.cell' k3) (seqC_len N t) hN x y (by omega) hy
  have HC := Lib.hid CALL
  clear CALL hc ha
  go_enter Try.func126, Try.ntmps126
  go_wp2_with fail
  rw [← hW]
  clear hW
  (with_reducible refine HC.out.mono ?_)
  rintro e w1 ⟨rfl, hx, hz, hr⟩
  have H1 := Lib.hid (And.intro hx hr)
  clear hx hr
  go_wp2
  go_ret
  refine ⟨W.heap.size, rfl, HX.out.trans' H1.out.1, ?_, HX.out.size⟩
  have h2 := H1.out.2
  rw [near2_next hN] at h2
  exact own_row (seqC_len N _) (fun i hi => (seqC_range hs _ i hi).1) hs h2
end Go.Proofs.Ytkpdbceglejbnaa
