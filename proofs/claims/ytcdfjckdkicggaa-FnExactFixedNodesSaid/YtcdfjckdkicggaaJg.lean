/- The contracts of both sides' CodeFrom, and of the model's isFrom. -/
import Derived.Test.YtcdfjckdkicggaaJf
import Derived.Test.YtcdfjckdkicggaaJw
import Derived.BigQuiet
namespace Go.Proofs.Ytcdfjckdkicggaa
open Go.RowKit

theorem wk_good {N : Net} {x : Nat} (h : GoodW N) (hx : x < N.ends.length) : WkOK N (wk N x) := wk_ok h.leads (v := (x : Int)) (by omega)

set_option maxHeartbeats 1600000 in
set_option maxRecDepth 100000 in
theorem isFrom_any {w : World} {v : Value} {N : Net} (x : Nat) (hx : x < N.ends.length) (h : NetAt w v N) (hG : GoodW N) :
    Calls Try.prog 47 #[v, .int .i64 x] w fun e w' => ∃ v' bs, e = .returned v' ∧ Ext w w' ∧ OwnI w' v' (code N x) bs ∧ Fresh w bs := by
  have HN := Lib.hid h
  have HG := Lib.hid hG
  clear hG
  obtain ⟨v0, v1, v2, rfl, hE, hI, hP⟩ := h
  clear hE hI hP
  have HX := Lib.hid (boxed_ext w v0 v1 v2 31).drew'
  have HR := Lib.hid (row3_made w v0 v1 v2 31)
  obtain ⟨p0, p1, p2, -, -, -⟩ := row3_facts (row_ext HR.out (Ext.rfl' _).drew')
  go_enter Try.func47, Try.ntmps47
  go_wp2_with fail
  go_region_held3 (fun w' => w'.cell? ⟨w.heap.size, 0, none⟩ = some v0 ∧ w'.cell? ⟨w.heap.size, 1, none⟩ = some v1 ∧ w'.cell? ⟨w.heap.size, 2, none⟩ = some v2 ∧ Hid (Ext w w'))
    (first | exact ⟨p0, p1, p2, HX⟩ | exact ⟨hx'.cell' p0, hx'.cell' p1, hx'.cell' p2, HX.out.trans' hx'⟩ | exact ⟨hy.cell' (hx'.cell' p0), hy.cell' (hx'.cell' p1), hy.cell' (hx'.cell' p2), (HX.out.trans' hx').trans' hy⟩)
    (first | (go_at_call 38; (with_reducible refine (isWalk_any x hx (HN.out.ext HX.out) HG.out).mono ?_); rintro e w1 ⟨vl, bl, rfl, hx', ho, -⟩; have K1 := Lib.hid (HX.out.trans' hx'); have O1 := Lib.hid ho; clear ho) | (go_at_call 39; (with_reducible refine (isCode_any (HN.out.ext K1.out) O1.out.read HG.out (wk_good HG.out hx)).mono ?_); rintro e w2 ⟨vc, bc, rfl, hy, ho, hf⟩; have K2 := Lib.hid (K1.out.trans' hy); have O2 := Lib.hid ho; have F2 := Lib.hid (hf.of K1.out.size); clear ho hf))
  go_wp2
  go_ret
  exact ⟨vc, bc, rfl, K2.out, O2.out, F2.out⟩

noncomputable def wkAns (N : Net) (x : Int) : List Int := if dec (NodeAns N x) = true then wk N x else []
noncomputable def cdAns (N : Net) (x : Int) : List Int := if dec (NodeAns N x) = true then code N x else []
theorem wkAns_t {N : Net} {x : Int} (h : NodeAns N x) : wkAns N x = wk N x := by simp [wkAns, dec_true h]
theorem wkAns_f {N : Net} {x : Int} (h : ¬ NodeAns N x) : wkAns N x = [] := by simp [wkAns, dec_false h]
theorem cdAns_t {N : Net} {x : Int} (h : NodeAns N x) : cdAns N x = code N x := by simp [cdAns, dec_true h]
theorem cdAns_f {N : Net} {x : Int} (h : ¬ NodeAns N x) : cdAns N x = [] := by simp [cdAns, dec_false h]
theorem cdwk_len (N : Net) (x : Int) : (cdAns N x).length ≤ 1048576 ∧ (wkAns N x).length ≤ 1048576 := by
  by_cases h : NodeAns N x
  · rw [cdAns_t h, wkAns_t h]
    have hg := good_w h.1
    have hk := wk_ok hg.leads (v := x) h.2
    have h1 := cd_small hg hk
    have h2 := hk.len
    have h3 := hg.most
    exact ⟨by unfold code; omega, by omega⟩
  · rw [cdAns_f h, wkAns_f h]; simp
theorem node_nat {N : Net} {x : Int} (h : NodeAns N x) : ∃ k : Nat, x = k ∧ k < N.ends.length := ⟨x.toNat, by have := h.2.1; omega, by have := h.2; unfold NodeOK at this; omega⟩
theorem fresh_swap {w : World} {a b : List Nat} (h : Fresh w (a ++ b)) : Fresh w (b ++ a) := by
  obtain ⟨h1, h2⟩ := h
  obtain ⟨n1, n2, n3⟩ := List.nodup_append.1 h1
  exact ⟨List.nodup_append.2 ⟨n2, n1, fun x hx y hy e => n3 y hy x hx e.symm⟩, fun x hx => h2 x (by simp only [List.mem_append] at hx ⊢; exact hx.symm)⟩
theorem ret_llb {v v' : Value} {b c : Bool} (h : b = c) : Ending.returned (.tuple #[v, v', .bool b]) = .returned (.tuple #[v, v', .bool c]) := by rw [h]

set_option maxHeartbeats 1600000 in
set_option maxRecDepth 100000 in
theorem codeFrom_any {w : World} {v : Value} {N : Net} (x : Int) (h : NetAt w v N) :
    Calls Try.prog 14 #[v, .int .i64 x] w fun e w' => ∃ v1 v2 b1 b2, e = .returned (.tuple #[v1, v2, .bool (dec (NodeAns N x))]) ∧ Ext w w' ∧ OwnI w' v1 (cdAns N x) b1 ∧ OwnI w' v2 (wkAns N x) b2 ∧ Fresh w (b1 ++ b2) := by
  have HN := Lib.hid h
  obtain ⟨v0, v1, v2, rfl, hE, hI, hP⟩ := h
  clear hE hI hP
  have HX := Lib.hid (boxed_ext w v0 v1 v2 31)
  have HR := Lib.hid (row3_made w v0 v1 v2 31)
  obtain ⟨p0, p1, p2, -, -, -⟩ := row3_facts HR.out
  by_cases hg : Good N
  case neg =>
    have G := Lib.hid (dec_false hg)
    have D := Lib.hid (dec_false (p := NodeAns N x) fun h => hg h.1)
    have A1 := Lib.hid (cdAns_f (N := N) (x := x) fun h => hg h.1)
    have A2 := Lib.hid (wkAns_f (N := N) (x := x) fun h => hg h.1)
    clear hg
    go_enter Try.func14, Try.ntmps14
    go_wp2_with (first | (go_at_call 41; (with_reducible refine (isNetwork_any (HN.out.ext HX.out)).mono ?_); rintro e w1 ⟨rfl, hw⟩; rw [G.out]; have K1 := Lib.hid (HX.out.trans' hw); clear hw) | fail)
    refine bodyPost_ret (v := .tuple #[.slice none 0 0, .slice none 0 0, .bool false]) (by simp [results, Try.results14, go_sem]) rfl ?_
    exact ⟨_, _, [], [], ret_llb D.out.symm, K1.out, by rw [A1.out]; exact own_nilI _, by rw [A2.out]; exact own_nilI _, Fresh.nil _⟩
  have G := Lib.hid (dec_true hg)
  have HG := Lib.hid hg
  clear hg
  by_cases hn : NodeOK N x
  case neg =>
    have GN := Lib.hid (dec_false hn)
    have D := Lib.hid (dec_false (p := NodeAns N x) fun h => hn h.2)
    have A1 := Lib.hid (cdAns_f (N := N) (x := x) fun h => hn h.2)
    have A2 := Lib.hid (wkAns_f (N := N) (x := x) fun h => hn h.2)
    clear hn
    go_enter Try.func14, Try.ntmps14
    go_wp2_with fail
    (with_reducible refine (isNetwork_any (HN.out.ext HX.out)).mono ?_)
    rintro e w1 ⟨rfl, hw⟩
    rw [G.out]
    have K1 := Lib.hid (HX.out.trans' hw)
    obtain ⟨q0, q1, q2, -, -, -⟩ := row3_facts (row_ext HR.out hw)
    clear hw p0 p1 p2
    go_wp2_with (first | (go_at_call 42; (with_reducible refine (hasNode_any x (HN.out.ext K1.out)).mono ?_); rintro e w2 ⟨rfl, hx⟩; rw [GN.out]; have K2 := Lib.hid (K1.out.trans' hx); clear hx) | fail)
    refine bodyPost_ret (v := .tuple #[.slice none 0 0, .slice none 0 0, .bool false]) (by simp [results, Try.results14, go_sem]) rfl ?_
    exact ⟨_, _, [], [], ret_llb D.out.symm, K2.out, by rw [A1.out]; exact own_nilI _, by rw [A2.out]; exact own_nilI _, Fresh.nil _⟩
  have GN := Lib.hid (dec_true hn)
  have D := Lib.hid (dec_true (p := NodeAns N x) ⟨HG.out, hn⟩)
  have A1 := Lib.hid (cdAns_t (N := N) (x := x) ⟨HG.out, hn⟩)
  have A2 := Lib.hid (wkAns_t (N := N) (x := x) ⟨HG.out, hn⟩)
  obtain ⟨k, rfl, hk⟩ := node_nat (N := N) (x := x) ⟨HG.out, hn⟩
  clear hn
  go_enter Try.func14, Try.ntmps14
  go_wp2_with fail
  (with_reducible refine (isNetwork_any (HN.out.ext HX.out)).mono ?_)
  rintro e w1 ⟨rfl, hw⟩
  rw [G.out]
  have K1 := Lib.hid (HX.out.trans' hw)
  have HR1 := Lib.hid (row_ext HR.out hw)
  obtain ⟨q0, q1, q2, -, -, -⟩ := row3_facts HR1.out
  clear hw p0 p1 p2
  go_wp2_with fail
  (with_reducible refine (hasNode_any _ (HN.out.ext K1.out)).mono ?_)
  rintro e w2 ⟨rfl, hx⟩
  rw [GN.out]
  have K2 := Lib.hid (K1.out.trans' hx)
  obtain ⟨r0, r1, r2, -, -, -⟩ := row3_facts (row_ext HR1.out hx)
  clear hx q0 q1 q2
  go_wp2_with (first | (go_at_call 43; (with_reducible refine (walkFrom_any k hk (HN.out.ext K2.out) (good_w HG.out)).mono ?_); rintro e w3 ⟨vn, vc, bn, bc, rfl, hx3, on, oc, hf⟩; have K3 := Lib.hid (K2.out.trans' hx3); have ON := Lib.hid on; have OC := Lib.hid oc; have FF := Lib.hid (hf.of K2.out.size); obtain ⟨na, nc, rfl⟩ := on.1.slice; obtain ⟨ca, cc, rfl⟩ := oc.1.slice; clear hx3 on oc hf) | fail)
  go_quiet (fail)
  go_wp2
  refine bodyPost_ret (v := .tuple #[.slice ca (code N k).length cc, .slice na (wk N k).length nc, .bool true]) (by simp [results, Try.results14, go_sem]) rfl ?_
  have XA : Ext w3 ((w3.alloc (.cells #[.slice na (wk N k).length nc, .slice ca (code N k).length cc] 59)).drewN nq) := ((Ext.rfl' w3).alloc' _).drewN' _
  exact ⟨_, _, bc, bn, ret_llb D.out.symm, K3.out.trans' XA, by rw [A1.out]; exact OC.out.ext XA, by rw [A2.out]; exact ON.out.ext XA, fresh_swap FF.out⟩

set_option maxHeartbeats 1600000 in
set_option maxRecDepth 100000 in
theorem specCodeFrom_any {w : World} {v : Value} {N : Net} (x : Int) (h : NetAt w v N) :
    Calls Try.prog 12 #[v, .int .i64 x] w fun e w' => ∃ v1 v2 b1 b2, e = .returned (.tuple #[v1, v2, .bool (dec (NodeAns N x))]) ∧ Ext w w' ∧ OwnI w' v1 (cdAns N x) b1 ∧ OwnI w' v2 (wkAns N x) b2 ∧ Fresh w (b1 ++ b2) := by
  have HN := Lib.hid h
  obtain ⟨v0, v1, v2, rfl, hE, hI, hP⟩ := h
  clear hE hI hP
  have HX := Lib.hid (boxed_ext w v0 v1 v2 31)
  have HR := Lib.hid (row3_made w v0 v1 v2 31)
  obtain ⟨p0, p1, p2, -, -, -⟩ := row3_facts HR.out
  by_cases hn : NodeAns N x
  case neg =>
    have D := Lib.hid (dec_false hn)
    have A1 := Lib.hid (cdAns_f hn)
    have A2 := Lib.hid (wkAns_f hn)
    clear hn
    go_enter Try.func12, Try.ntmps12
    go_wp2_with (first | (go_at_call 37; (with_reducible refine (neNode_any x (HN.out.ext HX.out)).mono ?_); rintro e w1 ⟨rfl, hw⟩; rw [D.out]; have K1 := Lib.hid (HX.out.trans' hw); clear hw) | fail)
    go_ret3
    exact ⟨_, _, [], [], ret_llb D.out.symm, K1.out, by rw [A1.out]; exact own_nilI _, by rw [A2.out]; exact own_nilI _, Fresh.nil _⟩
  have D := Lib.hid (dec_true hn)
  have A1 := Lib.hid (cdAns_t hn)
  have A2 := Lib.hid (wkAns_t hn)
  have HG := Lib.hid (good_w hn.1)
  obtain ⟨k, rfl, hk⟩ := node_nat hn
  clear hn
  go_enter Try.func12, Try.ntmps12
  go_wp2_with fail
  (with_reducible refine (neNode_any _ (HN.out.ext HX.out)).mono ?_)
  rintro e w1 ⟨rfl, hw⟩
  rw [D.out]
  have K1 := Lib.hid (HX.out.trans' hw)
  have HR1 := Lib.hid (row_ext HR.out hw)
  obtain ⟨q0, q1, q2, -, -, -⟩ := row3_facts HR1.out
  clear hw p0 p1 p2
  go_wp2_with fail
  (with_reducible refine (isWalk_any k hk (HN.out.ext K1.out) HG.out).mono ?_)
  rintro e w2 ⟨vl, bl, rfl, hx, ho, hf⟩
  have K2 := Lib.hid (K1.out.trans' hx)
  have O2 := Lib.hid ho
  have F2 := Lib.hid (hf.of K1.out.size)
  obtain ⟨r0, r1, r2, -, -, -⟩ := row3_facts (row_ext HR1.out hx)
  clear hx ho hf q0 q1 q2
  go_wp2_with (first | (go_at_call 39; (with_reducible refine (isCode_any (HN.out.ext K2.out) O2.out.read HG.out (wk_good HG.out hk)).mono ?_); rintro e w3 ⟨vc, bc, rfl, hy, ho, hf⟩; have K3 := Lib.hid (K2.out.trans' hy); have O3 := Lib.hid ho; have O4 := Lib.hid (O2.out.ext hy); have F3 := Lib.hid hf; clear hy ho hf) | fail)
  go_ret3
  exact ⟨_, _, bc, bl, ret_llb D.out.symm, K3.out, by rw [A1.out]; exact O3.out, by rw [A2.out]; exact O4.out, fresh_swap (F2.out.append O2.out.1.lt K2.out.size F3.out)⟩
end Go.Proofs.Ytcdfjckdkicggaa
