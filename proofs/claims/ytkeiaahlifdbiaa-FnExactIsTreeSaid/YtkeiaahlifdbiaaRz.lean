import Derived.Test.YtkeiaahlifdbiaaChR
import Derived.Test.YtkeiaahlifdbiaaKd
import Derived.Test.YtkeiaahlifdbiaaCut1
import Derived.Test.YtkeiaahlifdbiaaNeCut
import Derived.Test.YtkeiaahlifdbiaaKb
import Derived.RegionTactic
import Derived.Test.YtkeiaahlifdbiaaKc
/- The contract of the program's RemoveEdge. No condition. -/
namespace Go.Proofs.Ytkeiaahlifdbiaa
open Go.RowKit

def RemB (N : Net) (x y : Int) : Prop := Good N ∧ PortOK N.ends x y
noncomputable def remAns (N : Net) (x y : Int) : Net := if dec (RemB N x y) = true then cutNet N (st0 N x y) else zeroNet
theorem remAns_t {N : Net} {x y : Int} (h : RemB N x y) : remAns N x y = cutNet N (st0 N x y) := by simp [remAns, dec_true h]
theorem remAns_f {N : Net} {x y : Int} (h : ¬ RemB N x y) : remAns N x y = zeroNet := by simp [remAns, dec_false h]
theorem cut_small {N : Net} (st : Nat → Nat → Bool) (h : Good N) : (cutNet N st).small := by
  obtain ⟨s1, s2, s3, s4⟩ := good_small h
  refine ⟨by show ((List.range N.ends.length).map _).length ≤ _; simpa using s1, fun i => ?_, s3, s4⟩
  show (gr ((List.range N.ends.length).map (cutRow N st)) i).length ≤ _
  by_cases hi : i < N.ends.length
  · have e : gr ((List.range N.ends.length).map (cutRow N st)) i = cutRow N st i := by simp [gr, List.getD, hi]
    rw [e]
    unfold cutRow
    rw [length_planRow]
    exact Nat.le_trans (cnt_le _ _) (s2 i)
  · rw [gr_out _ _ (by simp; omega)]; simp
theorem remAns_small (N : Net) (x y : Int) : (remAns N x y).small := by
  by_cases h : RemB N x y
  · rw [remAns_t h]; exact cut_small _ h.1
  · rw [remAns_f h]; exact zero_small
theorem chg_port {w : World} {v0 v1 v2 : Value} {N : Net} (k x y : Int) (h : NetAt w (.agg #[v0, v1, v2]) N) : ChgAt w (.agg #[.int .i64 k, v0, v1, v2, .int .i64 x, .int .i64 y, .slice none 0 0]) k N x y [] := ⟨_, _, _, _, rfl, h, (own_nilI w).read⟩

set_option maxHeartbeats 1600000 in
set_option maxRecDepth 100000 in
theorem removeEdge_any {w : World} {v : Value} {N : Net} (x y : Int) (h : NetAt w v N) :
    Calls Try.prog 111 #[v, .int .i64 x, .int .i64 y] w fun e w' => ∃ v' bs, e = .returned (.tuple #[v', .bool (dec (RemB N x y))]) ∧ Ext w w' ∧ OwnNet w' v' (remAns N x y) bs ∧ Fresh w bs := by
  have HN := Lib.hid h
  obtain ⟨w0, v1, v2, rfl, hE, hI, hP⟩ := h
  have HE := Lib.hid hE
  obtain ⟨ea, _, _, ec, rfl, _, _, em, _⟩ := hE
  unfold maxLen at em
  clear hI hP
  have HX := Lib.hid (boxed2_ext w (.slice ea N.ends.length ec) v1 v2)
  have HR := Lib.hid (boxed2_row w (.slice ea N.ends.length ec) v1 v2)
  have HQ := Lib.hid (boxed2_res w (.slice ea N.ends.length ec) v1 v2)
  by_cases hg : Good N
  · have G := Lib.hid (dec_true hg)
    have GG := Lib.hid hg
    by_cases hb : PortOK N.ends x y
    · have BD := Lib.hid (dec_true hb)
      have D : Hid (dec (RemB N x y) = true) := dec_true ⟨hg, hb⟩
      have E : Hid (remAns N x y = cutNet N (st0 N x y)) := remAns_t ⟨hg, hb⟩
      clear hb hg
      go_enter Try.func111, Try.ntmps111
      go_wp2_with fail
      (with_reducible refine (isNetwork_any (HN.out.ext HX.out)).mono ?_)
      rintro e w1 ⟨rfl, hw⟩
      rw [G.out]
      have K1 := Lib.hid (HX.out.trans' hw)
      have R1 := Lib.hid (row_ext HR.out hw)
      have Q1 := Lib.hid (row_ext HQ.out hw)
      obtain ⟨p0, p1, p2, -, -, -⟩ := row3_facts R1.out
      clear hw
      go_wp2_with fail
      (with_reducible refine (hasPort_any x y (HE.out.ext K1.out)).mono ?_)
      rintro e w2 ⟨rfl, hw⟩
      rw [BD.out]
      have K2 := Lib.hid (K1.out.trans' hw)
      have R2 := Lib.hid (row_ext R1.out hw)
      have Q2 := Lib.hid (row_ext Q1.out hw)
      clear hw p0 p1 p2
      obtain ⟨p0, p1, p2, -, -, -⟩ := row3_facts R2.out
      go_wp2_with fail
      (with_reducible refine (after0_any (chg_port 0 x y (HN.out.ext K2.out)) GG.out).mono ?_)
      rintro e w3 ⟨z, bs, rfl, hw, ho, hf⟩
      obtain ⟨a0, c0, a1, c1, a2, c2, rfl⟩ := ho.agg
      have K3 := Lib.hid (K2.out.trans' hw)
      have O3 := Lib.hid ho
      have N3 := Lib.hid hf.1
      have B3 := Lib.hid (show ∀ b ∈ bs, w.heap.size + 2 ≤ b from fun b hb => by have := hf.2 b hb; have := Q2.out.lt; omega)
      obtain ⟨u0, u1, u2, s0, s1, s2⟩ := row3_facts (row_ext Q2.out hw)
      clear hw ho hf p0 p1 p2
      go_wp2
      refine bodyPost_ret (v := .tuple #[.agg #[.slice a0 (cutNet N (st0 N x y)).ends.length c0, .slice a1 (cutNet N (st0 N x y)).ids.length c1, .slice a2 (cutNet N (st0 N x y)).inputs.length c2], .bool true]) (by simp [results, Try.results111, go_sem, u0, u1, u2]) rfl ?_
      have hc := close_net K3.out O3.out N3.out B3.out
      exact ⟨_, bs, ret_net D.out.symm, hc.1, by rw [E.out]; exact hc.2.1, hc.2.2⟩
    · have BD := Lib.hid (dec_false hb)
      have D : Hid (dec (RemB N x y) = false) := dec_false fun k => hb k.2
      have E : Hid (remAns N x y = zeroNet) := remAns_f fun k => hb k.2
      clear hb hg
      go_enter Try.func111, Try.ntmps111
      go_wp2_with fail
      (with_reducible refine (isNetwork_any (HN.out.ext HX.out)).mono ?_)
      rintro e w1 ⟨rfl, hw⟩
      rw [G.out]
      have K1 := Lib.hid (HX.out.trans' hw)
      have R1 := Lib.hid (row_ext HR.out hw)
      have Q1 := Lib.hid (row_ext HQ.out hw)
      obtain ⟨p0, p1, p2, -, -, -⟩ := row3_facts R1.out
      clear hw
      go_wp2_with fail
      (with_reducible refine (hasPort_any x y (HE.out.ext K1.out)).mono ?_)
      rintro e w2 ⟨rfl, hw⟩
      rw [BD.out]
      have K2 := Lib.hid (K1.out.trans' hw)
      have R2 := Lib.hid (row_ext R1.out hw)
      have Q2 := Lib.hid (row_ext Q1.out hw)
      clear hw p0 p1 p2
      obtain ⟨q0, q1, q2, t0, t1, t2⟩ := row3_facts Q2.out
      go_wp2
      refine bodyPost_ret (v := .tuple #[znet, .bool false]) (by simp [results, Try.results111, go_sem, q0, q1, q2, znet]) rfl ⟨_, [], ret_net D.out.symm, store3_ext K2.out (by omega) _ _ _, by rw [E.out]; exact own_zero _, Fresh.nil _⟩
  · have G := Lib.hid (dec_false hg)
    have D : Hid (dec (RemB N x y) = false) := dec_false fun k => hg k.1
    have E : Hid (remAns N x y = zeroNet) := remAns_f fun k => hg k.1
    clear hg
    go_enter Try.func111, Try.ntmps111
    go_wp2_with fail
    (with_reducible refine (isNetwork_any (HN.out.ext HX.out)).mono ?_)
    rintro e w1 ⟨rfl, hw⟩
    rw [G.out]
    have K1 := Lib.hid (HX.out.trans' hw)
    obtain ⟨q0, q1, q2, t0, t1, t2⟩ := row3_facts (row_ext HQ.out hw)
    clear hw
    go_wp2
    refine bodyPost_ret (v := .tuple #[znet, .bool false]) (by simp [results, Try.results111, go_sem, q0, q1, q2, znet]) rfl ⟨_, [], ret_net D.out.symm, store3_ext K1.out (by omega) _ _ _, by rw [E.out]; exact own_zero _, Fresh.nil _⟩
end Go.Proofs.Ytkeiaahlifdbiaa

/- The contract of neAll: for each port that it is kept, in memory of its own. -/
namespace Go.Proofs.Ytkeiaahlifdbiaa
open Go.RowKit

theorem Try.infoBools : (Try.prog.info? 127).map (fun i => (i.zero, i.size, i.bytes)) = some (some (.slice none 0 0), 1, 24) := by kernel_rfl

def allRow (N : Net) (q : Nat → Nat) (u : Nat) : Value := .slice (some ⟨q u, 0, none⟩) (gr N.ends u).length (gr N.ends u).length
/-- The first k rows, each in a block of its own. -/
structure AllAt (W0 wr : World) (N : Net) (k : Nat) (s : Value) (q : Nat → Nat) : Prop where
  ext : Ext W0 wr
  own : wr.ownsRow W0.heap.size 127 1 s k ((List.range k).map (allRow N q))
  rows : ∀ u, u < k → wr.rowIs (q u) 4 (gr N.ends u).length (fun _ => .bool true)
  ge : ∀ u, u < k → W0.heap.size ≤ q u
  apart : ∀ u u', u < k → u' < k → u ≠ u' → q u ≠ q u'

theorem AllAt.step {W0 wo wx w4 : World} {N : Net} {k : Nat} {s v' : Value} {q : Nat → Nat} (h : AllAt W0 wo N k s q) (hx : Ext wo wx) (hr : wx.rowIs wo.heap.size 4 (gr N.ends k).length (fun _ => .bool true)) {o : Obj}
    (hg : Grew (wx.alloc o) w4 W0.heap.size 127 1 s v' (k + 1) ((List.range k).map (allRow N q) ++ [.slice (some ⟨wo.heap.size, 0, none⟩) (gr N.ends k).length (gr N.ends k).length])) :
    AllAt W0 w4 N (k + 1) v' (fun u => if u = k then wo.heap.size else q u) := by
  have hxa := hx.alloc' o
  have ho := owns_ext h.own hxa
  have hex := h.ext.size
  have hlt : ∀ u, u < k → q u < wo.heap.size := fun u hu => (h.rows u hu).lt
  have hm : (List.range (k + 1)).map (allRow N (fun u => if u = k then wo.heap.size else q u)) = (List.range k).map (allRow N q) ++ [.slice (some ⟨wo.heap.size, 0, none⟩) (gr N.ends k).length (gr N.ends k).length] := by
    rw [List.range_succ, List.map_append]
    congr 1
    · refine List.map_congr_left fun u hu => ?_
      have := List.mem_range.1 hu
      simp only [allRow, if_neg (show ¬ u = k by omega)]
    · simp [allRow]
  refine ⟨hg.ext (h.ext.trans' hxa) (fun b hb => (ho.lt b hb).1), by rw [hm]; exact hg.1, fun u hu => ?_, fun u hu => ?_, fun u u' hu hu' hne => ?_⟩
  · by_cases e : u = k
    · subst e
      simp only [if_true]
      exact row_grown (row_ext hr ((Ext.rfl' wx).alloc' o)) ho hg.2.1 (by decide)
    · simp only [if_neg e]
      exact row_grown (row_ext (h.rows u (by omega)) hxa) ho hg.2.1 (by decide)
  · by_cases e : u = k
    · simp only [if_pos e]; exact hex
    · simp only [if_neg e]; exact h.ge u (by omega)
  · by_cases e : u = k
    · by_cases e2 : u' = k
      · omega
      · simp only [if_pos e, if_neg e2]
        have := hlt u' (by omega)
        omega
    · by_cases e2 : u' = k
      · simp only [if_neg e, if_pos e2]
        have := hlt u (by omega)
        omega
      · simp only [if_neg e, if_neg e2]
        exact h.apart u u' (by omega) (by omega) hne

set_option maxHeartbeats 1600000 in
set_option maxRecDepth 100000 in
theorem neAll_any {w : World} {v : Value} {N : Net} (h : NetAt w v N) (hg : Good N) :
    Calls Try.prog 158 #[v] w fun e w' => ∃ v' q, e = .returned v' ∧ AllAt w w' N N.ends.length v' q := by
  have h1 : 1 ≤ N.ends.length := hg.1.1
  have h40 : N.ends.length ≤ 40 := hg.1.2
  have GG := Lib.hid hg
  obtain ⟨v0, v1, v2, rfl, hE, hI, hP⟩ := h
  clear hI hP hg
  obtain ⟨ea, eb, eq, ec, rfl, hea, hel, hem, hec⟩ := hE
  unfold maxLen at hem
  obtain rfl := hea (by omega)
  have Hec := Lib.hid hec
  clear hec hea
  obtain ⟨i47, hi, hz0, hz1, hz2⟩ := info_parts Try.infoBools
  have I47 := Lib.hid (And.intro hi (And.intro hz0 (And.intro hz1 hz2)))
  clear hi hz0 hz1 hz2
  have HX := Lib.hid (show Ext w (w.alloc (.cells #[.slice (some ⟨eb, eq, none⟩) N.ends.length ec, v1, v2] 29)) from boxed_ext w (.slice (some ⟨eb, eq, none⟩) N.ends.length ec) v1 v2 _)
  go_enter Try.func158, Try.ntmps158
  go_wp2
  revert HX
  generalize w.alloc (.cells #[.slice (some ⟨eb, eq, none⟩) N.ends.length ec, v1, v2] 29) = W0
  intro HX
  go_loopg [3, 11] N.ends.length (fun g s i wr => ∃ (k : Nat) (q : Nat → Nat), k ≤ N.ends.length ∧ g = N.ends.length - k ∧ i = .int .i64 k ∧ Hid (AllAt W0 wr N k s q))
  case atStart => exact ⟨0, fun _ => 0, Nat.zero_le _, rfl, rfl, Ext.rfl' _, World.ownsRow_nil _ _ _ _, fun u hu => absurd hu (by omega), fun u hu => absurd hu (by omega), fun u u' hu => absurd hu (by omega)⟩
  case round =>
    obtain ⟨k, q, hk, rfl, rfl, Hr⟩ := hrel
    by_cases hlt : k < N.ends.length
    · obtain ⟨x, hx, ax, bx, ox, cx, rfl, hax, hlx, hmx, -⟩ := Hec.out k hlt
      unfold maxLen at hmx
      have h6 := (GG.out.2.1 k hlt).1
      have hcell := (HX.out.trans' Hr.out.ext).cell' hx
      have hmk := run_make_row' (P := Try.prog) 127 4 (.bool false) 1 Try.underlying127 Try.info4 rfl .i64 .i64 (gr N.ends k).length (by omega) (by omega)
      clear hx hax
      go_wp2
      have hw0 : ∃ wo : World, wo = wr := ⟨_, rfl⟩
      obtain ⟨wo, rfl⟩ := hw0
      clear hcell hmk
      go_loopg [20] (gr N.ends k).length (fun g i wx => ∃ j : Nat, j ≤ (gr N.ends k).length ∧ g = (gr N.ends k).length - j ∧ i = .int .i64 j ∧ Hid (Ext wo wx ∧ wx.rowIs wo.heap.size 4 (gr N.ends k).length (fun i => .bool (decide (i < j)))))
      case atStart => exact ⟨0, Nat.zero_le _, rfl, rfl, (Ext.rfl' wo).alloc' _, (World.rowIs_made wo _ _ _).congr fun i _ => by simp⟩
      case round =>
        obtain ⟨j, hj, rfl, rfl, Hs⟩ := hrel
        by_cases hjt : j < (gr N.ends k).length
        · have f1 := Hs.out.2.cell hjt
          have f2 := Hs.out.2.frozen j
          have S : Hid (Ext wo (wr.setCell ⟨wo.heap.size, j, none⟩ (.bool true)) ∧ (wr.setCell ⟨wo.heap.size, j, none⟩ (.bool true)).rowIs wo.heap.size 4 (gr N.ends k).length (fun i => .bool (decide (i < j + 1)))) :=
            ⟨Hs.out.1.store (Nat.le_refl _) _, (Hs.out.2.set j _).congr fun i _ => by
              by_cases e : i = j
              · subst e; simp
              · rw [if_neg e]; congr 1; exact decide_eq_decide.2 ⟨fun h => by omega, fun h => by omega⟩⟩
          go_wp2
          go_roundg ((gr N.ends k).length - (j + 1))
          case measure => omega
          case rel => exact ⟨j + 1, by omega, rfl, by go_num, S.out⟩
        · obtain rfl : j = (gr N.ends k).length := by omega
          have hrow : wr.rowIs wo.heap.size 4 (gr N.ends k).length (fun _ => .bool true) := Hs.out.2.congr fun i hi => by simp [hi]
          have HRW := Lib.hid hrow
          have hzo := Lib.hid (Nat.le_trans Hr.out.ext.size Hs.out.1.size)
          clear hrow
          go_wp2_with (at_builtin; refine wpList_app rfl (.tmp 27) (.tmp 29) 132 rfl W0.heap.size 127 i47 (.slice none 0 0) 1 24 Try.underlying132 I47.out.1 I47.out.2.1 I47.out.2.2.1 I47.out.2.2.2 rfl (by decide) u3 k ((List.range k).map (allRow N q)) rfl (owns_ext Hr.out.own (Hs.out.1.alloc' _)) (some ⟨wr.heap.size, 0, none⟩) 1 1 [.slice (some ⟨wo.heap.size, 0, none⟩) (gr N.ends k).length (gr N.ends k).length] rfl (src_one wr _ 127 rfl) (by unfold maxLen; omega) (by omega) ?_ ?_)
          · have := hzo.out; (try simp); omega
          intro v' w4 hg
          have HA := Lib.hid (Hr.out.step Hs.out.1 HRW.out hg)
          clear hg
          go_wp2
          go_roundg (N.ends.length - (k + 1))
          case measure => omega
          case rel => exact ⟨k + 1, _, by omega, rfl, by go_num, HA.out⟩
    · obtain rfl : k = N.ends.length := by omega
      have hz := HX.out.size
      have HF : Hid (AllAt w wr N N.ends.length u3 q) := ⟨HX.out.trans' Hr.out.ext, ⟨Hr.out.own.1, by
        rcases Hr.out.own.2 with h | ⟨g, cap, cur, e, hb, rest⟩
        · exact .inl h
        · exact .inr ⟨g, cap, cur, e, by omega, rest⟩⟩, Hr.out.rows, fun u hu => by have := Hr.out.ge u hu; omega, Hr.out.apart⟩
      go_wp2
      go_ret
      exact ⟨_, q, rfl, HF.out⟩
end Go.Proofs.Ytkeiaahlifdbiaa

/- The contract of the model's RemoveEdge. No condition. -/
namespace Go.Proofs.Ytkeiaahlifdbiaa
open Go.RowKit

structure KeepAt (w : World) (N : Net) (B : Nat) (v : Value) (q : Nat → Nat) (f : Nat → Nat → Bool) : Prop where
  own : w.ownsRow B 127 1 v N.ends.length ((List.range N.ends.length).map (allRow N q))
  rows : ∀ u, u < N.ends.length → w.rowIs (q u) 4 (gr N.ends u).length (fun i => .bool (f u i))
  apart : ∀ u u', u < N.ends.length → u' < N.ends.length → u ≠ u' → q u ≠ q u'
theorem AllAt.keeps {W0 w : World} {N : Net} {s : Value} {q : Nat → Nat} (h : AllAt W0 w N N.ends.length s q) : KeepAt w N W0.heap.size s q (fun _ _ => true) := ⟨h.own, h.rows, h.apart⟩
theorem KeepAt.ext {w w' : World} {N : Net} {B : Nat} {v : Value} {q : Nat → Nat} {f : Nat → Nat → Bool} (h : KeepAt w N B v q f) (hx : Ext w w') : KeepAt w' N B v q f := ⟨owns_ext h.own hx, fun u hu => row_ext (h.rows u hu) hx, h.apart⟩
theorem KeepAt.set {w : World} {N : Net} {B : Nat} {v : Value} {q : Nat → Nat} {f : Nat → Nat → Bool} (h : KeepAt w N B v q f) {u i : Nat} (hu : u < N.ends.length) :
    KeepAt (w.setCell ⟨q u, i, none⟩ (.bool false)) N B v q (fun u' i' => !(decide (u' = u) && decide (i' = i)) && f u' i') := by
  refine ⟨owns_store (p := ⟨q u, i, none⟩) h.own (h.rows u hu) (by decide), fun u' hu' => ?_, h.apart⟩
  by_cases e : u' = u
  · subst e
    refine ((h.rows u' hu').set i (.bool false)).congr fun i' _ => ?_
    by_cases e2 : i' = i
    · subst e2; simp
    · simp [e2]
  · refine (row_far' (h.rows u' hu') (h.apart u' u hu' hu e)).congr fun i' _ => ?_
    simp [e]
theorem KeepAt.form {w : World} {N : Net} {B : Nat} {v : Value} {q : Nat → Nat} {f : Nat → Nat → Bool} (h : KeepAt w N B v q f) (h1 : 1 ≤ N.ends.length) :
    ∃ b c, v = .slice (some ⟨b, 0, none⟩) N.ends.length c ∧ N.ends.length ≤ c ∧ c ≤ maxLen ∧ ∀ u, u < N.ends.length → w.cell? ⟨b, u, none⟩ = some (.slice (some ⟨q u, 0, none⟩) (gr N.ends u).length (gr N.ends u).length) := by
  have ho := h.own
  rcases h.own.2 with ⟨_, hn⟩ | ⟨g, cap, cur, rfl, hb, hh, h2, h3, _⟩
  · omega
  · refine ⟨g, cap, rfl, h2, h3, fun u hu => ?_⟩
    have holds := ho.cells (g := g) rfl u (allRow N q u) (by simp [hu])
    rw [add_plain, Nat.zero_add] at holds
    exact holds
theorem KeepAt.reads {w : World} {N : Net} {B : Nat} {v : Value} {q : Nat → Nat} {f : Nat → Nat → Bool} (h : KeepAt w N B v q f) (hg : Good N) : BoolSS w v N f := by
  obtain ⟨b, c, rfl, h2, h3, h4⟩ := h.form hg.1.1
  refine ⟨_, b, 0, c, rfl, fun _ => rfl, h2, h3, fun u hu => ⟨_, by rw [Nat.zero_add]; exact h4 u hu, _, q u, 0, _, rfl, fun _ => rfl, Nat.le_refl _, ?_, fun i hi => by rw [Nat.zero_add]; exact (h.rows u hu).cell hi⟩⟩
  have := (hg.2.1 u hu).1
  unfold maxLen; omega
theorem st0_set {N : Net} (hg : Good N) {x y en ep : Nat} (hx : x < N.ends.length) (hy : y < (gr N.ends x).length) (hen : gn (gr N.ends x) y = en) (hep : gp (gr N.ends x) y = ep) {u i : Nat} (hu : u < N.ends.length) (hi : i < (gr N.ends u).length) :
    (!(decide (u = en) && decide (i = ep)) && (!(decide (u = x) && decide (i = y)) && true)) = st0 N x y u i := by
  obtain ⟨⟨g1, g2, g3, g4⟩, g5, g6⟩ := (hg.2.1 x hx).2 y hy
  rw [hen] at g1 g2 g4 g5 g6
  rw [hep] at g3 g4 g5 g6
  simp only [Int.toNat_natCast] at g4 g5 g6
  obtain ⟨⟨k1, k2, k3, k4⟩, k5, k6⟩ := (hg.2.1 u hu).2 i hi
  have hiff : (u = en ∧ i = ep) ↔ (gn (gr N.ends u) i = x ∧ gp (gr N.ends u) i = y) := by
    constructor
    · rintro ⟨rfl, rfl⟩; exact ⟨g5, g6⟩
    · rintro ⟨e1, e2⟩
      have e3 : (gn (gr N.ends u) i).toNat = x := by omega
      have e4 : (gp (gr N.ends u) i).toNat = y := by omega
      rw [e3, e4] at k5 k6
      exact ⟨by omega, by omega⟩
  have h1 : (decide (u = en) && decide (i = ep)) = (gn (gr N.ends u) i == (x : Int) && gp (gr N.ends u) i == (y : Int)) := by
    rw [Bool.eq_iff_iff]
    simp only [Bool.and_eq_true, decide_eq_true_eq, beq_iff_eq]
    exact hiff
  have h2 : (decide (u = x) && decide (i = y)) = ((u : Int) == (x : Int) && (i : Int) == (y : Int)) := by
    rw [Bool.eq_iff_iff]
    simp only [Bool.and_eq_true, decide_eq_true_eq, beq_iff_eq]
    omega
  unfold st0
  rw [h1, h2, Bool.and_true, Bool.and_comm]
theorem duo_new (W : World) (x y : Value) (t : Nat) : (W.alloc (.cells #[x, y] t)).cell? ⟨W.heap.size, 0, none⟩ = some x ∧ (W.alloc (.cells #[x, y] t)).cell? ⟨W.heap.size, 1, none⟩ = some y := by simp
theorem BoolSS.congr {w : World} {v : Value} {N : Net} {f g : Nat → Nat → Bool} (h : BoolSS w v N f) (he : ∀ u i, u < N.ends.length → i < (gr N.ends u).length → f u i = g u i) : BoolSS w v N g := by
  obtain ⟨a, b, o, c, h1, h2, h3, h4, h5⟩ := h
  refine ⟨a, b, o, c, h1, h2, h3, h4, fun u hu => ?_⟩
  obtain ⟨x, hx, a', b', o', c', k1, k2, k3, k4, k5⟩ := h5 u hu
  exact ⟨x, hx, a', b', o', c', k1, k2, k3, k4, fun i hi => by rw [← he u i hu hi]; exact k5 i hi⟩

end Go.Proofs.Ytkeiaahlifdbiaa

/- The walk of FnExactRemoveEdge: whatever the arguments, the law answers true and changes nothing that was there. No condition but that the answer is short. -/
namespace Go.Proofs.Ytkeiaahlifdbiaa
open Go.RowKit
end Go.Proofs.Ytkeiaahlifdbiaa
