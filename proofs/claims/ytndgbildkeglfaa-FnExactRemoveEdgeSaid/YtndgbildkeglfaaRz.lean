import Derived.Test.YtndgbildkeglfaaChR
import Derived.Test.YtndgbildkeglfaaZero
import Derived.Test.YtndgbildkeglfaaCut1
import Derived.Test.YtndgbildkeglfaaNeCut
import Derived.Test.YtndgbildkeglfaaOe
import Derived.RegionTactic
import Derived.Test.YtndgbildkeglfaaHold2
/- The contract of the program's RemoveEdge. No condition. -/
namespace Go.Proofs.Ytndgbildkeglfaa
open Go.RowKit

def RemB (N : Net) (x y : Int) : Prop := Good N ∧ PortOK N.ends x y
noncomputable def remAns (N : Net) (x y : Int) : Net := if dec (RemB N x y) = true then cutNet N (st0 N x y) else zeroNet
theorem remAns_t {N : Net} {x y : Int} (h : RemB N x y) : remAns N x y = cutNet N (st0 N x y) := by simp [remAns, dec_true h]
theorem remAns_f {N : Net} {x y : Int} (h : ¬ RemB N x y) : remAns N x y = zeroNet := by simp [remAns, dec_false h]
theorem cut_small {N : Net} (st : Nat → Nat → Bool) (h : Good N) : (cutNet N st).small := by
  obtain ⟨s1, s2, s3, s4⟩ := good_small h
  refine ⟨by show ((List.range N.ends.length).map _).length ≤ _; simpa using s1, fun i => ?_, s3, s4⟩
  show (gr ((List.range N.ends.length).map (cutRow N st)) i).length ≤ _
  by_cases hi : i < N.ends.length
  · have e : gr ((List.range N.ends.length).map (cutRow N st)) i = cutRow N st i := by simp [gr, List.getD, hi]
    rw [e]
    unfold cutRow
    rw [length_planRow]
    exact Nat.le_trans (cnt_le _ _) (s2 i)
  · rw [gr_out _ _ (by simp; omega)]; simp
theorem remAns_small (N : Net) (x y : Int) : (remAns N x y).small := by
  by_cases h : RemB N x y
  · rw [remAns_t h]; exact cut_small _ h.1
  · rw [remAns_f h]; exact zero_small
theorem chg_port {w : World} {v0 v1 v2 : Value} {N : Net} (k x y : Int) (h : NetAt w (.agg #[v0, v1, v2]) N) : ChgAt w (.agg #[.int .i64 k, v0, v1, v2, .int .i64 x, .int .i64 y, .slice none 0 0]) k N x y [] := ⟨_, _, _, _, rfl, h, (own_nilI w).read⟩

set_option maxHeartbeats 1600000 in
set_option maxRecDepth 100000 in
theorem removeEdge_any {w : World} {v : Value} {N : Net} (x y : Int) (h : NetAt w v N) :
    Calls Try.prog 52 #[v, .int .i64 x, .int .i64 y] w fun e w' => ∃ v' bs, e = .returned (.tuple #[v', .bool (dec (RemB N x y))]) ∧ Ext w w' ∧ OwnNet w' v' (remAns N x y) bs ∧ Fresh w bs := by
  have HN := Lib.hid h
  obtain ⟨w0, v1, v2, rfl, hE, hI, hP⟩ := h
  have HE := Lib.hid hE
  obtain ⟨ea, _, _, ec, rfl, _, _, em, _⟩ := hE
  unfold maxLen at em
  clear hI hP
  have HX := Lib.hid (boxed2_ext w (.slice ea N.ends.length ec) v1 v2)
  have HR := Lib.hid (boxed2_row w (.slice ea N.ends.length ec) v1 v2)
  have HQ := Lib.hid (boxed2_res w (.slice ea N.ends.length ec) v1 v2)
  by_cases hg : Good N
  · have G := Lib.hid (dec_true hg)
    have GG := Lib.hid hg
    by_cases hb : PortOK N.ends x y
    · have BD := Lib.hid (dec_true hb)
      have D : Hid (dec (RemB N x y) = true) := dec_true ⟨hg, hb⟩
      have E : Hid (remAns N x y = cutNet N (st0 N x y)) := remAns_t ⟨hg, hb⟩
      clear hb hg
      go_enter Try.func52, Try.ntmps52
      go_wp2_with fail
      (with_reducible refine (isNetwork_any (HN.out.ext HX.out)).mono ?_)
      rintro e w1 ⟨rfl, hw⟩
      rw [G.out]
      have K1 := Lib.hid (HX.out.trans' hw)
      have R1 := Lib.hid (row_ext HR.out hw)
      have Q1 := Lib.hid (row_ext HQ.out hw)
      obtain ⟨p0, p1, p2, -, -, -⟩ := row3_facts R1.out
      clear hw
      go_wp2_with fail
      (with_reducible refine (hasPort_any x y (HE.out.ext K1.out)).mono ?_)
      rintro e w2 ⟨rfl, hw⟩
      rw [BD.out]
      have K2 := Lib.hid (K1.out.trans' hw)
      have R2 := Lib.hid (row_ext R1.out hw)
      have Q2 := Lib.hid (row_ext Q1.out hw)
      clear hw p0 p1 p2
      obtain ⟨p0, p1, p2, -, -, -⟩ := row3_facts R2.out
      go_wp2_with fail
      (with_reducible refine (after0_any (chg_port 0 x y (HN.out.ext K2.out)) GG.out).mono ?_)
      rintro e w3 ⟨z, bs, rfl, hw, ho, hf⟩
      obtain ⟨a0, c0, a1, c1, a2, c2, rfl⟩ := ho.agg
      have K3 := Lib.hid (K2.out.trans' hw)
      have O3 := Lib.hid ho
      have N3 := Lib.hid hf.1
      have B3 := Lib.hid (show ∀ b ∈ bs, w.heap.size + 2 ≤ b from fun b hb => by have := hf.2 b hb; have := Q2.out.lt; omega)
      obtain ⟨u0, u1, u2, s0, s1, s2⟩ := row3_facts (row_ext Q2.out hw)
      clear hw ho hf p0 p1 p2
      go_wp2
      refine bodyPost_ret (v := .tuple #[.agg #[.slice a0 (cutNet N (st0 N x y)).ends.length c0, .slice a1 (cutNet N (st0 N x y)).ids.length c1, .slice a2 (cutNet N (st0 N x y)).inputs.length c2], .bool true]) (by simp [results, Try.results52, go_sem, u0, u1, u2]) rfl ?_
      have hc := close_net K3.out O3.out N3.out B3.out
      exact ⟨_, bs, ret_net D.out.symm, hc.1, by rw [E.out]; exact hc.2.1, hc.2.2⟩
    · have BD := Lib.hid (dec_false hb)
      have D : Hid (dec (RemB N x y) = false) := dec_false fun k => hb k.2
      have E : Hid (remAns N x y = zeroNet) := remAns_f fun k => hb k.2
      clear hb hg
      go_enter Try.func52, Try.ntmps52
      go_wp2_with fail
      (with_reducible refine (isNetwork_any (HN.out.ext HX.out)).mono ?_)
      rintro e w1 ⟨rfl, hw⟩
      rw [G.out]
      have K1 := Lib.hid (HX.out.trans' hw)
      have R1 := Lib.hid (row_ext HR.out hw)
      have Q1 := Lib.hid (row_ext HQ.out hw)
      obtain ⟨p0, p1, p2, -, -, -⟩ := row3_facts R1.out
      clear hw
      go_wp2_with fail
      (with_reducible refine (hasPort_any x y (HE.out.ext K1.out)).mono ?_)
      rintro e w2 ⟨rfl, hw⟩
      rw [BD.out]
      have K2 := Lib.hid (K1.out.trans' hw)
      have R2 := Lib.hid (row_ext R1.out hw)
      have Q2 := Lib.hid (row_ext Q1.out hw)
      clear hw p0 p1 p2
      obtain ⟨q0, q1, q2, t0, t1, t2⟩ := row3_facts Q2.out
      go_wp2
      refine bodyPost_ret (v := .tuple #[znet, .bool false]) (by simp [results, Try.results52, go_sem, q0, q1, q2, znet]) rfl ⟨_, [], ret_net D.out.symm, store3_ext K2.out (by omega) _ _ _, by rw [E.out]; exact own_zero _, Fresh.nil _⟩
  · have G := Lib.hid (dec_false hg)
    have D : Hid (dec (RemB N x y) = false) := dec_false fun k => hg k.1
    have E : Hid (remAns N x y = zeroNet) := remAns_f fun k => hg k.1
    clear hg
    go_enter Try.func52, Try.ntmps52
    go_wp2_with fail
    (with_reducible refine (isNetwork_any (HN.out.ext HX.out)).mono ?_)
    rintro e w1 ⟨rfl, hw⟩
    rw [G.out]
    have K1 := Lib.hid (HX.out.trans' hw)
    obtain ⟨q0, q1, q2, t0, t1, t2⟩ := row3_facts (row_ext HQ.out hw)
    clear hw
    go_wp2
    refine bodyPost_ret (v := .tuple #[znet, .bool false]) (by simp [results, Try.results52, go_sem, q0, q1, q2, znet]) rfl ⟨_, [], ret_net D.out.symm, store3_ext K1.out (by omega) _ _ _, by rw [E.out]; exact own_zero _, Fresh.nil _⟩
end Go.Proofs.Ytndgbildkeglfaa

/- The contract of neAll: for each port that it is kept, in memory of its own. -/
namespace Go.Proofs.Ytndgbildkeglfaa
open Go.RowKit

theorem Try.infoBools : (Try.prog.info? 88).map (fun i => (i.zero, i.size, i.bytes)) = some (some (.slice none 0 0), 1, 24) := by kernel_rfl

def allRow (N : Net) (q : Nat → Nat) (u : Nat) : Value := .slice (some ⟨q u, 0, none⟩) (gr N.ends u).length (gr N.ends u).length
/-- The first k rows, each in a block of its own. -/
structure AllAt (W0 wr : World) (N : Net) (k : Nat) (s : Value) (q : Nat → Nat) : Prop where
  ext : Ext W0 wr
  own : wr.ownsRow W0.heap.size 88 1 s k ((List.range k).map (allRow N q))
  rows : ∀ u, u < k → wr.rowIs (q u) 4 (gr N.ends u).length (fun _ => .bool true)
  ge : ∀ u, u < k → W0.heap.size ≤ q u
  apart : ∀ u u', u < k → u' < k → u ≠ u' → q u ≠ q u'

theorem AllAt.step {W0 wo wx w4 : World} {N : Net} {k : Nat} {s v' : Value} {q : Nat → Nat} (h : AllAt W0 wo N k s q) (hx : Ext wo wx) (hr : wx.rowIs wo.heap.size 4 (gr N.ends k).length (fun _ => .bool true)) {o : Obj}
    (hg : Grew (wx.alloc o) w4 W0.heap.size 88 1 s v' (k + 1) ((List.range k).map (allRow N q) ++ [.slice (some ⟨wo.heap.size, 0, none⟩) (gr N.ends k).length (gr N.ends k).length])) :
    AllAt W0 w4 N (k + 1) v' (fun u => if u = k then wo.heap.size else q u) := by
  have hxa := hx.alloc' o
  have ho := owns_ext h.own hxa
  have hex := h.ext.size
  have hlt : ∀ u, u < k → q u < wo.heap.size := fun u hu => (h.rows u hu).lt
  have hm : (List.range (k + 1)).map (allRow N (fun u => if u = k then wo.heap.size else q u)) = (List.range k).map (allRow N q) ++ [.slice (some ⟨wo.heap.size, 0, none⟩) (gr N.ends k).length (gr N.ends k).length] := by
    rw [List.range_succ, List.map_append]
    congr 1
    · refine List.map_congr_left fun u hu => ?_
      have := List.mem_range.1 hu
      simp only [allRow, if_neg (show ¬ u = k by omega)]
    · simp [allRow]
  refine ⟨hg.ext (h.ext.trans' hxa) (fun b hb => (ho.lt b hb).1), by rw [hm]; exact hg.1, fun u hu => ?_, fun u hu => ?_, fun u u' hu hu' hne => ?_⟩
  · by_cases e : u = k
    · subst e
      simp only [if_true]
      exact row_grown (row_ext hr ((Ext.rfl' wx).alloc' o)) ho hg.2.1 (by decide)
    · simp only [if_neg e]
      exact row_grown (row_ext (h.rows u (by omega)) hxa) ho hg.2.1 (by decide)
  · by_cases e : u = k
    · simp only [if_pos e]; exact hex
    · simp only [if_neg e]; exact h.ge u (by omega)
  · by_cases e : u = k
    · by_cases e2 : u' = k
      · omega
      · simp only [if_pos e, if_neg e2]
        have := hlt u' (by omega)
        omega
    · by_cases e2 : u' = k
      · simp only [if_neg e, if_pos e2]
        have := hlt u (by omega)
        omega
      · simp only [if_neg e, if_neg e2]
        exact h.apart u u' (by omega) (by omega) hne

set_option maxHeartbeats 1600000 in
set_option maxRecDepth 100000 in
theorem neAll_any {w : World} {v : Value} {N : Net} (h : NetAt w v N) (hg : Good N) :
    Calls Try.prog 91 #[v] w fun e w' => ∃ v' q, e = .returned v' ∧ AllAt w w' N N.ends.length v' q := by
  have h1 : 1 ≤ N.ends.length := hg.1.1
  have h40 : N.ends.length ≤ 40 := hg.1.2
  have GG := Lib.hid hg
  obtain ⟨v0, v1, v2, rfl, hE, hI, hP⟩ := h
  clear hI hP hg
  obtain ⟨ea, eb, eq, ec, rfl, hea, hel, hem, hec⟩ := hE
  unfold maxLen at hem
  obtain rfl := hea (by omega)
  have Hec := Lib.hid hec
  clear hec hea
  obtain ⟨i47, hi, hz0, hz1, hz2⟩ := info_parts Try.infoBools
  have I47 := Lib.hid (And.intro hi (And.intro hz0 (And.intro hz1 hz2)))
  clear hi hz0 hz1 hz2
  have HX := Lib.hid (show Ext w (w.alloc (.cells #[.slice (some ⟨eb, eq, none⟩) N.ends.length ec, v1, v2] 30)) from boxed_ext w (.slice (some ⟨eb, eq, none⟩) N.ends.length ec) v1 v2 _)
  go_enter Try.func91, Try.ntmps91
  go_wp2
  revert HX
  generalize w.alloc (.cells #[.slice (some ⟨eb, eq, none⟩) N.ends.length ec, v1, v2] 30) = W0
  intro HX
  go_loopg [3, 11] N.ends.length (fun g s i wr => ∃ (k : Nat) (q : Nat → Nat), k ≤ N.ends.length ∧ g = N.ends.length - k ∧ i = .int .i64 k ∧ Hid (AllAt W0 wr N k s q))
  case atStart => exact ⟨0, fun _ => 0, Nat.zero_le _, rfl, rfl, Ext.rfl' _, World.ownsRow_nil _ _ _ _, fun u hu => absurd hu (by omega), fun u hu => absurd hu (by omega), fun u u' hu => absurd hu (by omega)⟩
  case round =>
    obtain ⟨k, q, hk, rfl, rfl, Hr⟩ := hrel
    by_cases hlt : k < N.ends.length
    · obtain ⟨x, hx, ax, bx, ox, cx, rfl, hax, hlx, hmx, -⟩ := Hec.out k hlt
      unfold maxLen at hmx
      have h6 := (GG.out.2.1 k hlt).1
      have hcell := (HX.out.trans' Hr.out.ext).cell' hx
      have hmk := run_make_row' (P := Try.prog) 88 4 (.bool false) 1 Try.underlying88 Try.info4 rfl .i64 .i64 (gr N.ends k).length (by omega) (by omega)
      clear hx hax
      go_wp2
      have hw0 : ∃ wo : World, wo = wr := ⟨_, rfl⟩
      obtain ⟨wo, rfl⟩ := hw0
      clear hcell hmk
      go_loopg [20] (gr N.ends k).length (fun g i wx => ∃ j : Nat, j ≤ (gr N.ends k).length ∧ g = (gr N.ends k).length - j ∧ i = .int .i64 j ∧ Hid (Ext wo wx ∧ wx.rowIs wo.heap.size 4 (gr N.ends k).length (fun i => .bool (decide (i < j)))))
      case atStart => exact ⟨0, Nat.zero_le _, rfl, rfl, (Ext.rfl' wo).alloc' _, (World.rowIs_made wo _ _ _).congr fun i _ => by simp⟩
      case round =>
        obtain ⟨j, hj, rfl, rfl, Hs⟩ := hrel
        by_cases hjt : j < (gr N.ends k).length
        · have f1 := Hs.out.2.cell hjt
          have f2 := Hs.out.2.frozen j
          have S : Hid (Ext wo (wr.setCell ⟨wo.heap.size, j, none⟩ (.bool true)) ∧ (wr.setCell ⟨wo.heap.size, j, none⟩ (.bool true)).rowIs wo.heap.size 4 (gr N.ends k).length (fun i => .bool (decide (i < j + 1)))) :=
            ⟨Hs.out.1.store (Nat.le_refl _) _, (Hs.out.2.set j _).congr fun i _ => by
              by_cases e : i = j
              · subst e; simp
              · rw [if_neg e]; congr 1; exact decide_eq_decide.2 ⟨fun h => by omega, fun h => by omega⟩⟩
          go_wp2
          go_roundg ((gr N.ends k).length - (j + 1))
          case measure => omega
          case rel => exact ⟨j + 1, by omega, rfl, by go_num, S.out⟩
        · obtain rfl : j = (gr N.ends k).length := by omega
          have hrow : wr.rowIs wo.heap.size 4 (gr N.ends k).length (fun _ => .bool true) := Hs.out.2.congr fun i hi => by simp [hi]
          have HRW := Lib.hid hrow
          have hzo := Lib.hid (Nat.le_trans Hr.out.ext.size Hs.out.1.size)
          clear hrow
          go_wp2_with (at_builtin; refine wpList_app rfl (.tmp 27) (.tmp 29) 86 rfl W0.heap.size 88 i47 (.slice none 0 0) 1 24 Try.underlying86 I47.out.1 I47.out.2.1 I47.out.2.2.1 I47.out.2.2.2 rfl (by decide) u3 k ((List.range k).map (allRow N q)) rfl (owns_ext Hr.out.own (Hs.out.1.alloc' _)) (some ⟨wr.heap.size, 0, none⟩) 1 1 [.slice (some ⟨wo.heap.size, 0, none⟩) (gr N.ends k).length (gr N.ends k).length] rfl (src_one wr _ 88 rfl) (by unfold maxLen; omega) (by omega) ?_ ?_)
          · have := hzo.out; (try simp); omega
          intro v' w4 hg
          have HA := Lib.hid (Hr.out.step Hs.out.1 HRW.out hg)
          clear hg
          go_wp2
          go_roundg (N.ends.length - (k + 1))
          case measure => omega
          case rel => exact ⟨k + 1, _, by omega, rfl, by go_num, HA.out⟩
    · obtain rfl : k = N.ends.length := by omega
      have hz := HX.out.size
      have HF : Hid (AllAt w wr N N.ends.length u3 q) := ⟨HX.out.trans' Hr.out.ext, ⟨Hr.out.own.1, by
        rcases Hr.out.own.2 with h | ⟨g, cap, cur, e, hb, rest⟩
        · exact .inl h
        · exact .inr ⟨g, cap, cur, e, by omega, rest⟩⟩, Hr.out.rows, fun u hu => by have := Hr.out.ge u hu; omega, Hr.out.apart⟩
      go_wp2
      go_ret
      exact ⟨_, q, rfl, HF.out⟩
end Go.Proofs.Ytndgbildkeglfaa

/- The contract of the model's RemoveEdge. No condition. -/
namespace Go.Proofs.Ytndgbildkeglfaa
open Go.RowKit

structure KeepAt (w : World) (N : Net) (B : Nat) (v : Value) (q : Nat → Nat) (f : Nat → Nat → Bool) : Prop where
  own : w.ownsRow B 88 1 v N.ends.length ((List.range N.ends.length).map (allRow N q))
  rows : ∀ u, u < N.ends.length → w.rowIs (q u) 4 (gr N.ends u).length (fun i => .bool (f u i))
  apart : ∀ u u', u < N.ends.length → u' < N.ends.length → u ≠ u' → q u ≠ q u'
theorem AllAt.keeps {W0 w : World} {N : Net} {s : Value} {q : Nat → Nat} (h : AllAt W0 w N N.ends.length s q) : KeepAt w N W0.heap.size s q (fun _ _ => true) := ⟨h.own, h.rows, h.apart⟩
theorem KeepAt.ext {w w' : World} {N : Net} {B : Nat} {v : Value} {q : Nat → Nat} {f : Nat → Nat → Bool} (h : KeepAt w N B v q f) (hx : Ext w w') : KeepAt w' N B v q f := ⟨owns_ext h.own hx, fun u hu => row_ext (h.rows u hu) hx, h.apart⟩
theorem KeepAt.set {w : World} {N : Net} {B : Nat} {v : Value} {q : Nat → Nat} {f : Nat → Nat → Bool} (h : KeepAt w N B v q f) {u i : Nat} (hu : u < N.ends.length) :
    KeepAt (w.setCell ⟨q u, i, none⟩ (.bool false)) N B v q (fun u' i' => !(decide (u' = u) && decide (i' = i)) && f u' i') := by
  refine ⟨owns_store (p := ⟨q u, i, none⟩) h.own (h.rows u hu) (by decide), fun u' hu' => ?_, h.apart⟩
  by_cases e : u' = u
  · subst e
    refine ((h.rows u' hu').set i (.bool false)).congr fun i' _ => ?_
    by_cases e2 : i' = i
    · subst e2; simp
    · simp [e2]
  · refine (row_far' (h.rows u' hu') (h.apart u' u hu' hu e)).congr fun i' _ => ?_
    simp [e]
theorem KeepAt.form {w : World} {N : Net} {B : Nat} {v : Value} {q : Nat → Nat} {f : Nat → Nat → Bool} (h : KeepAt w N B v q f) (h1 : 1 ≤ N.ends.length) :
    ∃ b c, v = .slice (some ⟨b, 0, none⟩) N.ends.length c ∧ N.ends.length ≤ c ∧ c ≤ maxLen ∧ ∀ u, u < N.ends.length → w.cell? ⟨b, u, none⟩ = some (.slice (some ⟨q u, 0, none⟩) (gr N.ends u).length (gr N.ends u).length) := by
  have ho := h.own
  rcases h.own.2 with ⟨_, hn⟩ | ⟨g, cap, cur, rfl, hb, hh, h2, h3, _⟩
  · omega
  · refine ⟨g, cap, rfl, h2, h3, fun u hu => ?_⟩
    have holds := ho.cells (g := g) rfl u (allRow N q u) (by simp [hu])
    rw [add_plain, Nat.zero_add] at holds
    exact holds
theorem KeepAt.reads {w : World} {N : Net} {B : Nat} {v : Value} {q : Nat → Nat} {f : Nat → Nat → Bool} (h : KeepAt w N B v q f) (hg : Good N) : BoolSS w v N f := by
  obtain ⟨b, c, rfl, h2, h3, h4⟩ := h.form hg.1.1
  refine ⟨_, b, 0, c, rfl, fun _ => rfl, h2, h3, fun u hu => ⟨_, by rw [Nat.zero_add]; exact h4 u hu, _, q u, 0, _, rfl, fun _ => rfl, Nat.le_refl _, ?_, fun i hi => by rw [Nat.zero_add]; exact (h.rows u hu).cell hi⟩⟩
  have := (hg.2.1 u hu).1
  unfold maxLen; omega
theorem st0_set {N : Net} (hg : Good N) {x y en ep : Nat} (hx : x < N.ends.length) (hy : y < (gr N.ends x).length) (hen : gn (gr N.ends x) y = en) (hep : gp (gr N.ends x) y = ep) {u i : Nat} (hu : u < N.ends.length) (hi : i < (gr N.ends u).length) :
    (!(decide (u = en) && decide (i = ep)) && (!(decide (u = x) && decide (i = y)) && true)) = st0 N x y u i := by
  obtain ⟨⟨g1, g2, g3, g4⟩, g5, g6⟩ := (hg.2.1 x hx).2 y hy
  rw [hen] at g1 g2 g4 g5 g6
  rw [hep] at g3 g4 g5 g6
  simp only [Int.toNat_natCast] at g4 g5 g6
  obtain ⟨⟨k1, k2, k3, k4⟩, k5, k6⟩ := (hg.2.1 u hu).2 i hi
  have hiff : (u = en ∧ i = ep) ↔ (gn (gr N.ends u) i = x ∧ gp (gr N.ends u) i = y) := by
    constructor
    · rintro ⟨rfl, rfl⟩; exact ⟨g5, g6⟩
    · rintro ⟨e1, e2⟩
      have e3 : (gn (gr N.ends u) i).toNat = x := by omega
      have e4 : (gp (gr N.ends u) i).toNat = y := by omega
      rw [e3, e4] at k5 k6
      exact ⟨by omega, by omega⟩
  have h1 : (decide (u = en) && decide (i = ep)) = (gn (gr N.ends u) i == (x : Int) && gp (gr N.ends u) i == (y : Int)) := by
    rw [Bool.eq_iff_iff]
    simp only [Bool.and_eq_true, decide_eq_true_eq, beq_iff_eq]
    exact hiff
  have h2 : (decide (u = x) && decide (i = y)) = ((u : Int) == (x : Int) && (i : Int) == (y : Int)) := by
    rw [Bool.eq_iff_iff]
    simp only [Bool.and_eq_true, decide_eq_true_eq, beq_iff_eq]
    omega
  unfold st0
  rw [h1, h2, Bool.and_true, Bool.and_comm]
theorem duo_new (W : World) (x y : Value) (t : Nat) : (W.alloc (.cells #[x, y] t)).cell? ⟨W.heap.size, 0, none⟩ = some x ∧ (W.alloc (.cells #[x, y] t)).cell? ⟨W.heap.size, 1, none⟩ = some y := by simp
theorem BoolSS.congr {w : World} {v : Value} {N : Net} {f g : Nat → Nat → Bool} (h : BoolSS w v N f) (he : ∀ u i, u < N.ends.length → i < (gr N.ends u).length → f u i = g u i) : BoolSS w v N g := by
  obtain ⟨a, b, o, c, h1, h2, h3, h4, h5⟩ := h
  refine ⟨a, b, o, c, h1, h2, h3, h4, fun u hu => ?_⟩
  obtain ⟨x, hx, a', b', o', c', k1, k2, k3, k4, k5⟩ := h5 u hu
  exact ⟨x, hx, a', b', o', c', k1, k2, k3, k4, fun i hi => by rw [← he u i hu hi]; exact k5 i hi⟩

set_option maxHeartbeats 1600000 in
set_option maxRecDepth 100000 in
theorem specRemoveEdge_any {w : World} {v : Value} {N : Net} (x y : Int) (h : NetAt w v N) :
    Calls Try.prog 51 #[v, .int .i64 x, .int .i64 y] w fun e w' => ∃ v' bs, e = .returned (.tuple #[v', .bool (dec (RemB N x y))]) ∧ Ext w w' ∧ OwnNet w' v' (remAns N x y) bs ∧ Fresh w bs := by
  have HN := Lib.hid h
  obtain ⟨w0, v1, v2, rfl, hE, hI, hP⟩ := h
  obtain ⟨ea, eb, eq, ec, rfl, hea, hel, hem, hec⟩ := hE
  unfold maxLen at hem
  clear hI hP
  by_cases hb : RemB N x y
  · have G := Lib.hid (dec_true (p := OtherOK N x y) hb)
    have D := Lib.hid (dec_true hb)
    have E := Lib.hid (remAns_t hb)
    obtain ⟨hg, p1', p2', p3', p4'⟩ := hb
    obtain ⟨xx, rfl⟩ := Int.eq_ofNat_of_zero_le p1'
    obtain ⟨yy, rfl⟩ := Int.eq_ofNat_of_zero_le p3'
    rw [Int.toNat_natCast] at p4'
    have hx : xx < N.ends.length := by omega
    have hy : yy < (gr N.ends xx).length := by omega
    have h1 : 1 ≤ N.ends.length := hg.1.1
    have h40 := hg.1.2
    obtain rfl := hea (by omega)
    obtain ⟨z, hz, ra, rb, rq, rc, rfl, hra, hrl, hrm, hrc⟩ := hec xx hx
    unfold maxLen at hrm
    obtain rfl := hra (by omega)
    obtain ⟨hq1, hq2, _⟩ := hrc yy hy
    obtain ⟨⟨g1, g2, g3, g4⟩, _⟩ := (hg.2.1 xx hx).2 yy hy
    obtain ⟨en, hen⟩ := Int.eq_ofNat_of_zero_le g1
    obtain ⟨ep, hep⟩ := Int.eq_ofNat_of_zero_le g3
    rw [hen] at hq1 g2 g4
    rw [hep] at hq2 g4
    rw [Int.toNat_natCast] at g4
    have he : en < N.ends.length := by omega
    have hp : ep < (gr N.ends en).length := by omega
    have HS := Lib.hid (fun (u i : Nat) (hu : u < N.ends.length) (hi : i < (gr N.ends u).length) => st0_set hg hx hy hen hep hu hi)
    have GG := Lib.hid hg
    have HZ := Lib.hid (And.intro hz (And.intro hq1 hq2))
    have HX := Lib.hid (boxed2_ext w (.slice (some ⟨eb, eq, none⟩) N.ends.length ec) v1 v2)
    have HR := Lib.hid (boxed2_row w (.slice (some ⟨eb, eq, none⟩) N.ends.length ec) v1 v2)
    have HQ := Lib.hid (boxed2_res w (.slice (some ⟨eb, eq, none⟩) N.ends.length ec) v1 v2)
    clear hec hea hz hra hrc hq1 hq2 g1 g2 g3 g4 hen hep hg p1' p2' p3' p4'
    go_enter Try.func51, Try.ntmps51
    go_wp2_with fail
    (with_reducible refine (nePort_any _ _ (HN.out.ext HX.out)).mono ?_)
    rintro e w1 ⟨rfl, hw⟩
    rw [G.out]
    have K1 := Lib.hid (HX.out.trans' hw)
    have R1 := Lib.hid (row_ext HR.out hw)
    have Q1 := Lib.hid (row_ext HQ.out hw)
    obtain ⟨p0, p1, p2, -, -, -⟩ := row3_facts R1.out
    clear hw
    go_wp2_with fail
    (with_reducible refine (neAll_any (HN.out.ext K1.out) GG.out).mono ?_)
    rintro e w2 ⟨v', q, rfl, hA⟩
    obtain ⟨b, c, rfl, hbc, hcm, hcell⟩ := hA.keeps.form h1
    unfold maxLen at hcm
    have hge := hA.ge
    have hqs : q xx < w2.heap.size := (hA.rows xx hx).lt
    have gx := hA.ge xx hx
    have ge' := hA.ge en he
    have KA := Lib.hid (hA.keeps.set (i := yy) hx)
    have r1 := (hA.rows xx hx).cell hy
    have r2 := (hA.rows xx hx).frozen yy
    have c1 := hcell xx hx
    have K2 : Hid (Ext w (w2.setCell ⟨q xx, yy, none⟩ (.bool false)) ∧ Ext w1 (w2.setCell ⟨q xx, yy, none⟩ (.bool false))) := ⟨(K1.out.trans' hA.ext).store (by have := K1.out.size; show w.heap.size ≤ q xx; omega) _, hA.ext.store gx _⟩
    have GE := Lib.hid (And.intro ge' K1.out.size)
    clear p0 p1 p2 hA hge gx ge' hqs hcell
    obtain ⟨b', c', hv, -, -, hcell⟩ := KA.out.form h1
    obtain ⟨rfl, rfl⟩ : b = b' ∧ c = c' := by simpa using hv
    have k1 := hcell en he
    have z1 := K2.out.1.cell' HZ.out.1
    have z2 := K2.out.1.cell' HZ.out.2.1
    have z3 := K2.out.1.cell' HZ.out.2.2
    obtain ⟨p0, p1, p2, -, -, -⟩ := row3_facts (row_ext R1.out K2.out.2)
    clear hcell hv
    go_upto_region 6 with fail
    clear c1 r1 r2 z1 z2 z3 p0 p1 p2
    have hxe := (Ext.rfl' (w2.setCell ⟨q xx, yy, none⟩ (.bool false))).alloc' (.cells #[.int .i64 en, .int .i64 ep] 44)
    have KB := KA.out.ext hxe
    have t1 := (KB.rows en he).cell hp
    have t2 := (KB.rows en he).frozen ep
    have k1 := hxe.cell' k1
    have hsz : (w2.setCell ⟨q xx, yy, none⟩ (.bool false)).heap.size = w2.heap.size := by simp [World.setCell]
    obtain ⟨e0, e1⟩ := duo_new (w2.setCell ⟨q xx, yy, none⟩ (.bool false)) (.int .i64 en) (.int .i64 ep) 44
    rw [hsz] at e0 e1
    clear hsz
    have KC := Lib.hid ((KB.set (i := ep) he).ext (Ext.rfl' _).drew')
    have KX : Hid (Ext w1 ((((w2.setCell ⟨q xx, yy, none⟩ (.bool false)).alloc (.cells #[.int .i64 en, .int .i64 ep] 44))).setCell ⟨q en, ep, none⟩ (.bool false)).drew) := ((K2.out.2.trans' hxe).store (by show w1.heap.size ≤ q en; exact GE.out.1) _).drew'
    clear hxe KB
    go_region
    clear t1 t2 k1 e0 e1
    revert KC KX
    generalize (((w2.setCell ⟨q xx, yy, none⟩ (.bool false)).alloc (.cells #[.int .i64 en, .int .i64 ep] 44)).setCell ⟨q en, ep, none⟩ (.bool false)).drew = W5
    intro KC KX
    have HK := Lib.hid ((KC.out.reads GG.out).congr HS.out)
    have K5 := Lib.hid (K1.out.trans' KX.out)
    have Q5 := Lib.hid (row_ext Q1.out KX.out)
    obtain ⟨p0, p1, p2, -, -, -⟩ := row3_facts (row_ext R1.out KX.out)
    go_wp2_with fail
    (with_reducible refine (neCut_any (HN.out.ext K5.out) HK.out GG.out).mono ?_)
    rintro e w6 ⟨z', bs, rfl, hw, ho, hf⟩
    obtain ⟨a0, c0, a1, c1, a2, c2, rfl⟩ := ho.agg
    have K3 := Lib.hid (K5.out.trans' hw)
    have O3 := Lib.hid ho
    have N3 := Lib.hid hf.1
    have B3 := Lib.hid (show ∀ b ∈ bs, w.heap.size + 2 ≤ b from fun b hb => by have := hf.2 b hb; have := Q5.out.lt; omega)
    obtain ⟨u0, u1, u2, s0, s1, s2⟩ := row3_facts (row_ext Q5.out hw)
    clear hw ho hf p0 p1 p2
    go_wp2
    refine bodyPost_ret (v := .tuple #[.agg #[.slice a0 (cutNet N (st0 N xx yy)).ends.length c0, .slice a1 (cutNet N (st0 N xx yy)).ids.length c1, .slice a2 (cutNet N (st0 N xx yy)).inputs.length c2], .bool true]) (by simp [results, Try.results51, go_sem, u0, u1, u2]) rfl ?_
    have hc := close_net K3.out O3.out N3.out B3.out
    exact ⟨_, bs, ret_net D.out.symm, hc.1, by rw [E.out]; exact hc.2.1, hc.2.2⟩
  · have D := Lib.hid (dec_false hb)
    have G := Lib.hid (dec_false (p := OtherOK N x y) hb)
    have E := Lib.hid (remAns_f hb)
    have HX := Lib.hid (boxed2_ext w (.slice ea N.ends.length ec) v1 v2)
    have HQ := Lib.hid (boxed2_res w (.slice ea N.ends.length ec) v1 v2)
    clear hb hea hec
    go_enter Try.func51, Try.ntmps51
    go_wp2_with fail
    (with_reducible refine (nePort_any _ _ (HN.out.ext HX.out)).mono ?_)
    rintro e w1 ⟨rfl, hw⟩
    rw [G.out]
    have K1 := Lib.hid (HX.out.trans' hw)
    obtain ⟨q0, q1, q2, t0, t1, t2⟩ := row3_facts (row_ext HQ.out hw)
    clear hw
    go_wp2
    refine bodyPost_ret (v := .tuple #[znet, .bool false]) (by simp [results, Try.results51, go_sem, q0, q1, q2, znet]) rfl ⟨_, [], ret_net D.out.symm, store3_ext K1.out (by omega) _ _ _, by rw [E.out]; exact own_zero _, Fresh.nil _⟩
end Go.Proofs.Ytndgbildkeglfaa

/- The walk of FnExactRemoveEdge: whatever the arguments, the law answers true and changes nothing that was there. No condition but that the answer is short. -/
namespace Go.Proofs.Ytndgbildkeglfaa
open Go.RowKit

set_option maxHeartbeats 6400000 in
set_option maxRecDepth 100000 in
theorem walk_RemoveEdge_of {w : World} {v0 : Value} {N0 : Net} (n1 : Int) (n2 : Int) (h0 : NetAt w v0 N0) (hll : (remAns N0 n1 n2).small) :
    Calls Try.prog 13 #[v0, .int .i64 n1, .int .i64 n2] w fun e w' => e = .returned (.bool true) ∧ Ext w w' := by
  have HLL := Lib.hid hll
  have HQ := Lib.hid (netLast_bound hll)
  have HN0 := Lib.hid h0
  obtain ⟨v00, v01, v02, rfl, hE, hI, hP⟩ := h0
  clear hE hI hP
  have K0 := Lib.hid (boxed_ext w v00 v01 v02 25)
  have Rp0_0 := Lib.hid (show World.rowIs (boxed w v00 v01 v02 25) w.heap.size 25 3 (tri v00 v01 v02) from boxed_row w v00 v01 v02 25)
  have hbb : (dec (RemB N0 n1 n2) != dec (RemB N0 n1 n2)) = false := by simp
  go_enter Try.func13, Try.ntmps13
  go_wp2_with fail
  (with_reducible refine (szNetwork_any _ (HN0.out.ext K0.out) (by omega) (by omega)).mono ?_)
  rintro e w1 ⟨r0, rfl, hw, hr00, hr10, hr2⟩
  have Z0 := Lib.hid (show w.heap.size + 1 ≤ w1.heap.size from by have := hw.size; simpa using this)
  have K0_1 := Lib.hid (K0.out.trans' hw)
  have Rp0_1 := Lib.hid (row_ext Rp0_0.out hw)
  have S0 := Lib.hid hr2
  clear hw hr2
  obtain ⟨c10, c11, c12, -, -, -⟩ := row3_facts Rp0_1.out
  by_cases hneg0 : r0 < 0
  case pos =>
    go_wp2
    go_ret
    exact ⟨rfl, K0_1.out⟩
  case neg =>
    have hs0 := Lib.hid (S0.out (by omega))
    clear c10 c11 c12
    obtain ⟨c20, c21, c22, -, -, -⟩ := row3_facts Rp0_1.out
    go_wp2_with fail
    (with_reducible refine (toNetwork_own (HN0.out.ext K0_1.out) hs0.out).mono ?_)
    rintro e w2 ⟨xy0, by0, rfl, hw, ho, hf⟩
    have Z1 := Lib.hid (show w1.heap.size ≤ w2.heap.size from by have := hw.size; simpa using this)
    have K0_2 := Lib.hid (K0_1.out.trans' hw)
    have Rp0_2 := Lib.hid (row_ext Rp0_1.out hw)
    have Oy0_2 := Lib.hid ho.read
    clear hw ho hf
    clear c20 c21 c22
    obtain ⟨c30, c31, c32, -, -, -⟩ := row3_facts Rp0_2.out
    clear c30 c31 c32
    go_wp2_with fail
    (with_reducible refine (specRemoveEdge_any n1 n2 Oy0_2.out).mono ?_)
    rintro e w3 ⟨xw, bw, rfl, hw, ho, hf⟩
    have Z2 := Lib.hid (show w2.heap.size ≤ w3.heap.size from by have := hw.size; simpa using this)
    have LOw := Lib.hid (show ∀ b ∈ bw, w2.heap.size ≤ b from fun b hb => by have := hf.2 b hb; simpa using this)
    have HIw := Lib.hid (show ∀ b ∈ bw, b < w3.heap.size from ho.lt)
    have NDw : Hid bw.Nodup := hf.1
    obtain ⟨wa0, wc0, wa1, wc1, wa2, wc2, rfl⟩ := ho.agg
    have K0_3 := Lib.hid (K0_2.out.trans' hw)
    have Rp0_3 := Lib.hid (row_ext Rp0_2.out hw)
    have Oy0_3 := Lib.hid (Oy0_2.out.ext hw)
    have Ow_3 := Lib.hid ho
    clear hw ho hf
    have hA := (Ext.rfl' w3).alloc' (.cells #[.slice wa0 (remAns N0 n1 n2).ends.length wc0, .slice wa1 (remAns N0 n1 n2).ids.length wc1, .slice wa2 (remAns N0 n1 n2).inputs.length wc2] 30)
    have K0_4 := Lib.hid (K0_3.out.trans' hA)
    have Rp0_4 := Lib.hid (row_ext Rp0_3.out hA)
    have Ow_4 := Lib.hid (Ow_3.out.ext hA)
    have Oy0_4 := Lib.hid (Oy0_3.out.ext hA)
    have Rw_4 := Lib.hid (row3_made w3 (.slice wa0 (remAns N0 n1 n2).ends.length wc0) (.slice wa1 (remAns N0 n1 n2).ids.length wc1) (.slice wa2 (remAns N0 n1 n2).inputs.length wc2) 30)
    clear hA
    obtain ⟨c40, c41, c42, -, -, -⟩ := row3_facts Rp0_4.out
    go_wp2_with fail
    (with_reducible refine (toNetwork_own (HN0.out.ext K0_4.out) hs0.out).mono ?_)
    rintro e w4 ⟨xx0, bx0, rfl, hw, ho, hf⟩
    have Z3 := Lib.hid (show w3.heap.size + 1 ≤ w4.heap.size from by have := hw.size; simpa using this)
    have LOx0 := Lib.hid (show ∀ b ∈ bx0, w3.heap.size + 1 ≤ b from fun b hb => by have := hf.2 b hb; simpa using this)
    have HIx0 := Lib.hid (show ∀ b ∈ bx0, b < w4.heap.size from ho.lt)
    have NDx0 : Hid bx0.Nodup := hf.1
    obtain ⟨x0a0, x0c0, x0a1, x0c1, x0a2, x0c2, rfl⟩ := ho.agg
    have K0_5 := Lib.hid (K0_4.out.trans' hw)
    have Rp0_5 := Lib.hid (row_ext Rp0_4.out hw)
    have Rw_5 := Lib.hid (row_ext Rw_4.out hw)
    have Ow_5 := Lib.hid (Ow_4.out.ext hw)
    have Ox0_5 := Lib.hid ho
    clear hw ho hf
    clear c40 c41 c42
    obtain ⟨c50, c51, c52, -, -, -⟩ := row3_facts Rp0_5.out
    have hA := (Ext.rfl' w4).alloc' (.cells #[.slice x0a0 N0.ends.length x0c0, .slice x0a1 N0.ids.length x0c1, .slice x0a2 N0.inputs.length x0c2] 30)
    have K0_6 := Lib.hid (K0_5.out.trans' hA)
    have Rp0_6 := Lib.hid (row_ext Rp0_5.out hA)
    have Rw_6 := Lib.hid (row_ext Rw_5.out hA)
    have Ow_6 := Lib.hid (Ow_5.out.ext hA)
    have Ox0_6 := Lib.hid (Ox0_5.out.ext hA)
    have Rx0_6 := Lib.hid (row3_made w4 (.slice x0a0 N0.ends.length x0c0) (.slice x0a1 N0.ids.length x0c1) (.slice x0a2 N0.inputs.length x0c2) 30)
    clear hA
    clear c50 c51 c52
    obtain ⟨c60, c61, c62, -, -, -⟩ := row3_facts Rp0_6.out
    clear c60 c61 c62
    obtain ⟨c70, c71, c72, -, -, -⟩ := row3_facts Rx0_6.out
    go_wp2_with fail
    (with_reducible refine (removeEdge_any n1 n2 Ox0_6.out.read).mono ?_)
    rintro e w5 ⟨xg, bg, rfl, hw, ho, hf⟩
    have Z4 := Lib.hid (show w4.heap.size + 1 ≤ w5.heap.size from by have := hw.size; simpa using this)
    have LOg := Lib.hid (show ∀ b ∈ bg, w4.heap.size + 1 ≤ b from fun b hb => by have := hf.2 b hb; simpa using this)
    have HIg := Lib.hid (show ∀ b ∈ bg, b < w5.heap.size from ho.lt)
    have NDg : Hid bg.Nodup := hf.1
    obtain ⟨ga0, gc0, ga1, gc1, ga2, gc2, rfl⟩ := ho.agg
    have K0_7 := Lib.hid (K0_6.out.trans' hw)
    have Rp0_7 := Lib.hid (row_ext Rp0_6.out hw)
    have Rw_7 := Lib.hid (row_ext Rw_6.out hw)
    have Rx0_7 := Lib.hid (row_ext Rx0_6.out hw)
    have Ow_7 := Lib.hid (Ow_6.out.ext hw)
    have Ox0_7 := Lib.hid (Ox0_6.out.ext hw)
    have Og_7 := Lib.hid ho
    clear hw ho hf
    have hA := (Ext.rfl' w5).alloc' (.cells #[.slice ga0 (remAns N0 n1 n2).ends.length gc0, .slice ga1 (remAns N0 n1 n2).ids.length gc1, .slice ga2 (remAns N0 n1 n2).inputs.length gc2] 30)
    have K0_8 := Lib.hid (K0_7.out.trans' hA)
    have Rp0_8 := Lib.hid (row_ext Rp0_7.out hA)
    have Rw_8 := Lib.hid (row_ext Rw_7.out hA)
    have Rx0_8 := Lib.hid (row_ext Rx0_7.out hA)
    have Ow_8 := Lib.hid (Ow_7.out.ext hA)
    have Ox0_8 := Lib.hid (Ox0_7.out.ext hA)
    have Og_8 := Lib.hid (Og_7.out.ext hA)
    have Rg_8 := Lib.hid (row3_made w5 (.slice ga0 (remAns N0 n1 n2).ends.length gc0) (.slice ga1 (remAns N0 n1 n2).ids.length gc1) (.slice ga2 (remAns N0 n1 n2).inputs.length gc2) 30)
    clear hA
    clear c70 c71 c72
    obtain ⟨c80, c81, c82, -, -, -⟩ := row3_facts Rg_8.out
    obtain ⟨c90, c91, c92, -, -, -⟩ := row3_facts Rw_8.out
    go_wp2_with fail
    (with_reducible refine (eqNetwork_same Og_8.out.read Ow_8.out.read).mono ?_)
    rintro e w6 ⟨rfl, hw⟩
    have Z5 := Lib.hid (show w5.heap.size + 1 ≤ w6.heap.size from by have := hw.size; simpa using this)
    have K0_9 := Lib.hid (K0_8.out.trans' hw)
    have Rp0_9 := Lib.hid (row_ext Rp0_8.out hw)
    have Rw_9 := Lib.hid (row_ext Rw_8.out hw)
    have Rx0_9 := Lib.hid (row_ext Rx0_8.out hw)
    have Rg_9 := Lib.hid (row_ext Rg_8.out hw)
    have Ow_9 := Lib.hid (Ow_8.out.ext hw)
    have Ox0_9 := Lib.hid (Ox0_8.out.ext hw)
    have Og_9 := Lib.hid (Og_8.out.ext hw)
    clear hw
    clear c80 c81 c82 c90 c91 c92
    obtain ⟨c100, c101, c102, -, -, -⟩ := row3_facts Rp0_9.out
    obtain ⟨c110, c111, c112, -, -, -⟩ := row3_facts Rx0_9.out
    go_wp2_with fail
    have Hd := Lib.hid (Ext.rfl' w6).drew'
    go_region_held3 (fun w' => w'.cell? ⟨w.heap.size, 0, none⟩ = some v00 ∧ w'.cell? ⟨w.heap.size, 1, none⟩ = some v01 ∧ w'.cell? ⟨w.heap.size, 2, none⟩ = some v02 ∧ w'.cell? ⟨w4.heap.size, 0, none⟩ = some (.slice x0a0 N0.ends.length x0c0) ∧ w'.cell? ⟨w4.heap.size, 1, none⟩ = some (.slice x0a1 N0.ids.length x0c1) ∧ w'.cell? ⟨w4.heap.size, 2, none⟩ = some (.slice x0a2 N0.inputs.length x0c2) ∧ Hid (Ext w6 w')) (first | exact ⟨c100, c101, c102, c110, c111, c112, Hd⟩ | exact ⟨hx.cell' (Hd.out.cell' c100), hx.cell' (Hd.out.cell' c101), hx.cell' (Hd.out.cell' c102), hx.cell' (Hd.out.cell' c110), hx.cell' (Hd.out.cell' c111), hx.cell' (Hd.out.cell' c112), Hd.out.trans' hx⟩ | exact ⟨hy.cell' (hx.cell' (Hd.out.cell' c100)), hy.cell' (hx.cell' (Hd.out.cell' c101)), hy.cell' (hx.cell' (Hd.out.cell' c102)), hy.cell' (hx.cell' (Hd.out.cell' c110)), hy.cell' (hx.cell' (Hd.out.cell' c111)), hy.cell' (hx.cell' (Hd.out.cell' c112)), (Hd.out.trans' hx).trans' hy⟩)
      (first | (go_at_call 21; (with_reducible refine (toNetwork_own (HN0.out.ext (K0_9.out.trans' Hd.out)) hs0.out).mono ?_); rintro e wa0 ⟨z, bz, rfl, hx, hoz, hfz⟩; have OZ := Lib.hid hoz.read; have HXZ := Lib.hid hx; clear hoz hfz) | (go_at_call 23; (with_reducible refine (eqNetwork_same (Ox0_9.out.read.ext (Hd.out.trans' HXZ.out)) OZ.out).mono ?_); rintro e wb0 ⟨rfl, hy⟩))
    rename_i hh
    have HY := hh.2.2.2.2.2.2
    clear hh hx hy HXZ OZ
    clear c100 c101 c102 c110 c111 c112
    clear Hd
    have Z6 := Lib.hid (show w6.heap.size ≤ wb0.heap.size from by have := HY.out.size; simpa using this)
    have K0_10 := Lib.hid (K0_9.out.trans' HY.out)
    have Rp0_10 := Lib.hid (row_ext Rp0_9.out HY.out)
    have Rw_10 := Lib.hid (row_ext Rw_9.out HY.out)
    have Rx0_10 := Lib.hid (row_ext Rx0_9.out HY.out)
    have Rg_10 := Lib.hid (row_ext Rg_9.out HY.out)
    have Ow_10 := Lib.hid (Ow_9.out.ext HY.out)
    have Ox0_10 := Lib.hid (Ox0_9.out.ext HY.out)
    have Og_10 := Lib.hid (Og_9.out.ext HY.out)
    clear HY
    obtain ⟨c120, c121, c122, -, -, -⟩ := row3_facts Rx0_10.out
    go_wp2_with fail
    (with_reducible refine (markNetwork_own Ox0_10.out NDx0.out hs0.out).mono ?_)
    obtain ⟨hq00, hq01⟩ := netLast_bound hs0.out
    rintro e w7 ⟨rfl, hc, hm⟩
    have Z7 := Lib.hid (show wb0.heap.size ≤ w7.heap.size from by have := hc.size; simpa using this)
    have K0_11 := Lib.hid (Chg.ext K0_10.out hc fun b hb => by have := LOx0.out b hb; have := Z0.out; have := Z1.out; have := Z2.out; have := Z3.out; have := Z4.out; have := Z5.out; have := Z6.out; have := Z7.out; omega)
    have Rp0_11 := Lib.hid (Rp0_10.out.of_block (hc.block _ Rp0_10.out.lt fun hb => by have := LOx0.out _ hb; have := HIx0.out _ hb; have := Z0.out; have := Z1.out; have := Z2.out; have := Z3.out; have := Z4.out; have := Z5.out; have := Z6.out; have := Z7.out; omega))
    have Rw_11 := Lib.hid (Rw_10.out.of_block (hc.block _ Rw_10.out.lt fun hb => by have := LOx0.out _ hb; have := HIx0.out _ hb; have := Z0.out; have := Z1.out; have := Z2.out; have := Z3.out; have := Z4.out; have := Z5.out; have := Z6.out; have := Z7.out; omega))
    have Rx0_11 := Lib.hid (Rx0_10.out.of_block (hc.block _ Rx0_10.out.lt fun hb => by have := LOx0.out _ hb; have := HIx0.out _ hb; have := Z0.out; have := Z1.out; have := Z2.out; have := Z3.out; have := Z4.out; have := Z5.out; have := Z6.out; have := Z7.out; omega))
    have Rg_11 := Lib.hid (Rg_10.out.of_block (hc.block _ Rg_10.out.lt fun hb => by have := LOx0.out _ hb; have := HIx0.out _ hb; have := Z0.out; have := Z1.out; have := Z2.out; have := Z3.out; have := Z4.out; have := Z5.out; have := Z6.out; have := Z7.out; omega))
    have Ow_11 := Lib.hid (Ow_10.out.keep fun b hb => hc.block b (Ow_10.out.lt b hb) fun hb' => by have := LOx0.out b hb'; have := HIx0.out b hb'; have := LOw.out b hb; have := HIw.out b hb; have := Z0.out; have := Z1.out; have := Z2.out; have := Z3.out; have := Z4.out; have := Z5.out; have := Z6.out; have := Z7.out; omega)
    have Og_11 := Lib.hid (Og_10.out.keep fun b hb => hc.block b (Og_10.out.lt b hb) fun hb' => by have := LOx0.out b hb'; have := HIx0.out b hb'; have := LOg.out b hb; have := HIg.out b hb; have := Z0.out; have := Z1.out; have := Z2.out; have := Z3.out; have := Z4.out; have := Z5.out; have := Z6.out; have := Z7.out; omega)
    clear hc hm
    clear c120 c121 c122
    obtain ⟨c130, c131, c132, -, -, -⟩ := row3_facts Rg_11.out
    obtain ⟨c140, c141, c142, -, -, -⟩ := row3_facts Rw_11.out
    go_wp2_with fail
    (with_reducible refine (eqNetwork_same Og_11.out.read Ow_11.out.read).mono ?_)
    rintro e w8 ⟨rfl, hw⟩
    have Z8 := Lib.hid (show w7.heap.size ≤ w8.heap.size from by have := hw.size; simpa using this)
    have K0_12 := Lib.hid (K0_11.out.trans' hw)
    have Rp0_12 := Lib.hid (row_ext Rp0_11.out hw)
    have Rw_12 := Lib.hid (row_ext Rw_11.out hw)
    have Rg_12 := Lib.hid (row_ext Rg_11.out hw)
    have Ow_12 := Lib.hid (Ow_11.out.ext hw)
    have Og_12 := Lib.hid (Og_11.out.ext hw)
    clear hw
    clear c130 c131 c132 c140 c141 c142
    obtain ⟨c150, c151, c152, -, -, -⟩ := row3_facts Rg_12.out
    go_wp2_with fail
    (with_reducible refine (markNetwork_own Og_12.out NDg.out HLL.out).mono ?_)
    rintro e w9 ⟨rfl, hc, hm⟩
    have Z9 := Lib.hid (show w8.heap.size ≤ w9.heap.size from by have := hc.size; simpa using this)
    have K0_13 := Lib.hid (Chg.ext K0_12.out hc fun b hb => by have := LOg.out b hb; have := Z0.out; have := Z1.out; have := Z2.out; have := Z3.out; have := Z4.out; have := Z5.out; have := Z6.out; have := Z7.out; have := Z8.out; have := Z9.out; omega)
    have Rp0_13 := Lib.hid (Rp0_12.out.of_block (hc.block _ Rp0_12.out.lt fun hb => by have := LOg.out _ hb; have := HIg.out _ hb; have := Z0.out; have := Z1.out; have := Z2.out; have := Z3.out; have := Z4.out; have := Z5.out; have := Z6.out; have := Z7.out; have := Z8.out; have := Z9.out; omega))
    have Rw_13 := Lib.hid (Rw_12.out.of_block (hc.block _ Rw_12.out.lt fun hb => by have := LOg.out _ hb; have := HIg.out _ hb; have := Z0.out; have := Z1.out; have := Z2.out; have := Z3.out; have := Z4.out; have := Z5.out; have := Z6.out; have := Z7.out; have := Z8.out; have := Z9.out; omega))
    have Rg_13 := Lib.hid (Rg_12.out.of_block (hc.block _ Rg_12.out.lt fun hb => by have := LOg.out _ hb; have := HIg.out _ hb; have := Z0.out; have := Z1.out; have := Z2.out; have := Z3.out; have := Z4.out; have := Z5.out; have := Z6.out; have := Z7.out; have := Z8.out; have := Z9.out; omega))
    have Ow_13 := Lib.hid (Ow_12.out.keep fun b hb => hc.block b (Ow_12.out.lt b hb) fun hb' => by have := LOg.out b hb'; have := HIg.out b hb'; have := LOw.out b hb; have := HIw.out b hb; have := Z0.out; have := Z1.out; have := Z2.out; have := Z3.out; have := Z4.out; have := Z5.out; have := Z6.out; have := Z7.out; have := Z8.out; have := Z9.out; omega)
    have Og_13 := Lib.hid hm
    clear hc hm
    clear c150 c151 c152
    obtain ⟨c160, c161, c162, -, -, -⟩ := row3_facts Rg_13.out
    obtain ⟨hq0, _⟩ := HQ.out
    have hqq : (netLast (remAns N0 n1 n2) != netLast (remAns N0 n1 n2)) = false := by simp
    go_wp2_with fail
    (with_reducible refine (heldNetwork_any Og_13.out.read HLL.out).mono ?_)
    rintro e w10 ⟨rfl, hw⟩
    have Z10 := Lib.hid (show w9.heap.size ≤ w10.heap.size from by have := hw.size; simpa using this)
    have K0_14 := Lib.hid (K0_13.out.trans' hw)
    have Rp0_14 := Lib.hid (row_ext Rp0_13.out hw)
    have Rw_14 := Lib.hid (row_ext Rw_13.out hw)
    have Rg_14 := Lib.hid (row_ext Rg_13.out hw)
    have Ow_14 := Lib.hid (Ow_13.out.ext hw)
    have Og_14 := Lib.hid (Og_13.out.ext hw)
    clear hw
    clear c160 c161 c162
    obtain ⟨c170, c171, c172, -, -, -⟩ := row3_facts Rp0_14.out
    go_wp2_with fail
    (with_reducible refine (toNetwork_own (HN0.out.ext K0_14.out) hs0.out).mono ?_)
    rintro e w11 ⟨xu0, bu0, rfl, hw, ho, hf⟩
    have Z11 := Lib.hid (show w10.heap.size ≤ w11.heap.size from by have := hw.size; simpa using this)
    have K0_15 := Lib.hid (K0_14.out.trans' hw)
    have Rp0_15 := Lib.hid (row_ext Rp0_14.out hw)
    have Rw_15 := Lib.hid (row_ext Rw_14.out hw)
    have Rg_15 := Lib.hid (row_ext Rg_14.out hw)
    have Ow_15 := Lib.hid (Ow_14.out.ext hw)
    have Og_15 := Lib.hid (Og_14.out.ext hw)
    have Ou0_15 := Lib.hid ho.read
    clear hw ho hf
    clear c170 c171 c172
    obtain ⟨c180, c181, c182, -, -, -⟩ := row3_facts Rp0_15.out
    clear c180 c181 c182
    go_wp2_with fail
    (with_reducible refine (removeEdge_any n1 n2 Ou0_15.out).mono ?_)
    rintro e w12 ⟨xh, bh, rfl, hw, ho, hf⟩
    have Z12 := Lib.hid (show w11.heap.size ≤ w12.heap.size from by have := hw.size; simpa using this)
    have LOh := Lib.hid (show ∀ b ∈ bh, w11.heap.size ≤ b from fun b hb => by have := hf.2 b hb; simpa using this)
    have HIh := Lib.hid (show ∀ b ∈ bh, b < w12.heap.size from ho.lt)
    have NDh : Hid bh.Nodup := hf.1
    obtain ⟨ha0, hc0, ha1, hc1, ha2, hc2, rfl⟩ := ho.agg
    have K0_16 := Lib.hid (K0_15.out.trans' hw)
    have Rp0_16 := Lib.hid (row_ext Rp0_15.out hw)
    have Rw_16 := Lib.hid (row_ext Rw_15.out hw)
    have Rg_16 := Lib.hid (row_ext Rg_15.out hw)
    have Ow_16 := Lib.hid (Ow_15.out.ext hw)
    have Og_16 := Lib.hid (Og_15.out.ext hw)
    have Ou0_16 := Lib.hid (Ou0_15.out.ext hw)
    have Oh_16 := Lib.hid ho
    clear hw ho hf
    have hA := (Ext.rfl' w12).alloc' (.cells #[.slice ha0 (remAns N0 n1 n2).ends.length hc0, .slice ha1 (remAns N0 n1 n2).ids.length hc1, .slice ha2 (remAns N0 n1 n2).inputs.length hc2] 30)
    have K0_17 := Lib.hid (K0_16.out.trans' hA)
    have Rp0_17 := Lib.hid (row_ext Rp0_16.out hA)
    have Rw_17 := Lib.hid (row_ext Rw_16.out hA)
    have Rg_17 := Lib.hid (row_ext Rg_16.out hA)
    have Ow_17 := Lib.hid (Ow_16.out.ext hA)
    have Og_17 := Lib.hid (Og_16.out.ext hA)
    have Oh_17 := Lib.hid (Oh_16.out.ext hA)
    have Ou0_17 := Lib.hid (Ou0_16.out.ext hA)
    have Rh_17 := Lib.hid (row3_made w12 (.slice ha0 (remAns N0 n1 n2).ends.length hc0) (.slice ha1 (remAns N0 n1 n2).ids.length hc1) (.slice ha2 (remAns N0 n1 n2).inputs.length hc2) 30)
    clear hA
    obtain ⟨c190, c191, c192, -, -, -⟩ := row3_facts Rh_17.out
    obtain ⟨c200, c201, c202, -, -, -⟩ := row3_facts Rw_17.out
    go_wp2_with fail
    (with_reducible refine (eqNetwork_same Oh_17.out.read Ow_17.out.read).mono ?_)
    rintro e w13 ⟨rfl, hw⟩
    have Z13 := Lib.hid (show w12.heap.size + 1 ≤ w13.heap.size from by have := hw.size; simpa using this)
    have K0_18 := Lib.hid (K0_17.out.trans' hw)
    have Rp0_18 := Lib.hid (row_ext Rp0_17.out hw)
    have Rw_18 := Lib.hid (row_ext Rw_17.out hw)
    have Rg_18 := Lib.hid (row_ext Rg_17.out hw)
    have Rh_18 := Lib.hid (row_ext Rh_17.out hw)
    have Ow_18 := Lib.hid (Ow_17.out.ext hw)
    have Og_18 := Lib.hid (Og_17.out.ext hw)
    have Oh_18 := Lib.hid (Oh_17.out.ext hw)
    clear hw
    clear c190 c191 c192 c200 c201 c202
    obtain ⟨c210, c211, c212, -, -, -⟩ := row3_facts Rg_18.out
    obtain ⟨hq0, _⟩ := HQ.out
    have hqq : (netLast (remAns N0 n1 n2) != netLast (remAns N0 n1 n2)) = false := by simp
    go_wp2_with fail
    (with_reducible refine (heldNetwork_any Og_18.out.read HLL.out).mono ?_)
    rintro e w14 ⟨rfl, hw⟩
    have Z14 := Lib.hid (show w13.heap.size ≤ w14.heap.size from by have := hw.size; simpa using this)
    have K0_19 := Lib.hid (K0_18.out.trans' hw)
    have Rp0_19 := Lib.hid (row_ext Rp0_18.out hw)
    have Rw_19 := Lib.hid (row_ext Rw_18.out hw)
    have Rg_19 := Lib.hid (row_ext Rg_18.out hw)
    have Rh_19 := Lib.hid (row_ext Rh_18.out hw)
    have Ow_19 := Lib.hid (Ow_18.out.ext hw)
    have Og_19 := Lib.hid (Og_18.out.ext hw)
    have Oh_19 := Lib.hid (Oh_18.out.ext hw)
    clear hw
    clear c210 c211 c212
    go_wp2
    go_ret
    exact ⟨rfl, K0_19.out⟩
theorem walk_RemoveEdge {w : World} {v0 : Value} {N0 : Net} (n1 : Int) (n2 : Int) (h0 : NetAt w v0 N0) :
    Calls Try.prog 13 #[v0, .int .i64 n1, .int .i64 n2] w fun e w' => e = .returned (.bool true) ∧ Ext w w' := walk_RemoveEdge_of n1 n2 h0 (remAns_small N0 n1 n2)
end Go.Proofs.Ytndgbildkeglfaa
