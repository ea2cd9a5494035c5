/- A range over lists, each made of the one before: listsFrom, noLists. -/
import Derived.Test.YtbddjejpacaglaaGreatDoorMw
namespace Go.Proofs.YtbddjejpacaglaaGreatDoor
open Go.RowKit Go.Shelf
attribute [local go_sem] Oper.semAt_some

/-- What is handed on: a list in memory that is new since the last round (the first one: in blocks F0). -/
def RdL (F0 : List Nat) (n : Nat) (L : Nat → List Int) (k : Nat) (v : Value) (W0 W : World) : Prop :=
  ∃ a q bs, v = .slice a n q ∧ OwnI W (.slice a n q) (L k) bs ∧ ∀ b ∈ bs, (k = 0 → b ∈ F0) ∧ (0 < k → W0.heap.size ≤ b)
theorem RdL.kc {F0 : List Nat} {n : Nat} {L : Nat → List Int} {B k : Nat} {v : Value} {W0 W W' : World} (h : RdL F0 n L k v W0 W) (hk : Kc B W W') : RdL F0 n L k v W0 W' := by
  obtain ⟨a, q, bs, rfl, h1, h2⟩ := h
  exact ⟨a, q, bs, rfl, hk.keepI h1, h2⟩
theorem KpT.keepI' {B : Nat} {X : List Nat} {W W' : World} {v : Value} {l : List Int} {bs : List Nat} (h : KpT B X W W') (ho : OwnI W v l bs) (hb : ∀ b ∈ bs, b ∉ X) : OwnI W' v l bs :=
  ho.keep fun b hm => by
    obtain ⟨cur, hc⟩ := ho.1.typed b hm
    by_cases hB : b < B
    · exact h.low b hB (hb b hm)
    · exact h.ints b _ _ (by omega) hc

/-- The three boxes that the iterator has captured. -/
def CapL (W : World) (c0 c1 c2 : Nat) (first : Value) (m : Int) (g : Value) : Prop :=
  W.rowIs c0 24 1 (fun _ => first) ∧ W.rowIs c1 3 1 (fun _ => .int .i64 m) ∧ W.rowIs c2 104 1 (fun _ => g)
theorem CapL.ext {W W' : World} {c0 c1 c2 : Nat} {first : Value} {m : Int} {g : Value} (h : CapL W c0 c1 c2 first m g) (he : Ext W W') : CapL W' c0 c1 c2 first m g :=
  ⟨row_ext h.1 he, row_ext h.2.1 he, row_ext h.2.2 he⟩
theorem CapL.keep {B : Nat} {X : List Nat} {W W' : World} {c0 c1 c2 : Nat} {first : Value} {m : Int} {g : Value} (h : CapL W c0 c1 c2 first m g) (hk : KpT B X W W') (h0 : c0 < B ∧ c0 ∉ X) (h1 : c1 < B ∧ c1 ∉ X) (h2 : c2 < B ∧ c2 ∉ X) : CapL W' c0 c1 c2 first m g :=
  ⟨h.1.of_block (hk.low _ h0.1 h0.2), h.2.1.of_block (hk.low _ h1.1 h1.2), h.2.2.of_block (hk.low _ h2.1 h2.2)⟩
theorem CapL.facts {W : World} {c0 c1 c2 : Nat} {first : Value} {m : Int} {g : Value} (h : CapL W c0 c1 c2 first m g) :
    W.cell? ⟨c0, 0, none⟩ = some first ∧ W.cell? ⟨c1, 0, none⟩ = some (.int .i64 m) ∧ W.cell? ⟨c2, 0, none⟩ = some g :=
  ⟨h.1.cell (i := 0) (by omega), h.2.1.cell (i := 0) (by omega), h.2.2.cell (i := 0) (by omega)⟩

set_option maxHeartbeats 3200000 in
set_option maxRecDepth 100000 in
theorem noLists_stops (n B : Nat) (X : List Nat) (Rd : Nat → Value → World → World → Prop) (Wst : World) : SeqRun n Tryz.prog 67 #[] B X 0 Rd Wst := by
  intro l J Jx W hW hJ hY hJ0
  refine callsIn_of_wp Tryz.func67 rfl trivial ?_ rfl
  simp only [Tryz.ntmps67, List.size_toArray, List.length_cons, List.length_nil, Nat.reduceAdd, Nat.reduceSub, Array.replicate_succ, Array.replicate_zero, List.push_toArray, List.append_toArray, List.nil_append, List.cons_append]
  gi_wp2
  first | go_end0 | refine bodyPost_ret (results_none rfl _ _ _) rfl ?_
  exact ⟨⟨_, rfl⟩, .inl hJ0⟩

set_option maxHeartbeats 6400000 in
set_option maxRecDepth 100000 in
theorem listsFrom_stops {Wst : World} {gf n N m B c0 c1 c2 : Nat} {X F0 : List Nat} {lb : Array Value} {C : World → Prop} {L : Nat → List Int} {a0 : Option Addr} {q0 : Nat} (hn : 1 ≤ n) (eg : ∀ args w, (callFunc gf args).run Tryz.prog w = .ok (.enter gf args) w)
    (hC : C Wst) (hCe : ∀ W W', C W → Ext W W' → C W') (hCk : ∀ W W', C W → KpT B X W W' → C W') (hL : ∀ k, (L k).length = N) (hm : m ≤ 2001)
    (hstep : ∀ (k : Nat) (W : World) (v : Value) (bs : List Nat), k < m → C W → OwnI W v (L k) bs → Calls Tryz.prog gf (#[.int .i64 ((k : Int) + 1), v] ++ lb) W fun e W' => ∃ v' bs', e = .returned v' ∧ Ext W W' ∧ OwnI W' v' (L (k + 1)) bs' ∧ Fresh W bs')
    (hc : CapL Wst c0 c1 c2 (.slice a0 N q0) (m : Int) (.func (.func gf) #[] lb)) (h0 : OwnI Wst (.slice a0 N q0) (L 0) F0) (hF : ∀ b ∈ F0, b ∉ X)
    (hB : B ≤ Wst.heap.size) (hX : ∀ b ∈ X, b < B) (h1 : c0 < B ∧ c0 ∉ X) (h2 : c1 < B ∧ c1 ∉ X) (h3 : c2 < B ∧ c2 ∉ X) :
    SeqRun n Tryz.prog 86 #[.pointer (some ⟨c0, 0, none⟩), .pointer (some ⟨c1, 0, none⟩), .pointer (some ⟨c2, 0, none⟩)] B X (m + 1) (RdL F0 N L) Wst := by
  intro l J Jx W hW hJ hY hJ0
  have HC := Lib.hid (hCe _ _ hC hW)
  have HCe := Lib.hid hCe
  have HCk := Lib.hid hCk
  have HL := Lib.hid hL
  have HS := Lib.hid hstep
  have CW := Lib.hid (hc.ext hW)
  have H0 := Lib.hid (h0.ext hW)
  have HF := Lib.hid hF
  have BW := Lib.hid (Nat.le_trans hB hW.size)
  have HX := Lib.hid hX
  have HY := Lib.hid hY
  have HJ := Lib.hid hJ
  have J0 := Lib.hid hJ0
  have H1 := Lib.hid h1
  have H2 := Lib.hid h2
  have H3 := Lib.hid h3
  have EG := Lib.hid eg
  clear hC hCe hCk hL hstep hc h0 hF hB hX hY hJ hJ0 h1 h2 h3
  obtain ⟨p0, p1, p2⟩ := CW.out.facts
  refine callsIn_of_wp Tryz.func86 rfl trivial ?_ rfl
  simp only [Tryz.ntmps86, List.size_toArray, List.length_cons, List.length_nil, Nat.reduceAdd, Nat.reduceSub, Array.replicate_succ, Array.replicate_zero, List.push_toArray, List.append_toArray, List.nil_append, List.cons_append]
  gi_wp2
  gi_loopw [5, 6] (fun s i wr => ∃ (k : Nat) (sa : Option Addr) (sq : Nat) (bs : List Nat) (W0 : World), k ≤ m ∧ i = .int .i64 ((k : Int) + 1) ∧ s = .slice sa N sq ∧ Hid (J k W0 ∧ Ext W0 wr ∧ OwnI wr (.slice sa N sq) (L k) bs ∧ (∀ b ∈ bs, (k = 0 → b ∈ F0) ∧ (0 < k → W0.heap.size ≤ b)) ∧ B ≤ W0.heap.size ∧ C wr ∧ CapL wr c0 c1 c2 (.slice a0 N q0) (m : Int) (.func (.func gf) #[] lb))) (fun _ i _ => m + 2 - (intOf i).toNat)
  case atStart => exact ⟨0, a0, q0, F0, W, Nat.zero_le _, rfl, rfl, J0.out, Ext.rfl' _, H0.out, fun b hb => ⟨fun _ => hb, fun h => absurd h (by omega)⟩, BW.out, HC.out, CW.out⟩
  case round =>
    obtain ⟨k, sa, sq, bs, W0, hk, rfl, rfl, Hr⟩ := hrel
    obtain ⟨fn, tmps, assign, body, hy, hR⟩ := HY.out k (.slice sa N sq) W0 wr (by omega) Hr.out.1 Hr.out.2.1 ⟨sa, sq, bs, rfl, Hr.out.2.2.1, Hr.out.2.2.2.1⟩
    have hnx : ∀ b ∈ bs, b ∉ X := fun b hb hx => by
      have h4 := Hr.out.2.2.2.1 b hb
      have h5 := Hr.out.2.2.2.2.1
      have h6 := HX.out b hx
      rcases Nat.eq_zero_or_pos k with h | h
      · exact HF.out b (h4.1 h) hx
      · have := h4.2 h; omega
    have HNX := Lib.hid hnx
    have HRR := Lib.hid hR
    clear hR hnx
    clear p0 p1 p2
    obtain ⟨p0, p1, p2⟩ := Hr.out.2.2.2.2.2.2.facts
    clear p0 p1 p2
    have hyv := hy
    rw [show (k : Int) = ((k : Int) + 1 - 1) by omega] at hyv
    by_cases hlt : k < m
    · have hdl : decide (((k : Int) + 1) ≤ (m : Int)) = true := decide_eq_true (by omega)
      gi_wp2_with fail
      refine HRR.out.mono ?_
      rintro e W3 (⟨rfl, hJ3, hk3⟩ | ⟨rfl, hJx3⟩)
      · obtain ⟨-, e01, ho, hb, hb0, hcc, hcap⟩ := Hr.out
        have C3 := Lib.hid (hcap.keep hk3 H1.out H2.out H3.out)
        have O3 := Lib.hid (hk3.keepI' ho HNX.out)
        have D3 := Lib.hid (HCk.out _ _ hcc hk3)
        have J3 := Lib.hid hJ3
        have B3 := Lib.hid (show B ≤ W3.heap.size from Nat.le_trans hb0 (Nat.le_trans e01.size hk3.size))
        clear e01 ho hb hb0 hcc hcap hJ3 hk3
        obtain ⟨p0, p1, p2⟩ := C3.out.facts
        gi_wp2_with fail
        refine ⟨trivial, ?_⟩
        (with_reducible refine (callsIn_wide.2 (HS.out k W3 _ _ hlt D3.out O3.out)).mono ?_)
        rintro e w4 ⟨sv', bs', rfl, hx, ho, hf⟩
        obtain ⟨sa', -, -, sq', rfl, -⟩ := ho.read
        rw [HL.out] at ho ⊢
        have E4 := Lib.hid hx
        have O4 := Lib.hid ho
        have F4 := Lib.hid hf
        have C4 := Lib.hid (C3.out.ext hx)
        have D4 := Lib.hid (HCe.out _ _ D3.out hx)
        clear hx ho hf p0 p1 p2
        gi_wp2
        go_roundw
        case rel => exact ⟨k + 1, sa', sq', bs', W3, by omega, by go_num, rfl, J3.out, E4.out, O4.out, fun b hb => ⟨fun h => absurd h (by omega), fun _ => F4.out.2 b hb⟩, B3.out, D4.out, C4.out⟩
        case measure => simp [intOf]; omega
      · have JX := Lib.hid hJx3
        clear hJx3
        gi_wp2
        first | go_end0 | refine bodyPost_ret (results_none rfl _ _ _) rfl ?_
        exact ⟨⟨_, rfl⟩, .inr ⟨k, by omega, JX.out⟩⟩
    · obtain rfl : k = m := by omega
      have hdl : decide (((k : Int) + 1) ≤ (k : Int)) = false := decide_eq_false (by omega)
      gi_wp2_with fail
      refine HRR.out.mono ?_
      rintro e W3 (⟨rfl, hJ3, hk3⟩ | ⟨rfl, hJx3⟩)
      · obtain ⟨-, e01, ho, hb, hb0, hcc, hcap⟩ := Hr.out
        have C3 := Lib.hid (hcap.keep hk3 H1.out H2.out H3.out)
        have J3 := Lib.hid hJ3
        clear e01 ho hb hb0 hcc hcap hJ3 hk3
        obtain ⟨p0, p1, p2⟩ := C3.out.facts
        gi_wp2
        first | go_end0 | refine bodyPost_ret (results_none rfl _ _ _) rfl ?_
        exact ⟨⟨_, rfl⟩, .inl J3.out⟩
      · have JX := Lib.hid hJx3
        clear hJx3
        gi_wp2
        first | go_end0 | refine bodyPost_ret (results_none rfl _ _ _) rfl ?_
        exact ⟨⟨_, rfl⟩, .inr ⟨k, by omega, JX.out⟩⟩

theorem row1_madeL (w : World) (x : Value) (t : Nat) : (w.alloc (.cells #[x] t)).rowIs w.heap.size t 1 (fun _ => x) :=
  World.rowIs_alloc w #[x] t _ fun i hi => by
    have h : i < 1 := hi
    match i, h with
    | 0, _ => rfl
set_option maxHeartbeats 1600000 in
set_option maxRecDepth 100000 in
set_option maxHeartbeats 1600000 in
set_option maxRecDepth 100000 in
theorem listsFrom_any {w : World} {a : Option Addr} {n q gf : Nat} {lb : Array Value} {m : Int} :
    Calls Tryz.prog 68 #[.slice a n q, .int .i64 m, .func (.func gf) #[] lb] w fun e w' =>
      e = .returned (.func (.func 86) #[] #[.pointer (some ⟨w.heap.size, 0, none⟩), .pointer (some ⟨w.heap.size + 1, 0, none⟩), .pointer (some ⟨w.heap.size + 1 + 1, 0, none⟩)]) ∧
        Ext w w' ∧ w'.heap.size = w.heap.size + 3 ∧ CapL w' w.heap.size (w.heap.size + 1) (w.heap.size + 1 + 1) (.slice a n q) m (.func (.func gf) #[] lb) := by
  go_enter Tryz.func68, Tryz.ntmps68
  go_wp2
  go_ret
  refine ⟨rfl, (((Ext.rfl' w).alloc' _).alloc' _).alloc' _, by simp, ((row1_madeL _ _ _).alloc _).alloc _, ?_, ?_⟩
  · have := (row1_madeL (w.alloc (.cells #[.slice a n q] 24)) (.int .i64 m) 3).alloc (.cells #[.func (.func gf) #[] lb] 104)
    rw [World.size_alloc] at this
    exact this
  · have := row1_madeL ((w.alloc (.cells #[.slice a n q] 24)).alloc (.cells #[.int .i64 m] 3)) (.func (.func gf) #[] lb) 104
    rw [World.size_alloc, World.size_alloc] at this
    exact this
end Go.Proofs.YtbddjejpacaglaaGreatDoor
