/- slices.Values over ints as an iterator; slices.AppendSeq, slices.Collect over it. -/
import Derived.Test.YtkpdbceglejbnaaRka
import Derived.Lib.OwnBridge
namespace Go.Proofs.Ytkpdbceglejbnaa
open Go.RowKit Go.Shelf
attribute [local go_sem] Oper.semAt_some

theorem KpI.cell' {B : Nat} {X : List Nat} {W W' : World} {p : Addr} {v : Value} (h : KpI B X W W') (hB : p.block < B) (hX : p.block ∉ X) (hc : W.cell? p = some v) : W'.cell? p = some v := by
  have e := h.low _ hB hX
  unfold World.cell? at hc ⊢
  rw [e]; exact hc
theorem KpI.ints {B : Nat} {X : List Nat} {W W' : World} {a : Option Addr} {n c : Nat} {l : List Int} (h : KpI B X W W') (hl : IntSl W (.slice a n c) l) (hb : ∀ b o, a = some ⟨b, o, none⟩ → b < B ∧ b ∉ X) : IntSl W' (.slice a n c) l := by
  obtain ⟨a', b, o, c', e, h2, h3, h4, h5⟩ := hl
  simp only [Value.slice.injEq] at e
  obtain ⟨rfl, rfl, rfl⟩ := e
  refine ⟨a, b, o, c, rfl, h2, h3, h4, fun i hi => ?_⟩
  obtain ⟨x, hx, hv⟩ := h5 i hi
  have hbb := hb b o (h2 (by omega))
  exact ⟨x, h.cell' (p := ⟨b, o + i, none⟩) hbb.1 hbb.2 hx, hv⟩
theorem KpI.row {B : Nat} {X : List Nat} {W W' : World} {b t n : Nat} {f : Nat → Value} (h : KpI B X W W') (hr : W.rowIs b t n f) (hB : b < B) (hX : b ∉ X) : W'.rowIs b t n f := hr.of_block (h.low b hB hX)

set_option maxHeartbeats 3200000 in
set_option maxRecDepth 100000 in
theorem values_stops {Wst : World} {n B c0 cap : Nat} {a : Option Addr} {X : List Nat} {l : List Int} (hn : 1 ≤ n) (hc : Wst.rowIs c0 26 1 (fun _ => .slice a l.length cap)) (hI : IntSl Wst (.slice a l.length cap) l)
    (h1 : c0 < B ∧ c0 ∉ X) (hb : ∀ b o, a = some ⟨b, o, none⟩ → b < B ∧ b ∉ X) :
    SeqRun1 n Try.prog 151 #[.pointer (some ⟨c0, 0, none⟩)] B X l.length (fun k => .int .i64 (gi l k)) Wst := by
  intro L J Jx W hW hJ hY hJ0
  have CW := Lib.hid (row_ext hc hW)
  have IW := Lib.hid (hI.ext hW)
  have HY := Lib.hid hY
  have HB := Lib.hid hb
  have H1 := Lib.hid h1
  have J0 := Lib.hid hJ0
  obtain ⟨N, hN⟩ : ∃ N, N = l.length := ⟨_, rfl⟩
  have HN := Lib.hid hN
  have hcap : cap ≤ maxLen := by obtain ⟨_, _, _, _, e, _, _, h4, _⟩ := IW.out; simp only [Value.slice.injEq] at e; obtain ⟨rfl, -, rfl⟩ := e; exact h4
  have hlc : N ≤ cap := by obtain ⟨_, _, _, _, e, _, h3, _, _⟩ := IW.out; simp only [Value.slice.injEq] at e; obtain ⟨rfl, -, rfl⟩ := e; omega
  unfold maxLen at hcap
  rw [← hN] at CW IW HY ⊢
  clear hc hI hY hJ hJ0 hb h1 hN
  have p0 := CW.out.cell (i := 0) (by omega)
  refine callsIn_of_wp Try.func151 rfl trivial ?_ rfl
  simp only [Try.ntmps151, List.size_toArray, List.length_cons, List.length_nil, Nat.reduceAdd, Nat.reduceSub, Array.replicate_succ, Array.replicate_zero, List.push_toArray, List.append_toArray, List.nil_append, List.cons_append]
  gi_wp2
  clear p0
  gi_loopw [7] (fun i wr => ∃ k : Nat, k ≤ N ∧ i = .int .i64 (k : Int) ∧ Hid (J k wr ∧ IntSl wr (.slice a N cap) l)) (fun i _ => N - (intOf i).toNat)
  case atStart => exact ⟨0, Nat.zero_le _, rfl, J0.out, IW.out⟩
  case round =>
    obtain ⟨k, hk, rfl, Hr⟩ := hrel
    by_cases hlt : k < N
    · obtain ⟨a', b, o, c', e, ha, h3, h4, h5⟩ := Hr.out.2
      simp only [Value.slice.injEq] at e
      obtain ⟨rfl, -, rfl⟩ := e
      obtain rfl := ha (by have := HN.out; omega)
      obtain ⟨y, hy0, rfl, -⟩ := h5 k (by have := HN.out; omega)
      obtain ⟨fn, tmps, assign, body, hy, hR⟩ := HY.out k wr wr hlt Hr.out.1 (Ext.rfl' _)
      have HRR := Lib.hid hR
      clear hR ha h3 h4 h5
      gi_wp2_with fail
      refine HRR.out.mono ?_
      rintro e W3 (⟨rfl, hJ3, hk3⟩ | ⟨rfl, hJx3⟩)
      · have J3 := Lib.hid hJ3
        have I3 := Lib.hid (hk3.ints Hr.out.2 HB.out)
        clear hJ3 hk3 hy0
        gi_wp2
        go_roundw
        case rel => exact ⟨k + 1, by omega, by go_num, J3.out, I3.out⟩
        case measure => simp [intOf]; omega
      · have JX := Lib.hid hJx3
        clear hJx3 hy0
        gi_wp2
        first | go_end0 | refine bodyPost_ret (results_none rfl _ _ _) rfl ?_
        exact ⟨⟨_, rfl⟩, .inr ⟨k, hlt, JX.out⟩⟩
    · obtain rfl : k = N := by omega
      gi_wp2
      first | go_end0 | refine bodyPost_ret (results_none rfl _ _ _) rfl ?_
      exact ⟨⟨_, rfl⟩, .inl Hr.out.1⟩

set_option maxRecDepth 100000 in
theorem values_any {w : World} {a : Option Addr} {n c : Nat} : Calls Try.prog 100 #[.slice a n c] w fun e w' =>
    e = .returned (.func (.func 151) #[] #[.pointer (some ⟨w.heap.size, 0, none⟩)]) ∧ w' = w.alloc (.cells #[.slice a n c] 26) := by
  go_enter Try.func100, Try.ntmps100
  go_wp2
  go_ret
  exact ⟨rfl, rfl⟩
theorem enters_values (args : Array Value) (w : World) : (callFunc 151 args).run Try.prog w = .ok (.enter 151 args) w := enters_of Try.func151 (by kernel_rfl) rfl args w
end Go.Proofs.Ytkpdbceglejbnaa
