/- The contracts of the model's viStep, viMany and viClasses. -/
import Derived.Test.YtkpdbceglejbnaaVi
import Derived.Test.YtkpdbceglejbnaaKc
namespace Go.Proofs.Ytkpdbceglejbnaa
open Go.RowKit

theorem row_other {w : World} {b t n : Nat} {f : Nat → Value} {p : Addr} (h : w.rowIs b t n f) (hp : p.block ≠ b) (v : Value) : (w.setCell p v).rowIs b t n f :=
  h.of_block (Below.heap_setCell _ _ _ _ fun e => hp e.symm)

/-- The classes that the model finds from the classes c. -/
noncomputable def stepC (N : Net) (c : List Int) : List Int := num (fun u v => dec (Alike N c u v)) N.ends.length
theorem stepC_nil (N : Net) : stepC N [] = seqC N 0 := by
  unfold stepC seqC; congr 1; funext u v; exact alike_nil
theorem stepC_seq {N : Net} (hn : 0 < N.ends.length) (t : Nat) : stepC N (seqC N t) = seqC N (t + 1) := by
  show num _ _ = num (likeS N (seqC N t)) _
  congr 1; funext u v; exact alike_some (by rw [seqC_len]; exact hn)

set_option maxHeartbeats 3200000 in
set_option maxRecDepth 100000 in
theorem viStep_row {w : World} {v vc : Value} {N : Net} {c : List Int} (h : NetAt w v N) (hC : IntSl w vc c) (hN : NodesIn N) (hcl : c.length = 0 ∨ c.length = N.ends.length) (hs : N.ends.length ≤ 1048576) :
    Calls Try.prog 115 #[v, vc] w fun e w' => e = .returned (.slice (some ⟨w.heap.size + 1, 0, none⟩) N.ends.length N.ends.length) ∧ Ext w w' ∧ w'.rowIs (w.heap.size + 1) 3 N.ends.length (copied (stepC N c) N.ends.length) := by
  have HN := Lib.hid h
  have HC := Lib.hid hC
  have HNI := Lib.hid hN
  have HCL := Lib.hid hcl
  clear hC hN hcl
  obtain ⟨v0, v1, v2, rfl, hE, hI, hP⟩ := h
  clear hI hP
  obtain ⟨a, b1, o, d, rfl, ha, hn, hm, hc⟩ := hE
  unfold maxLen at hm
  clear ha hc
  obtain ⟨n, hnn⟩ : ∃ n, n = N.ends.length := ⟨_, rfl⟩
  have HX := Lib.hid ((Ext.rfl' w).alloc' (.cells #[.slice a N.ends.length d, v1, v2] 34))
  have HR := Lib.hid (row3_made w (.slice a N.ends.length d) v1 v2 34)
  obtain ⟨same, hsame⟩ : ∃ same : Nat → Nat → Bool, same = fun u v => dec (Alike N c u v) := ⟨_, rfl⟩
  have HS := Lib.hid (show ∀ u v, same u v = dec (Alike N c u v) from fun u v => by rw [hsame])
  have HF := Lib.hid (show stepC N c = num same N.ends.length by rw [hsame]; rfl)
  clear hsame
  rw [← hnn] at hs hn HX HR HN HF ⊢
  have HNN := Lib.hid hnn
  clear hnn
  have hmk := run_make_row' (P := Try.prog) 26 3 (.int .i64 0) 8 Try.underlying26 Try.info3 rfl .i64 .i64 n (by omega) (by omega)
  obtain ⟨p0, p1, p2, -, -, -⟩ := row3_facts HR.out
  obtain ⟨q0, q1, q2, -, -, -⟩ := row3_facts (row_ext HR.out ((Ext.rfl' _).alloc' (.cells (Array.replicate n (.int .i64 0)) 3)))
  go_enter Try.func115, Try.ntmps115
  go_wp2
  clear hmk p0 p1 p2 q0 q1 q2
  go_loopg [6, 17] n (fun g c i wr => ∃ v : Nat, v ≤ n ∧ g = n - v ∧ c = .int .i64 (cnt same v) ∧ i = .int .i64 v ∧ Hid (Ext w wr ∧ wr.rowIs w.heap.size 34 3 (tri (.slice a n d) v1 v2) ∧ wr.rowIs (w.heap.size + 1) 3 n (copied (num same v) v)))
  case atStart => exact ⟨0, Nat.zero_le _, rfl, rfl, rfl, HX.out.alloc' _, row_ext HR.out ((Ext.rfl' _).alloc' _), (show ((w.alloc (.cells #[.slice a n d, v1, v2] 34)).alloc (.cells (madeCells #[.int .i64 0] n) 3)).rowIs (w.heap.size + 1) 3 n (fun _ => .int .i64 0) from by simpa using World.rowIs_made (w.alloc (.cells #[.slice a n d, v1, v2] 34)) (.int .i64 0) n 3).congr fun i _ => by simp [copied]⟩
  case round =>
    obtain ⟨v, hv, rfl, rfl, rfl, Hr⟩ := hrel
    by_cases hlt : v < n
    · go_wp2
      have hw0 : ∃ wo : World, wo = wr := ⟨_, rfl⟩
      obtain ⟨wo, rfl⟩ := hw0
      go_loopg [8, 9] (v + 1) (fun g at_ f wx => ∃ u : Nat, u ≤ v ∧ g = v + 1 - u ∧ f = .int .i64 u ∧ ((at_ = .int .i64 (-1) ∧ Hid (∀ k, k < u → same k v = false)) ∨ ∃ f : Nat, u = f + 1 ∧ at_ = .int .i64 f ∧ Hid (firstOf same v = f)) ∧ Hid (Ext w wx ∧ wx.rowIs w.heap.size 34 3 (tri (.slice a n d) v1 v2) ∧ wx.rowIs (w.heap.size + 1) 3 n (copied (num same v) v)))
      case atStart => exact ⟨0, Nat.zero_le _, rfl, rfl, .inl ⟨rfl, fun k hk => absurd hk (by omega)⟩, Hr.out⟩
      case round =>
        obtain ⟨u, hu, rfl, rfl, hat, Hs⟩ := hrel
        rcases hat with ⟨rfl, Hno⟩ | ⟨f, rfl, rfl, Hf⟩
        · by_cases hut : u < v
          · obtain ⟨p0, p1, p2, f0, f1, f2⟩ := row3_facts Hs.out.2.1
            clear f0 f1 f2
            rcases hsp : same u v with _ | _
            · have HSP := Lib.hid hsp
              clear hsp
              go_wp2_with (go_at_call 161; (with_reducible refine (viAlike_any (HN.out.ext Hs.out.1) (HC.out.ext Hs.out.1) HNI.out HCL.out u v (by have := HNN.out; omega) (by have := HNN.out; omega)).mono ?_); rintro e W' ⟨rfl, hx⟩; rw [← HS.out, HSP.out]; have XX := Lib.hid hx; clear hx)
              go_roundg (v + 1 - (u + 1))
              case measure => omega
              case rel =>
                refine ⟨u + 1, by omega, rfl, by go_num, .inl ⟨rfl, fun k hk => ?_⟩, Hs.out.1.trans' XX.out, row_ext Hs.out.2.1 XX.out, row_ext Hs.out.2.2 XX.out⟩
                by_cases e : k = u
                · subst e; exact HSP.out
                · exact Hno.out k (by omega)
            · have HSP := Lib.hid hsp
              clear hsp
              go_wp2_with (go_at_call 161; (with_reducible refine (viAlike_any (HN.out.ext Hs.out.1) (HC.out.ext Hs.out.1) HNI.out HCL.out u v (by have := HNN.out; omega) (by have := HNN.out; omega)).mono ?_); rintro e W' ⟨rfl, hx⟩; rw [← HS.out, HSP.out]; have XX := Lib.hid hx; clear hx)
              go_roundg (v + 1 - (u + 1))
              case measure => omega
              case rel => exact ⟨u + 1, by omega, rfl, by go_num, .inr ⟨u, rfl, rfl, firstOf_eq (Nat.le_of_lt hut) Hno.out fun _ => HSP.out⟩, Hs.out.1.trans' XX.out, row_ext Hs.out.2.1 XX.out, row_ext Hs.out.2.2 XX.out⟩
          · obtain rfl : u = v := by omega
            have D := Lib.hid (num_new (same := same) (firstOf_eq (Nat.le_refl _) Hno.out fun h => absurd h (by omega)))
            have hcl := cnt_le same u
            have hcv := Hs.out.2.2.cell hlt
            have hfr := Hs.out.2.2.frozen u
            go_wp2
            go_roundg (n - (u + 1))
            case measure => omega
            case rel => exact ⟨u + 1, by omega, rfl, by rw [D.out.2]; go_num, by go_num, Hs.out.1.store (by simp) _, row_other Hs.out.2.1 (by simp) _, by rw [← D.out.1]; exact num_fill Hs.out.2.2⟩
        · have D := Lib.hid (num_dup (same := same) Hf.out (by omega))
          have hcu := (Hs.out.2.2.cell (show f < n by omega)).trans (show some (copied (num same v) v f) = some (.int .i64 (gi (num same v) f)) by simp [copied, show f < v by omega])
          have hcv := Hs.out.2.2.cell hlt
          have hfr := Hs.out.2.2.frozen v
          by_cases hfv : f + 1 < v
          · have hd : decide ((f : Int) < 0) = false := decide_eq_false (by omega)
            go_wp2
            go_roundg (n - (v + 1))
            case measure => omega
            case rel => exact ⟨v + 1, by omega, rfl, by rw [D.out.2], by go_num, Hs.out.1.store (by simp) _, row_other Hs.out.2.1 (by simp) _, by rw [← D.out.1]; exact num_fill Hs.out.2.2⟩
          · go_wp2
            go_roundg (n - (v + 1))
            case measure => omega
            case rel => exact ⟨v + 1, by omega, rfl, by rw [D.out.2], by go_num, Hs.out.1.store (by simp) _, row_other Hs.out.2.1 (by simp) _, by rw [← D.out.1]; exact num_fill Hs.out.2.2⟩
    · go_wp2
      go_ret
      obtain rfl : v = n := by omega
      exact ⟨rfl, Hr.out.1, by rw [HF.out]; exact Hr.out.2.2⟩
end Go.Proofs.Ytkpdbceglejbnaa
