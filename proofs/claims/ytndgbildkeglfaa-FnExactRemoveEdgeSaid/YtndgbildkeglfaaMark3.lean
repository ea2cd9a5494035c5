/- The contract of markNetwork. -/
import Derived.Test.YtndgbildkeglfaaMark2
namespace Go.Proofs.Ytndgbildkeglfaa
open Go.RowKit

/-- Two readings of one list are equal. -/
theorem eqIntS_same {w : World} {v1 v2 : Value} {l : List Int} (h1 : IntSl w v1 l) (h2 : IntSl w v2 l) : Calls Try.prog 30 #[v1, v2] w fun e w' => e = .returned (.bool true) ∧ Ext w w' :=
  (eqIntS_any h1 h2).mono fun _ _ ⟨he, hx⟩ => ⟨by rw [he]; simp, hx⟩

set_option maxHeartbeats 1600000 in
set_option maxRecDepth 100000 in
theorem markNetwork_any {w : World} {v : Value} {N : Net} {bs : List Nat} (h : OwnNet w v N bs) (hnd : bs.Nodup) (hs : N.small) :
    Calls Try.prog 31 #[v, .int .i64 1] w fun e w' => ∃ r : Int, e = .returned (.int .i64 r) ∧ 0 ≤ r ∧ Chg w w' bs := by
  obtain ⟨v0, v1, v2, b0, b1, b2, rfl, hE, hI, hP, rfl⟩ := h
  obtain ⟨s1, s2, s3, s4⟩ := hs
  have hnd0 := (List.nodup_append.1 hnd).1
  have hd0 : ∀ x ∈ b1 ++ b2, x ∉ b0 := fun x hx hx' => (List.nodup_append.1 hnd).2.2 x hx' x hx rfl
  have hd1 : ∀ x ∈ b2, x ∉ b1 := fun x hx hx' => (List.nodup_append.1 (List.nodup_append.1 hnd).2.1).2.2 x hx' x hx rfl
  have hX := (Ext.rfl' w).alloc' (.cells #[v0, v1, v2] 30)
  have A := Lib.hid (hE.ext hX)
  have B := Lib.hid (hI.ext hX)
  have C := Lib.hid (hP.ext hX)
  have LA := Lib.hid hE.lt
  have LB := Lib.hid hI.1.lt
  have LC := Lib.hid hP.1.lt
  have HX := Lib.hid (Chg.of_ext hX (b0 ++ (b1 ++ b2)))
  have HR := Lib.hid (row3_made w v0 v1 v2 30)
  have HD := Lib.hid (And.intro hnd0 (And.intro hd0 hd1))
  have S := Lib.hid s2
  clear hE hI hP hX hnd0 hd0 hd1 hnd s2
  go_enter Try.func31, Try.ntmps31
  go_wp2_with fail
  (with_reducible refine (markEndSS_any _ A.out HD.out.1 s1 S.out (by omega) (by omega)).mono ?_)
  rintro e w1 ⟨r1, rfl, h11, h12, hc1⟩
  have K1 := Lib.hid (HX.out.trans' (hc1.mono fun x hx => by simp [hx]))
  have R1 := Lib.hid (HR.out.of_block (hc1.block _ HR.out.lt fun hx => by have := LA.out _ hx; omega))
  have B1 := Lib.hid (B.out.keep fun x hx => hc1.block x (B.out.1.lt x hx) (HD.out.2.1 x (by simp [hx])))
  have C1 := Lib.hid (C.out.keep fun x hx => hc1.block x (C.out.1.lt x hx) (HD.out.2.1 x (by simp [hx])))
  obtain ⟨p0, p1, p2, _, _, _⟩ := row3_facts R1.out
  clear hc1
  go_wp2_with fail
  (with_reducible refine (markIntS_any _ B1.out s3 (by omega) (by omega)).mono ?_)
  rintro e w2 ⟨rfl, hc2, _⟩
  have K2 := Lib.hid (K1.out.trans' (hc2.mono fun x hx => by simp [hx]))
  have R2 := Lib.hid (R1.out.of_block (hc2.block _ R1.out.lt fun hx => by have := LB.out _ hx; omega))
  have C2 := Lib.hid (C1.out.keep fun x hx => hc2.block x (C1.out.1.lt x hx) (HD.out.2.2 x hx))
  clear hc2 p0 p1 p2
  obtain ⟨p0, p1, p2, _, _, _⟩ := row3_facts R2.out
  go_wp2_with fail
  (with_reducible refine (markIntS_any _ C2.out s4 (by omega) (by omega)).mono ?_)
  rintro e w3 ⟨rfl, hc3, _⟩
  have K3 := Lib.hid (K2.out.trans' (hc3.mono fun x hx => by simp [hx]))
  clear hc3
  go_wp2
  go_ret
  exact ⟨_, rfl, by omega, K3.out⟩
end Go.Proofs.Ytndgbildkeglfaa
