/- The contract of the model's view. -/
import Derived.Test.YtdoaopeegcakiaaPvg
import Derived.Test.YtdoaopeegcakiaaKd
import Derived.Deep.RegionWith
namespace Go.Proofs.Ytdoaopeegcakiaa
open Go.RowKit

theorem Try.infoTP : (Try.prog.info? 86).map (fun i => (i.zero, i.size, i.bytes)) = some (some (.pointer none), 1, 8) := by kernel_rfl
theorem digit6 {w : World} {xb p : Nat} {B : Bs} {k : Bool} (h : RdAt w xb B p k) (hp : p ≤ B.length) (hl : B.length ≤ 4000) :
    Calls Try.prog 123 #[.pointer (some ⟨xb, 0, none⟩), .int .i64 6] w fun e w' => ∃ (x : Int) (p' : Nat) (k' : Bool), e = .returned (.int .i64 x) ∧ Went w w' xb B p p' k' ∧ 0 ≤ x ∧ x ≤ 9 ∧ (k' = true → k = true ∧ tkD 0 6 (B.drop p) = some (x, B.drop p')) ∧ (k' = false → k = true → tkD 0 6 (B.drop p) = none) := digit_any 6 (by decide) h hp hl
theorem digit9 {w : World} {xb p : Nat} {B : Bs} {k : Bool} (h : RdAt w xb B p k) (hp : p ≤ B.length) (hl : B.length ≤ 4000) :
    Calls Try.prog 123 #[.pointer (some ⟨xb, 0, none⟩), .int .i64 9] w fun e w' => ∃ (x : Int) (p' : Nat) (k' : Bool), e = .returned (.int .i64 x) ∧ Went w w' xb B p p' k' ∧ 0 ≤ x ∧ x ≤ 9 ∧ (k' = true → k = true ∧ tkD 0 9 (B.drop p) = some (x, B.drop p')) ∧ (k' = false → k = true → tkD 0 9 (B.drop p) = none) := digit_any 9 (by decide) h hp hl
theorem digit5 {w : World} {xb p : Nat} {B : Bs} {k : Bool} (h : RdAt w xb B p k) (hp : p ≤ B.length) (hl : B.length ≤ 4000) :
    Calls Try.prog 123 #[.pointer (some ⟨xb, 0, none⟩), .int .i64 5] w fun e w' => ∃ (x : Int) (p' : Nat) (k' : Bool), e = .returned (.int .i64 x) ∧ Went w w' xb B p p' k' ∧ 0 ≤ x ∧ x ≤ 9 ∧ (k' = true → k = true ∧ tkD 0 5 (B.drop p) = some (x, B.drop p')) ∧ (k' = false → k = true → tkD 0 5 (B.drop p) = none) := digit_any 5 (by decide) h hp hl
theorem sign46 {w : World} {xb p : Nat} {B : Bs} {k : Bool} (h : RdAt w xb B p k) (hp : p ≤ B.length) (hl : B.length ≤ 4000) :
    Calls Try.prog 124 #[.pointer (some ⟨xb, 0, none⟩), .int .u8 46] w fun e w' => ∃ (p' : Nat) (k' : Bool), e = .returned (.tuple #[]) ∧ Went w w' xb B p p' k' ∧ (k' = true → k = true ∧ tkM 46 (B.drop p) = some (B.drop p')) ∧ (k' = false → k = true → tkM 46 (B.drop p) = none) := sign_any 46 h hp hl
theorem sign40 {w : World} {xb p : Nat} {B : Bs} {k : Bool} (h : RdAt w xb B p k) (hp : p ≤ B.length) (hl : B.length ≤ 4000) :
    Calls Try.prog 124 #[.pointer (some ⟨xb, 0, none⟩), .int .u8 40] w fun e w' => ∃ (p' : Nat) (k' : Bool), e = .returned (.tuple #[]) ∧ Went w w' xb B p p' k' ∧ (k' = true → k = true ∧ tkM 40 (B.drop p) = some (B.drop p')) ∧ (k' = false → k = true → tkM 40 (B.drop p) = none) := sign_any 40 h hp hl
theorem sign44 {w : World} {xb p : Nat} {B : Bs} {k : Bool} (h : RdAt w xb B p k) (hp : p ≤ B.length) (hl : B.length ≤ 4000) :
    Calls Try.prog 124 #[.pointer (some ⟨xb, 0, none⟩), .int .u8 44] w fun e w' => ∃ (p' : Nat) (k' : Bool), e = .returned (.tuple #[]) ∧ Went w w' xb B p p' k' ∧ (k' = true → k = true ∧ tkM 44 (B.drop p) = some (B.drop p')) ∧ (k' = false → k = true → tkM 44 (B.drop p) = none) := sign_any 44 h hp hl
theorem sign58 {w : World} {xb p : Nat} {B : Bs} {k : Bool} (h : RdAt w xb B p k) (hp : p ≤ B.length) (hl : B.length ≤ 4000) :
    Calls Try.prog 124 #[.pointer (some ⟨xb, 0, none⟩), .int .u8 58] w fun e w' => ∃ (p' : Nat) (k' : Bool), e = .returned (.tuple #[]) ∧ Went w w' xb B p p' k' ∧ (k' = true → k = true ∧ tkM 58 (B.drop p) = some (B.drop p')) ∧ (k' = false → k = true → tkM 58 (B.drop p) = none) := sign_any 58 h hp hl
theorem sign41 {w : World} {xb p : Nat} {B : Bs} {k : Bool} (h : RdAt w xb B p k) (hp : p ≤ B.length) (hl : B.length ≤ 4000) :
    Calls Try.prog 124 #[.pointer (some ⟨xb, 0, none⟩), .int .u8 41] w fun e w' => ∃ (p' : Nat) (k' : Bool), e = .returned (.tuple #[]) ∧ Went w w' xb B p p' k' ∧ (k' = true → k = true ∧ tkM 41 (B.drop p) = some (B.drop p')) ∧ (k' = false → k = true → tkM 41 (B.drop p) = none) := sign_any 41 h hp hl
theorem src_ptr (w : World) (b : Nat) : SrcAt (w.alloc (.cells #[ptr b] 86)) (some ⟨w.heap.size, 0, none⟩) 1 1 [ptr b] := by
  refine ⟨by simp, by simp, fun ad e j u hu => ?_, fun u hu => ?_⟩
  · obtain rfl := Option.some.inj e
    rw [add_plain, World.cell?_alloc_at _ _ _ _ rfl, Nat.zero_add]
    simpa using hu
  · obtain rfl := List.mem_singleton.1 hu
    rfl
theorem src_ptr_at {w : World} {B : Nat} (h : w.heap.size = B) (b : Nat) : SrcAt (w.alloc (.cells #[ptr b] 86)) (some ⟨B, 0, none⟩) 1 1 [ptr b] := h ▸ src_ptr w b
theorem src_lit_at {w : World} {B : Nat} (h : w.heap.size = B) (j : Int) (t : TypeId) : SrcAt (w.alloc (.cells #[.int .i64 j] t)) (some ⟨B, 0, none⟩) 1 1 (intCells [j]) := h ▸ src_lits w [j] 1 rfl t

set_option maxHeartbeats 12800000 in
set_option maxRecDepth 100000 in
theorem view_any (m : Nat) : ∀ (w : World) (xb p : Nat) (B : Bs) (k : Bool), B.length - p < m → RdAt w xb B p k → p ≤ B.length → B.length ≤ 4000 →
    Calls Try.prog 99 #[.pointer (some ⟨xb, 0, none⟩)] w fun e w' => ∃ b p' k', e = .returned (.pointer (some ⟨b, 0, none⟩)) ∧ ViewPost w xb B p k b p' k' w' := by
  induction m with
  | zero => intro w xb p B k h; omega
  | succ m ih =>
    intro w xb p B k hm h hp hl
    have IH := Lib.hid ih
    clear ih
    have HR := Lib.hid h
    have hxb : xb < w.heap.size := World.rowIs.lt h
    have HXB := Lib.hid hxb
    clear h hxb
    have hsz := bs_size B
    have hg := bs_get B
    obtain ⟨i1, hi, hz0, hz1, hz2⟩ := info_parts Try.info3
    have I1 := Lib.hid (And.intro hi (And.intro hz0 (And.intro hz1 hz2)))
    clear hi hz0 hz1 hz2
    obtain ⟨i2, hi, hz0, hz1, hz2⟩ := info_parts Try.infoTP
    have I2 := Lib.hid (And.intro hi (And.intro hz0 (And.intro hz1 hz2)))
    clear hi hz0 hz1 hz2
    go_enter Try.func99, Try.ntmps99
    go_wp2_with fail
    (with_reducible refine (digit6 HR.out hp hl).mono ?_)
    rintro e w1 ⟨x1, p1, k1, rfl, hw, hx0, hx9, hd1⟩
    obtain ⟨deg, rfl⟩ := Int.eq_ofNat_of_zero_le hx0
    obtain ⟨vb, hvb⟩ : ∃ vb, vb = w1.heap.size := ⟨_, rfl⟩
    obtain ⟨W1, hW1⟩ : ∃ W1, W1 = w1.alloc (.cells #[.int .i64 (deg : Int), .int .i64 0, .slice none 0 0, .slice none 0 0, .int .i64 0] 91) := ⟨_, rfl⟩
    have BS1 := Lib.hid (show BS w xb vb B (deg : Int) 0 p1 k1 (.slice none 0 0) (.slice none 0 0) 0 [] [] W1 from by
      rw [hW1, hvb]
      exact ⟨chg_new hw.1 (by simp) rfl rfl rfl (fun c hc => heap_alloc_old w1 _ (Nat.lt_of_lt_of_le hc hw.1.size)), row_ext hw.2.1 ((Ext.rfl' _).alloc' _), row5_made _ _ _ _ _ _ _, World.ownsRow_nil _ _ _ _, World.ownsRow_nil _ _ _ _, fun c hc => (by cases hc), HXB.out, hw.1.size⟩)
    have hp1 := hw.2.2.2.1
    have P1 := Lib.hid (And.intro hw.2.2.1 hw.2.2.2.2.1)
    have H1 := Lib.hid hd1
    clear hw hd1 hx0
    go_wp2_with fail
    rw [← hW1, ← hvb]
    clear hW1 hvb
    (with_reducible refine (sign46 BS1.out.rd hp1 hl).mono ?_)
    rintro e w2 ⟨p2, k2, rfl, hw, hd2⟩
    have BS2 := Lib.hid (BS1.out.call hw.1 hw.2.1).1
    have hp2 := hw.2.2.2.1
    have P2 := Lib.hid (And.intro hw.2.2.1 hw.2.2.2.2.1)
    have H2 := Lib.hid hd2
    clear hw hd2
    go_wp2_with fail
    (with_reducible refine (digit9 BS2.out.rd hp2 hl).mono ?_)
    rintro e w3 ⟨x3, p3, k3, rfl, hw, hy0, hy9, hd3⟩
    have BS3 := Lib.hid (BS2.out.call hw.1 hw.2.1).1
    have hp3 := hw.2.2.2.1
    have P3 := Lib.hid (And.intro hw.2.2.1 hw.2.2.2.2.1)
    have H3 := Lib.hid hd3
    clear hw hd3
    have BS4 := Lib.hid (BS3.out.input x3)
    obtain ⟨-, v1, -, -, -⟩ := row5_facts BS3.out.row
    obtain ⟨vf, -, -, -⟩ := row5_frozen BS3.out.row
    obtain ⟨r0, r1, r2, -, -, -⟩ := row3_facts BS4.out.rd
    obtain ⟨t0, t1, t2, t3, t4⟩ := row5_facts BS4.out.row
    have HD := Lib.hid (head_all H1.out H2.out H3.out)
    have HP := Lib.hid (show p ≤ p3 by have := P1.out.1; have := P2.out.1; have := P3.out.1; omega)
    cases k3 with
    | false =>
      go_wp2
      go_quiet (fail)
      go_wp2
      go_ret
      exact ⟨vb, p3, false, rfl, (BS4.out.drewN _).fin HP.out hp3 (by have := HP.out; omega) ⟨by omega, by omega⟩ (fun e => (by cases e)) fun e ek => by rw [PV_eq, HD.out.2 (by first | rfl | trivial) ek]⟩
    | true =>
      have hp33 : p3 = p + 3 := by
        have := (hd3_some (HD.out.1 rfl).2).1
        simp only [List.length_drop] at this
        have := HP.out; omega
      have HP33 := Lib.hid hp33
      clear hp33
      by_cases hd0 : deg = 0
      · have e0 : ((deg : Int) == 0) = true := by simp; omega
        have e1 : (deg == 0) = true := by simp; omega
        have HD0 := Lib.hid hd0
        clear hd0
        have HV := Lib.hid (PV_leaf (HD.out.1 (by first | rfl | trivial)).2 (.inl (by have := HD0.out; omega)))
        go_wp2
        go_quiet (fail)
        go_wp2
        go_ret
        exact ⟨vb, p3, true, rfl, (BS4.out.drewN _).fin HP.out hp3 (by have := HP.out; omega) ⟨by omega, by omega⟩ (fun _ => ⟨(HD.out.1 (by first | rfl | trivial)).1, .nil, rfl, rfl, rfl, HV.out⟩) fun e => (by cases e)⟩
      have e0 : ((deg : Int) == 0) = false := by simp; omega
      have e0n : (deg == 0) = false := by simp; omega
      have e0a : ¬ ((deg : Int) = 0) := by omega
      by_cases hend : p3 < B.length
      case neg =>
        have e1 : ((p3 : Int) == (B.length : Int)) = true := by simp; omega
        have HV := Lib.hid (PV_leaf (HD.out.1 (by first | rfl | trivial)).2 (.inr (by rw [drop_end hend]; rfl)))
        go_wp2
        go_quiet (fail)
        go_wp2
        go_ret
        exact ⟨vb, p3, true, rfl, (BS4.out.drewN _).fin HP.out hp3 (by have := HP.out; omega) ⟨by omega, by omega⟩ (fun _ => ⟨(HD.out.1 (by first | rfl | trivial)).1, .nil, rfl, rfl, rfl, HV.out⟩) fun e => (by cases e)⟩
      have e1 : ((p3 : Int) == (B.length : Int)) = false := by simp; omega
      by_cases hbr : bat B p3 = 40
      case neg =>
        have e2 : (((bat B p3).toNat : Int) != 40) = true := by
          simp only [bne_iff_ne, ne_eq]; intro e; exact hbr (UInt8.toNat_inj.1 (by rw [show (40 : UInt8).toNat = 40 from rfl]; omega))
        have HV := Lib.hid (PV_leaf (HD.out.1 (by first | rfl | trivial)).2 (.inr (by rw [drop_cons hend]; simp only [tkM, if_neg hbr])))
        go_wp2
        go_quiet (fail)
        go_wp2
        go_ret
        exact ⟨vb, p3, true, rfl, (BS4.out.drewN _).fin HP.out hp3 (by have := HP.out; omega) ⟨by omega, by omega⟩ (fun _ => ⟨(HD.out.1 (by first | rfl | trivial)).1, .nil, rfl, rfl, rfl, HV.out⟩) fun e => (by cases e)⟩
      have e2 : (((bat B p3).toNat : Int) != 40) = false := by rw [hbr]; rfl
      have HB := Lib.hid (show tkM 40 (B.drop p3) ≠ none by rw [drop_cons hend]; simp only [tkM, if_pos hbr]; intro e; cases e)
      have HK := Lib.hid (HD.out.1 rfl)
      have HD0 := Lib.hid hd0
      clear hbr
      go_wp2
      go_quiet (fail)
      go_wp2_with fail
      go_loopg [4] deg (fun g ti wr => ∃ (n q : Nat) (kk : Bool) (pv qv : Value) (dp : Nat) (jl : List Int) (ps : List Value), n ≤ deg ∧ g = deg - n ∧ ti = .int .i64 (n : Int) ∧ Hid (LI w xb vb B p p3 deg x3 n q kk pv qv dp jl ps wr))
      case atStart => exact ⟨0, p3, true, _, _, 0, [], [], Nat.zero_le _, rfl, rfl, ⟨BS4.out.drewN _, Nat.le_refl _, hp3, by have := HP.out; omega, rfl, rfl, fun _ => ⟨.nil, rfl, rfl, rfl, RelP.zero _ _ _⟩, fun e => (by cases e)⟩⟩
      case round =>
        obtain ⟨n, q, kk, pv, qv, dp, jl, ps, hn, rfl, rfl, Hr⟩ := hrel
        clear v1 vf r0 r1 r2 t0 t1 t2 t3 t4
        obtain ⟨pa0, pc0, hpv⟩ := owns_slice Hr.out.bs.own1
        obtain ⟨qa0, qc0, hqv⟩ := owns_slice Hr.out.bs.own2
        subst hpv
        subst hqv
        have hq2 := Hr.out.q2
        obtain ⟨r0, r1, r2, -, -, -⟩ := row3_facts Hr.out.bs.rd
        obtain ⟨t0, t1, t2, t3, t4⟩ := row5_facts Hr.out.bs.row
        have hx9N : deg ≤ 9 := by omega
        by_cases hlt : n < deg
        case neg =>
          have HE := Lib.hid (show kk = true → n = deg from fun _ => by omega)
          go_wp2_with fail
          (with_reducible refine (sign41 Hr.out.bs.rd hq2 hl).mono ?_)
          rintro e w9 ⟨q9, k9, rfl, hw, hd9⟩
          have VP := Lib.hid (Hr.out.fin (k := k) HE.out HK.out.1 HK.out.2 HD0.out hx9N HB.out HP.out hw.1 hw.2.1 hw.2.2.1 hw.2.2.2.1 hd9)
          clear hw hd9 r0 r1 r2 t0 t1 t2 t3 t4
          go_wp2
          go_ret
          exact ⟨vb, q9, k9, rfl, VP.out⟩
        cases kk with
        | false =>
          go_wp2_with fail
          (with_reducible refine (sign41 Hr.out.bs.rd hq2 hl).mono ?_)
          rintro e w9 ⟨q9, k9, rfl, hw, hd9⟩
          have VP := Lib.hid (Hr.out.fin (k := k) (fun e => (by cases e)) HK.out.1 HK.out.2 HD0.out hx9N HB.out HP.out hw.1 hw.2.1 hw.2.2.1 hw.2.2.2.1 hd9)
          clear hw hd9 r0 r1 r2 t0 t1 t2 t3 t4
          go_wp2
          go_ret
          exact ⟨vb, q9, k9, rfl, VP.out⟩
        | true =>
          by_cases hn0 : n = 0
          · have HN0 := Lib.hid hn0
            have ei : ((n : Int) == 0) = true := by simp; omega
            have ej : n = 0 := hn0
            clear hn0 ej
            go_wp2_with fail
            (with_reducible refine (sign40 Hr.out.bs.rd hq2 hl).mono ?_)
            rintro e w4 ⟨q1, k1, rfl, hw, hs1⟩
            have C4 := Lib.hid (Hr.out.bs.call hw.1 hw.2.1)
            have hq1 := hw.2.2.2.1
            have Q1 := Lib.hid hw.2.2.1
            have S1 := Lib.hid hs1
            clear hw hs1 r0 r1 r2 t0 t1 t2 t3 t4
            go_wp2_with fail
            (with_reducible refine (digit5 C4.out.1.rd hq1 hl).mono ?_)
            rintro e w5 ⟨jj, q2, k2, rfl, hw, hj0, hj9, hs2⟩
            have C5 := Lib.hid (C4.out.1.call hw.1 hw.2.1)
            have hq22 := hw.2.2.2.1
            have Q2 := Lib.hid hw.2.2.1
            have S2 := Lib.hid hs2
            clear hw hs2
            go_wp2_with fail
            (with_reducible refine (sign58 C5.out.1.rd hq22 hl).mono ?_)
            rintro e w6 ⟨q3, k3, rfl, hw, hs3⟩
            have C6 := Lib.hid (C5.out.1.call hw.1 hw.2.1)
            have hq33 := hw.2.2.2.1
            have Q3 := Lib.hid hw.2.2.1
            have S3 := Lib.hid hs3
            clear hw hs3
            have HQ3 := Lib.hid (show p + 3 ≤ q3 by have := HP33.out; have := Hr.out.q1; have := Q1.out; have := Q2.out; have := Q3.out; omega)
            go_wp2_with fail
            (with_reducible refine (IH.out _ _ _ _ _ (by have := HQ3.out; omega) C6.out.1.rd hq33 hl).mono ?_)
            rintro e w7 ⟨b, q4, k4, rfl, hv⟩
            obtain ⟨hv1, hv2, hv3, hv4, hv5, ⟨d, x7, pw, qw, dp7, hv6, hv7, hd0, hd9⟩, hv8, hv9⟩ := hv
            have C7 := Lib.hid (C6.out.1.call hv1 hv2)
            have HV := Lib.hid (And.intro hv8 hv9)
            have HROW := Lib.hid hv6
            have HB5 := Lib.hid hv5
            have HQ4 := Lib.hid (And.intro hv3 (And.intro hv4 hv7))
            have HLT := Lib.hid (And.intro C6.out.1.row.lt hv6.lt)
            have HFB := Lib.hid (show ∀ c, w6.heap.size ≤ c ∧ c < w7.heap.size → Fb vb (.slice pa0 jl.length pc0) (.slice qa0 ps.length qc0) w7 c from fun c hc => ⟨by have := C6.out.1.row.lt; omega, hc.2, fun e => by have := (World.ownsRow.lt C6.out.1.own1 c e).2; omega, fun e => by have := (World.ownsRow.lt C6.out.1.own2 c e).2; omega⟩)
            have HKW := Lib.hid (((C4.out.2.trans C5.out.2 Fb.lt).trans C6.out.2 Fb.lt).trans C7.out.2 Fb.lt)
            have hdp7 : dp7 ≤ 4000 := by omega
            have hdp : dp ≤ 4000 := by have := Hr.out.dpb; omega
            clear hv1 hv2 hv3 hv5 hv7 hv8 hv9
            obtain ⟨u0, -, -, -, -⟩ := row5_facts hv6
            clear hv6
            obtain ⟨r0, r1, r2, f0, f1, f2⟩ := row3_facts C7.out.1.rd
            cases k4 with
            | false =>
              have H5 := Lib.hid (show false = true ↔ false = true ∧ jj < d from ⟨fun h => (by cases h), fun h => (by cases h.1)⟩)
              have B8 := Lib.hid (C7.out.1.call (k' := false) ((Chg.rfl' w7 [xb]).store (p := ⟨xb, 2, none⟩) (by simp) (.bool false)) (row3_set2 C7.out.1.rd (.bool false)))
              obtain ⟨-, -, t2, -, -⟩ := row5_facts B8.out.1.row
              have HSZ := Lib.hid (B8.out.1.row.lt)
              have hl1 : jl.length ≤ 10 := by have := Hr.out.l1; omega
              have hl2 : ps.length ≤ 10 := by have := Hr.out.l2; omega
              go_wp2_with (at_builtin; refine wpList_app2 rfl (.tmp 100) (.tmp 102) 23 rfl (vb + 1) 3 i1 (.int .i64 0) 1 8 Try.underlying23 I1.out.1 I1.out.2.1 I1.out.2.2.1 I1.out.2.2.2 rfl (by decide) _ jl.length (intCells jl) rfl (owns_ext B8.out.1.own1 ((Ext.rfl' _).alloc' _)) (some ⟨w7.heap.size, 0, none⟩) 1 1 (intCells [jj]) rfl (src_lit_at (setCell_size w7 ⟨xb, 2, none⟩ (.bool false)) jj 3) (by unfold maxLen; omega) (by omega) ?_ ?_)
              · have := HSZ.out; simp; simp at this; omega
              intro v1 w8 hg1
              obtain ⟨pa, pc, rfl⟩ := owns_slice hg1.1.1
              have B9 := Lib.hid (B8.out.1.ports hg1)
              have RW8 := Lib.hid (B8.out.1.grewRow hg1.1.2.1 (fun e => by have := (World.ownsRow.lt B8.out.1.own1 vb e).1; omega))
              clear hg1 t2 u0 r0 r1 r2 f0 f1 f2
              obtain ⟨-, -, y2, -, -⟩ := row5_facts RW8.out
              obtain ⟨-, yf2, -, -⟩ := row5_frozen RW8.out
              obtain ⟨-, -, -, t3, -⟩ := row5_facts B9.out.1.row
              have HSZ9 := Lib.hid (B9.out.1.row.lt)
              go_wp2_with (at_builtin; refine wpList_app2 rfl (.tmp 110) (.tmp 112) 89 rfl (vb + 1) 86 i2 (.pointer none) 1 8 Try.underlying89 I2.out.1 I2.out.2.1 I2.out.2.2.1 I2.out.2.2.2 rfl (by decide) _ ps.length ps rfl (owns_ext B9.out.1.own2 ((Ext.rfl' _).alloc' _)) (some ⟨w8.heap.size, 0, none⟩) 1 1 [ptr b] rfl (src_ptr_at (setCell_size w8 ⟨vb, 2, none⟩ (.slice pa (jl.length + 1) pc)) b) (by unfold maxLen; omega) (by omega) ?_ ?_)
              · have := HSZ9.out; simp; simp at this; omega
              intro v2 w9 hg2
              obtain ⟨qa, qc, rfl⟩ := owns_slice hg2.1.1
              have B10 := Lib.hid (B9.out.1.parts hg2)
              have RW9 := Lib.hid (B9.out.1.grewRow hg2.1.2.1 (fun e => by have := (World.ownsRow.lt B9.out.1.own2 vb e).1; omega))
              clear hg2 t3 y2 yf2
              obtain ⟨-, -, -, y3, -⟩ := row5_facts RW9.out
              obtain ⟨-, -, yf3, -⟩ := row5_frozen RW9.out
              obtain ⟨-, -, -, -, t4⟩ := row5_facts B10.out.1.row
              obtain ⟨-, -, -, tf4⟩ := row5_frozen B10.out.1.row
              have K10 := Lib.hid ((B8.out.2.trans B9.out.2 Fb.lt).trans B10.out.2 Fb.lt)
              have u4 := (row5_facts (HROW.out.of_block (K10.out b (HFB.out b ⟨HB5.out, HLT.out.2⟩) HLT.out.2).1)).2.2.2.2
              obtain ⟨D, hD⟩ : ∃ D : Nat, D = max dp (dp7 + 1) := ⟨_, rfl⟩
              have eD : max (dp : Int) ((dp7 : Int) + 1) = (D : Int) := by omega
              have eW : IntKind.i64.wrap ((dp7 : Int) + 1) = (dp7 : Int) + 1 := IntWalk.i64_in _ (by omega)
              have HDD := Lib.hid hD
              clear hD
              have FI := Lib.hid (fun nn => B10.out.1.depth D nn)
              go_wp2_with fail
              go_region_with (go_at_call 125; (with_reducible refine (l1Most_any _ _).mono ?_); rintro e wz ⟨rfl, rfl⟩; rw [eD])
              all_goals go_wp2
              all_goals go_roundg (deg - (n + 1))
              all_goals first
                | omega
                | exact ⟨n + 1, q4, false, _, _, D, jl ++ [jj], ps ++ [ptr b], by omega, rfl, by go_num, Hr.out.next (q1 := q1) (q2 := q2) (q3 := q3) (k4 := false) (d := d) (dp' := dp7) hlt (by rw [if_pos HN0.out]) (FI.out _).1 HKW.out (K10.out.trans (FI.out _).2 Fb.lt) (by have := Q1.out; have := Q2.out; have := Q3.out; have := HQ4.out.1; omega) HQ4.out.2.1 (by have := HQ3.out; omega) HQ4.out.2.2 HQ4.out.1 HDD.out HROW.out HFB.out (by simpa using S1.out) S2.out S3.out (by simpa using HV.out) (by simp)⟩
            | true =>
              obtain ⟨k5, hk5⟩ : ∃ k5, k5 = decide (jj < d) := ⟨_, rfl⟩
              have H5 := Lib.hid (show k5 = true ↔ true = true ∧ jj < d by rw [hk5]; simp)
              have hk5s := hk5.symm
              clear hk5
              have B8 := Lib.hid (C7.out.1.call (k' := k5) ((Chg.rfl' w7 [xb]).store (p := ⟨xb, 2, none⟩) (by simp) (.bool k5)) (row3_set2 C7.out.1.rd (.bool k5)))
              obtain ⟨-, -, t2, -, -⟩ := row5_facts B8.out.1.row
              have HSZ := Lib.hid (B8.out.1.row.lt)
              have hl1 : jl.length ≤ 10 := by have := Hr.out.l1; omega
              have hl2 : ps.length ≤ 10 := by have := Hr.out.l2; omega
              go_wp2_with (at_builtin; refine wpList_app2 rfl (.tmp 100) (.tmp 102) 23 rfl (vb + 1) 3 i1 (.int .i64 0) 1 8 Try.underlying23 I1.out.1 I1.out.2.1 I1.out.2.2.1 I1.out.2.2.2 rfl (by decide) _ jl.length (intCells jl) rfl (owns_ext B8.out.1.own1 ((Ext.rfl' _).alloc' _)) (some ⟨w7.heap.size, 0, none⟩) 1 1 (intCells [jj]) rfl (src_lit_at (setCell_size w7 ⟨xb, 2, none⟩ (.bool k5)) jj 3) (by unfold maxLen; omega) (by omega) ?_ ?_)
              · have := HSZ.out; simp; simp at this; omega
              intro v1 w8 hg1
              obtain ⟨pa, pc, rfl⟩ := owns_slice hg1.1.1
              have B9 := Lib.hid (B8.out.1.ports hg1)
              have RW8 := Lib.hid (B8.out.1.grewRow hg1.1.2.1 (fun e => by have := (World.ownsRow.lt B8.out.1.own1 vb e).1; omega))
              clear hg1 t2 u0 r0 r1 r2 f0 f1 f2
              obtain ⟨-, -, y2, -, -⟩ := row5_facts RW8.out
              obtain ⟨-, yf2, -, -⟩ := row5_frozen RW8.out
              obtain ⟨-, -, -, t3, -⟩ := row5_facts B9.out.1.row
              have HSZ9 := Lib.hid (B9.out.1.row.lt)
              go_wp2_with (at_builtin; refine wpList_app2 rfl (.tmp 110) (.tmp 112) 89 rfl (vb + 1) 86 i2 (.pointer none) 1 8 Try.underlying89 I2.out.1 I2.out.2.1 I2.out.2.2.1 I2.out.2.2.2 rfl (by decide) _ ps.length ps rfl (owns_ext B9.out.1.own2 ((Ext.rfl' _).alloc' _)) (some ⟨w8.heap.size, 0, none⟩) 1 1 [ptr b] rfl (src_ptr_at (setCell_size w8 ⟨vb, 2, none⟩ (.slice pa (jl.length + 1) pc)) b) (by unfold maxLen; omega) (by omega) ?_ ?_)
              · have := HSZ9.out; simp; simp at this; omega
              intro v2 w9 hg2
              obtain ⟨qa, qc, rfl⟩ := owns_slice hg2.1.1
              have B10 := Lib.hid (B9.out.1.parts hg2)
              have RW9 := Lib.hid (B9.out.1.grewRow hg2.1.2.1 (fun e => by have := (World.ownsRow.lt B9.out.1.own2 vb e).1; omega))
              clear hg2 t3 y2 yf2
              obtain ⟨-, -, -, y3, -⟩ := row5_facts RW9.out
              obtain ⟨-, -, yf3, -⟩ := row5_frozen RW9.out
              obtain ⟨-, -, -, -, t4⟩ := row5_facts B10.out.1.row
              obtain ⟨-, -, -, tf4⟩ := row5_frozen B10.out.1.row
              have K10 := Lib.hid ((B8.out.2.trans B9.out.2 Fb.lt).trans B10.out.2 Fb.lt)
              have u4 := (row5_facts (HROW.out.of_block (K10.out b (HFB.out b ⟨HB5.out, HLT.out.2⟩) HLT.out.2).1)).2.2.2.2
              obtain ⟨D, hD⟩ : ∃ D : Nat, D = max dp (dp7 + 1) := ⟨_, rfl⟩
              have eD : max (dp : Int) ((dp7 : Int) + 1) = (D : Int) := by omega
              have eW : IntKind.i64.wrap ((dp7 : Int) + 1) = (dp7 : Int) + 1 := IntWalk.i64_in _ (by omega)
              have HDD := Lib.hid hD
              clear hD
              have FI := Lib.hid (fun nn => B10.out.1.depth D nn)
              go_wp2_with fail
              go_region_with (go_at_call 125; (with_reducible refine (l1Most_any _ _).mono ?_); rintro e wz ⟨rfl, rfl⟩; rw [eD])
              all_goals go_wp2
              all_goals go_roundg (deg - (n + 1))
              all_goals first
                | omega
                | exact ⟨n + 1, q4, k5, _, _, D, jl ++ [jj], ps ++ [ptr b], by omega, rfl, by go_num, Hr.out.next (q1 := q1) (q2 := q2) (q3 := q3) (k4 := true) (d := d) (dp' := dp7) hlt (by rw [if_pos HN0.out]) (FI.out _).1 HKW.out (K10.out.trans (FI.out _).2 Fb.lt) (by have := Q1.out; have := Q2.out; have := Q3.out; have := HQ4.out.1; omega) HQ4.out.2.1 (by have := HQ3.out; omega) HQ4.out.2.2 HQ4.out.1 HDD.out HROW.out HFB.out (by simpa using S1.out) S2.out S3.out (by simpa using HV.out) (by simpa using H5.out)⟩
          · have HN0 := Lib.hid hn0
            have ei : ((n : Int) == 0) = false := by simp; omega
            clear hn0
            go_wp2_with fail
            (with_reducible refine (sign44 Hr.out.bs.rd hq2 hl).mono ?_)
            rintro e w4 ⟨q1, k1, rfl, hw, hs1⟩
            have C4 := Lib.hid (Hr.out.bs.call hw.1 hw.2.1)
            have hq1 := hw.2.2.2.1
            have Q1 := Lib.hid hw.2.2.1
            have S1 := Lib.hid hs1
            clear hw hs1 r0 r1 r2 t0 t1 t2 t3 t4
            go_wp2_with fail
            (with_reducible refine (digit5 C4.out.1.rd hq1 hl).mono ?_)
            rintro e w5 ⟨jj, q2, k2, rfl, hw, hj0, hj9, hs2⟩
            have C5 := Lib.hid (C4.out.1.call hw.1 hw.2.1)
            have hq22 := hw.2.2.2.1
            have Q2 := Lib.hid hw.2.2.1
            have S2 := Lib.hid hs2
            clear hw hs2
            go_wp2_with fail
            (with_reducible refine (sign58 C5.out.1.rd hq22 hl).mono ?_)
            rintro e w6 ⟨q3, k3, rfl, hw, hs3⟩
            have C6 := Lib.hid (C5.out.1.call hw.1 hw.2.1)
            have hq33 := hw.2.2.2.1
            have Q3 := Lib.hid hw.2.2.1
            have S3 := Lib.hid hs3
            clear hw hs3
            have HQ3 := Lib.hid (show p + 3 ≤ q3 by have := HP33.out; have := Hr.out.q1; have := Q1.out; have := Q2.out; have := Q3.out; omega)
            go_wp2_with fail
            (with_reducible refine (IH.out _ _ _ _ _ (by have := HQ3.out; omega) C6.out.1.rd hq33 hl).mono ?_)
            rintro e w7 ⟨b, q4, k4, rfl, hv⟩
            obtain ⟨hv1, hv2, hv3, hv4, hv5, ⟨d, x7, pw, qw, dp7, hv6, hv7, hd0, hd9⟩, hv8, hv9⟩ := hv
            have C7 := Lib.hid (C6.out.1.call hv1 hv2)
            have HV := Lib.hid (And.intro hv8 hv9)
            have HROW := Lib.hid hv6
            have HB5 := Lib.hid hv5
            have HQ4 := Lib.hid (And.intro hv3 (And.intro hv4 hv7))
            have HLT := Lib.hid (And.intro C6.out.1.row.lt hv6.lt)
            have HFB := Lib.hid (show ∀ c, w6.heap.size ≤ c ∧ c < w7.heap.size → Fb vb (.slice pa0 jl.length pc0) (.slice qa0 ps.length qc0) w7 c from fun c hc => ⟨by have := C6.out.1.row.lt; omega, hc.2, fun e => by have := (World.ownsRow.lt C6.out.1.own1 c e).2; omega, fun e => by have := (World.ownsRow.lt C6.out.1.own2 c e).2; omega⟩)
            have HKW := Lib.hid (((C4.out.2.trans C5.out.2 Fb.lt).trans C6.out.2 Fb.lt).trans C7.out.2 Fb.lt)
            have hdp7 : dp7 ≤ 4000 := by omega
            have hdp : dp ≤ 4000 := by have := Hr.out.dpb; omega
            clear hv1 hv2 hv3 hv5 hv7 hv8 hv9
            obtain ⟨u0, -, -, -, -⟩ := row5_facts hv6
            clear hv6
            obtain ⟨r0, r1, r2, f0, f1, f2⟩ := row3_facts C7.out.1.rd
            cases k4 with
            | false =>
              have H5 := Lib.hid (show false = true ↔ false = true ∧ jj < d from ⟨fun h => (by cases h), fun h => (by cases h.1)⟩)
              have B8 := Lib.hid (C7.out.1.call (k' := false) ((Chg.rfl' w7 [xb]).store (p := ⟨xb, 2, none⟩) (by simp) (.bool false)) (row3_set2 C7.out.1.rd (.bool false)))
              obtain ⟨-, -, t2, -, -⟩ := row5_facts B8.out.1.row
              have HSZ := Lib.hid (B8.out.1.row.lt)
              have hl1 : jl.length ≤ 10 := by have := Hr.out.l1; omega
              have hl2 : ps.length ≤ 10 := by have := Hr.out.l2; omega
              go_wp2_with (at_builtin; refine wpList_app2 rfl (.tmp 100) (.tmp 102) 23 rfl (vb + 1) 3 i1 (.int .i64 0) 1 8 Try.underlying23 I1.out.1 I1.out.2.1 I1.out.2.2.1 I1.out.2.2.2 rfl (by decide) _ jl.length (intCells jl) rfl (owns_ext B8.out.1.own1 ((Ext.rfl' _).alloc' _)) (some ⟨w7.heap.size, 0, none⟩) 1 1 (intCells [jj]) rfl (src_lit_at (setCell_size w7 ⟨xb, 2, none⟩ (.bool false)) jj 3) (by unfold maxLen; omega) (by omega) ?_ ?_)
              · have := HSZ.out; simp; simp at this; omega
              intro v1 w8 hg1
              obtain ⟨pa, pc, rfl⟩ := owns_slice hg1.1.1
              have B9 := Lib.hid (B8.out.1.ports hg1)
              have RW8 := Lib.hid (B8.out.1.grewRow hg1.1.2.1 (fun e => by have := (World.ownsRow.lt B8.out.1.own1 vb e).1; omega))
              clear hg1 t2 u0 r0 r1 r2 f0 f1 f2
              obtain ⟨-, -, y2, -, -⟩ := row5_facts RW8.out
              obtain ⟨-, yf2, -, -⟩ := row5_frozen RW8.out
              obtain ⟨-, -, -, t3, -⟩ := row5_facts B9.out.1.row
              have HSZ9 := Lib.hid (B9.out.1.row.lt)
              go_wp2_with (at_builtin; refine wpList_app2 rfl (.tmp 110) (.tmp 112) 89 rfl (vb + 1) 86 i2 (.pointer none) 1 8 Try.underlying89 I2.out.1 I2.out.2.1 I2.out.2.2.1 I2.out.2.2.2 rfl (by decide) _ ps.length ps rfl (owns_ext B9.out.1.own2 ((Ext.rfl' _).alloc' _)) (some ⟨w8.heap.size, 0, none⟩) 1 1 [ptr b] rfl (src_ptr_at (setCell_size w8 ⟨vb, 2, none⟩ (.slice pa (jl.length + 1) pc)) b) (by unfold maxLen; omega) (by omega) ?_ ?_)
              · have := HSZ9.out; simp; simp at this; omega
              intro v2 w9 hg2
              obtain ⟨qa, qc, rfl⟩ := owns_slice hg2.1.1
              have B10 := Lib.hid (B9.out.1.parts hg2)
              have RW9 := Lib.hid (B9.out.1.grewRow hg2.1.2.1 (fun e => by have := (World.ownsRow.lt B9.out.1.own2 vb e).1; omega))
              clear hg2 t3 y2 yf2
              obtain ⟨-, -, -, y3, -⟩ := row5_facts RW9.out
              obtain ⟨-, -, yf3, -⟩ := row5_frozen RW9.out
              obtain ⟨-, -, -, -, t4⟩ := row5_facts B10.out.1.row
              obtain ⟨-, -, -, tf4⟩ := row5_frozen B10.out.1.row
              have K10 := Lib.hid ((B8.out.2.trans B9.out.2 Fb.lt).trans B10.out.2 Fb.lt)
              have u4 := (row5_facts (HROW.out.of_block (K10.out b (HFB.out b ⟨HB5.out, HLT.out.2⟩) HLT.out.2).1)).2.2.2.2
              obtain ⟨D, hD⟩ : ∃ D : Nat, D = max dp (dp7 + 1) := ⟨_, rfl⟩
              have eD : max (dp : Int) ((dp7 : Int) + 1) = (D : Int) := by omega
              have eW : IntKind.i64.wrap ((dp7 : Int) + 1) = (dp7 : Int) + 1 := IntWalk.i64_in _ (by omega)
              have HDD := Lib.hid hD
              clear hD
              have FI := Lib.hid (fun nn => B10.out.1.depth D nn)
              go_wp2_with fail
              go_region_with (go_at_call 125; (with_reducible refine (l1Most_any _ _).mono ?_); rintro e wz ⟨rfl, rfl⟩; rw [eD])
              all_goals go_wp2
              all_goals go_roundg (deg - (n + 1))
              all_goals first
                | omega
                | exact ⟨n + 1, q4, false, _, _, D, jl ++ [jj], ps ++ [ptr b], by omega, rfl, by go_num, Hr.out.next (q1 := q1) (q2 := q2) (q3 := q3) (k4 := false) (d := d) (dp' := dp7) hlt (by rw [if_neg HN0.out]) (FI.out _).1 HKW.out (K10.out.trans (FI.out _).2 Fb.lt) (by have := Q1.out; have := Q2.out; have := Q3.out; have := HQ4.out.1; omega) HQ4.out.2.1 (by have := HQ3.out; omega) HQ4.out.2.2 HQ4.out.1 HDD.out HROW.out HFB.out (by simpa using S1.out) S2.out S3.out (by simpa using HV.out) (by simp)⟩
            | true =>
              obtain ⟨k5, hk5⟩ : ∃ k5, k5 = decide (jj < d) := ⟨_, rfl⟩
              have H5 := Lib.hid (show k5 = true ↔ true = true ∧ jj < d by rw [hk5]; simp)
              have hk5s := hk5.symm
              clear hk5
              have B8 := Lib.hid (C7.out.1.call (k' := k5) ((Chg.rfl' w7 [xb]).store (p := ⟨xb, 2, none⟩) (by simp) (.bool k5)) (row3_set2 C7.out.1.rd (.bool k5)))
              obtain ⟨-, -, t2, -, -⟩ := row5_facts B8.out.1.row
              have HSZ := Lib.hid (B8.out.1.row.lt)
              have hl1 : jl.length ≤ 10 := by have := Hr.out.l1; omega
              have hl2 : ps.length ≤ 10 := by have := Hr.out.l2; omega
              go_wp2_with (at_builtin; refine wpList_app2 rfl (.tmp 100) (.tmp 102) 23 rfl (vb + 1) 3 i1 (.int .i64 0) 1 8 Try.underlying23 I1.out.1 I1.out.2.1 I1.out.2.2.1 I1.out.2.2.2 rfl (by decide) _ jl.length (intCells jl) rfl (owns_ext B8.out.1.own1 ((Ext.rfl' _).alloc' _)) (some ⟨w7.heap.size, 0, none⟩) 1 1 (intCells [jj]) rfl (src_lit_at (setCell_size w7 ⟨xb, 2, none⟩ (.bool k5)) jj 3) (by unfold maxLen; omega) (by omega) ?_ ?_)
              · have := HSZ.out; simp; simp at this; omega
              intro v1 w8 hg1
              obtain ⟨pa, pc, rfl⟩ := owns_slice hg1.1.1
              have B9 := Lib.hid (B8.out.1.ports hg1)
              have RW8 := Lib.hid (B8.out.1.grewRow hg1.1.2.1 (fun e => by have := (World.ownsRow.lt B8.out.1.own1 vb e).1; omega))
              clear hg1 t2 u0 r0 r1 r2 f0 f1 f2
              obtain ⟨-, -, y2, -, -⟩ := row5_facts RW8.out
              obtain ⟨-, yf2, -, -⟩ := row5_frozen RW8.out
              obtain ⟨-, -, -, t3, -⟩ := row5_facts B9.out.1.row
              have HSZ9 := Lib.hid (B9.out.1.row.lt)
              go_wp2_with (at_builtin; refine wpList_app2 rfl (.tmp 110) (.tmp 112) 89 rfl (vb + 1) 86 i2 (.pointer none) 1 8 Try.underlying89 I2.out.1 I2.out.2.1 I2.out.2.2.1 I2.out.2.2.2 rfl (by decide) _ ps.length ps rfl (owns_ext B9.out.1.own2 ((Ext.rfl' _).alloc' _)) (some ⟨w8.heap.size, 0, none⟩) 1 1 [ptr b] rfl (src_ptr_at (setCell_size w8 ⟨vb, 2, none⟩ (.slice pa (jl.length + 1) pc)) b) (by unfold maxLen; omega) (by omega) ?_ ?_)
              · have := HSZ9.out; simp; simp at this; omega
              intro v2 w9 hg2
              obtain ⟨qa, qc, rfl⟩ := owns_slice hg2.1.1
              have B10 := Lib.hid (B9.out.1.parts hg2)
              have RW9 := Lib.hid (B9.out.1.grewRow hg2.1.2.1 (fun e => by have := (World.ownsRow.lt B9.out.1.own2 vb e).1; omega))
              clear hg2 t3 y2 yf2
              obtain ⟨-, -, -, y3, -⟩ := row5_facts RW9.out
              obtain ⟨-, -, yf3, -⟩ := row5_frozen RW9.out
              obtain ⟨-, -, -, -, t4⟩ := row5_facts B10.out.1.row
              obtain ⟨-, -, -, tf4⟩ := row5_frozen B10.out.1.row
              have K10 := Lib.hid ((B8.out.2.trans B9.out.2 Fb.lt).trans B10.out.2 Fb.lt)
              have u4 := (row5_facts (HROW.out.of_block (K10.out b (HFB.out b ⟨HB5.out, HLT.out.2⟩) HLT.out.2).1)).2.2.2.2
              obtain ⟨D, hD⟩ : ∃ D : Nat, D = max dp (dp7 + 1) := ⟨_, rfl⟩
              have eD : max (dp : Int) ((dp7 : Int) + 1) = (D : Int) := by omega
              have eW : IntKind.i64.wrap ((dp7 : Int) + 1) = (dp7 : Int) + 1 := IntWalk.i64_in _ (by omega)
              have HDD := Lib.hid hD
              clear hD
              have FI := Lib.hid (fun nn => B10.out.1.depth D nn)
              go_wp2_with fail
              go_region_with (go_at_call 125; (with_reducible refine (l1Most_any _ _).mono ?_); rintro e wz ⟨rfl, rfl⟩; rw [eD])
              all_goals go_wp2
              all_goals go_roundg (deg - (n + 1))
              all_goals first
                | omega
                | exact ⟨n + 1, q4, k5, _, _, D, jl ++ [jj], ps ++ [ptr b], by omega, rfl, by go_num, Hr.out.next (q1 := q1) (q2 := q2) (q3 := q3) (k4 := true) (d := d) (dp' := dp7) hlt (by rw [if_neg HN0.out]) (FI.out _).1 HKW.out (K10.out.trans (FI.out _).2 Fb.lt) (by have := Q1.out; have := Q2.out; have := Q3.out; have := HQ4.out.1; omega) HQ4.out.2.1 (by have := HQ3.out; omega) HQ4.out.2.2 HQ4.out.1 HDD.out HROW.out HFB.out (by simpa using S1.out) S2.out S3.out (by simpa using HV.out) (by simpa using H5.out)⟩
end Go.Proofs.Ytdoaopeegcakiaa
