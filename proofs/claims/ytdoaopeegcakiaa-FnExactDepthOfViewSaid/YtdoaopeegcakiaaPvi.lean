/- The contracts of the model's viFits and viParse. -/
import Derived.Test.YtdoaopeegcakiaaPvh
namespace Go.Proofs.Ytdoaopeegcakiaa
open Go.RowKit

def VF.items : VF → List (Int × VF)
  | .nil => []
  | .cons _ d _ s r => (d, s) :: r.items
def VF.size : VF → Nat
  | .nil => 0
  | .cons _ _ _ s r => s.size + r.size + 1
theorem fit_items {k : Nat} : ∀ {s : VF}, s.fit k ↔ ∀ x ∈ s.items, x.1 = 0 ∨ fitT x.2 k
  | .nil => ⟨fun _ x hx => (by cases hx), fun _ => trivial⟩
  | .cons _ d _ s r => by
    have ih := fit_items (k := k) (s := r)
    show ((d = 0 ∨ fitT s k) ∧ r.fit k) ↔ _
    rw [ih]
    simp only [VF.items, List.mem_cons, forall_eq_or_imp]
theorem listAt_len {w : World} {F : Nat → Prop} : ∀ {s : VF} {ps : List Value}, ListAt w F s ps → s.items.length = ps.length
  | .nil, _, h => by rw [show _ = [] from h]; rfl
  | .cons _ _ _ _ r, _, ⟨_, ps', h1, _, h2⟩ => by rw [h1]; simp only [VF.items, List.length_cons]; rw [listAt_len h2]
theorem listAt_get {w : World} {F : Nat → Prop} : ∀ {s : VF} {ps : List Value}, ListAt w F s ps → ∀ t, t < ps.length → ∃ b i x, ps[t]? = some (ptr b) ∧ s.items[t]? = some x ∧ NodeAt w F b x.1 i x.2 ∧ x.2.size < s.size
  | .nil, ps, h, t, ht => by rw [show ps = [] from h] at ht; simp at ht
  | .cons j d i s r, ps, h, t, ht => by
    obtain ⟨b, ps', rfl, h1, h2⟩ := listAt_cons.1 h
    cases t with
    | zero => exact ⟨b, i, (d, s), rfl, rfl, h1, by simp only [VF.size]; omega⟩
    | succ t =>
      obtain ⟨b', i', x, a1, a2, a3, a4⟩ := listAt_get h2 t (by simpa using ht)
      exact ⟨b', i', x, by simpa using a1, by simpa [VF.items] using a2, a3, by simp only [VF.size]; omega⟩
theorem items_nil {s : VF} : s.items.length = 0 ↔ s = .nil := by cases s <;> simp [VF.items]

set_option maxHeartbeats 1600000 in
set_option maxRecDepth 100000 in
theorem viFits_any (n : Nat) : ∀ (s : VF) (w : World) (b : Nat) (d i : Int) (k : Nat) (F : Nat → Prop), s.size < n → k ≤ 80 → NodeAt w F b d i s →
    Calls Try.prog 100 #[.pointer (some ⟨b, 0, none⟩), .int .i64 (k : Int)] w fun e w' => e = .returned (.bool (dec (d = 0 ∨ fitT s k))) ∧ w = w' := by
  induction n with
  | zero => intro s w b d i k F h; omega
  | succ n ih =>
    intro s w b d i k F hs hk h
    have IH := Lib.hid ih
    clear ih
    obtain ⟨pv, qv, qs, -, hrow, -, -, hown, -, hl⟩ := h
    obtain ⟨t0, -, -, t3, -⟩ := row5_facts hrow
    obtain ⟨qa, qc, rfl⟩ := owns_slice hown
    have HL := Lib.hid hl
    have HO := Lib.hid hown
    have hlen := listAt_len hl
    have HNIL := Lib.hid (show qs.length = 0 ↔ s = .nil by rw [← hlen]; exact items_nil)
    have HSZ := Lib.hid hs
    clear hrow hl hown hlen hs
    by_cases hd : d = 0
    · have e0 : (d == 0) = true := by simp [hd]
      have A := Lib.hid (dec_true (p := d = 0 ∨ fitT s k) (.inl hd))
      clear hd
      go_enter Try.func100, Try.ntmps100
      go_wp2
      go_ret
      exact ⟨bool_ofv A.out.symm, rfl⟩
    have e0 : (d == 0) = false := by simp [hd]
    have HD := Lib.hid hd
    obtain ⟨m, hm⟩ : ∃ m, m = qs.length := ⟨_, rfl⟩
    have HM := Lib.hid hm
    rw [← hm] at HNIL t3
    clear hd hm
    by_cases hq : m = 0
    · subst hq
      by_cases hk0 : k = 0
      · subst hk0
        have A := Lib.hid (dec_true (p := d = 0 ∨ fitT s 0) (.inr ⟨⟨fun _ => rfl, fun _ => HNIL.out.1 rfl⟩, by rw [HNIL.out.1 rfl]; trivial⟩))
        go_enter Try.func100, Try.ntmps100
        go_wp2_with fail
        go_loopg [26] 0 (fun g i wr => g = 0 ∧ i = .int .i64 0 ∧ Hid (w = wr))
        case atStart => exact ⟨rfl, rfl, rfl⟩
        case round =>
          obtain ⟨rfl, rfl, Hr⟩ := hrel
          go_wp2
          go_ret
          exact ⟨bool_ofv A.out.symm, Hr.out⟩
      · have e1 : ((k : Int) == 0) = false := by simp; omega
        have e2 : (k == 0) = false := by simp; omega
        have A := Lib.hid (dec_false (p := d = 0 ∨ fitT s k) fun h => by
          rcases h with h | h
          · exact HD.out h
          · exact hk0 (h.1.1 (HNIL.out.1 rfl)))
        clear hk0
        go_enter Try.func100, Try.ntmps100
        go_wp2
        go_ret
        exact ⟨bool_ofv A.out.symm, rfl⟩
    have e3 : ((m : Int) == 0) = false := by simp; omega
    have e4 : (m == 0) = false := by simp; omega
    by_cases hk0 : k = 0
    · subst hk0
      have A := Lib.hid (dec_false (p := d = 0 ∨ fitT s 0) fun h => by
        rcases h with h | h
        · exact HD.out h
        · exact hq (HNIL.out.2 (h.1.2 rfl)))
      clear hq
      go_enter Try.func100, Try.ntmps100
      go_wp2
      go_ret
      exact ⟨bool_ofv A.out.symm, rfl⟩
    have e1 : ((k : Int) == 0) = false := by simp; omega
    have e2 : (k == 0) = false := by simp; omega
    obtain ⟨k1, hk1⟩ : ∃ k1, k1 = k - 1 := ⟨_, rfl⟩
    have ek : (k : Int) - 1 = (k1 : Int) := by omega
    have hk80 : k1 ≤ 80 := by omega
    have HK := Lib.hid hk1
    have HF := Lib.hid (show (d = 0 ∨ fitT s k) ↔ s.fit k1 by
      rw [hk1]
      exact ⟨fun h => (h.resolve_left HD.out).2, fun h => .inr ⟨⟨fun e => absurd (HNIL.out.2 e) hq, fun e => absurd e hk0⟩, h⟩⟩)
    obtain ⟨g, hqa⟩ : ∃ g, qa = some ⟨g, 0, none⟩ := by
      rcases HO.out.2 with ⟨_, h0⟩ | ⟨g, cap, cur, e, _⟩
      · exact absurd (HM.out.trans h0) hq
      · cases e; exact ⟨g, rfl⟩
    subst hqa
    have HC := Lib.hid (show ∀ t, t < m → w.cell? ⟨g, t, none⟩ = qs[t]? from fun t ht => World.ownsRow.cellAt HO.out t (by rw [← HM.out]; omega))
    have hcap : m ≤ qc ∧ qc ≤ maxLen := by
      rcases HO.out.2 with ⟨e, _⟩ | ⟨g', cap, cur, e, _, _, h1, h2, _⟩
      · cases e
      · cases e; rw [HM.out]; exact ⟨h1, h2⟩
    obtain ⟨hcap1, hcap2⟩ := hcap
    unfold maxLen at hcap2
    clear hk0 hk1 hq
    go_enter Try.func100, Try.ntmps100
    go_wp2_with fail
    go_loopg [26] m (fun g i wr => ∃ t : Nat, t ≤ m ∧ g = m - t ∧ i = .int .i64 (t : Int) ∧ Hid (w = wr ∧ ∀ u x, u < t → s.items[u]? = some x → x.1 = 0 ∨ fitT x.2 k1))
    case atStart => exact ⟨0, Nat.zero_le _, rfl, rfl, rfl, fun u x hu => absurd hu (by omega)⟩
    case round =>
      obtain ⟨t, ht, rfl, rfl, Hr⟩ := hrel
      obtain rfl := Hr.out.1
      by_cases hlt : t < m
      · obtain ⟨b', i', x, a1, a2, a3, a4⟩ := listAt_get HL.out t (by rw [← HM.out]; exact hlt)
        have c1 := (HC.out t hlt).trans a1
        have A3 := Lib.hid a3
        have A2 := Lib.hid a2
        have hsz : x.2.size < n := by have := HSZ.out; omega
        clear a1 a2 a3 a4
        by_cases hf : x.1 = 0 ∨ fitT x.2 k1
        · have T := Lib.hid (dec_true hf)
          have HFF := Lib.hid hf
          clear hf
          go_wp2_with (first | (go_at_call 100; (with_reducible refine (IH.out _ _ _ _ _ k1 _ hsz hk80 A3.out).mono ?_); rintro e w5 ⟨rfl, rfl⟩; rw [T.out]))
          go_roundg (m - (t + 1))
          case measure => omega
          case rel =>
            refine ⟨t + 1, by omega, rfl, by go_num, rfl, fun u y hu hy => ?_⟩
            by_cases e : u = t
            · subst e; rw [A2.out] at hy; cases hy; exact HFF.out
            · exact Hr.out.2 u y (by omega) hy
        · have T := Lib.hid (dec_false hf)
          have A := Lib.hid (dec_false (p := d = 0 ∨ fitT s k) fun h => hf (fit_items.1 (HF.out.1 h) x (List.mem_of_getElem? A2.out)))
          clear hf
          go_wp2_with (first | (go_at_call 100; (with_reducible refine (IH.out _ _ _ _ _ k1 _ hsz hk80 A3.out).mono ?_); rintro e w5 ⟨rfl, rfl⟩; rw [T.out]))
          go_ret
          exact ⟨bool_ofv A.out.symm, rfl⟩
      · have A := Lib.hid (dec_true (p := d = 0 ∨ fitT s k) (HF.out.2 (fit_items.2 fun x hx => by
          obtain ⟨u, hu⟩ := List.getElem?_of_mem hx
          have hul : u < s.items.length := (List.getElem?_eq_some_iff.1 hu).1
          rw [listAt_len HL.out, ← HM.out] at hul
          exact Hr.out.2 u x (by omega) hu)))
        go_wp2
        go_ret
        exact ⟨bool_ofv A.out.symm, rfl⟩

theorem isV_iff {B : Bs} : IsV B ↔ B.length ≤ 4000 ∧ ∃ d i s, PV B = some ((d, i, s), []) ∧ VDok s := by
  unfold IsV
  constructor
  · rintro ⟨h, x, k⟩
    obtain ⟨d, i, s, a, b, _⟩ := KK_iff.1 k
    exact ⟨h, d, i, s, a, b⟩
  · rintro ⟨h, d, i, s, a, b⟩
    exact ⟨h, s.dep, KK_iff.2 ⟨d, i, s, a, b, rfl⟩⟩
theorem depV_eq {B : Bs} {d i : Int} {s : VF} (h : B.length ≤ 4000) (k : PV B = some ((d, i, s), [])) (v : VDok s) : depV B = (s.dep : Int) := (depV_t h (KK_iff.2 ⟨d, i, s, k, v, rfl⟩)).1
theorem ret_vb {v : Value} {b c : Bool} (h : b = c) : Ending.returned (.tuple #[v, .bool b]) = .returned (.tuple #[v, .bool c]) := by rw [h]

set_option maxHeartbeats 1600000 in
set_option maxRecDepth 100000 in
theorem viParse_any (B : Bs) (w : World) :
    Calls Try.prog 61 #[.string (bs B)] w fun e w' => ∃ v, e = .returned (.tuple #[v, .bool (dec (IsV B))]) ∧ Ext w w' ∧ (IsV B → ∃ b d i s F, v = .pointer (some ⟨b, 0, none⟩) ∧ PV B = some ((d, i, s), []) ∧ VDok s ∧ NodeAt w' F b d i s) := by
  have hsz := bs_size B
  by_cases hl : B.length ≤ 4000
  case neg =>
    have hd : decide (4000 < (B.length : Int)) = true := decide_eq_true (by omega)
    have hd2 : 4000 < B.length := by omega
    have HN := Lib.hid (show ¬ IsV B from fun h => hl h.1)
    clear hl
    go_enter Try.func61, Try.ntmps61
    go_wp2
    go_ret2
    exact ⟨_, ret_vb (dec_false HN.out).symm, (Ext.rfl' _).alloc' _, fun h => absurd h HN.out⟩
  have hd : decide (4000 < (B.length : Int)) = false := decide_eq_false (by omega)
  have hd2 : ¬ 4000 < B.length := by omega
  have R0 := Lib.hid (show RdAt (w.alloc (.cells #[.string (bs B), .int .i64 0, .bool true] 121)) w.heap.size B 0 true from row3_made _ _ _ _ _)
  go_enter Try.func61, Try.ntmps61
  go_wp2_with fail
  (with_reducible refine (view_any (B.length + 1) _ _ _ _ _ (by omega) R0.out (Nat.zero_le _) hl).mono ?_)
  rintro e w1 ⟨b, p', k', rfl, hv⟩
  obtain ⟨h1, h2, -, h4, -, -, h7, h8⟩ := hv
  rw [List.drop_zero] at h7 h8
  have X := Lib.hid (h1.ext ((Ext.rfl' w).alloc' (.cells #[.string (bs B), .int .i64 0, .bool true] 121)) (by simp))
  obtain ⟨r0, r1, r2, -, -, -⟩ := row3_facts h2
  clear h1 h2
  cases k' with
  | false =>
    have HN := Lib.hid (show ¬ IsV B from fun h => by
      obtain ⟨_, d, i, s, a, _⟩ := isV_iff.1 h
      rw [h8 rfl rfl] at a; cases a)
    clear h7 h8
    go_wp2
    go_ret2
    exact ⟨_, ret_vb (dec_false HN.out).symm, X.out, fun h => absurd h HN.out⟩
  | true =>
    obtain ⟨-, d, i, s, hpv, hnd⟩ := h7 rfl
    have HPV := Lib.hid hpv
    have HND := Lib.hid hnd
    have HPOS := Lib.hid (PV_pos hpv)
    obtain ⟨pv, qv, qs, -, hrow, -⟩ := hnd
    obtain ⟨-, -, -, -, t4⟩ := row5_facts hrow
    clear h7 h8 hpv hrow
    by_cases hend : p' = B.length
    case neg =>
      have e1 : ((p' : Int) == (B.length : Int)) = false := by simp; omega
      have HN := Lib.hid (show ¬ IsV B from fun h => by
        obtain ⟨_, d2, i2, s2, a, _⟩ := isV_iff.1 h
        rw [HPV.out] at a
        have := (Prod.mk.inj (Option.some.inj a)).2
        have := congrArg List.length this
        simp at this; omega)
      clear hend
      go_wp2
      go_ret2
      exact ⟨_, ret_vb (dec_false HN.out).symm, X.out, fun h => absurd h HN.out⟩
    have e1 : ((p' : Int) == (B.length : Int)) = true := by simp; omega
    have HPE := Lib.hid (show PV B = some ((d, i, s), []) by rw [HPV.out, hend, List.drop_length])
    clear hend
    by_cases h80 : s.dep ≤ 80
    case neg =>
      have e2 : decide ((s.dep : Int) ≤ 80) = false := decide_eq_false (by omega)
      have e3 : ¬ s.dep ≤ 80 := h80
      have HN := Lib.hid (show ¬ IsV B from fun h => by
        obtain ⟨_, d2, i2, s2, a, b⟩ := isV_iff.1 h
        rw [HPE.out] at a
        cases a
        exact h80 b.1)
      clear h80
      go_wp2
      go_ret2
      exact ⟨_, ret_vb (dec_false HN.out).symm, X.out, fun h => absurd h HN.out⟩
    have e2 : decide ((s.dep : Int) ≤ 80) = true := decide_eq_true (by omega)
    have A := Lib.hid (show dec (d = 0 ∨ fitT s s.dep) = dec (IsV B) from dec_congr (by
      rw [isV_iff]
      constructor
      · intro h
        refine ⟨hl, d, i, s, HPE.out, h80, ?_⟩
        rcases h with h | h
        · have := HPOS.out.2.1 h
          subst this
          exact ⟨⟨fun _ => rfl, fun _ => rfl⟩, trivial⟩
        · exact h
      · rintro ⟨_, d2, i2, s2, a, b⟩
        rw [HPE.out] at a
        cases a
        exact .inr b.2))
    have HF := Lib.hid (show IsV B → ∃ b' d i s F, Value.pointer (some ⟨b, 0, none⟩) = .pointer (some ⟨b', 0, none⟩) ∧ PV B = some ((d, i, s), []) ∧ VDok s ∧ NodeAt w1 F b' d i s from fun h => by
      obtain ⟨_, d2, i2, s2, a, bb⟩ := isV_iff.1 h
      rw [HPE.out] at a
      cases a
      exact ⟨b, d, i, s, _, rfl, HPE.out, bb, HND.out⟩)
    go_wp2_with (first | (go_at_call 100; (with_reducible refine (viFits_any (s.size + 1) s _ _ d i s.dep _ (by omega) h80 HND.out).mono ?_); rintro e w5 ⟨rfl, rfl⟩; rw [A.out]))
    go_ret2
    exact ⟨_, rfl, X.out, HF.out⟩
end Go.Proofs.Ytdoaopeegcakiaa
