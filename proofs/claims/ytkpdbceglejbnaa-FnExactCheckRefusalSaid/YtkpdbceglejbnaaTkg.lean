/- The model's least number that occurs once. -/
import Derived.Test.YtkpdbceglejbnaaTkc
namespace Go.Proofs.Ytkpdbceglejbnaa
open Go.RowKit

theorem gi_drop (l : List Int) (k i : Nat) : gi (l.drop k) i = gi l (k + i) := by simp [gi, List.getD]
theorem has_parts {c : List Int} {k : Nat} (h : k < c.length) : (¬ Has (c.take k) (gi c k) ∧ ¬ Has (c.drop (k + 1)) (gi c k)) ↔ Alone c k := by
  constructor
  · rintro ⟨h1, h2⟩
    refine ⟨h, fun u hu e => ?_⟩
    rcases Nat.lt_trichotomy u k with x | x | x
    · exact absurd ⟨u, by simp; omega, by rw [gi_take x]; exact e⟩ h1
    · exact x
    · exact absurd ⟨u - (k + 1), by simp; omega, by rw [gi_drop, show k + 1 + (u - (k + 1)) = u by omega]; exact e⟩ h2
  · rintro ⟨_, h⟩
    refine ⟨fun ⟨j, hj, e⟩ => ?_, fun ⟨j, hj, e⟩ => ?_⟩
    · simp at hj
      rw [gi_take (by omega)] at e
      have := h j (by omega) e
      omega
    · simp at hj
      rw [gi_drop] at e
      have := h _ (by omega) e
      omega
/-- The beginning and the end of a list in memory. -/
theorem sl_take {w : World} {a : Option Addr} {n c : Nat} {l : List Int} (h : IntSl w (.slice a n c) l) (k : Nat) (hk : k ≤ l.length) : IntSl w (.slice a k c) (l.take k) := by
  obtain ⟨a', b, o, c', h1, h2, h3, h4, h5⟩ := h
  simp only [Value.slice.injEq] at h1
  obtain ⟨rfl, rfl, rfl⟩ := h1
  have e : (l.take k).length = k := by simp; omega
  exact ⟨a, b, o, c, by rw [e], fun hp => h2 (by omega), by omega, h4, fun i hi => by
    rw [e] at hi
    obtain ⟨x, hx, hv⟩ := h5 i (by omega)
    exact ⟨x, hx, by show _ ∧ _; rw [gi_take hi]; exact hv⟩⟩
theorem sl_drop {w : World} {b o n c : Nat} {l : List Int} (h : IntSl w (.slice (some ⟨b, o, none⟩) n c) l) (k : Nat) (hk : k ≤ l.length) : IntSl w (.slice (some ⟨b, o + k, none⟩) (n - k) (c - k)) (l.drop k) := by
  obtain ⟨a', b', o', c', h1, h2, h3, h4, h5⟩ := h
  simp only [Value.slice.injEq] at h1
  obtain ⟨rfl, rfl, rfl⟩ := h1
  have e : (l.drop k).length = l.length - k := by simp
  refine ⟨_, b, o + k, c - k, by rw [e], fun hp => rfl, by omega, by omega, fun i hi => ?_⟩
  rw [e] at hi
  have := h2 (by omega)
  simp at this
  obtain ⟨rfl, rfl⟩ := this
  obtain ⟨x, hx, hv⟩ := h5 (k + i) (by omega)
  exact ⟨x, by rw [Nat.add_assoc]; exact hx, by show _ ∧ _; rw [gi_drop]; exact hv⟩
theorem sl_none (w : World) (a : Option Addr) (l : List Int) (k : Nat) (h : l.length ≤ k) : IntSl w (.slice a 0 0) (l.drop k) := by
  rw [List.drop_eq_nil_of_le h]
  exact ⟨a, 0, 0, 0, rfl, fun h => absurd h (by simp), Nat.le_refl _, by unfold maxLen; omega, fun i hi => absurd hi (by simp)⟩

set_option maxHeartbeats 1600000 in
set_option maxRecDepth 100000 in
theorem imOnce_any {w : World} {v : Value} {c : List Int} (h : IntSl w v c) (h6 : c.length ≤ 1048576) (hr : ∀ i, i < c.length → 0 ≤ gi c i ∧ inI64 (gi c i)) :
    Calls Try.prog 114 #[v] w fun e w' => e = .returned (.int .i64 (oncT c c.length)) ∧ w = w' := by
  have H := Lib.hid h
  obtain ⟨a, b, o, d, rfl, ha, hl, hm, hc⟩ := h
  unfold maxLen at hm
  have Hc := Lib.hid hc
  have Ha := Lib.hid ha
  have Hr := Lib.hid hr
  clear hc ha hr
  obtain ⟨n, hn⟩ : ∃ n, n = c.length := ⟨_, rfl⟩
  have HN := Lib.hid hn
  rw [← hn] at hl h6 H ⊢
  clear hn
  go_enter Try.func114, Try.ntmps114
  go_wp2
  go_loopg [3, 8] n (fun g m i wr => ∃ k : Nat, k ≤ n ∧ g = n - k ∧ m = .int .i64 (oncT c k) ∧ i = .int .i64 (k : Int) ∧ w = wr)
  case atStart => exact ⟨0, Nat.zero_le _, rfl, rfl, rfl, rfl⟩
  case round =>
    obtain ⟨k, hk, rfl, rfl, rfl, rfl⟩ := hrel
    by_cases hlt : k < n
    · obtain ⟨x, hx, rfl, _⟩ := Hc.out k (by have := HN.out; omega)
      obtain rfl := Ha.out (by have := HN.out; omega)
      have T1 := Lib.hid (sl_take H.out k (by have := HN.out; omega))
      have T2 := Lib.hid (sl_drop H.out (k + 1) (by have := HN.out; omega))
      have HP := Lib.hid (has_parts (c := c) (k := k) (by have := HN.out; omega))
      by_cases e1 : Has (c.take k) (gi c k)
      · have D1 := Lib.hid (dec_true e1)
        have S := Lib.hid (show oncT c (k + 1) = oncT c k from if_neg (by rw [dec_false fun h => (HP.out.2 h).1 e1]; simp))
        go_wp2_with (go_at_call 130; (with_reducible refine (l1Has_any _ T1.out).mono ?_); rintro e _ ⟨rfl, rfl⟩; rw [D1.out])
        go_roundg (n - (k + 1))
        case measure => omega
        case rel => exact ⟨k + 1, by omega, rfl, by rw [S.out], by go_num, rfl⟩
      have D1 := Lib.hid (dec_false e1)
      by_cases hd : d = k + 1
      · subst hd
        have T3 := Lib.hid (sl_none w (some ⟨b, o, none⟩) c (k + 1) (by have := HN.out; omega))
        clear T2
        by_cases e2 : Has (c.drop (k + 1)) (gi c k)
        · have D2 := Lib.hid (dec_true e2)
          have S := Lib.hid (show oncT c (k + 1) = oncT c k from if_neg (by rw [dec_false fun h => (HP.out.2 h).2 e2]; simp))
          clear e1 e2
          go_wp2_with (go_at_call 130; first | ((with_reducible refine (l1Has_any _ T1.out).mono ?_); rintro e _ ⟨rfl, rfl⟩; rw [D1.out]) | ((with_reducible refine (l1Has_any _ T3.out).mono ?_); rintro e _ ⟨rfl, rfl⟩; rw [D2.out]))
          go_roundg (n - (k + 1))
          case measure => omega
          case rel => exact ⟨k + 1, by omega, rfl, by rw [S.out], by go_num, rfl⟩
        · have D2 := Lib.hid (dec_false e2)
          have A := Lib.hid (HP.out.1 ⟨e1, e2⟩)
          clear e1 e2
          obtain ⟨m, hm⟩ : ∃ m, m = oncT c k := ⟨_, rfl⟩
          have HM := Lib.hid hm
          rw [← hm]
          clear hm
          by_cases e3 : m < 0
          · have b3 : decide (m < 0) = true := by simpa using e3
            have S := Lib.hid (show oncT c (k + 1) = gi c k from if_pos ⟨dec_true A.out, .inl (by rw [← HM.out]; exact e3)⟩)
            clear e3
            go_wp2_with (go_at_call 130; first | ((with_reducible refine (l1Has_any _ T1.out).mono ?_); rintro e _ ⟨rfl, rfl⟩; rw [D1.out]) | ((with_reducible refine (l1Has_any _ T3.out).mono ?_); rintro e _ ⟨rfl, rfl⟩; rw [D2.out]))
            go_roundg (n - (k + 1))
            case measure => omega
            case rel => exact ⟨k + 1, by omega, rfl, by rw [S.out], by go_num, rfl⟩
          · have b3 : decide (m < 0) = false := by simpa using e3
            by_cases e4 : gi c k < m
            · have b4 : decide (gi c k < m) = true := by simpa using e4
              have S := Lib.hid (show oncT c (k + 1) = gi c k from if_pos ⟨dec_true A.out, .inr (by rw [← HM.out]; exact e4)⟩)
              clear e3 e4
              go_wp2_with (go_at_call 130; first | ((with_reducible refine (l1Has_any _ T1.out).mono ?_); rintro e _ ⟨rfl, rfl⟩; rw [D1.out]) | ((with_reducible refine (l1Has_any _ T3.out).mono ?_); rintro e _ ⟨rfl, rfl⟩; rw [D2.out]))
              go_roundg (n - (k + 1))
              case measure => omega
              case rel => exact ⟨k + 1, by omega, rfl, by rw [S.out], by go_num, rfl⟩
            · have b4 : decide (gi c k < m) = false := by simpa using e4
              have S := Lib.hid (show oncT c (k + 1) = oncT c k from if_neg (by rw [← HM.out]; rintro ⟨_, h | h⟩; exact e3 h; exact e4 h))
              clear e3 e4
              go_wp2_with (go_at_call 130; first | ((with_reducible refine (l1Has_any _ T1.out).mono ?_); rintro e _ ⟨rfl, rfl⟩; rw [D1.out]) | ((with_reducible refine (l1Has_any _ T3.out).mono ?_); rintro e _ ⟨rfl, rfl⟩; rw [D2.out]))
              go_roundg (n - (k + 1))
              case measure => omega
              case rel => exact ⟨k + 1, by omega, rfl, by rw [S.out, HM.out], by go_num, rfl⟩
      · by_cases e2 : Has (c.drop (k + 1)) (gi c k)
        · have D2 := Lib.hid (dec_true e2)
          have S := Lib.hid (show oncT c (k + 1) = oncT c k from if_neg (by rw [dec_false fun h => (HP.out.2 h).2 e2]; simp))
          clear e1 e2
          go_wp2_with (go_at_call 130; first | ((with_reducible refine (l1Has_any _ T1.out).mono ?_); rintro e _ ⟨rfl, rfl⟩; rw [D1.out]) | ((with_reducible refine (l1Has_any _ T2.out).mono ?_); rintro e _ ⟨rfl, rfl⟩; rw [D2.out]))
          go_roundg (n - (k + 1))
          case measure => omega
          case rel => exact ⟨k + 1, by omega, rfl, by rw [S.out], by go_num, rfl⟩
        · have D2 := Lib.hid (dec_false e2)
          have A := Lib.hid (HP.out.1 ⟨e1, e2⟩)
          clear e1 e2
          obtain ⟨m, hm⟩ : ∃ m, m = oncT c k := ⟨_, rfl⟩
          have HM := Lib.hid hm
          rw [← hm]
          clear hm
          by_cases e3 : m < 0
          · have b3 : decide (m < 0) = true := by simpa using e3
            have S := Lib.hid (show oncT c (k + 1) = gi c k from if_pos ⟨dec_true A.out, .inl (by rw [← HM.out]; exact e3)⟩)
            clear e3
            go_wp2_with (go_at_call 130; first | ((with_reducible refine (l1Has_any _ T1.out).mono ?_); rintro e _ ⟨rfl, rfl⟩; rw [D1.out]) | ((with_reducible refine (l1Has_any _ T2.out).mono ?_); rintro e _ ⟨rfl, rfl⟩; rw [D2.out]))
            go_roundg (n - (k + 1))
            case measure => omega
            case rel => exact ⟨k + 1, by omega, rfl, by rw [S.out], by go_num, rfl⟩
          · have b3 : decide (m < 0) = false := by simpa using e3
            by_cases e4 : gi c k < m
            · have b4 : decide (gi c k < m) = true := by simpa using e4
              have S := Lib.hid (show oncT c (k + 1) = gi c k from if_pos ⟨dec_true A.out, .inr (by rw [← HM.out]; exact e4)⟩)
              clear e3 e4
              go_wp2_with (go_at_call 130; first | ((with_reducible refine (l1Has_any _ T1.out).mono ?_); rintro e _ ⟨rfl, rfl⟩; rw [D1.out]) | ((with_reducible refine (l1Has_any _ T2.out).mono ?_); rintro e _ ⟨rfl, rfl⟩; rw [D2.out]))
              go_roundg (n - (k + 1))
              case measure => omega
              case rel => exact ⟨k + 1, by omega, rfl, by rw [S.out], by go_num, rfl⟩
            · have b4 : decide (gi c k < m) = false := by simpa using e4
              have S := Lib.hid (show oncT c (k + 1) = oncT c k from if_neg (by rw [← HM.out]; rintro ⟨_, h | h⟩; exact e3 h; exact e4 h))
              clear e3 e4
              go_wp2_with (go_at_call 130; first | ((with_reducible refine (l1Has_any _ T1.out).mono ?_); rintro e _ ⟨rfl, rfl⟩; rw [D1.out]) | ((with_reducible refine (l1Has_any _ T2.out).mono ?_); rintro e _ ⟨rfl, rfl⟩; rw [D2.out]))
              go_roundg (n - (k + 1))
              case measure => omega
              case rel => exact ⟨k + 1, by omega, rfl, by rw [S.out, HM.out], by go_num, rfl⟩
    · obtain rfl : k = n := by omega
      go_wp2
      go_ret
      exact ⟨ret_iT (by rw [HN.out]), rfl⟩
end Go.Proofs.Ytkpdbceglejbnaa
