/- SubsetsOf: the model and the program answer the same. -/
import Derived.Test.YtcjiejbndmnjaaaI9
namespace Go.Proofs.Ytcjiejbndmnjaaa
open Go.RowKit

theorem src_one (w : World) (x : Value) (t : Nat) (h1 : x.oneCell' = true) : SrcAt (w.alloc (.cells #[x] t)) (some ⟨w.heap.size, 0, none⟩) 1 1 [x] := by
  refine ⟨rfl, by simp, fun ad e j u hu => ?_, by simpa using h1⟩
  obtain rfl := Option.some.inj e
  have hj : j = 0 := by
    rcases j with _ | j
    · rfl
    · simp at hu
  subst hj
  obtain rfl : x = u := by simpa using hu
  rw [add_plain]
  simp

theorem own_nilII (w : World) : OwnII w (.slice none 0 0) [] [] := ⟨fun _ => undef, [], fun _ => [], ⟨0, Nat.le_refl _, by unfold maxLen; omega, .inl ⟨rfl, rfl, none, ⟨rfl, rfl⟩, rfl⟩⟩, fun i hi => absurd hi (by simp), rfl⟩

/-- The outer row when k of its rows are copied. -/
def outerI (w wr : World) (l : List (List Int)) (k : Nat) : Prop :=
  Ext w wr ∧ w.heap.size + 1 ≤ wr.heap.size ∧ ∃ (R : Nat → Value) (T : Nat → List Nat), wr.rowIs w.heap.size 27 l.length (fun i => if i < k then R i else .slice none 0 0) ∧
    (∀ i, i < k → OwnI wr (R i) (gr l i) (T i)) ∧ Fresh w (w.heap.size :: (List.range k).flatMap T)

theorem outerI_step {w wr w1 : World} {l : List (List Int)} {k : Nat} {v : Value} {bs : List Nat} (h : outerI w wr l k) (hx : Ext wr w1) (ho : OwnI w1 v (gr l k) bs) (hf : Fresh wr bs) :
    outerI w (w1.setCell ⟨w.heap.size, k, none⟩ v) l (k + 1) := by
  obtain ⟨he, hsz, R, T, hrow, hown, hfr⟩ := h
  have hb : ∀ i, i < k → ∀ b ∈ T i, b < wr.heap.size ∧ w.heap.size < b := fun i hi b hb => by
    refine ⟨(hown i hi).1.lt b hb, ?_⟩
    have hm : b ∈ (List.range k).flatMap T := List.mem_flatMap.2 ⟨i, List.mem_range.2 hi, hb⟩
    have h1 := hfr.2 b (List.mem_cons_of_mem _ hm)
    have h2 := (List.nodup_cons.1 hfr.1).1
    by_cases e : b = w.heap.size
    · subst e; exact absurd hm h2
    · omega
  have hne : ∀ b, w.heap.size < b → (w1.setCell ⟨w.heap.size, k, none⟩ v).heap[b]? = w1.heap[b]? := fun b hb => Below.heap_setCell _ _ _ _ (by show b ≠ w.heap.size; omega)
  refine ⟨(he.trans' hx).store (Nat.le_refl _) _, by have := hx.size; simp; omega, fun i => if i = k then v else R i, fun i => if i = k then bs else T i, ?_, fun i hi => ?_, ?_⟩
  · refine ((row_ext hrow hx).set k v).congr fun i hi => ?_
    by_cases e : i = k
    · subst e; simp
    · rw [if_neg e]
      simp only [if_neg e]
      by_cases hlt : i < k
      · rw [if_pos hlt, if_pos (by omega)]
      · rw [if_neg hlt, if_neg (by omega)]
  · by_cases e : i = k
    · subst e
      simp only [if_true]
      exact ho.keep fun b hb => hne b (by have := hf.2 b hb; omega)
    · simp only [if_neg e]
      exact ((hown i (by omega)).ext hx).keep fun b hb' => hne b (hb i (by omega) b hb').2
  · have hcong : (List.range k).flatMap (fun i => if i = k then bs else T i) = (List.range k).flatMap T := by
      rw [List.flatMap_def, List.flatMap_def]
      congr 1
      exact List.map_congr_left fun i hi => if_neg (by have := List.mem_range.1 hi; omega)
    rw [List.range_succ, List.flatMap_append, hcong]
    simp only [List.flatMap_cons, List.flatMap_nil, if_true, List.append_nil]
    rw [← List.cons_append]
    refine Fresh.append hfr (fun b hb' => ?_) he.size hf
    rcases List.mem_cons.1 hb' with rfl | hb'
    · omega
    · obtain ⟨i, hi, hbi⟩ := List.mem_flatMap.1 hb'
      exact (hb i (List.mem_range.1 hi) b hbi).1

theorem owns_lt {w : World} {B t k n : Nat} {v : Value} {xs : List Value} (h : w.ownsRow B t k v n xs) : ∀ b, v.ownBlock = some b → B ≤ b ∧ b < w.heap.size := h.lt
theorem Try.infoS : (Try.prog.info? 27).map (fun i => (i.zero, i.size, i.bytes)) = some (some (.slice none 0 0), 1, 24) := by kernel_rfl
theorem own_slice {w : World} {v : Value} {l : List Int} {bs : List Nat} (h : OwnI w v l bs) : ∃ a c, v = .slice a l.length c := by
  obtain ⟨⟨c, h1, h2, h3⟩, h4⟩ := h
  rcases h3 with ⟨hn, _, a, _, rfl⟩ | ⟨b, m, g, _, rfl, _⟩
  · exact ⟨a, c, by rw [hn]⟩
  · exact ⟨_, c, rfl⟩

/-- A list of lists in memory of its own, and whether B holds. -/
def AnsII (w : World) (l : List (List Int)) (B : Prop) (e : Ending) (w' : World) : Prop := ∃ v' bs, e = .returned (.tuple #[v', .bool (dec B)]) ∧ Ext w w' ∧ OwnII w' v' l bs ∧ Fresh w bs
theorem AnsII.mk {w w' : World} {l : List (List Int)} {B : Prop} {v : Value} {b : Bool} {bs : List Nat} (h : dec B = b) (hx : Ext w w') (ho : OwnII w' v l bs) (hf : Fresh w bs) : AnsII w l B (.returned (.tuple #[v, .bool b])) w' :=
  ⟨v, bs, by rw [h], hx, ho, hf⟩
theorem AnsII.no {w w' : World} {l : List (List Int)} {B : Prop} {b : Bool} (h : dec B = b) (hl : l = []) (hx : Ext w w') : AnsII w l B (.returned (.tuple #[.slice none 0 0, .bool b])) w' :=
  ⟨_, [], by rw [h], hx, by rw [hl]; exact own_nilII _, Fresh.nil _⟩

def sbs (n k : Nat) : List (List Int) := (List.range (ch n k)).map (sub 0 n k)
theorem sbs_length (n k : Nat) : (sbs n k).length = ch n k := by simp [sbs]
theorem gr_sbs {n k r : Nat} (h : r < ch n k) : gr (sbs n k) r = sub 0 n k r := by simp [gr, sbs, h]
def SoOK (n k : Int) : Prop := SxOK n k ∧ biAns n k ≤ 1000
open Classical in
noncomputable def soAns (n k : Int) : List (List Int) := if SoOK n k then sbs n.toNat k.toNat else []
theorem so_no {n k : Nat} (hn : n ≤ 60) (hk : k ≤ 60) (h : 1000 < ch n k) : ¬SoOK n k := fun ⟨_, h2⟩ => by rw [biAns_t hn hk] at h2; omega
theorem so_yes {n k : Nat} (hn : n ≤ 60) (hk : k ≤ 60) (h : ¬1000 < ch n k) : SoOK n k := ⟨⟨⟨by omega, by omega⟩, by omega, by omega⟩, by rw [biAns_t hn hk]; omega⟩
theorem soAns_t {n k : Nat} (hn : n ≤ 60) (hk : k ≤ 60) (h : ¬1000 < ch n k) : soAns n k = sbs n k := if_pos (so_yes hn hk h)
theorem soAns_f {n k : Int} (h : ¬SoOK n k) : soAns n k = [] := if_neg h
theorem soAns_small (n k : Int) : IISmall (soAns n k) := by
  by_cases h : SoOK n k
  · obtain ⟨a, b, rfl, rfl, ha, hb⟩ := sx_nat h.1
    have h2 := h.2
    rw [biAns_t ha hb] at h2
    rw [soAns_t ha hb (by omega)]
    refine ⟨by rw [sbs_length]; omega, fun i => ?_⟩
    by_cases hi : i < ch a b
    · rw [gr_sbs hi, sub_length _ _ _ _ hi]; omega
    · simp [gr, List.getD, List.getElem?_eq_none (show (sbs a b).length ≤ i by rw [sbs_length]; omega)]
  · rw [soAns_f h]
    exact ⟨Nat.zero_le _, fun i => by simp [gr]⟩
theorem outerI_done {w wr : World} {l : List (List Int)} (h : outerI w wr l l.length) (hl : l.length ≤ 1048576) : ∃ bs, OwnII wr (.slice (some ⟨w.heap.size, 0, none⟩) l.length l.length) l bs ∧ Fresh w bs := by
  obtain ⟨he, hsz, R, T, hrow, hown, hfr⟩ := h
  exact ⟨_, ⟨R, [w.heap.size], T, own_made (k := 1) (by simpa using hrow) (small_max hl) (fun i hi => by rw [if_pos (by omega)]), hown, rfl⟩, hfr⟩

set_option maxHeartbeats 3200000 in
set_option maxRecDepth 100000 in
theorem specSubsetsOf_any {w : World} (n k : Int) : Calls Try.prog 31 #[.int .i64 n, .int .i64 k] w (AnsII w (soAns n k) (SoOK n k)) := by
  by_cases h : SxOK n k
  case neg =>
    have D := Lib.hid (dec_false h)
    have F := Lib.hid (dec_false (p := SoOK n k) fun k => h k.1)
    have A := Lib.hid (soAns_f (n := n) (k := k) fun k => h k.1)
    clear h
    go_enter Try.func31, Try.ntmps31
    go_wp2_with (first | (go_at_call 57; (with_reducible refine (nuSixty_any _ _ _).mono ?_); rintro e w' ⟨rfl, rfl⟩; rw [D.out]))
    go_ret2
    exact AnsII.no F.out A.out (Ext.rfl' w)
  case pos =>
    have D := Lib.hid (dec_true h)
    obtain ⟨a, b, rfl, rfl, ha, hb⟩ := sx_nat h
    have B := Lib.hid (biAns_t ha hb)
    by_cases hr : 1000 < ch a b
    · have F := Lib.hid (dec_false (so_no ha hb hr))
      have A := Lib.hid (soAns_f (so_no ha hb hr))
      clear h
      go_enter Try.func31, Try.ntmps31
      go_wp2_with (first | (go_at_call 57; (with_reducible refine (nuSixty_any _ _ _).mono ?_); rintro e w' ⟨rfl, rfl⟩; rw [D.out]) | (go_at_call 58; (with_reducible refine (nuChoose_any _ _ ha (by omega) _).mono ?_); rintro e w1 ⟨rfl, hw⟩; rw [Int.toNat_natCast]; have K1 := Lib.hid hw; clear hw))
      go_ret2
      exact AnsII.no F.out A.out K1.out
    · have F := Lib.hid (dec_true (so_yes ha hb hr))
      have A := Lib.hid (soAns_t ha hb hr)
      clear h
      obtain ⟨i0, hi, hz0, hz1, hz2⟩ := info_parts Try.infoS
      have I0 := Lib.hid (And.intro hi (And.intro hz0 (And.intro hz1 hz2)))
      clear hi hz0 hz1 hz2
      go_enter Try.func31, Try.ntmps31
      go_wp2_with (first | (go_at_call 57; (with_reducible refine (nuSixty_any _ _ _).mono ?_); rintro e w' ⟨rfl, rfl⟩; rw [D.out]) | (go_at_call 58; (with_reducible refine (nuChoose_any _ _ ha (by omega) _).mono ?_); rintro e w1 ⟨rfl, hw⟩; rw [Int.toNat_natCast]; have K1 := Lib.hid hw; clear hw))
      have hw0 : ∃ wo : World, wo = w1 := ⟨_, rfl⟩
      obtain ⟨wo, rfl⟩ := hw0
      go_loopg [6, 7] (ch a b) (fun g s i wr => ∃ r : Nat, r ≤ ch a b ∧ g = ch a b - r ∧ i = .int .i64 r ∧ Hid (Ext w wr ∧ GrowI w.heap.size wr s (sbs a b) r))
      case atStart => exact ⟨0, Nat.zero_le _, rfl, rfl, K1.out, GrowI.nil _ _ _⟩
      case round =>
        obtain ⟨r, hr, rfl, rfl, Hr⟩ := hrel
        by_cases hlt : r < ch a b
        · have HL := Lib.hid hlt
          obtain ⟨R, T, h1, h2, h3, h4⟩ := Hr.out.2
          have HX := Lib.hid Hr.out.1
          have HG := Lib.hid (And.intro h1 (And.intro h2 (And.intro h3 h4)))
          clear h1 h2 h3 h4
          go_wp2_with fail
          (with_reducible refine (nuChoose_any _ _ ha (by omega) _).mono ?_)
          rintro e w1 ⟨rfl, hw⟩
          rw [Int.toNat_natCast]
          have K2 := Lib.hid hw
          clear hw
          go_wp2_with fail
          (with_reducible refine (nuAt_any _ _ _ ha hb HL.out _).mono ?_)
          rintro e w2 ⟨v', bs, rfl, hx, ho, hf⟩
          obtain ⟨a2, c2, rfl⟩ := own_slice ho
          have K3 := Lib.hid (K2.out.trans' hx)
          have HO := Lib.hid ho
          have HF := Lib.hid (hf.of K2.out.size)
          have hB : w.heap.size ≤ w2.heap.size := by have := HX.out.size; have := K2.out.size; have := hx.size; omega
          clear hx ho hf
          go_wp2_with (at_builtin; refine wpList_app rfl (.tmp 25) (.tmp 30) 36 rfl w.heap.size 27 i0 (.slice none 0 0) 1 24 Try.underlying36 I0.out.1 I0.out.2.1 I0.out.2.2.1 I0.out.2.2.2 rfl (by decide) u6 r ((List.range r).map R) rfl ((owns_ext HG.out.1 K3.out).alloc _) (some ⟨w2.heap.size, 0, none⟩) 1 1 [.slice a2 (sub 0 a b r).length c2] rfl (src_one w2 _ 27 rfl) (by unfold maxLen; omega) (by omega) ?_ ?_)
          · first | omega | (simp; omega)
          intro v' w3 hg
          have HS : Hid (Ext w w3 ∧ GrowI w.heap.size w3 v' (sbs a b) (r + 1)) := by
            have hal := (Ext.rfl' w2).alloc' (.cells #[.slice a2 (sub 0 a b r).length c2] 27)
            refine ⟨hg.ext ((HX.out.trans' K3.out).trans' hal) fun b' hb' => (owns_lt HG.out.1 b' hb').1, GrowI.step ((owns_ext HG.out.1 K3.out).alloc _) (fun i hi => ((HG.out.2.1 i hi).ext K3.out).ext hal) HG.out.2.2.1 HG.out.2.2.2 (x := .slice a2 (sub 0 a b r).length c2) (bs := bs) (by rw [gr_sbs HL.out]; exact HO.out.ext hal) (fun b' hb' => ⟨by have := HF.out.2 b' hb'; have := HX.out.size; omega, fun hm => ?_⟩) hg⟩
            obtain ⟨i, hi, hbi⟩ := List.mem_flatMap.1 hm
            have := (HG.out.2.1 i (List.mem_range.1 hi)).1.lt b' hbi
            have := HF.out.2 b' hb'
            omega
          clear hg
          go_wp2
          go_roundg (ch a b - (r + 1))
          case measure => omega
          case rel => exact ⟨r + 1, by omega, rfl, by go_num, HS⟩
        · obtain rfl : r = ch a b := by omega
          obtain ⟨bs, ho, hnd, hge⟩ := GrowI.done (l := sbs a b) (by rw [sbs_length]; exact Hr.out.2)
          have HO := Lib.hid ho
          have HF := Lib.hid (show Fresh w bs from ⟨hnd, hge⟩)
          clear ho hnd hge
          go_wp2_with fail
          (with_reducible refine (nuChoose_any _ _ ha (by omega) _).mono ?_)
          rintro e w1 ⟨rfl, hw⟩
          rw [Int.toNat_natCast]
          have K2 := Lib.hid hw
          clear hw
          go_wp2
          go_ret2
          exact AnsII.mk F.out (Hr.out.1.trans' K2.out) (by rw [A.out]; exact HO.out.ext K2.out) HF.out

set_option maxHeartbeats 3200000 in
set_option maxRecDepth 100000 in
theorem subsetsOf_any {w : World} (n k : Int) : Calls Try.prog 32 #[.int .i64 n, .int .i64 k] w (AnsII w (soAns n k) (SoOK n k)) := by
  by_cases h : SxOK n k
  case neg =>
    have D := Lib.hid (dec_false h)
    have F := Lib.hid (dec_false (p := SoOK n k) fun k => h k.1)
    have A := Lib.hid (soAns_f (n := n) (k := k) fun k => h k.1)
    clear h
    go_enter Try.func32, Try.ntmps32
    go_wp2_with (first | (go_at_call 30; (with_reducible refine (binomial_any _ _ _).mono ?_); rintro e w1 ⟨rfl, hw⟩; rw [D.out]; have K1 := Lib.hid hw; clear hw))
    go_ret2
    exact AnsII.no F.out A.out (K1.out)
  case pos =>
    have D := Lib.hid (dec_true h)
    obtain ⟨a, b, rfl, rfl, ha, hb⟩ := sx_nat h
    have B := Lib.hid (biAns_t ha hb)
    by_cases hr : 1000 < ch a b
    · have F := Lib.hid (dec_false (so_no ha hb hr))
      have A := Lib.hid (soAns_f (so_no ha hb hr))
      clear h
      go_enter Try.func32, Try.ntmps32
      go_wp2_with (first | (go_at_call 30; (with_reducible refine (binomial_any _ _ _).mono ?_); rintro e w1 ⟨rfl, hw⟩; rw [D.out, B.out]; have K1 := Lib.hid hw; clear hw))
      go_ret2
      exact AnsII.no F.out A.out K1.out
    · have F := Lib.hid (dec_true (so_yes ha hb hr))
      have A := Lib.hid (soAns_t ha hb hr)
      clear h
      have hmk := run_make_row' (P := Try.prog) 36 27 (.slice none 0 0) 24 Try.underlying36 Try.infoS rfl .i64 .i64 (ch a b) (by omega) (by omega)
      have SL := Lib.hid (sbs_length a b)
      go_enter Try.func32, Try.ntmps32
      go_wp2_with (first | (go_at_call 30; (with_reducible refine (binomial_any _ _ _).mono ?_); rintro e w1 ⟨rfl, hw⟩; rw [D.out, B.out]; have K1 := Lib.hid hw; clear hw))
      clear hmk
      go_loopg [26] (ch a b) (fun g i wr => ∃ r : Nat, r ≤ ch a b ∧ g = ch a b - r ∧ i = .int .i64 r ∧ Hid (outerI w1 wr (sbs a b) r))
      case atStart => exact ⟨0, Nat.zero_le _, rfl, rfl, (Ext.rfl' w1).alloc' _, by simp, fun _ => .slice none 0 0, fun _ => [], by rw [SL.out]; exact (World.rowIs_made w1 _ _ _).congr fun i _ => by simp, fun i hi => absurd hi (by omega), by simp [Fresh]⟩
      case round =>
        obtain ⟨r, hr, rfl, rfl, Hr⟩ := hrel
        by_cases hlt : r < ch a b
        · have HL := Lib.hid hlt
          go_wp2_with (go_at_call 61; (with_reducible refine (subsetWithRank_any _ _ _ ha hb HL.out _).mono ?_); rintro e w2 ⟨v', bs, rfl, hx, ho, hf⟩; obtain ⟨a2, c2, rfl⟩ := own_slice ho; obtain ⟨R, T, hrow, _⟩ := Hr.out.2.2; rw [SL.out] at hrow; have f1 := (row_ext hrow hx).cell hlt; have f2 := (row_ext hrow hx).frozen r; have Hn := Lib.hid (outerI_step Hr.out hx (by rw [gr_sbs HL.out]; exact ho) hf); clear hx ho hf hrow)
          go_roundg (ch a b - (r + 1))
          case measure => omega
          case rel => exact ⟨r + 1, by omega, rfl, by go_num, Hn.out⟩
        · obtain rfl : r = ch a b := by omega
          obtain ⟨bs, ho, hf⟩ := outerI_done (l := sbs a b) (by rw [SL.out]; exact Hr.out) (by rw [SL.out]; omega)
          rw [SL.out] at ho
          have HO := Lib.hid ho
          have HF := Lib.hid hf
          clear ho hf
          go_wp2
          go_ret2
          exact AnsII.mk F.out (K1.out.trans' Hr.out.1) (by rw [A.out]; exact HO.out) (HF.out.of K1.out.size)
end Go.Proofs.Ytcjiejbndmnjaaa
