/- The model's l1Split: the pieces of a text. -/
import Derived.Test.YtecgajpjcaemmaaDoorSc
import Derived.Test.YtecgajpjcaemmaaDoorSb
import Derived.Test.YtecgajpjcaemmaaDoorKc
namespace Go.Proofs.YtecgajpjcaemmaaDoor
open Go.RowKit

theorem owns_ext_s {w w' : World} {B t k n : Nat} {v : Value} {xs : List Value} (h : w.ownsRow B t k v n xs) (he : Ext w w') : w'.ownsRow B t k v n xs := by
  refine ⟨h.1, ?_⟩
  rcases h.2 with ⟨rfl, hn⟩ | ⟨g, cap, cur, rfl, hb, hh, rest⟩
  · exact .inl ⟨rfl, hn⟩
  · exact .inr ⟨g, cap, cur, rfl, hb, by rw [he.block g (Array.getElem?_eq_some_iff.1 hh).1]; exact hh, rest⟩
theorem src_one_s (w : World) (x : Value) (t : Nat) (h1 : x.oneCell' = true) : SrcAt (w.alloc (.cells #[x] t)) (some ⟨w.heap.size, 0, none⟩) 1 1 [x] := by
  refine ⟨rfl, by simp, fun ad e j u hu => ?_, by simpa using h1⟩
  obtain rfl := Option.some.inj e
  have hj : j = 0 := by
    rcases j with _ | j
    · rfl
    · simp at hu
  subst hj
  obtain rfl : x = u := by simpa using hu
  rw [add_plain]
  simp

def strV (l : Bs) : Value := .string (bs l)
def strCells (l : List Bs) : List Value := l.map strV
theorem strCells_snoc (l : List Bs) (x : Bs) : strCells l ++ [.string (bs x)] = strCells (l ++ [x]) := by simp [strCells, strV]
/-- A slice of texts. -/
def StrSl (w : World) (v : Value) (l : List Bs) : Prop := SlOf w v l.length fun i x => x = strV (l.getD i [])
theorem StrSl.ext {w w' : World} {v : Value} {l : List Bs} (h : StrSl w v l) (he : Ext w w') : StrSl w' v l := SlOf.mono h he fun _ _ _ hr => hr
theorem StrSl.of_owns {w : World} {B t : Nat} {v : Value} {l : List Bs} (h : w.ownsRow B t 1 v l.length (strCells l)) : StrSl w v l := by
  obtain ⟨hl, h⟩ := h
  rcases h with ⟨rfl, hn⟩ | ⟨g, cap, cur, rfl, hb, hh, hc1, hc2, hs, ht⟩
  · exact ⟨none, 0, 0, 0, by rw [hn], fun h => absurd h (by omega), by omega, by unfold maxLen; omega, fun i hi => absurd hi (by omega)⟩
  · refine ⟨_, g, 0, cap, rfl, fun _ => rfl, by omega, hc2, fun i hi => ⟨_, ?_, rfl⟩⟩
    have e : (strCells l)[i]? = some (strV (l.getD i [])) := by simp [strCells, List.getD, hi]
    rw [← ht, List.getElem?_take, if_pos (by omega)] at e
    simp only [Array.getElem?_toList] at e
    have hlt : i < cur.size := (Array.getElem?_eq_some_iff.1 e).1
    have hrow : w.rowIs g t cur.size (fun i => cur.getD i undef) := ⟨cur, hh, rfl, fun i hi => by simp [hi]⟩
    rw [Nat.zero_add, hrow.cell hlt]
    simp [Array.getD, hlt]
    simpa [hlt] using e

theorem extract_bs (l : Bs) (a b : Nat) : (bs l).extract a b = bs ((l.drop a).take (b - a)) := by rw [Go.Lib.extract_eq, bs_data]
theorem drop_get (l : Bs) (f k : Nat) (h : f ≤ k) (hk : k < l.length) : (l.drop f)[k - f]? = some (bat l k) := by
  rw [List.getElem?_drop, show f + (k - f) = k by omega, bat_at hk]
theorem noC_succ {c : UInt8} {s : Bs} {k : Nat} {b : UInt8} (h : NoC c s k) (e : s[k]? = some b) (hb : b ≠ c) : NoC c s (k + 1) := fun j hj => by
  by_cases g : j = k
  · subst g; rw [e]; intro h; exact hb (Option.some.inj h)
  · exact h j (by omega)

set_option maxHeartbeats 1600000 in
set_option maxRecDepth 100000 in
theorem l1Split_any (l : Bs) (c : UInt8) (w : World) (hl : l.length ≤ 1048576) :
    Calls Tryd.prog 61 #[.string (bs l), .int .u8 c.toNat] w fun e w' => ∃ v', e = .returned v' ∧ Ext w w' ∧ StrSl w' v' (spl c l) := by
  have hsz := bs_size l
  have hg := bs_get l
  have hex := extract_bs l
  obtain ⟨i0, hi, hz0, hz1, hz2⟩ := info_parts Tryd.infoS
  have I0 := Lib.hid (And.intro hi (And.intro hz0 (And.intro hz1 hz2)))
  clear hi hz0 hz1 hz2
  go_enter Tryd.func61, Tryd.ntmps61
  go_wp2
  go_loopg [5, 6, 7] l.length (fun g v5 v6 v7 wr => ∃ (k f : Nat) (done : List Bs), k ≤ l.length ∧ f ≤ k ∧ g = l.length - k ∧ v6 = .int .i64 f ∧ v7 = .int .i64 k ∧ done.length ≤ f ∧
    Hid (Ext w wr ∧ wr.ownsRow w.heap.size 9 1 v5 done.length (strCells done) ∧ spl c l = done ++ spl c (l.drop f) ∧ NoC c (l.drop f) (k - f)))
  case atStart => exact ⟨0, 0, [], Nat.zero_le _, Nat.le_refl _, rfl, rfl, rfl, Nat.le_refl _, Ext.rfl' w, World.ownsRow_nil _ _ _ _, by simp, fun j hj => absurd hj (by omega)⟩
  case round =>
    obtain ⟨k, f, done, hk, hf, rfl, rfl, rfl, hdl, Hr⟩ := hrel
    by_cases hlt : k < l.length
    · have hgd := Lib.hid (drop_get l f k hf hlt)
      by_cases hc : bat l k = c
      · have e0 : ((bat l k).toNat : Int) = (c.toNat : Int) := by rw [hc]
        have Hsp := Lib.hid (show spl c l = (done ++ [(l.drop f).take (k - f)]) ++ spl c (l.drop (k + 1)) by
          rw [Hr.out.2.2.1, spl_at (by rw [hgd.out, hc]) Hr.out.2.2.2, List.drop_drop, show f + (k - f + 1) = k + 1 by omega, List.append_assoc]; rfl)
        go_wp2_with (at_builtin; refine wpList_app rfl (.tmp 19) (.tmp 24) 72 rfl w.heap.size 9 i0 (.string ByteArray.empty) 1 16 Tryd.underlying72 I0.out.1 I0.out.2.1 I0.out.2.2.1 I0.out.2.2.2 rfl (by decide) _ done.length (strCells done) rfl (owns_ext_s Hr.out.2.1 ((Ext.rfl' _).alloc' _)) (some ⟨wr.heap.size, 0, none⟩) 1 1 [.string (bs ((l.drop f).take (k - f)))] rfl (src_one_s _ _ _ rfl) (by unfold maxLen; omega) (by omega) (Nat.le_trans Hr.out.1.size ((Ext.rfl' wr).alloc' _).size) ?_)
        intro v' w2 hg
        have he2 : Ext w w2 := hg.ext (Hr.out.1.alloc' _) (fun b hb => (Hr.out.2.1.lt b hb).1)
        have HG := Lib.hid (And.intro he2 hg.1)
        clear hg he2
        go_wp2
        go_roundg (l.length - (k + 1))
        case measure => omega
        case rel =>
          refine ⟨k + 1, k + 1, done ++ [(l.drop f).take (k - f)], by omega, Nat.le_refl _, rfl, by go_num, by go_num, by simp; omega, HG.out.1, ?_, Hsp.out, fun j hj => absurd hj (by omega)⟩
          rw [← strCells_snoc, List.length_append]
          exact HG.out.2
      · have e0 : ¬ ((bat l k).toNat : Int) = (c.toNat : Int) := byte_int hc
        have Hc := Lib.hid hc
        clear hc
        go_wp2
        go_roundg (l.length - (k + 1))
        case measure => omega
        case rel =>
          refine ⟨k + 1, f, done, by omega, by omega, rfl, by go_num, by go_num, hdl, Hr.out.1, Hr.out.2.1, Hr.out.2.2.1, ?_⟩
          rw [show k + 1 - f = k - f + 1 by omega]
          exact noC_succ Hr.out.2.2.2 hgd.out Hc.out
    · obtain rfl : k = l.length := by omega
      have Hsp := Lib.hid (show spl c l = done ++ [l.drop f] by
        rw [Hr.out.2.2.1, spl_no (by rw [List.length_drop]; exact Hr.out.2.2.2)])
      have htk : (l.drop f).take (l.length - f) = l.drop f := List.take_of_length_le (by simp)
      go_wp2_with (at_builtin; refine wpList_app rfl (.tmp 28) (.tmp 32) 72 rfl w.heap.size 9 i0 (.string ByteArray.empty) 1 16 Tryd.underlying72 I0.out.1 I0.out.2.1 I0.out.2.2.1 I0.out.2.2.2 rfl (by decide) _ done.length (strCells done) rfl (owns_ext_s Hr.out.2.1 ((Ext.rfl' _).alloc' _)) (some ⟨wr.heap.size, 0, none⟩) 1 1 [.string (bs (l.drop f))] rfl (src_one_s _ _ _ rfl) (by unfold maxLen; omega) (by omega) (Nat.le_trans Hr.out.1.size ((Ext.rfl' wr).alloc' _).size) ?_)
      intro v' w2 hg
      have he2 : Ext w w2 := hg.ext (Hr.out.1.alloc' _) (fun b hb => (Hr.out.2.1.lt b hb).1)
      have HG := Lib.hid (And.intro he2 hg.1)
      clear hg he2
      go_wp2
      go_ret
      refine ⟨_, rfl, HG.out.1, ?_⟩
      rw [Hsp.out]
      have h2 := HG.out.2
      rw [strCells_snoc] at h2
      exact StrSl.of_owns (by rw [List.length_append]; exact h2)
end Go.Proofs.YtecgajpjcaemmaaDoor
