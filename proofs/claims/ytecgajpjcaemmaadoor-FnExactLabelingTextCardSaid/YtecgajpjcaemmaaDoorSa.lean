/- Numbers as texts: the model's l1Num; what the library's functions answer. -/
import Derived.Test.YtecgajpjcaemmaaDoorKa
import Derived.Test.YtecgajpjcaemmaaDoorTj
import Derived.Test.YtecgajpjcaemmaaDoorShelf
import Derived.RegionTactic
import Derived.Deep.RegionWith
namespace Go.Proofs.YtecgajpjcaemmaaDoor
open Go.RowKit

abbrev bs (l : Bs) : ByteArray := ⟨l.toArray⟩
theorem bs_data (l : Bs) : (bs l).data.toList = l := by simp
theorem bs_inj {a b : Bs} (h : bs a = bs b) : a = b := by rw [← bs_data a, h, bs_data]
theorem bs_app (a b : Bs) : bs a ++ bs b = bs (a ++ b) := by
  rw [← Go.Lib.mk_data (bs a ++ bs b), ByteArray.data_append]
  simp
theorem bs_size (l : Bs) : (bs l).size = l.length := by simp [ByteArray.size]

theorem ext_of_below {w w' : World} (h : Below w.heap.size w w') : Ext w w' := ⟨h.os, h.tape, h.output, h.size, h.block⟩
theorem ext_grow (w : World) (k : Nat) (os : Array Obj) : Ext w (Go.Sort.grow (w.drewN k) os) := by
  refine ⟨rfl, rfl, rfl, ?_, fun j hj => ?_⟩
  · simp [Go.Sort.grow, World.drewN]
  · simp only [Go.Sort.grow, World.drewN]
    exact Array.getElem?_append_left hj

/-- The library's table of powers of ten. -/
def Pw (w : World) : Prop := Lib.TabIs Tryd.prog w "internal/strconv.uint64pow10" .u64 Lib.pow10Tab
/-- What the library's variables hold. -/
structure Lb (w : World) : Prop where
  pw : Pw w
  ml : ∃ m, w.cell? ⟨5, 0, none⟩ = some (.int .i64 m)
  sy : ∃ ev, w.cell? ⟨6, 0, none⟩ = some ev ∧ (ev = .nilIface ∨ ∃ te pe, ev = .iface te pe)
  rg : ∃ ev, w.cell? ⟨7, 0, none⟩ = some ev ∧ (ev = .nilIface ∨ ∃ te pe, ev = .iface te pe)
theorem var_ext {P : Program} {w w' : World} {n : String} {cs : Array Value} (h : w.var? P n = some cs) (he : Ext w w') : w'.var? P n = some cs := by
  unfold World.var? at h ⊢
  cases hg : P.globalNamed n with
  | none => rw [hg] at h; cases h
  | some g =>
    rw [hg] at h
    simp only [Option.bind_some] at h ⊢
    have hlt : g < w.heap.size := by
      rcases Nat.lt_or_ge g w.heap.size with k | k
      · exact k
      · rw [Array.getElem?_eq_none k] at h; cases h
    rw [he.block g hlt]; exact h
theorem Pw.ext {w w' : World} (h : Pw w) (he : Ext w w') : Pw w' := var_ext h he
theorem Lb.ext {w w' : World} (h : Lb w) (he : Ext w w') : Lb w' :=
  ⟨h.pw.ext he, let ⟨m, hm⟩ := h.ml; ⟨m, he.cell' hm⟩, let ⟨m, hm, k⟩ := h.sy; ⟨m, he.cell' hm, k⟩, let ⟨m, hm, k⟩ := h.rg; ⟨m, he.cell' hm, k⟩⟩

theorem itoa_any (n : Nat) (hn : n ≤ 9223372036854775807) (w : World) (h : Pw w) :
    Calls Tryd.prog 53 #[.int .i64 n] w fun e w' => e = .returned (.string (bs (Go.Lib.decDigits n))) ∧ Ext w w' :=
  (Tryd.strconv_Itoa n (by omega) (by omega) w h).mono fun e w' ⟨he, k, os, hw⟩ => ⟨by rw [he, itoa_nat], by rw [hw]; exact ext_grow w k os⟩

/-- Two texts, one behind the other. -/
theorem cat2 (a b c : Bs) (hc : c = a ++ b) (h : a.length + b.length ≤ 9223372036854775807) (W : World) : (Op.stringOp .add (bs a) (bs b)).run Tryd.prog W = .ok (.string (bs c)) W := by
  rw [run_string_add_sum W _ _ (by rw [bs_size, bs_size]; exact h), bs_app, hc]
theorem dec_len20 (n : Nat) (h : n ≤ 9223372036854775807) : (Go.Lib.decDigits n).length ≤ 20 := by
  rw [Go.Lib.decDigits_length]
  by_cases h0 : n = 0
  · subst h0; rw [Go.Lib.nDigits_small (by omega)]; omega
  · obtain ⟨a, b⟩ := Go.Lib.numDigits_eq n (by omega) (by omega)
    rw [← a]; split <;> omega
theorem cell_new (w : World) (v : Value) (t : TypeId) : (w.alloc (.cells #[v] t)).cell? ⟨w.heap.size, 0, none⟩ = some v := by simp
theorem conv1 (W : World) (b : Nat) (z : Int) (h : W.cell? ⟨b, 0, none⟩ = some (.int .u8 z)) :
    (convert 108 9 (.slice (some ⟨b, 0, none⟩) 1 1)).run Tryd.prog W = .ok (.string (bs [UInt8.ofNat z.toNat])) W :=
  run_convert_bytes_arg W 108 5 Tryd.underlying108 Tryd.underlying5 b 0 1 1 [z] rfl (fun i hi => by
    have h0 : i = 0 := by omega
    rw [h0]
    exact h) 9 Tryd.underlying9

set_option maxRecDepth 100000 in
theorem l1Num_small (n : Nat) (hn : n < 10) (w : World) :
    Calls Tryd.prog 80 #[.int .i64 n] w fun e w' => e = .returned (.string (bs (Go.Lib.decDigits n))) ∧ Ext w w' := by
  have hcv := conv1 (w.alloc (.cells #[.int .u8 (48 + n)] 5)) w.heap.size (48 + n) (by simp)
  go_enter Tryd.func80, Tryd.ntmps80
  go_wp2
  go_ret
  refine ⟨?_, (Ext.rfl' w).alloc' _⟩
  rw [Go.Lib.decDigits, dif_pos hn]
  rfl

set_option maxRecDepth 100000 in
theorem l1Num_any (n : Nat) : n ≤ 9223372036854775807 → ∀ w : World,
    Calls Tryd.prog 80 #[.int .i64 n] w fun e w' => e = .returned (.string (bs (Go.Lib.decDigits n))) ∧ Ext w w' := by
  induction n using Nat.strongRecOn with
  | _ n ih =>
    intro hn w
    by_cases h : n < 10
    · exact l1Num_small n h w
    · have IH := Lib.hid (ih (n / 10) (by omega) (by omega))
      have hd := Lib.hid (show Go.Lib.decDigits n = Go.Lib.decDigits (n / 10) ++ [UInt8.ofNat (48 + n % 10)] by rw [Go.Lib.decDigits, dif_neg h])
      have hr10 : n % 10 < 10 := by omega
      have hq : n / 10 ≤ 9223372036854775807 := by omega
      have hw1 : IntKind.i64.wrap ((n : Int) / 10) = ((n / 10 : Nat) : Int) := by rw [IntKind.wrap_i64]; omega
      have hw2 : (n : Int).tmod 10 = ((n % 10 : Nat) : Int) := by rw [Int.tmod_eq_emod_of_nonneg (by omega)]; omega
      generalize n % 10 = r at hd hw2 hr10
      generalize n / 10 = q at IH hd hw1 hq
      have hw3 : IntKind.i64.wrap (48 + (r : Int)) = 48 + (r : Int) := by rw [IntKind.wrap_i64]; omega
      have hw4 : IntKind.u8.wrap (48 + (r : Int)) = 48 + (r : Int) := by rw [IntKind.wrap_u8]; omega
      have hc0 : (48 + (r : Int)).toNat = 48 + r := by omega
      have hc1 := conv1 (w.alloc (.cells #[.int .u8 (48 + r)] 5)) w.heap.size (48 + r) (cell_new _ _ _)
      have hc2 := conv1 (w.alloc (.cells #[.int .u8 (48 + r)] 5)).drew w.heap.size (48 + r) ((Ext.rfl' _).drew'.cell' (cell_new _ _ _))
      have hl20 := dec_len20 q hq
      have hs1 : (9223372036854775807 ≤ (Go.Lib.decDigits q).length) = False := eq_false (by omega)
      have hs2 : (9223372036854775807 < (Go.Lib.decDigits q).length + 1) = False := eq_false (by omega)
      clear ih
      go_enter Tryd.func80, Tryd.ntmps80
      go_wp2_with fail
      go_region_with (go_at_call 80; (with_reducible refine (IH.out _).mono ?_); rintro e w1 ⟨rfl, hx⟩; have hB := conv1 (w1.alloc (.cells #[.int .u8 (48 + r)] 5)) w1.heap.size (48 + r) (cell_new _ _ _); try (have hC := conv1 w1 w.heap.size (48 + r) (hx.cell' (cell_new _ _ _))); try (have hC := conv1 w1 w.heap.size (48 + r) (hx.cell' ((Ext.rfl' _).drew'.cell' (cell_new _ _ _)))))
      all_goals (go_wp2; go_ret)
      all_goals (refine ⟨?_, by first | exact hx | exact (Ext.rfl' w).drew'.trans' (hx.alloc' _) | exact ((Ext.rfl' w).alloc' _).drew'.trans' hx | exact ((Ext.rfl' w).drew'.alloc' _).trans' hx⟩)
      all_goals (rw [hd.out, ← bs_app]; simp; rfl)
end Go.Proofs.YtecgajpjcaemmaaDoor
