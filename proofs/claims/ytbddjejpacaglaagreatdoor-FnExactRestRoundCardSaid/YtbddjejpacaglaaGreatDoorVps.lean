/- Texts as lists of bytes; the library's table of powers of ten; what strconv.Itoa answers. -/
import Derived.Test.YtbddjejpacaglaaGreatDoorKd
import Derived.Test.YtbddjejpacaglaaGreatDoorShelf
import Derived.Lib.ItoaNum
namespace Go.Proofs.YtbddjejpacaglaaGreatDoor
open Go.RowKit

abbrev Bs := List UInt8
abbrev bs (l : Bs) : ByteArray := ⟨l.toArray⟩
theorem bs_data (l : Bs) : (bs l).data.toList = l := by simp
theorem bs_inj {a b : Bs} (h : bs a = bs b) : a = b := by rw [← bs_data a, h, bs_data]
theorem bs_app (a b : Bs) : bs a ++ bs b = bs (a ++ b) := by
  rw [← Go.Lib.mk_data (bs a ++ bs b), ByteArray.data_append]
  simp
theorem bs_size (l : Bs) : (bs l).size = l.length := by simp [ByteArray.size]
theorem ext_grow (w : World) (k : Nat) (os : Array Obj) : Ext w (Go.Sort.grow (w.drewN k) os) := by
  refine ⟨rfl, rfl, rfl, ?_, fun j hj => ?_⟩
  · simp [Go.Sort.grow, World.drewN]
  · simp only [Go.Sort.grow, World.drewN]
    exact Array.getElem?_append_left hj
/-- The library's table of powers of ten. -/
def Pw (w : World) : Prop := Lib.TabIs Tryz.prog w "internal/strconv.uint64pow10" .u64 Lib.pow10Tab
theorem var_ext {P : Program} {w w' : World} {n : String} {cs : Array Value} (h : w.var? P n = some cs) (he : Ext w w') : w'.var? P n = some cs := by
  unfold World.var? at h ⊢
  cases hg : P.globalNamed n with
  | none => rw [hg] at h; cases h
  | some g =>
    rw [hg] at h
    simp only [Option.bind_some] at h ⊢
    have hlt : g < w.heap.size := by
      rcases Nat.lt_or_ge g w.heap.size with k | k
      · exact k
      · rw [Array.getElem?_eq_none k] at h; cases h
    rw [he.block g hlt]; exact h
theorem Pw.ext {w w' : World} (h : Pw w) (he : Ext w w') : Pw w' := var_ext h he
theorem itoa_any (n : Int) (h0 : inI64 n) (w : World) (h : Pw w) :
    Calls Tryz.prog 95 #[.int .i64 n] w fun e w' => e = .returned (.string (bs (Go.Lib.itoa n))) ∧ Ext w w' :=
  (Tryz.strconv_Itoa n h0.1 h0.2 w h).mono fun e w' ⟨he, k, os, hw⟩ => ⟨he, by rw [hw]; exact ext_grow w k os⟩
end Go.Proofs.YtbddjejpacaglaaGreatDoor
