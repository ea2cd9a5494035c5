/- Cycles: the contracts of both CycleNetwork, whatever the argument. -/
import Derived.Test.YtecdelmcnbgglaaCr
import Derived.Test.YtecdelmcnbgglaaGb
namespace Go.Proofs.Ytecdelmcnbgglaa
open Go.RowKit

def cyRow (k v : Nat) : List (Int × Int) := [(((v + 1) % k : Nat), 1), (((v + k - 1) % k : Nat), 0)]
def cyTo (k : Nat) : Nat → Net
  | 0 => blank k 0
  | v + 1 => setRow (cyTo k v) v (cyRow k v)
theorem cyTo_parts (k : Nat) : ∀ v, (cyTo k v).ends.length = k ∧ (cyTo k v).ids = [] ∧ (cyTo k v).inputs = List.replicate k 0
  | 0 => ⟨by simp [cyTo, blank], rfl, rfl⟩
  | v + 1 => ⟨by rw [cyTo, setRow_len]; exact (cyTo_parts k v).1, (cyTo_parts k v).2⟩
theorem cyTo_gr {k i : Nat} (hi : i < k) : ∀ v, v ≤ k → gr (cyTo k v).ends i = if i < v then cyRow k i else []
  | 0, _ => by rw [cyTo, show gr (blank k 0).ends i = [] from gr_replicate _ _ _ hi]; simp
  | v + 1, hv => by
    rw [cyTo, gr_setRow _ _ _ _ (by rw [(cyTo_parts k v).1]; omega), cyTo_gr hi v (by omega)]
    by_cases e : i = v
    · subst e; rw [if_pos rfl, if_pos (by omega)]
    · by_cases h : i < v
      · rw [if_neg e, if_pos h, if_pos (by omega)]
      · rw [if_neg e, if_neg h, if_neg (by omega)]
theorem cy_mod {k v : Nat} (hk : 0 < k) (hv : v < k) : (v + 1 % k) % k = (v + 1) % k ∧ (v + k - 1 % k) % k = (v + k - 1) % k := by
  by_cases h : k = 1
  · subst h; exact ⟨by omega, by omega⟩
  · rw [Nat.mod_eq_of_lt (show 1 < k by omega)]; exact ⟨rfl, rfl⟩
theorem cyTo_all {k : Nat} (hk : 0 < k) : cyTo k k = ciNet k [((1 % k : Nat) : Int)] := by
  refine net_ext (by rw [(cyTo_parts k k).1]; simp [ciNet]) (fun v hv => ?_) (cyTo_parts k k).2.1 (cyTo_parts k k).2.2
  have hv' : v < k := by simpa [ciNet] using hv
  rw [cyTo_gr hv' k (Nat.le_refl _), if_pos hv', ciNet_gr _ hv']
  show cyRow k v = [] ++ ciEnds k [((1 % k : Nat) : Int)] 0 v
  have hs : stepAt [((1 % k : Nat) : Int)] 0 = 1 % k := rfl
  rw [List.nil_append, ciEnds, hs, (cy_mod hk hv').1, (cy_mod hk hv').2]
  rfl
theorem cy_ok (n : Int) (h : 1 ≤ n) : CiOK n [((1 % n.toNat : Nat) : Int)] ↔ InB n 1 40 := by
  refine ⟨fun q => q.1, fun q => ⟨q, by simp, fun j hj => ?_⟩⟩
  obtain rfl : j = 0 := by simp at hj; omega
  have h2 := Nat.mod_lt 1 (show 0 < n.toNat by omega)
  show 0 ≤ ((1 % n.toNat : Nat) : Int) ∧ ((1 % n.toNat : Nat) : Int) ≤ n - 1
  omega
noncomputable def cyAns (n : Int) : Net := if dec (InB n 1 40) = true then ciNet n.toNat [((1 % n.toNat : Nat) : Int)] else zeroNet
theorem cyAns_t {n : Int} (h : InB n 1 40) : cyAns n = ciNet n.toNat [((1 % n.toNat : Nat) : Int)] := by simp [cyAns, dec_true h]
theorem cyAns_f {n : Int} (h : ¬ InB n 1 40) : cyAns n = zeroNet := by simp [cyAns, dec_false h]
theorem cyAns_ci (n : Int) (h : 1 ≤ n) : ciAns n [((1 % n.toNat : Nat) : Int)] = cyAns n ∧ dec (CiOK n [((1 % n.toNat : Nat) : Int)]) = dec (InB n 1 40) := by
  by_cases q : InB n 1 40
  · rw [cyAns_t q, ciAns_t ((cy_ok n h).2 q), dec_true q, dec_true ((cy_ok n h).2 q)]; exact ⟨rfl, rfl⟩
  · have q' : ¬ CiOK n [((1 % n.toNat : Nat) : Int)] := fun c => q ((cy_ok n h).1 c)
    rw [cyAns_f q, ciAns_f q', dec_false q, dec_false q']; exact ⟨rfl, rfl⟩
theorem cyAns_small (n : Int) : (cyAns n).small := by
  by_cases h : 1 ≤ n
  · rw [← (cyAns_ci n h).1]; exact ciAns_small _ _
  · rw [cyAns_f fun q => h q.1]; exact zero_small

theorem one_int (w : World) (z : Int) (h : inI64 z) : IntSl (w.alloc (.cells #[.int .i64 z] 3)) (.slice (some ⟨w.heap.size, 0, none⟩) 1 1) [z] := by
  refine ⟨_, w.heap.size, 0, 1, rfl, fun _ => rfl, by simp, by unfold maxLen; simp, fun i hi => ?_⟩
  obtain rfl : i = 0 := by simp at hi; omega
  exact ⟨_, (World.rowIs_alloc w #[.int .i64 z] 3 (fun _ => .int .i64 z) fun j hj => by
    have h : j < 1 := hj
    obtain rfl : j = 0 := by omega
    rfl).cell (i := 0) (by simp), rfl, h⟩

set_option maxHeartbeats 1600000 in
set_option maxRecDepth 100000 in
theorem cycle_any {w : World} (n : Int) :
    Calls Try.prog 21 #[.int .i64 n] w fun e w' => ∃ v' bs, e = .returned (.tuple #[v', .bool (dec (InB n 1 40))]) ∧ Ext w w' ∧ OwnNet w' v' (cyAns n) bs ∧ Fresh w bs := by
  have HX := Lib.hid ((Ext.rfl' w).alloc' (.cells #[.slice none 0 0, .slice none 0 0, .slice none 0 0] 25))
  have HR := Lib.hid (And.intro (row3_made w (.slice none 0 0) (.slice none 0 0) (.slice none 0 0) 25) (show (w.alloc (.cells #[.slice none 0 0, .slice none 0 0, .slice none 0 0] 25)).heap.size = w.heap.size + 1 by simp))
  by_cases h : 1 ≤ n
  · obtain ⟨A0, D0⟩ := cyAns_ci n h
    obtain ⟨k, rfl⟩ := Int.eq_ofNat_of_zero_le (a := n) (by omega)
    simp only [Int.toNat_natCast] at A0 D0
    obtain ⟨z, hz⟩ : ∃ z : Nat, z = 1 % k := ⟨_, rfl⟩
    have hmod : (1 : Int) % (k : Int) = (z : Int) := by rw [hz]; exact mod_nat (a := 1) rfl
    have hzk : z ≤ 1 := by rw [hz]; exact Nat.mod_le _ _
    have hk0 : (k : Int) ≠ 0 := by omega
    rw [← hz] at A0 D0
    have A := Lib.hid A0
    have D := Lib.hid D0
    have HZ := Lib.hid (one_int (w.alloc (.cells #[.slice none 0 0, .slice none 0 0, .slice none 0 0] 25)) (z : Int) (by unfold inI64; omega))
    have HXB := Lib.hid ((Ext.rfl' (w.alloc (.cells #[.slice none 0 0, .slice none 0 0, .slice none 0 0] 25))).alloc' (.cells #[.int .i64 (z : Int)] 3))
    clear A0 D0 hz
    go_enter Try.func21, Try.ntmps21
    go_wp2_with fail
    generalize w.alloc (.cells #[.slice none 0 0, .slice none 0 0, .slice none 0 0] 25) = W0 at *
    have hsz := HR.out.2
    first
      | rw [← hsz]
      | skip
    clear hsz
    (with_reducible refine (circ_any (k : Int) HZ.out).mono ?_)
    rintro e w4 ⟨v', bs, rfl, hw, ho, hf⟩
    rw [A.out] at ho
    rw [D.out]
    obtain ⟨a0, c0, a1, c1, a2, c2, rfl⟩ := ho.agg
    have HWZ := Lib.hid HR.out.2
    have E4 := Lib.hid (HX.out.trans' (HXB.out.trans' hw))
    have O4 := Lib.hid ho
    have F4 := Lib.hid hf.1
    have S4 := Lib.hid (show ∀ b ∈ bs, w.heap.size ≤ b ∧ b ≠ w.heap.size from fun b hb => by have := hf.2 b hb; have := HXB.out.size; have := HWZ.out; omega)
    obtain ⟨s0, s1, s2, t0, t1, t2⟩ := row3_facts (row_ext HR.out.1 (HXB.out.trans' hw))
    clear hw ho hf
    go_wp2
    have hc := close_at E4.out (Nat.le_refl _) O4.out F4.out S4.out
    refine bodyPost_ret (v := .tuple #[.agg #[.slice a0 (cyAns k).ends.length c0, .slice a1 (cyAns k).ids.length c1, .slice a2 (cyAns k).inputs.length c2], .bool (dec (InB (k : Int) 1 40))]) (by simp [results, Try.results21, go_sem, s0, s1, s2]) rfl ⟨_, bs, rfl, hc.1, hc.2.1, hc.2.2⟩
  · have D := Lib.hid (dec_false (p := InB n 1 40) fun q => h q.1)
    have A := Lib.hid (cyAns_f (n := n) fun q => h q.1)
    go_enter Try.func21, Try.ntmps21
    go_wp2
    refine bodyPost_ret (v := .tuple #[znet, .bool false]) (by simp [results, Try.results21, go_sem, znet]) rfl ?_
    first
      | exact ⟨_, [], ret_net D.out.symm, (by first | exact HX.out | exact store3_ext HX.out (Nat.le_refl _) _ _ _), by rw [A.out]; exact own_zero _, Fresh.nil _⟩
      | exact ⟨_, ret_net D.out.symm, (by first | exact HX.out | exact store3_ext HX.out (Nat.le_refl _) _ _ _), [], by rw [A.out]; exact own_zero _, Fresh.nil _⟩
end Go.Proofs.Ytecdelmcnbgglaa
