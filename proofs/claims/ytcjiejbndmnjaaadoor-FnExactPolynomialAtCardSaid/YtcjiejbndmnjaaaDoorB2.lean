/- Lists of integers in memory of their own: copied, compared, marked, held; small functions of the model. -/
import Derived.Test.YtcjiejbndmnjaaaDoorB1
import Derived.Deep.RegionHeld3
import Derived.Handy
namespace Go.Proofs.YtcjiejbndmnjaaaDoor
open Go.RowKit

theorem Ext.drewN' {a b : World} (h : Ext a b) (n : Nat) : Ext a (b.drewN n) := ⟨h.os, h.tape, h.output, h.size, h.block⟩
theorem Tryd.info3 : (Tryd.prog.info? 3).map (fun i => (i.zero, i.size, i.bytes)) = some (some (.int .i64 0), 1, 8) := by kernel_rfl

/-- k of the n numbers of l, the others are zero. -/
def copied (l : List Int) (k : Nat) (i : Nat) : Value := if i < k then .int .i64 (gi l i) else .int .i64 0

theorem copied_step {w : World} {b : Nat} {l : List Int} {k n : Nat} (h : w.rowIs b 3 n (copied l k)) : (w.setCell ⟨b, k, none⟩ (.int .i64 (gi l k))).rowIs b 3 n (copied l (k + 1)) :=
  (h.set k _).congr fun i _ => by
    simp only [copied]
    by_cases e : i = k
    · subst e; simp
    · rw [if_neg e]
      by_cases hlt : i < k
      · rw [if_pos hlt, if_pos (by omega)]
      · rw [if_neg hlt, if_neg (by omega)]

set_option maxHeartbeats 400000 in
set_option maxRecDepth 100000 in
theorem toIntS_any {w : World} {v : Value} {l : List Int} (h : IntSl w v l) (hs : l.length ≤ 1048576) :
    Calls Tryd.prog 14 #[v] w fun e w' => e = .returned (.slice (some ⟨w.heap.size, 0, none⟩) l.length l.length) ∧ Ext w w' ∧ w'.heap.size = w.heap.size + 1 ∧ w'.rowIs w.heap.size 3 l.length (copied l l.length) := by
  obtain ⟨a, b, o, c, rfl, ha, h3, h4, hc⟩ := h
  unfold maxLen at h4
  have Hc := Lib.hid hc
  have Ha := Lib.hid ha
  clear hc ha
  have hmk := run_make_row' (P := Tryd.prog) 27 3 (.int .i64 0) 8 Tryd.underlying27 Tryd.info3 rfl .i64 .i64 l.length (by omega) (by omega)
  go_enter Tryd.func14, Tryd.ntmps14
  go_wp2
  clear hmk
  go_loopg [4] l.length (fun g i wr => ∃ k : Nat, k ≤ l.length ∧ g = l.length - k ∧ i = .int .i64 k ∧ Hid (Ext w wr ∧ wr.heap.size = w.heap.size + 1 ∧ wr.rowIs w.heap.size 3 l.length (copied l k)))
  case atStart => exact ⟨0, Nat.zero_le _, rfl, rfl, (Ext.rfl' w).alloc' _, by simp, (World.rowIs_made w _ _ _).congr fun i _ => by simp [copied]⟩
  case round =>
    obtain ⟨k, hk, rfl, rfl, Hr⟩ := hrel
    by_cases hlt : k < l.length
    · obtain ⟨x, hc, rfl, _⟩ := Hc.out k hlt
      obtain rfl := Ha.out (by omega)
      obtain ⟨he, hsz, hrow⟩ := Hr.out
      have hc' := he.cell' hc
      have hst := hrow.cell hlt
      have hfr := hrow.frozen k
      have hnext := Lib.hid (copied_step hrow)
      clear hrow hc
      go_wp2
      go_roundg (l.length - (k + 1))
      case measure => omega
      case rel => exact ⟨k + 1, by omega, rfl, by go_num, he.store (Nat.le_refl _) _, by simp [hsz], hnext.out⟩
    · go_wp2
      go_ret
      obtain rfl : k = l.length := by omega
      obtain ⟨he, hsz, hrow⟩ := Hr.out
      exact ⟨rfl, he, hsz, hrow⟩

/-- A slice of n elements of k cells of type t in at most one block, which is listed in bs. -/
def OwnSl (w : World) (v : Value) (n k t : Nat) (f : Nat → Value) (bs : List Nat) : Prop :=
  ∃ c, n ≤ c ∧ c ≤ maxLen ∧ ((n = 0 ∧ bs = [] ∧ ∃ a, (a = none ∧ c = 0) ∧ v = .slice a 0 c) ∨
    ∃ b m g, bs = [b] ∧ v = .slice (some ⟨b, 0, none⟩) n c ∧ (n * k ≤ m ∧ m = c * k) ∧ w.rowIs b t m g ∧ ∀ i, i < n * k → g i = f i)

theorem OwnSl.keep {w w' : World} {v : Value} {n k t : Nat} {f : Nat → Value} {bs : List Nat} (h : OwnSl w v n k t f bs) (he : ∀ b ∈ bs, w'.heap[b]? = w.heap[b]?) : OwnSl w' v n k t f bs := by
  obtain ⟨c, h1, h2, h3⟩ := h
  refine ⟨c, h1, h2, ?_⟩
  rcases h3 with h3 | ⟨b, m, g, rfl, hv, hm, hr, hf⟩
  · exact .inl h3
  · exact .inr ⟨b, m, g, rfl, hv, hm, hr.of_block (he b (by simp)), hf⟩

theorem OwnSl.lt {w : World} {v : Value} {n k t : Nat} {f : Nat → Value} {bs : List Nat} (h : OwnSl w v n k t f bs) : ∀ b ∈ bs, b < w.heap.size := by
  obtain ⟨c, h1, h2, h3⟩ := h
  intro b hb
  rcases h3 with ⟨_, rfl, _⟩ | ⟨b', m, g, rfl, hv, hm, hr, hf⟩
  · simp at hb
  · simp at hb; subst hb; exact hr.lt

theorem OwnSl.nodup {w : World} {v : Value} {n k t : Nat} {f : Nat → Value} {bs : List Nat} (h : OwnSl w v n k t f bs) : bs.Nodup := by
  obtain ⟨c, h1, h2, h3⟩ := h
  rcases h3 with ⟨_, rfl, _⟩ | ⟨b', m, g, rfl, hv, hm, hr, hf⟩ <;> simp

def OwnI (w : World) (v : Value) (l : List Int) (bs : List Nat) : Prop := OwnSl w v l.length 1 3 (fun i => .int .i64 (gi l i)) bs ∧ ∀ i, i < l.length → inI64 (gi l i)

theorem OwnI.keep {w w' : World} {v : Value} {l : List Int} {bs : List Nat} (h : OwnI w v l bs) (he : ∀ b ∈ bs, w'.heap[b]? = w.heap[b]?) : OwnI w' v l bs := ⟨h.1.keep he, h.2⟩

theorem OwnI.ext {w w' : World} {v : Value} {l : List Int} {bs : List Nat} (h : OwnI w v l bs) (he : Ext w w') : OwnI w' v l bs := h.keep fun b hb => he.block b (h.1.lt b hb)

theorem OwnI.read {w : World} {v : Value} {l : List Int} {bs : List Nat} (h : OwnI w v l bs) : IntSl w v l := by
  obtain ⟨⟨c, h1, h2, h3⟩, h4⟩ := h
  rcases h3 with ⟨hn, rfl, a, -, rfl⟩ | ⟨b, m, g, rfl, rfl, hm, hr, hf⟩
  · exact ⟨a, 0, 0, c, by rw [hn], fun h => absurd h (by omega), by omega, h2, fun i hi => absurd hi (by omega)⟩
  · refine ⟨_, b, 0, c, rfl, fun _ => rfl, h1, h2, fun i hi => ⟨_, ?_, rfl, h4 i hi⟩⟩
    rw [Nat.zero_add, hr.cell (by omega), hf i (by omega)]

/-- New blocks, each once. -/
def Fresh (w : World) (bs : List Nat) : Prop := bs.Nodup ∧ ∀ b ∈ bs, w.heap.size ≤ b

theorem Fresh.nil (w : World) : Fresh w [] := ⟨List.nodup_nil, by simp⟩

theorem Fresh.of {w w' : World} {bs : List Nat} (h : Fresh w' bs) (he : w.heap.size ≤ w'.heap.size) : Fresh w bs := ⟨h.1, fun b hb => Nat.le_trans he (h.2 b hb)⟩

theorem Fresh.append {w w1 : World} {bs cs : List Nat} (h : Fresh w bs) (hlt : ∀ b ∈ bs, b < w1.heap.size) (he : w.heap.size ≤ w1.heap.size) (k : Fresh w1 cs) : Fresh w (bs ++ cs) := by
  refine ⟨List.nodup_append.2 ⟨h.1, k.1, fun a ha b hb e => ?_⟩, fun b hb => ?_⟩
  · subst e; have := hlt a ha; have := k.2 a hb; omega
  · rcases List.mem_append.1 hb with hb | hb
    · exact h.2 b hb
    · have := k.2 b hb; omega

theorem IntSl.range {w : World} {v : Value} {l : List Int} (h : IntSl w v l) : ∀ i, i < l.length → inI64 (gi l i) := by
  obtain ⟨a, b, o, c, h1, h2, h3, h4, h5⟩ := h
  exact fun i hi => let ⟨x, _, hr⟩ := h5 i hi; hr.2

theorem own_made {w : World} {n k t b : Nat} {f g : Nat → Value} (h : w.rowIs b t (n * k) g) (hn : n ≤ maxLen) (hf : ∀ i, i < n * k → g i = f i) :
    OwnSl w (.slice (some ⟨b, 0, none⟩) n n) n k t f [b] :=
  ⟨n, Nat.le_refl _, hn, .inr ⟨b, n * k, g, rfl, rfl, ⟨Nat.le_refl _, rfl⟩, h, hf⟩⟩

theorem small_max {n : Nat} (h : n ≤ 1048576) : n ≤ maxLen := by unfold maxLen; omega

theorem toIntS_own {w : World} {v : Value} {l : List Int} (h : IntSl w v l) (hs : l.length ≤ 1048576) :
    Calls Tryd.prog 14 #[v] w fun e w' => ∃ a c bs, e = .returned (.slice a l.length c) ∧ Ext w w' ∧ OwnI w' (.slice a l.length c) l bs ∧ Fresh w bs := by
  refine (toIntS_any h hs).mono fun e w' ⟨he, hx, hsz, hr⟩ => ⟨_, _, [w.heap.size], he, hx, ⟨?_, h.range⟩, by simp [Fresh]⟩
  have := own_made (k := 1) (f := fun i => .int .i64 (gi l i)) (by simpa using hr) (small_max hs) (fun i hi => by simp [copied]; omega)
  exact this

theorem ints_eq {l1 l2 : List Int} (hn : l1.length = l2.length) (h : ∀ i, i < l1.length → gi l1 i = gi l2 i) : l1 = l2 :=
  List.ext_getElem hn fun i h1 h2 => by have := h i h1; simpa [gi, h1, h2] using this

theorem rows_eq {α : Type} {l1 l2 : List (List α)} (hn : l1.length = l2.length) (h : ∀ i, i < l1.length → gr l1 i = gr l2 i) : l1 = l2 :=
  List.ext_getElem hn fun i h1 h2 => by have := h i h1; simpa [gr, h1, h2] using this

theorem ret_bool {a b : Bool} (h : a = b) : Ending.returned (.bool a) = .returned (.bool b) := by rw [h]

set_option maxHeartbeats 400000 in
set_option maxRecDepth 100000 in
theorem eqIntS_any {w : World} {v1 v2 : Value} {l1 l2 : List Int} (h1 : IntSl w v1 l1) (h2 : IntSl w v2 l2) :
    Calls Tryd.prog 16 #[v1, v2] w fun e w' => e = .returned (.bool (decide (l1 = l2))) ∧ Ext w w' := by
  obtain ⟨a1, b1, o1, c1, rfl, ha1, hl1, hm1, hc1⟩ := h1
  obtain ⟨a2, b2, o2, c2, rfl, ha2, hl2, hm2, hc2⟩ := h2
  unfold maxLen at hm1 hm2
  have Hc1 := Lib.hid hc1
  have Ha1 := Lib.hid ha1
  have Hc2 := Lib.hid hc2
  have Ha2 := Lib.hid ha2
  clear hc1 ha1 hc2 ha2
  by_cases hn : l1.length = l2.length
  · have Hn := Lib.hid hn
    have hnb : ((l1.length : Int) != (l2.length : Int)) = false := by simp; omega
    clear hn
    go_enter Tryd.func16, Tryd.ntmps16
    go_wp2
    go_loopg [5] l1.length (fun g i wr => ∃ k : Nat, k ≤ l1.length ∧ g = l1.length - k ∧ i = .int .i64 k ∧ Hid (Ext w wr ∧ ∀ j, j < k → gi l1 j = gi l2 j))
    case atStart => exact ⟨0, Nat.zero_le _, rfl, rfl, Ext.rfl' w, fun j hj => absurd hj (by omega)⟩
    case round =>
      obtain ⟨k, hk, rfl, rfl, Hr⟩ := hrel
      by_cases hlt : k < l1.length
      · have hlt2 : k < l2.length := by have := Hn.out; omega
        obtain ⟨x1, hc1, rfl, _⟩ := Hc1.out k hlt
        obtain ⟨x2, hc2, rfl, _⟩ := Hc2.out k hlt2
        obtain rfl := Ha1.out (by omega)
        obtain rfl := Ha2.out (by omega)
        have q1 := Hr.out.1.cell' hc1
        have q2 := Hr.out.1.cell' hc2
        clear hc1 hc2
        by_cases he : gi l1 k = gi l2 k
        · have heb : (gi l1 k != gi l2 k) = false := by simp [he]
          have He := Lib.hid he
          clear he
          go_wp2
          go_region_held3 (fun w' => w'.cell? ⟨b1, o1 + k, none⟩ = some (.int .i64 (gi l1 k)) ∧ w'.cell? ⟨b2, o2 + k, none⟩ = some (.int .i64 (gi l2 k))) (go_keep) (fail)
          go_wp2
          go_roundg (l1.length - (k + 1))
          case measure => omega
          case rel =>
            refine ⟨k + 1, by omega, rfl, by go_num, Hr.out.1.drew', fun j hj => ?_⟩
            by_cases e : j = k
            · subst e; exact He.out
            · exact Hr.out.2 j (by omega)
        · have heb : (gi l1 k != gi l2 k) = true := by simp [he]
          go_wp2
          go_region_held3 (fun w' => w'.cell? ⟨b1, o1 + k, none⟩ = some (.int .i64 (gi l1 k)) ∧ w'.cell? ⟨b2, o2 + k, none⟩ = some (.int .i64 (gi l2 k))) (go_keep) (fail)
          go_wp2
          go_ret
          exact ⟨ret_bool (by rw [eq_comm, decide_eq_false_iff_not]; intro e; exact he (by rw [e])), Hr.out.1.drew'⟩
      · go_wp2
        go_ret
        obtain rfl : k = l1.length := by omega
        exact ⟨ret_bool (by rw [eq_comm, decide_eq_true_iff]; exact ints_eq Hn.out Hr.out.2), Hr.out.1⟩
  · have hnb : ((l1.length : Int) != (l2.length : Int)) = true := by simp; omega
    go_enter Tryd.func16, Tryd.ntmps16
    go_wp2
    go_ret
    exact ⟨ret_bool (by rw [eq_comm, decide_eq_false_iff_not]; intro e; exact hn (by rw [e])), Ext.rfl' w⟩

/-- Two readings of one list are equal. -/
theorem eqIntS_same {w : World} {v1 v2 : Value} {l : List Int} (h1 : IntSl w v1 l) (h2 : IntSl w v2 l) : Calls Tryd.prog 16 #[v1, v2] w fun e w' => e = .returned (.bool true) ∧ Ext w w' :=
  (eqIntS_any h1 h2).mono fun _ _ ⟨he, hx⟩ => ⟨by rw [he]; simp, hx⟩

/-- Whether p holds, as a Bool that no rewriting looks into. -/
noncomputable def dec (p : Prop) : Bool := @decide p (Classical.propDecidable p)

theorem dec_true {p : Prop} (h : p) : dec p = true := @decide_eq_true p (Classical.propDecidable p) h

theorem dec_false {p : Prop} (h : ¬p) : dec p = false := @decide_eq_false p (Classical.propDecidable p) h

theorem dec_iff {p : Prop} : dec p = true ↔ p := ⟨fun h => @of_decide_eq_true p (Classical.propDecidable p) h, dec_true⟩

theorem dec_not {p : Prop} : dec p = false ↔ ¬p := ⟨fun h => @of_decide_eq_false p (Classical.propDecidable p) h, dec_false⟩

theorem dec_congr {p q : Prop} (h : p ↔ q) : dec p = dec q := by rw [propext h]

theorem ret_t {p : Prop} (h : p) : Ending.returned (.bool true) = .returned (.bool (dec p)) := by rw [dec_true h]

theorem ret_f {p : Prop} (h : ¬p) : Ending.returned (.bool false) = .returned (.bool (dec p)) := by rw [dec_false h]

theorem gi_take {l : List Int} {k j : Nat} (h : j < k) : gi (l.take k) j = gi l j := by
  simp [gi, h]

theorem IntSl.take {w : World} {a : Option Addr} {n c k : Nat} {l : List Int} (h : IntSl w (.slice a n c) l) (hk : k ≤ l.length) : IntSl w (.slice a k c) (l.take k) := by
  obtain ⟨a', b, o, c', e, h2, h3, h4, h5⟩ := h
  cases e
  have hl : (l.take k).length = k := by simp; omega
  refine ⟨a, b, o, c, by rw [hl], fun h => h2 (by omega), by omega, h4, fun i hi => ?_⟩
  obtain ⟨x, hx, hr⟩ := h5 i (by omega)
  exact ⟨x, hx, by show _ ∧ _; rw [gi_take (by omega)]; exact hr⟩

def InB (n lo hi : Int) : Prop := lo ≤ n ∧ n ≤ hi

theorem l1In_any (n lo hi : Int) (w : World) : Calls Tryd.prog 23 #[.int .i64 n, .int .i64 lo, .int .i64 hi] w fun e w' => e = .returned (.bool (dec (InB n lo hi))) ∧ w = w' := by
  by_cases h1 : lo ≤ n
  · by_cases h2 : n ≤ hi
    · have e := Lib.hid (dec_true (p := InB n lo hi) ⟨h1, h2⟩)
      go_enter Tryd.func23, Tryd.ntmps23
      go_wp2
      go_ret
      exact ⟨ret_bool e.out.symm, rfl⟩
    · have e := Lib.hid (dec_false (p := InB n lo hi) (fun h => h2 h.2))
      go_enter Tryd.func23, Tryd.ntmps23
      go_wp2
      go_ret
      exact ⟨ret_bool e.out.symm, rfl⟩
  · have e := Lib.hid (dec_false (p := InB n lo hi) (fun h => h1 h.1))
    go_enter Tryd.func23, Tryd.ntmps23
    go_wp2
    go_ret
    exact ⟨ret_bool e.out.symm, rfl⟩

def AllIn (l : List Int) (lo hi : Int) : Prop := ∀ j, j < l.length → lo ≤ gi l j ∧ gi l j ≤ hi

set_option maxRecDepth 100000 in
theorem l1All_any {w : World} {v : Value} {l : List Int} (lo hi : Int) (h : IntSl w v l) : Calls Tryd.prog 26 #[v, .int .i64 lo, .int .i64 hi] w fun e w' => e = .returned (.bool (dec (AllIn l lo hi))) ∧ w = w' := by
  obtain ⟨a, b, o, c, rfl, ha, hl, hm, hc⟩ := h
  unfold maxLen at hm
  have Hc := Lib.hid hc
  have Ha := Lib.hid ha
  clear hc ha
  go_enter Tryd.func26, Tryd.ntmps26
  go_wp2
  go_loop [11] (fun i => ∃ k : Nat, k ≤ l.length ∧ i = .int .i64 k ∧ Hid (∀ j, j < k → lo ≤ gi l j ∧ gi l j ≤ hi)) (fun i => l.length - (intOf i).toNat)
  case atStart => exact ⟨0, Nat.zero_le _, rfl, fun j hj => absurd hj (by omega)⟩
  case round =>
    obtain ⟨k, hk, rfl, Hr⟩ := hrel
    by_cases hlt : k < l.length
    · obtain ⟨y, hc, rfl, _⟩ := Hc.out k hlt
      obtain rfl := Ha.out (by omega)
      by_cases he : lo ≤ gi l k ∧ gi l k ≤ hi
      · have Heb := Lib.hid (dec_true (p := InB (gi l k) lo hi) he)
        have He := Lib.hid he
        clear he
        go_wp2_with (go_at_call 23; (with_reducible refine (l1In_any _ _ _ _).mono ?_); rintro e w' ⟨rfl, rfl⟩; rw [Heb.out])
        go_round
        case rel =>
          refine ⟨k + 1, by omega, by go_num, fun j hj => ?_⟩
          by_cases e : j = k
          · subst e; exact He.out
          · exact Hr.out j (by omega)
        case measure => simp [intOf]; omega
      · have Heb := Lib.hid (dec_false (p := InB (gi l k) lo hi) he)
        have He := Lib.hid he
        clear he
        go_wp2_with (go_at_call 23; (with_reducible refine (l1In_any _ _ _ _).mono ?_); rintro e w' ⟨rfl, rfl⟩; rw [Heb.out])
        go_ret
        exact ⟨ret_f (fun h => He.out (h k hlt)), rfl⟩
    · go_wp2
      go_ret
      obtain rfl : k = l.length := by omega
      exact ⟨ret_t Hr.out, rfl⟩

/-- Nothing that was there has changed but the blocks in bs. -/
structure Chg (w w' : World) (bs : List Nat) : Prop where
  os : w'.os = w.os
  tape : w'.tape = w.tape
  output : w'.output = w.output
  size : w.heap.size ≤ w'.heap.size
  block : ∀ k, k < w.heap.size → k ∉ bs → w'.heap[k]? = w.heap[k]?

theorem Chg.rfl' (w : World) (bs : List Nat) : Chg w w bs := ⟨rfl, rfl, rfl, Nat.le_refl _, fun _ _ _ => rfl⟩

theorem Chg.of_ext {w w' : World} (h : Ext w w') (bs : List Nat) : Chg w w' bs := ⟨h.os, h.tape, h.output, h.size, fun k hk _ => h.block k hk⟩

theorem Chg.mono {w w' : World} {bs cs : List Nat} (h : Chg w w' bs) (hs : ∀ b ∈ bs, b ∈ cs) : Chg w w' cs := ⟨h.os, h.tape, h.output, h.size, fun k hk hn => h.block k hk fun hb => hn (hs k hb)⟩

theorem Chg.trans' {a b c : World} {bs : List Nat} (h : Chg a b bs) (k : Chg b c bs) : Chg a c bs :=
  ⟨k.os.trans h.os, k.tape.trans h.tape, k.output.trans h.output, Nat.le_trans h.size k.size, fun i hi hn => (k.block i (Nat.lt_of_lt_of_le hi h.size) hn).trans (h.block i hi hn)⟩

theorem Chg.store {a b : World} {bs : List Nat} (h : Chg a b bs) {p : Addr} (hp : p.block ∈ bs) (v : Value) : Chg a (b.setCell p v) bs :=
  ⟨h.os, h.tape, h.output, by simp [World.setCell]; exact h.size, fun k hk hn => (Below.heap_setCell _ _ _ _ (fun e => hn (by rw [e]; exact hp))).trans (h.block k hk hn)⟩

/-- New blocks alone have changed: nothing that was there. -/
theorem Chg.ext {W w w' : World} {bs : List Nat} (he : Ext W w) (h : Chg w w' bs) (hb : ∀ b ∈ bs, W.heap.size ≤ b) : Ext W w' :=
  ⟨h.os.trans he.os, h.tape.trans he.tape, h.output.trans he.output, Nat.le_trans he.size h.size, fun k hk => (h.block k (Nat.lt_of_lt_of_le hk he.size) (fun hn => by have := hb k hn; omega)).trans (he.block k hk)⟩

def marks (k : Int) (n : Nat) : List Int := (List.range n).map fun (i : Nat) => k + (i : Int)

theorem length_marks (k : Int) (n : Nat) : (marks k n).length = n := by simp [marks]

theorem gi_marks (k : Int) (n i : Nat) (h : i < n) : gi (marks k n) i = k + i := by simp [gi, marks, h]



theorem own_nil (w : World) : OwnI w (.slice none 0 0) [] [] := ⟨⟨0, Nat.le_refl _, by unfold maxLen; omega, .inl ⟨rfl, rfl, none, ⟨rfl, rfl⟩, rfl⟩⟩, fun i hi => absurd hi (by simp)⟩

theorem ret_sl {v : Value} {b c : Bool} (h : b = c) : Ending.returned (.tuple #[v, .bool b]) = .returned (.tuple #[v, .bool c]) := by rw [h]

/-- What is collected by append is a slice of integers in memory of its own. -/
theorem own_of_row {w : World} {B : Nat} {v : Value} {l : List Int} {xs : List Value} (h : w.ownsRow B 3 1 v l.length xs) (hx : ∀ i, i < l.length → xs[i]? = some (.int .i64 (gi l i))) (hr : ∀ i, i < l.length → inI64 (gi l i)) :
    ∃ bs, OwnI w v l bs ∧ bs.Nodup ∧ ∀ b ∈ bs, B ≤ b := by
  obtain ⟨hl, h⟩ := h
  rcases h with ⟨rfl, hn⟩ | ⟨g, cap, cur, rfl, hb, hh, hc1, hc2, hs, ht⟩
  · exact ⟨[], ⟨⟨0, by omega, by unfold maxLen; omega, .inl ⟨hn, rfl, none, ⟨rfl, rfl⟩, rfl⟩⟩, hr⟩, List.nodup_nil, by simp⟩
  · refine ⟨[g], ⟨⟨cap, hc1, hc2, .inr ⟨g, cap, fun i => cur.getD i undef, rfl, rfl, by omega, ⟨cur, hh, by omega, fun i hi => ?_⟩, fun i hi => ?_⟩⟩, hr⟩, by simp, by simpa using hb⟩
    · have hlt : i < cur.size := by omega
      simp [hlt]
    · have e := hx i (by omega)
      rw [← ht, List.getElem?_take, if_pos (by omega)] at e
      have hlt : i < cur.size := by omega
      simp only [Array.getElem?_toList] at e
      simp [Array.getD, hlt]
      simpa [hlt] using e

theorem grown_ext {W w w' : World} {B : Nat} {v : Value} {n : Nat} {xs : List Value} {t k : Nat} (he : Ext W w) (hB : W.heap.size ≤ B) (ho : w.ownsRow B t k v n xs) (hg : w.grownBy w' v.ownBlock) : Ext W w' :=
  he.grown hg he.size fun k hk => Nat.le_trans hB (ho.lt k hk).1

/-- A list in memory of its own, and whether B holds. -/
def AnsL (w : World) (l : List Int) (B : Prop) (e : Ending) (w' : World) : Prop := ∃ v' bs, e = .returned (.tuple #[v', .bool (dec B)]) ∧ Ext w w' ∧ OwnI w' v' l bs ∧ Fresh w bs
theorem AnsL.mk {w w' : World} {l : List Int} {B : Prop} {v : Value} {b : Bool} {bs : List Nat} (h : dec B = b) (hx : Ext w w') (ho : OwnI w' v l bs) (hf : Fresh w bs) : AnsL w l B (.returned (.tuple #[v, .bool b])) w' :=
  ⟨v, bs, by rw [h], hx, ho, hf⟩
theorem AnsL.no {w w' : World} {l : List Int} {B : Prop} {b : Bool} (h : dec B = b) (hl : l = []) (hx : Ext w w') : AnsL w l B (.returned (.tuple #[.slice none 0 0, .bool b])) w' :=
  ⟨_, [], by rw [h], hx, by rw [hl]; exact own_nil _, Fresh.nil _⟩
end Go.Proofs.YtcjiejbndmnjaaaDoor
