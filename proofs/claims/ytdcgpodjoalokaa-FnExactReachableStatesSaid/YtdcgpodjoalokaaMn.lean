/- The program's search for a clause, and the next state. -/
import Derived.Test.YtdcgpodjoalokaaMg
import Derived.Shelf.Abstract
namespace Go.Proofs.Ytdcgpodjoalokaa
open Go.RowKit

def agreeI (x y : Int) : Bool := decide (x = -1) || decide (x = y)
set_option maxHeartbeats 800000 in
set_option maxRecDepth 100000 in
theorem fits_any (x y : Int) (w : World) : Calls Try.prog 142 #[.int .i64 x, .int .i64 y] w fun e w' => e = .returned (.bool (agreeI x y)) ∧ Ext w w' := by
  by_cases e1 : x = -1
  · have b1 : (x == -1) = true := beq_iff_eq.2 e1
    have E := Lib.hid (show agreeI x y = true by simp [agreeI, e1])
    clear e1
    go_enter Try.func142, Try.ntmps142
    go_wp2
    go_ret
    exact ⟨ret_bool E.out.symm, Ext.rfl' w⟩
  · have b1 : (x == -1) = false := beq_eq_false_iff_ne.2 e1
    by_cases e2 : x = y
    · have b2 : (x == y) = true := beq_iff_eq.2 e2
      have E := Lib.hid (show agreeI x y = true by simp [agreeI, e2])
      clear e1 e2
      go_enter Try.func142, Try.ntmps142
      go_wp2
      go_ret
      exact ⟨ret_bool E.out.symm, Ext.rfl' w⟩
    · have b2 : (x == y) = false := beq_eq_false_iff_ne.2 e2
      have E := Lib.hid (show agreeI x y = false by simp [agreeI, e1, e2])
      clear e1 e2
      go_enter Try.func142, Try.ntmps142
      go_wp2
      go_ret
      exact ⟨ret_bool E.out.symm, Ext.rfl' w⟩

def AlikeI (n m : Nat) (r : Nat → Bool) : Prop := n = m ∧ ∀ i, i < n → r i = true
set_option maxHeartbeats 1600000 in
set_option maxRecDepth 100000 in
theorem equalFuncI_any (K : Nat) (caps : Array Value) (eg : ∀ args w, (callFunc K args).run Try.prog w = .ok (.enter K args) w) (r : Nat → Bool) {w : World} {v1 v2 : Value} {l m : List Int} (h1 : IntSl w v1 l) (h2 : IntSl w v2 m)
    (hs : ∀ W, Ext w W → ∀ i : Nat, i < l.length → i < m.length → Calls Try.prog K (#[.int .i64 (gi l i), .int .i64 (gi m i)] ++ caps) W fun e w' => e = .returned (.bool (r i)) ∧ Ext W w') :
    Calls Try.prog 145 #[v1, v2, .func (.func K) #[] caps] w fun e w' => e = .returned (.bool (dec (AlikeI l.length m.length r))) ∧ Ext w w' := by
  obtain ⟨a1, b1, o1, c1, rfl, ha1, hn1, hm1, hc1⟩ := h1
  obtain ⟨a2, b2, o2, c2, rfl, ha2, hn2, hm2, hc2⟩ := h2
  unfold maxLen at hm1 hm2
  have HS := Lib.hid hs
  have Hc1 := Lib.hid hc1
  have Hc2 := Lib.hid hc2
  have Ha1 := Lib.hid ha1
  have Ha2 := Lib.hid ha2
  clear hs hc1 hc2 ha1 ha2
  by_cases hlen : l.length = m.length
  · have hlb : ((l.length : Int) != (m.length : Int)) = false := by simp; omega
    have HL := Lib.hid hlen
    clear hlen
    go_enter Try.func145, Try.ntmps145
    go_wp2
    go_loopg [17] l.length (fun g i wr => ∃ k : Nat, k ≤ l.length ∧ g = l.length - k ∧ i = .int .i64 k ∧ Hid (Ext w wr ∧ ∀ j, j < k → r j = true))
    case atStart => exact ⟨0, Nat.zero_le _, rfl, rfl, Ext.rfl' w, fun j hj => absurd hj (by omega)⟩
    case round =>
      obtain ⟨k, hk, rfl, rfl, Hr⟩ := hrel
      by_cases hlt : k < l.length
      · have hlt2 : k < m.length := by have := HL.out; omega
        obtain ⟨_, p1, rfl, _⟩ := Hc1.out k hlt
        obtain ⟨_, q1, rfl, _⟩ := Hc2.out k hlt2
        obtain rfl := Ha1.out (by omega)
        obtain rfl := Ha2.out (by omega)
        have p1' := Hr.out.1.cell' p1
        have q1' := Hr.out.1.cell' q1
        have cS := HS.out _ Hr.out.1 k hlt hlt2
        obtain ⟨x, hx⟩ : ∃ x, x = gi l k := ⟨_, rfl⟩
        obtain ⟨y, hy⟩ : ∃ y, y = gi m k := ⟨_, rfl⟩
        rw [← hx] at p1' cS
        rw [← hy] at q1' cS
        clear p1 q1 hx hy
        cases hsp : r k <;> rw [hsp] at cS
        · have Hn := Lib.hid (dec_false (p := AlikeI l.length m.length r) fun h => by have := h.2 k hlt; rw [hsp] at this; exact absurd this (by simp))
          clear hsp
          go_wp2_with (go_at_fn K; refine cS.mono ?_; rintro e W' ⟨rfl, hx⟩; have HY := Lib.hid hx; clear hx)
          go_ret
          exact ⟨ret_bool Hn.out.symm, Hr.out.1.trans' HY.out⟩
        · have Hsp := Lib.hid hsp
          clear hsp
          go_wp2_with (go_at_fn K; refine cS.mono ?_; rintro e W' ⟨rfl, hx⟩; have HY := Lib.hid hx; clear hx)
          go_roundg (l.length - (k + 1))
          case measure => omega
          case rel =>
            refine ⟨k + 1, by omega, rfl, by go_num, Hr.out.1.trans' HY.out, fun j hj => ?_⟩
            by_cases e : j = k
            · subst e; exact Hsp.out
            · exact Hr.out.2 j (by omega)
      · go_wp2
        go_ret
        obtain rfl : k = l.length := by omega
        exact ⟨ret_bool (dec_true (p := AlikeI l.length m.length r) ⟨HL.out, Hr.out.2⟩).symm, Hr.out.1⟩
  · have hlb : ((l.length : Int) != (m.length : Int)) = true := by simp; omega
    have Hn := Lib.hid (dec_false (p := AlikeI l.length m.length r) fun h => hlen h.1)
    clear hlen
    go_enter Try.func145, Try.ntmps145
    go_wp2
    go_ret
    exact ⟨ret_bool Hn.out.symm, Ext.rfl' w⟩

theorem enters_fits (args : Array Value) (w : World) : (callFunc 142 args).run Try.prog w = .ok (.enter 142 args) w := enters_of Try.func142 (by kernel_rfl) rfl args w
theorem enters_clause (args : Array Value) (w : World) : (callFunc 144 args).run Try.prog w = .ok (.enter 144 args) w := enters_of Try.func144 (by kernel_rfl) rfl args w
theorem alike_fits {c : Cl} {inb : List Int} : dec (AlikeI c.inb.length inb.length fun i => agreeI (gi c.inb i) (gi inb i)) = (decide (c.inb.length = inb.length) && agreeB c inb) := by
  by_cases h : c.inb.length = inb.length
  · by_cases k : agreeB c inb = true
    · have hk := k
      simp only [agreeB, List.all_eq_true, List.mem_range] at hk
      rw [dec_true (p := AlikeI c.inb.length inb.length fun i => agreeI (gi c.inb i) (gi inb i)) ⟨h, fun i hi => hk i (by omega)⟩]
      simp [h, k]
    · rw [dec_false (p := AlikeI c.inb.length inb.length fun i => agreeI (gi c.inb i) (gi inb i)) fun q => k (by
        simp only [agreeB, List.all_eq_true, List.mem_range]
        exact fun i hi => q.2 i (by omega))]
      simp [h, k]
  · rw [dec_false (p := AlikeI c.inb.length inb.length fun i => agreeI (gi c.inb i) (gi inb i)) fun q => h q.1]
    simp [h]

set_option maxHeartbeats 1600000 in
set_option maxRecDepth 100000 in
theorem clauseFit_any {w : World} {c : Cl} {x vi : Value} {st : Int} {inb : List Int} {sp ip fp : Nat} (hx : IntSl w x c.inb) (hi : IntSl w vi inb) (h1 : w.cell? ⟨sp, 0, none⟩ = some (.int .i64 st)) (h2 : w.cell? ⟨ip, 0, none⟩ = some vi) (h3 : w.cell? ⟨fp, 0, none⟩ = some (.func (.func 142) #[] #[])) :
    Calls Try.prog 144 #[.agg #[.int .i64 c.st, x, .int .i64 c.nx], .pointer (some ⟨sp, 0, none⟩), .pointer (some ⟨ip, 0, none⟩), .pointer (some ⟨fp, 0, none⟩)] w fun e w' => e = .returned (.bool (fitsB c st inb)) ∧ Ext w w' := by
  obtain ⟨xa, xq, rfl⟩ := hx.isSlice
  obtain ⟨ia, iq, rfl⟩ := hi.isSlice
  obtain ⟨W1, hW1⟩ : ∃ W1, W1 = w.alloc (.cells #[.int .i64 c.st, .slice xa c.inb.length xq, .int .i64 c.nx] 113) := ⟨_, rfl⟩
  have E1 := Lib.hid (show Ext w W1 by rw [hW1]; exact (Ext.rfl' _).alloc' _)
  have R1 := Lib.hid (show W1.rowIs w.heap.size 113 3 (tri (.int .i64 c.st) (.slice xa c.inb.length xq) (.int .i64 c.nx)) by rw [hW1]; exact row3_made _ _ _ _ _)
  obtain ⟨r0, r1, r2, -, -, -⟩ := row3_facts R1.out
  have c1 := E1.out.cell' h1
  have c2 := E1.out.cell' h2
  have c3 := E1.out.cell' h3
  have HX := Lib.hid (hx.ext E1.out)
  have HI := Lib.hid (hi.ext E1.out)
  clear hx hi h1 h2 h3
  by_cases e1 : c.st = st
  · have b1 : (c.st == st) = true := beq_iff_eq.2 e1
    have E := Lib.hid (show dec (AlikeI c.inb.length inb.length fun i => agreeI (gi c.inb i) (gi inb i)) = fitsB c st inb by rw [alike_fits]; simp [fitsB, e1])
    clear e1
    go_enter Try.func144, Try.ntmps144
    go_upto_region 1 with fail
    rw [← hW1]
    clear hW1
    go_wp2_with (go_at_call 145; (with_reducible refine (equalFuncI_any 142 #[] enters_fits (fun i => agreeI (gi c.inb i) (gi inb i)) HX.out HI.out (fun W hW i _ _ => by simpa using fits_any _ _ W)).mono ?_); rintro e w2 ⟨rfl, hx⟩; rw [E.out]; have HY := Lib.hid (E1.out.trans' hx); clear hx)
    go_ret
    exact ⟨rfl, HY.out⟩
  · have b1 : (c.st == st) = false := beq_eq_false_iff_ne.2 e1
    have E := Lib.hid (show fitsB c st inb = false by simp [fitsB, e1])
    clear e1
    go_enter Try.func144, Try.ntmps144
    go_upto_region 1 with fail
    rw [← hW1]
    clear hW1
    go_wp2
    go_ret
    exact ⟨ret_bool E.out.symm, E1.out⟩

theorem ret_iM {a b : Int} (h : a = b) : Ending.returned (.int .i64 a) = .returned (.int .i64 b) := by rw [h]
set_option maxHeartbeats 1600000 in
set_option maxRecDepth 100000 in
theorem indexFuncC_any (K : Nat) (caps : Array Value) (eg : ∀ args w, (callFunc K args).run Try.prog w = .ok (.enter K args) w) (p : Nat → Bool) {w : World} {a : Option Addr} {c : Nat} {l : List Cl} (h : ClSl w (.slice a l.length c) l) (h6 : l.length ≤ 1048576)
    (hs : ∀ W, Ext w W → ∀ i : Nat, i < l.length → ∀ xa xq, IntSl W (.slice xa (gc l i).inb.length xq) (gc l i).inb → Calls Try.prog K (#[.agg #[.int .i64 (gc l i).st, .slice xa (gc l i).inb.length xq, .int .i64 (gc l i).nx]] ++ caps) W fun e w' => e = .returned (.bool (p i)) ∧ Ext W w') :
    Calls Try.prog 143 #[.slice a l.length c, .func (.func K) #[] caps] w fun e w' => e = .returned (.int .i64 (fstP p l.length)) ∧ Ext w w' := by
  have HS := Lib.hid hs
  have HV := Lib.hid h
  obtain ⟨-, hm, hl⟩ := clLen h
  unfold maxLen at hm
  clear hs h
  obtain ⟨n, hnn⟩ : ∃ n, n = l.length := ⟨_, rfl⟩
  have HNN := Lib.hid hnn
  rw [← hnn] at h6 hl ⊢
  clear hnn
  go_enter Try.func143, Try.ntmps143
  go_wp2
  go_loopg [8] n (fun g i wr => ∃ k : Nat, k ≤ n ∧ g = n - k ∧ i = .int .i64 k ∧ Hid (Ext w wr ∧ ∀ j, j < k → p j = false))
  case atStart => exact ⟨0, Nat.zero_le _, rfl, rfl, Ext.rfl' w, fun j hj => absurd hj (by omega)⟩
  case round =>
    obtain ⟨k, hk, rfl, rfl, Hr⟩ := hrel
    by_cases hlt : k < n
    · have hltl : k < l.length := by have := HNN.out; omega
      obtain ⟨b, o, rfl, f1, ⟨xa, xn, xq, f2, rfl, f3⟩, f4, -, -⟩ := clRow HV.out hltl
      have s1 := Hr.out.1.cell' f1
      have s2 := Hr.out.1.cell' f2
      have s4 := Hr.out.1.cell' f4
      have cS := HS.out _ Hr.out.1 k hltl xa xq (f3.ext Hr.out.1)
      obtain ⟨x, hx⟩ : ∃ x, x = gc l k := ⟨_, rfl⟩
      rw [← hx] at s1 s2 s4 cS
      clear f1 f2 f3 f4 hx
      cases hsp : p k <;> rw [hsp] at cS
      · have Hsp := Lib.hid hsp
        clear hsp
        go_wp2_with (go_at_fn K; refine cS.mono ?_; rintro e W' ⟨rfl, hx⟩; have HY := Lib.hid hx; clear hx)
        go_roundg (n - (k + 1))
        case measure => omega
        case rel =>
          refine ⟨k + 1, by omega, rfl, by go_num, Hr.out.1.trans' HY.out, fun j hj => ?_⟩
          by_cases e : j = k
          · subst e; exact Hsp.out
          · exact Hr.out.2 j (by omega)
      · have HI := Lib.hid (show fstP p n = (k : Int) from fstP_hit Hr.out.2 hsp n hlt)
        clear hsp
        go_wp2_with (go_at_fn K; refine cS.mono ?_; rintro e W' ⟨rfl, hx⟩; have HY := Lib.hid hx; clear hx)
        go_ret
        exact ⟨ret_iM HI.out.symm, Hr.out.1.trans' HY.out⟩
    · obtain rfl : k = n := by omega
      have HI := Lib.hid (show fstP p k = -1 from fstP_none k Hr.out.2)
      go_wp2
      go_ret
      exact ⟨ret_iM HI.out.symm, Hr.out.1⟩

theorem row1_made (w : World) (x : Value) (t : Nat) : (w.alloc (.cells #[x] t)).rowIs w.heap.size t 1 (fun _ => x) :=
  World.rowIs_alloc w #[x] t _ fun i hi => by
    have h : i < 1 := hi
    match i, h with
    | 0, _ => rfl
set_option maxHeartbeats 1600000 in
set_option maxRecDepth 100000 in
theorem clauseFor_any {w : World} {v vi : Value} {M : Mach} {st : Int} {inb : List Int} (h : MachAt w v M) (hs : M.cls.length ≤ 1048576) (hi : IntSl w vi inb) :
    Calls Try.prog 96 #[v, .int .i64 st, vi] w fun e w' => e = .returned (.int .i64 (clauseI M st inb)) ∧ Ext w w' := by
  obtain ⟨ia, iq, rfl⟩ := hi.isSlice
  obtain ⟨a3, c3, a4, c4, a5, c5, a6, c6, rfl, -, -, h5, -⟩ := h
  obtain ⟨W1, hW1⟩ : ∃ W1, W1 = (((w.alloc (.cells #[.int .i64 M.deg, .int .i64 M.sts, .int .i64 M.msgs, .slice a3 M.start.length c3, .slice a4 M.send.length c4, .slice a5 M.cls.length c5, .slice a6 M.out.length c6] 31)).alloc (.cells #[.int .i64 st] 3)).alloc (.cells #[.slice ia inb.length iq] 24)).alloc (.cells #[.func (.func 142) #[] #[]] 156) := ⟨_, rfl⟩
  have EW := Lib.hid (show Ext w W1 by rw [hW1]; exact ((((Ext.rfl' w).alloc' _).alloc' _).alloc' _).alloc' _)
  have RW := Lib.hid (show W1.rowIs w.heap.size 31 7 (sept (.int .i64 M.deg) (.int .i64 M.sts) (.int .i64 M.msgs) (.slice a3 M.start.length c3) (.slice a4 M.send.length c4) (.slice a5 M.cls.length c5) (.slice a6 M.out.length c6)) by rw [hW1]; exact (((row7_made _ _ _ _ _ _ _ _ _).alloc _).alloc _).alloc _)
  have s1 : W1.cell? ⟨w.heap.size + 1, 0, none⟩ = some (.int .i64 st) := by
    rw [hW1]
    have := ((row1_made (w.alloc (.cells #[.int .i64 M.deg, .int .i64 M.sts, .int .i64 M.msgs, .slice a3 M.start.length c3, .slice a4 M.send.length c4, .slice a5 M.cls.length c5, .slice a6 M.out.length c6] 31)) (.int .i64 st) 3).alloc (.cells #[.slice ia inb.length iq] 24)).alloc (.cells #[.func (.func 142) #[] #[]] 156)
    rw [World.size_alloc] at this
    exact this.cell (i := 0) (by omega)
  have s2 : W1.cell? ⟨w.heap.size + 1 + 1, 0, none⟩ = some (.slice ia inb.length iq) := by
    rw [hW1]
    have := (row1_made ((w.alloc (.cells #[.int .i64 M.deg, .int .i64 M.sts, .int .i64 M.msgs, .slice a3 M.start.length c3, .slice a4 M.send.length c4, .slice a5 M.cls.length c5, .slice a6 M.out.length c6] 31)).alloc (.cells #[.int .i64 st] 3)) (.slice ia inb.length iq) 24).alloc (.cells #[.func (.func 142) #[] #[]] 156)
    rw [World.size_alloc, World.size_alloc] at this
    exact this.cell (i := 0) (by omega)
  have s3 : W1.cell? ⟨w.heap.size + 1 + 1 + 1, 0, none⟩ = some (.func (.func 142) #[] #[]) := by
    rw [hW1]
    have := row1_made (((w.alloc (.cells #[.int .i64 M.deg, .int .i64 M.sts, .int .i64 M.msgs, .slice a3 M.start.length c3, .slice a4 M.send.length c4, .slice a5 M.cls.length c5, .slice a6 M.out.length c6] 31)).alloc (.cells #[.int .i64 st] 3)).alloc (.cells #[.slice ia inb.length iq] 24)) (.func (.func 142) #[] #[]) 156
    rw [World.size_alloc, World.size_alloc, World.size_alloc] at this
    exact this.cell (i := 0) (by omega)
  have H5 := Lib.hid (h5.ext EW.out)
  have HI := Lib.hid (hi.ext EW.out)
  have S1 := Lib.hid s1
  have S2 := Lib.hid s2
  have S3 := Lib.hid s3
  obtain ⟨p0, p1, p2, p3, p4, p5, p6⟩ := row7_facts RW.out
  rw [hW1] at p5
  have hst : ∀ (W : World) (p : Addr) (m : Mode), (store p (.func (.func 142) #[] #[]) m).run Try.prog W = stored Try.prog W p (.func (.func 142) #[] #[]) m := fun W p m => run_store _ W p _ m rfl
  clear h5 hi s1 s2 s3 p0 p1 p2 p3 p4 p6
  go_enter Try.func96, Try.ntmps96
  go_wp2_with fail
  rw [← hW1]
  clear hW1 p5
  (with_reducible refine (indexFuncC_any 144 #[.pointer (some ⟨w.heap.size + 1, 0, none⟩), .pointer (some ⟨w.heap.size + 1 + 1, 0, none⟩), .pointer (some ⟨w.heap.size + 1 + 1 + 1, 0, none⟩)] enters_clause (fun k => fitsB (gc M.cls k) st inb) H5.out hs (fun W hW i _ xa xq hx => by simpa using clauseFit_any hx (HI.out.ext hW) (hW.cell' S1.out) (hW.cell' S2.out) (hW.cell' S3.out))).mono ?_)
  rintro e w2 ⟨rfl, hx⟩
  have HX := Lib.hid (EW.out.trans' hx)
  clear hx
  go_wp2
  go_ret
  exact ⟨rfl, HX.out⟩

set_option maxHeartbeats 1600000 in
set_option maxRecDepth 100000 in
theorem nextState_any {w : World} {v vi : Value} {M : Mach} {st : Int} {inb : List Int} (h : MachAt w v M) (hm : MachOK M) (h0 : 0 ≤ st) (h1 : st ≤ M.sts - 1) (hi : IntSl w vi inb) :
    Calls Try.prog 147 #[v, .int .i64 st, vi] w fun e w' => e = .returned (.int .i64 (nextS M st inb)) ∧ Ext w w' := by
  have HV := Lib.hid h
  have HI := Lib.hid hi
  obtain ⟨a3, c3, a4, c4, a5, c5, a6, c6, rfl, -, -, h5, h6, -⟩ := h
  obtain ⟨ia, iq, rfl⟩ := hi.isSlice
  obtain ⟨W1, hW1⟩ : ∃ W1, W1 = w.alloc (.cells #[.int .i64 M.deg, .int .i64 M.sts, .int .i64 M.msgs, .slice a3 M.start.length c3, .slice a4 M.send.length c4, .slice a5 M.cls.length c5, .slice a6 M.out.length c6] 31) := ⟨_, rfl⟩
  have EW := Lib.hid (show Ext w W1 by rw [hW1]; exact (Ext.rfl' w).alloc' _)
  have RW := Lib.hid (show W1.rowIs w.heap.size 31 7 (sept (.int .i64 M.deg) (.int .i64 M.sts) (.int .i64 M.msgs) (.slice a3 M.start.length c3) (.slice a4 M.send.length c4) (.slice a5 M.cls.length c5) (.slice a6 M.out.length c6)) by rw [hW1]; exact row7_made _ _ _ _ _ _ _ _ _)
  have H5 := Lib.hid h5
  have H6 := Lib.hid h6
  obtain ⟨-, m5, n5⟩ := clLen h5
  obtain ⟨-, m6, n6⟩ := isLen h6
  unfold maxLen at m5 m6
  have hcl : M.cls.length ≤ 1048576 := by have := hm.2.2.2.1.1; omega
  have hol : st.toNat < M.out.length := by have := hm.2.2.2.2.1; omega
  obtain ⟨p0, p1, p2, p3, p4, p5, p6⟩ := row7_facts RW.out
  clear h5 h6 hi hm
  obtain ⟨s, rfl⟩ := Int.eq_ofNat_of_zero_le h0
  rw [Int.toNat_natCast] at hol
  go_enter Try.func147, Try.ntmps147
  go_upto_region 1 with fail
  rw [← hW1]
  clear hW1
  go_wp2_with fail
  (with_reducible refine (clauseFor_any (HV.out.ext EW.out) hcl (HI.out.ext EW.out)).mono ?_)
  rintro e w2 ⟨rfl, hx⟩
  have HX := Lib.hid (EW.out.trans' hx)
  have RW2 := Lib.hid (row_ext RW.out hx)
  clear hx p0 p1 p2 p3 p4 p5 p6
  obtain ⟨p0, p1, p2, p3, p4, p5, p6⟩ := row7_facts RW2.out
  obtain ⟨ci1, ci2⟩ := clauseI_range M (s : Int) inb
  by_cases e1 : clauseI M (s : Int) inb = -1
  · have E := Lib.hid (show nextS M (s : Int) inb = s by unfold nextS; rw [if_pos (.inl e1)])
    rw [e1]
    clear e1 ci1 ci2
    go_wp2
    go_ret
    exact ⟨ret_iM E.out.symm, HX.out⟩
  · obtain ⟨k, hk⟩ := Int.eq_ofNat_of_zero_le (show 0 ≤ clauseI M (s : Int) inb by omega)
    have hk1 : k < M.cls.length := by omega
    have HK := Lib.hid hk
    rw [hk] at e1 ⊢
    have b1 : ((k : Int) == -1) = false := beq_eq_false_iff_ne.2 (by omega)
    clear hk ci1 ci2
    obtain ⟨b, o, rfl, -, -, q3, -⟩ := clRow (H5.out.ext HX.out) hk1
    obtain ⟨ob, oo, oc, od, e, hoa, -, -, hoc⟩ := H6.out.ext HX.out
    simp only [Value.slice.injEq] at e
    obtain ⟨rfl, -, rfl⟩ := e
    obtain rfl := hoa (by omega)
    obtain ⟨_, q4, rfl, -⟩ := hoc s hol
    clear hoa hoc
    by_cases e2 : gi M.out s = -1
    · have b2 : (gi M.out s != -1) = false := bne_eq_false_iff_eq.2 e2
      have E := Lib.hid (show nextS M (s : Int) inb = (gc M.cls k).nx by
        unfold nextS
        rw [HK.out, if_neg (by rw [Int.toNat_natCast]; rintro (h | h); omega; exact h e2), Int.toNat_natCast])
      clear e1 e2
      go_wp2
      go_ret
      exact ⟨ret_iM E.out.symm, HX.out⟩
    · have b2 : (gi M.out s != -1) = true := bne_iff_ne.2 e2
      have E := Lib.hid (show nextS M (s : Int) inb = s by
        unfold nextS
        rw [if_pos (.inr (by rw [Int.toNat_natCast]; exact e2))])
      clear e1 e2
      go_wp2
      go_ret
      exact ⟨ret_iM E.out.symm, HX.out⟩
end Go.Proofs.Ytdcgpodjoalokaa
