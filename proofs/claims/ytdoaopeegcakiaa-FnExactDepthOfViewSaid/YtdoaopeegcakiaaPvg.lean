/- The model's view: what is known while its parts are read. -/
import Derived.Test.YtdoaopeegcakiaaPvf
import Derived.Test.YtdoaopeegcakiaaVk
namespace Go.Proofs.Ytdoaopeegcakiaa
open Go.RowKit

theorem head_all {B : Bs} {p p1 p2 p3 : Nat} {x1 x3 : Int} {k k1 k2 k3 : Bool} (h1 : (k1 = true → k = true ∧ tkD 0 6 (B.drop p) = some (x1, B.drop p1)) ∧ (k1 = false → k = true → tkD 0 6 (B.drop p) = none))
    (h2 : (k2 = true → k1 = true ∧ tkM 46 (B.drop p1) = some (B.drop p2)) ∧ (k2 = false → k1 = true → tkM 46 (B.drop p1) = none))
    (h3 : (k3 = true → k2 = true ∧ tkD 0 9 (B.drop p2) = some (x3, B.drop p3)) ∧ (k3 = false → k2 = true → tkD 0 9 (B.drop p2) = none)) :
    (k3 = true → k = true ∧ hd3 0 (B.drop p) = some ((x1, x3), B.drop p3)) ∧ (k3 = false → k = true → hd3 0 (B.drop p) = none) := by
  constructor
  · intro e
    obtain ⟨a2, b3⟩ := h3.1 e
    obtain ⟨a1, b2⟩ := h2.1 a2
    obtain ⟨a, b1⟩ := h1.1 a1
    exact ⟨a, by unfold hd3; rw [b1]; simp only [b2, b3]⟩
  · intro e ek
    unfold hd3
    cases hk1 : k1 with
    | false => rw [h1.2 hk1 ek]
    | true =>
      obtain ⟨_, b1⟩ := h1.1 hk1
      rw [b1]; simp only
      cases hk2 : k2 with
      | false => rw [h2.2 hk2 hk1]
      | true =>
        obtain ⟨_, b2⟩ := h2.1 hk2
        rw [b2]; simp only
        rw [h3.2 e hk2]
theorem part_all {B : Bs} {q q1 q2 q3 q4 : Nat} {c : UInt8} {j d : Int} {k k1 k2 k3 k4 k5 : Bool} {i : Int} {s : VF}
    (h1 : (k1 = true → k = true ∧ tkM c (B.drop q) = some (B.drop q1)) ∧ (k1 = false → k = true → tkM c (B.drop q) = none))
    (h2 : (k2 = true → k1 = true ∧ tkD 0 5 (B.drop q1) = some (j, B.drop q2)) ∧ (k2 = false → k1 = true → tkD 0 5 (B.drop q1) = none))
    (h3 : (k3 = true → k2 = true ∧ tkM 58 (B.drop q2) = some (B.drop q3)) ∧ (k3 = false → k2 = true → tkM 58 (B.drop q2) = none))
    (h4 : (k4 = true → k3 = true ∧ PV (B.drop q3) = some ((d, i, s), B.drop q4)) ∧ (k4 = false → k3 = true → PV (B.drop q3) = none))
    (h5 : k5 = true ↔ k4 = true ∧ j < d) :
    (k5 = true → tkM c (B.drop q) = some (B.drop q1) ∧ PP (B.drop q1) = some ((j, d, i, s), B.drop q4)) ∧ (k5 = false → k = true → tkM c (B.drop q) = none ∨ (tkM c (B.drop q) = some (B.drop q1) ∧ PP (B.drop q1) = none)) := by
  constructor
  · intro e
    obtain ⟨e4, hj⟩ := h5.1 e
    obtain ⟨a3, b4⟩ := h4.1 e4
    obtain ⟨a2, b3⟩ := h3.1 a3
    obtain ⟨a1, b2⟩ := h2.1 a2
    obtain ⟨a, b1⟩ := h1.1 a1
    exact ⟨b1, by unfold PP; rw [b2]; simp only [b3, b4, if_pos hj]⟩
  · intro e ek
    cases hk1 : k1 with
    | false => exact .inl (h1.2 hk1 ek)
    | true =>
      refine .inr ⟨(h1.1 hk1).2, ?_⟩
      unfold PP
      cases hk2 : k2 with
      | false => rw [h2.2 hk2 hk1]
      | true =>
        rw [(h2.1 hk2).2]; simp only
        cases hk3 : k3 with
        | false => rw [h3.2 hk3 hk2]
        | true =>
          rw [(h3.1 hk3).2]; simp only
          cases hk4 : k4 with
          | false => rw [h4.2 hk4 hk3]
          | true =>
            rw [(h4.1 hk4).2]; simp only
            rw [if_neg fun hj => by rw [h5.2 ⟨hk4, hj⟩] at e; cases e]

/-- Behind n parts. -/
def RelP (B : Bs) (p3 deg n q : Nat) (P : VF) : Prop :=
  pps PV deg 40 (B.drop p3) = match pps PV (deg - n) (if n = 0 then 40 else 44) (B.drop q) with | none => none | some (G, r) => some (P.app G, r)
theorem RelP.zero (B : Bs) (p3 deg : Nat) : RelP B p3 deg 0 p3 .nil := by
  unfold RelP
  rw [if_pos rfl, Nat.sub_zero]
  cases pps PV deg 40 (B.drop p3) with
  | none => rfl
  | some x => rfl
theorem RelP.step {B : Bs} {p3 deg n q q1 q4 : Nat} {P s : VF} {j d i : Int} (h : RelP B p3 deg n q P) (hn : n < deg) (h1 : tkM (if n = 0 then 40 else 44) (B.drop q) = some (B.drop q1)) (h2 : PP (B.drop q1) = some ((j, d, i, s), B.drop q4)) :
    RelP B p3 deg (n + 1) q4 (P.snoc j d i s) := by
  unfold RelP at h ⊢
  rw [h, show deg - n = deg - (n + 1) + 1 by omega, pps_succ, h1, if_neg (by omega : ¬ n + 1 = 0)]
  simp only [h2]
  cases pps PV (deg - (n + 1)) 44 (B.drop q4) with
  | none => rfl
  | some x =>
    obtain ⟨G, r⟩ := x
    simp only [snoc_app]
theorem RelP.fail {B : Bs} {p3 deg n q q1 : Nat} {P : VF} (h : RelP B p3 deg n q P) (hn : n < deg) (h1 : tkM (if n = 0 then 40 else 44) (B.drop q) = none ∨ (tkM (if n = 0 then 40 else 44) (B.drop q) = some (B.drop q1) ∧ PP (B.drop q1) = none)) :
    pps PV deg 40 (B.drop p3) = none := by
  unfold RelP at h
  rw [h, show deg - n = deg - (n + 1) + 1 by omega, pps_succ]
  rcases h1 with h1 | ⟨h1, h2⟩
  · rw [h1]
  · rw [h1]; simp only [h2]
theorem RelP.done {B : Bs} {p3 deg q : Nat} {P : VF} (h : RelP B p3 deg deg q P) : pps PV deg 40 (B.drop p3) = some (P, B.drop q) := by
  unfold RelP at h
  rw [h, Nat.sub_self]
  simp only [pps_zero, app_nil]

/-- The blocks of what has been read: behind the view's own, and none of its two lists. -/
def Fb (vb : Nat) (pv qv : Value) (W : World) (c : Nat) : Prop := vb < c ∧ c < W.heap.size ∧ pv.ownBlock ≠ some c ∧ qv.ownBlock ≠ some c
def KeepF (W W' : World) (F G : Nat → Prop) : Prop := ∀ c, F c → c < W.heap.size → W'.heap[c]? = W.heap[c]? ∧ G c

/-- A view that is being made: in block vb of world W. -/
structure BS (w : World) (xb vb : Nat) (B : Bs) (x1 x3 : Int) (q : Nat) (kk : Bool) (pv qv : Value) (dp : Nat) (jl : List Int) (ps : List Value) (W : World) : Prop where
  chg : Chg w W [xb]
  rd : RdAt W xb B q kk
  row : W.rowIs vb 91 5 (quin (.int .i64 x1) (.int .i64 x3) pv qv (.int .i64 (dp : Int)))
  own1 : W.ownsRow (vb + 1) 3 1 pv jl.length (intCells jl)
  own2 : W.ownsRow (vb + 1) 86 1 qv ps.length ps
  off : ∀ c, pv.ownBlock = some c → qv.ownBlock ≠ some c
  hx : xb < w.heap.size
  hv : w.heap.size ≤ vb
theorem heap_other (W : World) (p : Addr) (v : Value) {c : Nat} (h : c ≠ p.block) : (W.setCell p v).heap[c]? = W.heap[c]? := Below.heap_setCell _ _ _ _ h
section
variable {w W W' : World} {xb vb q q' dp : Nat} {B : Bs} {x1 x3 : Int} {kk k' : Bool} {pv qv v' : Value} {jl : List Int} {ps : List Value}
theorem BS.call (h : BS w xb vb B x1 x3 q kk pv qv dp jl ps W) (hc : Chg W W' [xb]) (hr : RdAt W' xb B q' k') :
    BS w xb vb B x1 x3 q' k' pv qv dp jl ps W' ∧ KeepF W W' (Fb vb pv qv W) (Fb vb pv qv W') := by
  have hx := h.hx; have hv := h.hv
  have key : ∀ c, vb ≤ c → c < W.heap.size → W'.heap[c]? = W.heap[c]? := fun c h1 h2 => hc.block c h2 (by simp; omega)
  refine ⟨⟨h.chg.trans' hc, hr, h.row.of_block (key vb (Nat.le_refl _) h.row.lt), owns_keepv h.own1 fun c hc => ?_, owns_keepv h.own2 fun c hc => ?_, h.off, h.hx, h.hv⟩, fun c hF hl => ⟨key c (by have := hF.1; omega) hl, hF.1, Nat.lt_of_lt_of_le hF.2.1 hc.size, hF.2.2⟩⟩
  · have := World.ownsRow.lt h.own1 c hc; exact key c (by omega) this.2
  · have := World.ownsRow.lt h.own2 c hc; exact key c (by omega) this.2
theorem chg_new {a b : World} {bs : List Nat} (h : Chg w a bs) (hs : a.heap.size ≤ b.heap.size) (ho : b.os = a.os) (ht : b.tape = a.tape) (hp : b.output = a.output) (hb : ∀ c, c < w.heap.size → b.heap[c]? = a.heap[c]?) : Chg w b bs :=
  ⟨ho.trans h.os, ht.trans h.tape, hp.trans h.output, Nat.le_trans h.size hs, fun k hk hn => (hb k hk).trans (h.block k hk hn)⟩
theorem BS.ports {o : Obj} {j : Int} (h : BS w xb vb B x1 x3 q kk pv qv dp jl ps W)
    (hg : Grew2 (W.alloc o) W' (vb + 1) 3 1 pv v' (jl.length + 1) (intCells jl ++ intCells [j])) :
    BS w xb vb B x1 x3 q kk v' qv dp (jl ++ [j]) ps (W'.setCell ⟨vb, 2, none⟩ v') ∧ KeepF W (W'.setCell ⟨vb, 2, none⟩ v') (Fb vb pv qv W) (Fb vb v' qv (W'.setCell ⟨vb, 2, none⟩ v')) := by
  obtain ⟨⟨g1, g2, g3⟩, g4⟩ := hg
  have hx := h.hx; have hv := h.hv
  have sz : (W.alloc o).heap.size = W.heap.size + 1 := by simp
  have l1 : ∀ c, pv.ownBlock = some c → vb + 1 ≤ c ∧ c < W.heap.size := fun c hc => World.ownsRow.lt h.own1 c hc
  have l2 : ∀ c, qv.ownBlock = some c → vb + 1 ≤ c ∧ c < W.heap.size := fun c hc => World.ownsRow.lt h.own2 c hc
  have key : ∀ c, c < W.heap.size → pv.ownBlock ≠ some c → W'.heap[c]? = W.heap[c]? := fun c h1 h2 => (g2.block c (by omega) fun e => h2 e.symm).trans (heap_alloc_old W o h1)
  have key2 : ∀ c, c < W.heap.size → pv.ownBlock ≠ some c → c ≠ vb → (W'.setCell ⟨vb, 2, none⟩ v').heap[c]? = W.heap[c]? := fun c h1 h2 h3 => (heap_other W' ⟨vb, 2, none⟩ v' h3).trans (key c h1 h2)
  have hvp : pv.ownBlock ≠ some vb := fun e => by have := (l1 vb e).1; omega
  have l3 : ∀ c, v'.ownBlock = some c → vb + 1 ≤ c := fun c hc => (World.ownsRow.lt g1 c hc).1
  have hsz : (W'.setCell ⟨vb, 2, none⟩ v').heap.size = W'.heap.size := setCell_size _ _ _
  refine ⟨⟨chg_new h.chg (by omega) g2.os g2.tape g2.output fun c hc => key2 c (Nat.lt_of_lt_of_le hc h.chg.size) (fun e => by have := (l1 c e).1; omega) (by omega),
    h.rd.of_block (key2 xb (Nat.lt_of_lt_of_le hx h.chg.size) (fun e => by have := (l1 xb e).1; omega) (by omega)),
    (row5_set (h.row.of_block (key vb h.row.lt hvp)) v').2.1, ?_, ?_, ?_, h.hx, h.hv⟩, fun c hF hl => ⟨key2 c hl hF.2.2.1 (by have := hF.1; omega), hF.1, by have := hF.2.1; omega, ?_, hF.2.2.2⟩⟩
  · rw [List.length_append, List.length_singleton, ← intCells_app]
    exact owns_keepv g1 fun c hc => heap_other _ _ _ (by have := l3 c hc; show c ≠ vb; omega)
  · exact owns_keepv h.own2 fun c hc => key2 c (l2 c hc).2 (fun e => h.off c e hc) (by have := (l2 c hc).1; omega)
  · intro c hc e
    rcases g4 c hc with h1 | h1
    · exact h.off c h1 e
    · have := (l2 c e).2; omega
  · intro e
    rcases g4 c e with h1 | h1
    · exact hF.2.2.1 h1
    · have := hF.2.1; omega
theorem BS.parts {o : Obj} {b : Nat} (h : BS w xb vb B x1 x3 q kk pv qv dp jl ps W)
    (hg : Grew2 (W.alloc o) W' (vb + 1) 86 1 qv v' (ps.length + 1) (ps ++ [ptr b])) :
    BS w xb vb B x1 x3 q kk pv v' dp jl (ps ++ [ptr b]) (W'.setCell ⟨vb, 3, none⟩ v') ∧ KeepF W (W'.setCell ⟨vb, 3, none⟩ v') (Fb vb pv qv W) (Fb vb pv v' (W'.setCell ⟨vb, 3, none⟩ v')) := by
  obtain ⟨⟨g1, g2, g3⟩, g4⟩ := hg
  have hx := h.hx; have hv := h.hv
  have sz : (W.alloc o).heap.size = W.heap.size + 1 := by simp
  have l1 : ∀ c, pv.ownBlock = some c → vb + 1 ≤ c ∧ c < W.heap.size := fun c hc => World.ownsRow.lt h.own1 c hc
  have l2 : ∀ c, qv.ownBlock = some c → vb + 1 ≤ c ∧ c < W.heap.size := fun c hc => World.ownsRow.lt h.own2 c hc
  have key : ∀ c, c < W.heap.size → qv.ownBlock ≠ some c → W'.heap[c]? = W.heap[c]? := fun c h1 h2 => (g2.block c (by omega) fun e => h2 e.symm).trans (heap_alloc_old W o h1)
  have key2 : ∀ c, c < W.heap.size → qv.ownBlock ≠ some c → c ≠ vb → (W'.setCell ⟨vb, 3, none⟩ v').heap[c]? = W.heap[c]? := fun c h1 h2 h3 => (heap_other W' ⟨vb, 3, none⟩ v' h3).trans (key c h1 h2)
  have hvp : qv.ownBlock ≠ some vb := fun e => by have := (l2 vb e).1; omega
  have l3 : ∀ c, v'.ownBlock = some c → vb + 1 ≤ c := fun c hc => (World.ownsRow.lt g1 c hc).1
  have hsz : (W'.setCell ⟨vb, 3, none⟩ v').heap.size = W'.heap.size := setCell_size _ _ _
  refine ⟨⟨chg_new h.chg (by omega) g2.os g2.tape g2.output fun c hc => key2 c (Nat.lt_of_lt_of_le hc h.chg.size) (fun e => by have := (l2 c e).1; omega) (by omega),
    h.rd.of_block (key2 xb (Nat.lt_of_lt_of_le hx h.chg.size) (fun e => by have := (l2 xb e).1; omega) (by omega)),
    (row5_set (h.row.of_block (key vb h.row.lt hvp)) v').2.2.1, ?_, ?_, ?_, h.hx, h.hv⟩, fun c hF hl => ⟨key2 c hl hF.2.2.2 (by have := hF.1; omega), hF.1, by have := hF.2.1; omega, hF.2.2.1, ?_⟩⟩
  · exact owns_keepv h.own1 fun c hc => key2 c (l1 c hc).2 (h.off c hc) (by have := (l1 c hc).1; omega)
  · rw [List.length_append, List.length_singleton]
    exact owns_keepv g1 fun c hc => heap_other _ _ _ (by have := l3 c hc; show c ≠ vb; omega)
  · intro c hc e
    rcases g4 c e with h1 | h1
    · exact h.off c hc h1
    · have := (l1 c hc).2; omega
  · intro e
    rcases g4 c e with h1 | h1
    · exact hF.2.2.2 h1
    · have := hF.2.1; omega
theorem BS.depth (D n : Nat) (h : BS w xb vb B x1 x3 q kk pv qv dp jl ps W) :
    BS w xb vb B x1 x3 q kk pv qv D jl ps ((W.drewN n).setCell ⟨vb, 4, none⟩ (.int .i64 (D : Int))) ∧ KeepF W ((W.drewN n).setCell ⟨vb, 4, none⟩ (.int .i64 (D : Int))) (Fb vb pv qv W) (Fb vb pv qv ((W.drewN n).setCell ⟨vb, 4, none⟩ (.int .i64 (D : Int)))) := by
  have hx := h.hx; have hv := h.hv
  have key : ∀ c, c ≠ vb → ((W.drewN n).setCell ⟨vb, 4, none⟩ (.int .i64 (D : Int))).heap[c]? = W.heap[c]? := fun c hc => heap_other (W.drewN n) ⟨vb, 4, none⟩ _ hc
  have hsz : ((W.drewN n).setCell ⟨vb, 4, none⟩ (.int .i64 (D : Int))).heap.size = W.heap.size := setCell_size _ _ _
  refine ⟨⟨chg_new h.chg (by omega) rfl rfl rfl fun c hc => key c (by omega), h.rd.of_block (key xb (by omega)), (row5_set (show (W.drewN n).rowIs vb _ 5 _ from h.row) _).2.2.2, owns_keepv h.own1 fun c hc => key c ?_, owns_keepv h.own2 fun c hc => key c ?_, h.off, h.hx, h.hv⟩, fun c hF _ => ⟨key c (by have := hF.1; omega), hF.1, by have := hF.2.1; omega, hF.2.2⟩⟩
  · have := (World.ownsRow.lt h.own1 c hc).1; omega
  · have := (World.ownsRow.lt h.own2 c hc).1; omega
end
theorem KeepF.trans {a b c : World} {F G H : Nat → Prop} (h : KeepF a b F G) (k : KeepF b c G H) (hl : ∀ x, G x → x < b.heap.size) : KeepF a c F H := fun x hx hxl => by
  obtain ⟨e1, g⟩ := h x hx hxl
  obtain ⟨e2, g2⟩ := k x g (hl x g)
  exact ⟨e2.trans e1, g2⟩
theorem Fb.lt {vb : Nat} {pv qv : Value} {W : World} : ∀ x, Fb vb pv qv W x → x < W.heap.size := fun _ h => h.2.1
theorem BS.input {w W : World} {xb vb q dp : Nat} {B : Bs} {x1 x3 : Int} {kk : Bool} {pv qv : Value} {jl : List Int} {ps : List Value} (y : Int) (h : BS w xb vb B x1 x3 q kk pv qv dp jl ps W) :
    BS w xb vb B x1 y q kk pv qv dp jl ps (W.setCell ⟨vb, 1, none⟩ (.int .i64 y)) := by
  have hx := h.hx; have hv := h.hv
  have key : ∀ c, c ≠ vb → (W.setCell ⟨vb, 1, none⟩ (.int .i64 y)).heap[c]? = W.heap[c]? := fun c hc => heap_other W ⟨vb, 1, none⟩ _ hc
  have hsz : (W.setCell ⟨vb, 1, none⟩ (.int .i64 y)).heap.size = W.heap.size := setCell_size _ _ _
  refine ⟨chg_new h.chg (by omega) rfl rfl rfl fun c hc => key c (by omega), h.rd.of_block (key xb (by omega)), (row5_set h.row _).1, owns_keepv h.own1 fun c hc => key c ?_, owns_keepv h.own2 fun c hc => key c ?_, h.off, h.hx, h.hv⟩
  · have := (World.ownsRow.lt h.own1 c hc).1; omega
  · have := (World.ownsRow.lt h.own2 c hc).1; omega
theorem BS.drewN {w W : World} {xb vb q dp : Nat} {B : Bs} {x1 x3 : Int} {kk : Bool} {pv qv : Value} {jl : List Int} {ps : List Value} (h : BS w xb vb B x1 x3 q kk pv qv dp jl ps W) (n : Nat) : BS w xb vb B x1 x3 q kk pv qv dp jl ps (W.drewN n) :=
  ⟨h.chg.drewN' n, h.rd, h.row, h.own1, h.own2, h.off, h.hx, h.hv⟩
/-- A view's block and its two lists lie behind the world's end. -/
theorem BS.grewRow {w W W' : World} {xb vb q dp : Nat} {B : Bs} {x1 x3 : Int} {kk : Bool} {pv qv : Value} {jl : List Int} {ps : List Value} {o : Obj} {g : Option Nat} (h : BS w xb vb B x1 x3 q kk pv qv dp jl ps W) (hg : (W.alloc o).grownBy W' g) (hn : g ≠ some vb) :
    W'.rowIs vb 91 5 (quin (.int .i64 x1) (.int .i64 x3) pv qv (.int .i64 (dp : Int))) :=
  h.row.of_block ((hg.block vb (by simp; have := h.row.lt; omega) fun e => hn e.symm).trans (heap_alloc_old W o h.row.lt))

/-- What is known behind a view. -/
def ViewPost (w : World) (xb : Nat) (B : Bs) (p : Nat) (k : Bool) (b p' : Nat) (k' : Bool) (w' : World) : Prop :=
  Chg w w' [xb] ∧ RdAt w' xb B p' k' ∧ p ≤ p' ∧ p' ≤ B.length ∧ w.heap.size ≤ b ∧
  (∃ (d i : Int) (pv qv : Value) (dp : Nat), w'.rowIs b 91 5 (quin (.int .i64 d) (.int .i64 i) pv qv (.int .i64 (dp : Int))) ∧ dp ≤ p' - p ∧ 0 ≤ d ∧ d ≤ 9) ∧
  (k' = true → k = true ∧ ∃ d i s, PV (B.drop p) = some ((d, i, s), B.drop p') ∧ NodeAt w' (fun c => w.heap.size ≤ c ∧ c < w'.heap.size) b d i s) ∧
  (k' = false → k = true → PV (B.drop p) = none)
theorem BS.fin {w W : World} {xb vb p q dp : Nat} {B : Bs} {x1 x3 : Int} {k kk : Bool} {pv qv : Value} {jl : List Int} {ps : List Value} (h : BS w xb vb B x1 x3 q kk pv qv dp jl ps W) (h1 : p ≤ q) (h2 : q ≤ B.length) (h3 : dp + p ≤ q) (h4 : 0 ≤ x1 ∧ x1 ≤ 9)
    (hok : kk = true → k = true ∧ ∃ P, jl = P.ports ∧ dp = P.dep ∧ ListAt W (Fb vb pv qv W) P ps ∧ PV (B.drop p) = some ((x1, x3, P), B.drop q)) (hbad : kk = false → k = true → PV (B.drop p) = none) : ViewPost w xb B p k vb q kk W := by
  refine ⟨h.chg, h.rd, h1, h2, h.hv, ⟨x1, x3, pv, qv, dp, h.row, by omega, h4.1, h4.2⟩, fun e => ?_, hbad⟩
  obtain ⟨hk, P, rfl, rfl, hl, hv⟩ := hok e
  have l1 := fun c hc => World.ownsRow.lt h.own1 c hc
  have l2 := fun c hc => World.ownsRow.lt h.own2 c hc
  have hhv := h.hv
  exact ⟨hk, x1, x3, P, hv, pv, qv, ps, ⟨h.hv, h.row.lt⟩, h.row, owns_base h.own1, fun c hc => ⟨by have := (l1 c hc).1; omega, (l1 c hc).2⟩, owns_base h.own2, fun c hc => ⟨by have := (l2 c hc).1; omega, (l2 c hc).2⟩,
    ListAt.keep (fun c hF _ => ⟨rfl, by have := hF.1; omega, hF.2.1⟩) P ps hl⟩

/-- A view that ends at its head. -/
theorem PV_leaf {r r1 : Bs} {d i : Int} (h : hd3 0 r = some ((d, i), r1)) (k : d = 0 ∨ tkM 40 r1 = none) : PV r = some ((d, i, .nil), r1) := by
  rw [PV_eq, h]; simp only [if_pos k]
theorem PV_loop {r r1 : Bs} {d : Nat} {i : Int} (h : hd3 0 r = some (((d : Int), i), r1)) (h0 : d ≠ 0) (h1 : tkM 40 r1 ≠ none) : PV r = match pps PV d 40 r1 with | none => none | some (F, r2) => match tkM 41 r2 with | none => none | some r3 => some (((d : Int), i, F), r3) := by
  rw [PV_eq, h]
  have hn : ¬ ((d : Int) = 0 ∨ tkM 40 r1 = none) := by rintro (h | h); omega; exact h1 h
  simp only [if_neg hn, Int.toNat_natCast]
  rfl

/-- What is known in the loop of view. -/
structure LI (w : World) (xb vb : Nat) (B : Bs) (p p3 deg : Nat) (x3 : Int) (n q : Nat) (kk : Bool) (pv qv : Value) (dp : Nat) (jl : List Int) (ps : List Value) (W : World) : Prop where
  bs : BS w xb vb B (deg : Int) x3 q kk pv qv dp jl ps W
  q1 : p3 ≤ q
  q2 : q ≤ B.length
  dpb : dp + p ≤ q
  l1 : jl.length = n
  l2 : ps.length = n
  ok : kk = true → ∃ P, jl = P.ports ∧ dp = P.dep ∧ ListAt W (Fb vb pv qv W) P ps ∧ RelP B p3 deg n q P
  bad : kk = false → pps PV deg 40 (B.drop p3) = none
/-- The end of the loop, and the bracket. -/
theorem LI.fin {w W W' : World} {xb vb : Nat} {B : Bs} {p p3 deg : Nat} {x3 : Int} {n q q' : Nat} {k kk k' : Bool} {pv qv : Value} {dp : Nat} {jl : List Int} {ps : List Value} (h : LI w xb vb B p p3 deg x3 n q kk pv qv dp jl ps W)
    (hend : kk = true → n = deg) (hk : k = true) (hd : hd3 0 (B.drop p) = some (((deg : Int), x3), B.drop p3)) (h0 : deg ≠ 0) (h9 : deg ≤ 9) (h1 : tkM 40 (B.drop p3) ≠ none) (hp : p ≤ p3)
    (hc : Chg W W' [xb]) (hr : RdAt W' xb B q' k') (ha : q ≤ q') (hb : q' ≤ B.length) (hs : (k' = true → kk = true ∧ tkM 41 (B.drop q) = some (B.drop q')) ∧ (k' = false → kk = true → tkM 41 (B.drop q) = none)) : ViewPost w xb B p k vb q' k' W' := by
  obtain ⟨b1, k1⟩ := h.bs.call hc hr
  have a1 := h.q1; have a2 := h.dpb
  refine b1.fin (by omega) hb (by omega) ⟨by omega, by omega⟩ (fun e => ?_) fun e _ => ?_
  · obtain ⟨ek, et⟩ := hs.1 e
    obtain ⟨P, e1, e2, e3, e4⟩ := h.ok ek
    obtain rfl := hend ek
    refine ⟨hk, P, e1, e2, ListAt.keep k1 P ps e3, ?_⟩
    rw [PV_loop hd h0 h1, e4.done]
    simp only [et]
  · rw [PV_loop hd h0 h1]
    cases ek : kk with
    | false => rw [h.bad ek]
    | true =>
      obtain ⟨P, e1, e2, e3, e4⟩ := h.ok ek
      obtain rfl := hend ek
      rw [e4.done]
      simp only [hs.2 e ek]
/-- A round of the loop. -/
theorem LI.next {w W W4 W8 : World} {xb vb b : Nat} {B : Bs} {p p3 deg : Nat} {x3 j d : Int} {n q q1 q2 q3 q4 : Nat} {k1 k2 k3 k4 k5 : Bool} {pv qv pv' qv' : Value} {dp dp' D : Nat} {jl : List Int} {ps : List Value} {c : UInt8} (h : LI w xb vb B p p3 deg x3 n q true pv qv dp jl ps W)
    (hn : n < deg) (hc : c = if n = 0 then 40 else 44) (b8 : BS w xb vb B (deg : Int) x3 q4 k5 pv' qv' D (jl ++ [j]) (ps ++ [ptr b]) W8)
    (kW : KeepF W W4 (Fb vb pv qv W) (Fb vb pv qv W4)) (k8 : KeepF W4 W8 (Fb vb pv qv W4) (Fb vb pv' qv' W8))
    (ha : q ≤ q4) (hb : q4 ≤ B.length) (hq3 : p + 1 ≤ q3) (hdp : dp' ≤ q4 - q3) (hq34 : q3 ≤ q4) (hD : D = max dp (dp' + 1)) {x7 : Int} {pw qw : Value}
    (hrow : W4.rowIs b 91 5 (quin (.int .i64 d) (.int .i64 x7) pw qw (.int .i64 (dp' : Int)))) {G : Nat → Prop} (hG : ∀ c, G c → Fb vb pv qv W4 c)
    (h1 : (k1 = true → true = true ∧ tkM c (B.drop q) = some (B.drop q1)) ∧ (k1 = false → true = true → tkM c (B.drop q) = none))
    (h2 : (k2 = true → k1 = true ∧ tkD 0 5 (B.drop q1) = some (j, B.drop q2)) ∧ (k2 = false → k1 = true → tkD 0 5 (B.drop q1) = none))
    (h3 : (k3 = true → k2 = true ∧ tkM 58 (B.drop q2) = some (B.drop q3)) ∧ (k3 = false → k2 = true → tkM 58 (B.drop q2) = none))
    (h4 : (k4 = true → k3 = true ∧ ∃ d i s, PV (B.drop q3) = some ((d, i, s), B.drop q4) ∧ NodeAt W4 G b d i s) ∧ (k4 = false → k3 = true → PV (B.drop q3) = none))
    (h5 : k5 = true ↔ k4 = true ∧ j < d) : LI w xb vb B p p3 deg x3 (n + 1) q4 k5 pv' qv' D (jl ++ [j]) (ps ++ [ptr b]) W8 := by
  have a1 := h.q1; have a2 := h.dpb; have a3 := h.l1; have a4 := h.l2
  obtain ⟨P, e1, e2, e3, e4⟩ := h.ok rfl
  cases ek4 : k4 with
  | false =>
    have ek5 : k5 = false := by
      cases e : k5 with
      | false => rfl
      | true => have := (h5.1 e).1; rw [ek4] at this; cases this
    have pa := part_all (k := true) (k4 := k4) (k5 := k5) (d := d) (i := 0) (s := .nil) (q4 := q4) h1 h2 h3 ⟨fun e => (by rw [ek4] at e; cases e), h4.2⟩ h5
    refine ⟨b8, by omega, hb, by omega, by simp; omega, by simp; omega, fun e => (by rw [ek5] at e; cases e), fun _ => e4.fail (q1 := q1) hn ?_⟩
    rw [← hc]; exact pa.2 ek5 rfl
  | true =>
    obtain ⟨e3', d', i', s, hv, nd⟩ := h4.1 ek4
    have hdd : d' = d ∧ s.dep = dp' := by
      obtain ⟨pv2, qv2, qs2, _, hrow2, _⟩ := nd
      have f1 := row5_facts hrow; have f2 := row5_facts hrow2
      have g1 := f1.1.symm.trans f2.1
      have g2 := f1.2.2.2.2.symm.trans f2.2.2.2.2
      simp only [Option.some.injEq, Value.int.injEq, true_and] at g1 g2
      exact ⟨g1.symm, by omega⟩
    obtain ⟨rfl, hsd⟩ := hdd
    have pa := part_all (k := true) (k4 := k4) (k5 := k5) (d := d') (i := i') (s := s) (q4 := q4) h1 h2 h3 ⟨fun e => ⟨e3', hv⟩, h4.2⟩ h5
    refine ⟨b8, by omega, hb, by omega, by simp; omega, by simp; omega, fun e => ?_, fun e => e4.fail (q1 := q1) hn ?_⟩
    · obtain ⟨t1, t2⟩ := pa.1 e
      refine ⟨P.snoc j d' i' s, by rw [e1, snoc_ports], by rw [snoc_dep, ← e2, hsd]; exact hD, ?_, e4.step hn (by rw [← hc]; exact t1) t2⟩
      have l4 : ListAt W4 (Fb vb pv qv W4) P ps := ListAt.keep kW P ps e3
      have n4 : NodeAt W4 (Fb vb pv qv W4) b d' i' s := nd.keep fun c hc _ => ⟨rfl, hG c hc⟩
      exact ListAt.snoc (n4.keep k8) P ps (ListAt.keep k8 P ps l4) 
    · rw [← hc]; exact pa.2 e rfl
end Go.Proofs.Ytdoaopeegcakiaa
