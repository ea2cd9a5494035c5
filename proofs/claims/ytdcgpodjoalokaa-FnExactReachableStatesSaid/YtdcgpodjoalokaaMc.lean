/- Machines as plain mathematics: what a machine is, when it runs on a network, inboxes, clauses, steps, runs. -/
import Derived.Test.YtdcgpodjoalokaaMa
namespace Go.Proofs.Ytdcgpodjoalokaa
open Go.RowKit

/-- The first number below n for which p holds, -1 if there is none. -/
def fstP (p : Nat → Bool) : Nat → Int
  | 0 => -1
  | k + 1 => if fstP p k = -1 then (if p k = true then (k : Int) else -1) else fstP p k
theorem fstP_none {p : Nat → Bool} : ∀ k, (∀ j, j < k → p j = false) → fstP p k = -1
  | 0, _ => rfl
  | k + 1, h => by
    have ih := fstP_none (p := p) k fun j hj => h j (by omega)
    simp only [fstP]
    rw [if_pos ih, if_neg (by rw [h k (by omega)]; simp)]
theorem fstP_hit {p : Nat → Bool} {k : Nat} (h : ∀ j, j < k → p j = false) (hk : p k = true) : ∀ n, k < n → fstP p n = (k : Int)
  | 0, hn => by omega
  | n + 1, hn => by
    simp only [fstP]
    by_cases e : n = k
    · subst e
      rw [if_pos (fstP_none _ h), if_pos hk]
    · have ih := fstP_hit h hk n (by omega)
      rw [if_neg (by omega), ih]
theorem fstP_range (p : Nat → Bool) : ∀ n, -1 ≤ fstP p n ∧ fstP p n < (n : Int)
  | 0 => by simp [fstP]
  | n + 1 => by
    have ih := fstP_range p n
    simp only [fstP]
    split
    · split <;> omega
    · omega
theorem gi_tabM (n : Nat) (f : Nat → Int) (i : Nat) (h : i < n) : gi ((List.range n).map f) i = f i := by
  simp [gi, List.getD, h]
theorem gr_tabM {α : Type} (n : Nat) (f : Nat → List α) (i : Nat) (h : i < n) : gr ((List.range n).map f) i = f i := by
  simp [gr, List.getD, h]

def StartOK (M : Mach) : Prop := (M.start.length : Int) = M.deg + 1 ∧ InB ((gr M.start 0).length : Int) 1 10 ∧ ∀ i, i < M.start.length → (gr M.start i).length = (gr M.start 0).length ∧ AllIn (gr M.start i) 0 (M.sts - 1)
def SendOK (M : Mach) : Prop := (M.send.length : Int) = M.sts ∧ ∀ i, i < M.send.length → ((gr M.send i).length : Int) = M.deg ∧ AllIn (gr M.send i) 0 (M.msgs - 1)
def ClOK (M : Mach) (c : Cl) : Prop := (InB c.st 0 (M.sts - 1) ∧ InB c.nx 0 (M.sts - 1)) ∧ (c.inb.length : Int) ≤ M.deg ∧ AllIn c.inb (-1) (M.msgs - 1)
def ClsOK (M : Mach) : Prop := M.cls.length ≤ 60 ∧ ∀ i, i < M.cls.length → ClOK M (gc M.cls i)
def OutOK (M : Mach) : Prop := (M.out.length : Int) = M.sts ∧ AllIn M.out (-1) 9
def HeadOK (M : Mach) : Prop := InB M.deg 0 6 ∧ InB M.sts 1 12 ∧ InB M.msgs 1 6
def MachOK (M : Mach) : Prop := HeadOK M ∧ StartOK M ∧ SendOK M ∧ ClsOK M ∧ OutOK M
def OnOK (M : Mach) (N : Net) : Prop := ∀ v, v < N.ends.length → ((gr N.ends v).length : Int) ≤ M.deg ∧ gi N.inputs v < ((gr M.start 0).length : Int)
def Asked (M : Mach) (N : Net) : Prop := MachOK M ∧ Good N ∧ OnOK M N
def StsOK (M : Mach) (N : Net) (s : List Int) : Prop := s.length = N.ends.length ∧ AllIn s 0 (M.sts - 1)
def Sts (M : Mach) (N : Net) (s : List Int) : Prop := Asked M N ∧ StsOK M N s

def startAt (M : Mach) (N : Net) (v : Nat) : Int := gi (gr M.start (gr N.ends v).length) (gi N.inputs v).toNat
def startL (M : Mach) (N : Net) : List Int := (List.range N.ends.length).map (startAt M N)
def msgAt (M : Mach) (N : Net) (s : List Int) (v i : Nat) : Int := gi (gr M.send (gi s (gn (gr N.ends v) i).toNat).toNat) (gp (gr N.ends v) i).toNat
def inboxL (M : Mach) (N : Net) (s : List Int) (v : Nat) : List Int := (List.range (gr N.ends v).length).map (msgAt M N s v)
def inboxes (M : Mach) (N : Net) (s : List Int) : List (List Int) := (List.range N.ends.length).map (inboxL M N s)
def agreeB (c : Cl) (inb : List Int) : Bool := (List.range inb.length).all fun i => decide (gi c.inb i = -1) || decide (gi c.inb i = gi inb i)
def fitsB (c : Cl) (st : Int) (inb : List Int) : Bool := decide (c.st = st) && (decide (c.inb.length = inb.length) && agreeB c inb)
def clauseI (M : Mach) (st : Int) (inb : List Int) : Int := fstP (fun k => fitsB (gc M.cls k) st inb) M.cls.length
def nextS (M : Mach) (st : Int) (inb : List Int) : Int := if clauseI M st inb = -1 ∨ gi M.out st.toNat ≠ -1 then st else (gc M.cls (clauseI M st inb).toNat).nx
def stepL (M : Mach) (N : Net) (s : List Int) : List Int := (List.range N.ends.length).map fun v => nextS M (gi s v) (inboxL M N s v)
def runL (M : Mach) (N : Net) : Nat → List Int
  | 0 => startL M N
  | k + 1 => stepL M N (runL M N k)

theorem length_startL (M : Mach) (N : Net) : (startL M N).length = N.ends.length := by simp [startL]
theorem gi_startL (M : Mach) (N : Net) (v : Nat) (h : v < N.ends.length) : gi (startL M N) v = startAt M N v := gi_tabM _ _ _ h
theorem length_inboxL (M : Mach) (N : Net) (s : List Int) (v : Nat) : (inboxL M N s v).length = (gr N.ends v).length := by simp [inboxL]
theorem gi_inboxL (M : Mach) (N : Net) (s : List Int) (v i : Nat) (h : i < (gr N.ends v).length) : gi (inboxL M N s v) i = msgAt M N s v i := gi_tabM _ _ _ h
theorem length_inboxes (M : Mach) (N : Net) (s : List Int) : (inboxes M N s).length = N.ends.length := by simp [inboxes]
theorem gr_inboxes (M : Mach) (N : Net) (s : List Int) (v : Nat) (h : v < N.ends.length) : gr (inboxes M N s) v = inboxL M N s v := gr_tabM _ _ _ h
theorem length_stepL (M : Mach) (N : Net) (s : List Int) : (stepL M N s).length = N.ends.length := by simp [stepL]
theorem gi_stepL (M : Mach) (N : Net) (s : List Int) (v : Nat) (h : v < N.ends.length) : gi (stepL M N s) v = nextS M (gi s v) (inboxL M N s v) := gi_tabM _ _ _ h
theorem length_runL (M : Mach) (N : Net) : ∀ k, (runL M N k).length = N.ends.length
  | 0 => length_startL M N
  | _ + 1 => length_stepL M N _

theorem clauseI_range (M : Mach) (st : Int) (inb : List Int) : -1 ≤ clauseI M st inb ∧ clauseI M st inb < (M.cls.length : Int) := fstP_range _ _
/-- What is read where a machine runs on a network. -/
theorem start_in {M : Mach} {N : Net} (h : Asked M N) {v : Nat} (hv : v < N.ends.length) :
    (gr N.ends v).length < M.start.length ∧ 0 ≤ gi N.inputs v ∧ (gi N.inputs v).toNat < (gr M.start (gr N.ends v).length).length ∧ (gr M.start (gr N.ends v).length).length ≤ 10 ∧ v < N.inputs.length ∧ 0 ≤ startAt M N v ∧ startAt M N v ≤ M.sts - 1 := by
  obtain ⟨⟨hh, ⟨hs1, hs2, hs3⟩, -⟩, ⟨-, -, -, hi1, hi2⟩, hon⟩ := h
  obtain ⟨o1, o2⟩ := hon v hv
  have hl : v < N.inputs.length := by omega
  obtain ⟨p1, p2⟩ := hi2 v hl
  have hd : (gr N.ends v).length < M.start.length := by omega
  obtain ⟨q1, q2⟩ := hs3 _ hd
  unfold InB at hs2
  have hx : (gi N.inputs v).toNat < (gr M.start (gr N.ends v).length).length := by omega
  have := q2 _ hx
  exact ⟨hd, p1, hx, by omega, hl, this.1, this.2⟩
theorem port_in {N : Net} (h : Good N) {v i : Nat} (hv : v < N.ends.length) (hi : i < (gr N.ends v).length) :
    0 ≤ gn (gr N.ends v) i ∧ (gn (gr N.ends v) i).toNat < N.ends.length ∧ 0 ≤ gp (gr N.ends v) i ∧ (gp (gr N.ends v) i).toNat < (gr N.ends (gn (gr N.ends v) i).toNat).length := by
  obtain ⟨-, he, -, -⟩ := h
  obtain ⟨-, hj⟩ := he v hv
  obtain ⟨⟨a1, a2, a3, a4⟩, -, -⟩ := hj i hi
  exact ⟨a1, by omega, a3, by omega⟩
theorem msg_in {M : Mach} {N : Net} {s : List Int} (h : Sts M N s) {v i : Nat} (hv : v < N.ends.length) (hi : i < (gr N.ends v).length) :
    0 ≤ gn (gr N.ends v) i ∧ (gn (gr N.ends v) i).toNat < s.length ∧ 0 ≤ gi s (gn (gr N.ends v) i).toNat ∧ (gi s (gn (gr N.ends v) i).toNat).toNat < M.send.length ∧ 0 ≤ gp (gr N.ends v) i ∧
      (gp (gr N.ends v) i).toNat < (gr M.send (gi s (gn (gr N.ends v) i).toNat).toNat).length ∧ 0 ≤ msgAt M N s v i ∧ msgAt M N s v i ≤ M.msgs - 1 := by
  obtain ⟨⟨⟨hh, -, ⟨hs1, hs2⟩, -, -⟩, hg, hon⟩, hl, ha⟩ := h
  obtain ⟨p1, p2, p3, p4⟩ := port_in hg hv hi
  have hz : (gn (gr N.ends v) i).toNat < s.length := by omega
  obtain ⟨r1, r2⟩ := ha _ hz
  have hd := (hon _ p2).1
  have hk : (gi s (gn (gr N.ends v) i).toNat).toNat < M.send.length := by omega
  obtain ⟨q1, q2⟩ := hs2 _ hk
  have hp : (gp (gr N.ends v) i).toNat < (gr M.send (gi s (gn (gr N.ends v) i).toNat).toNat).length := by omega
  have := q2 _ hp
  exact ⟨p1, hz, r1, hk, p3, hp, this.1, this.2⟩
theorem inbox_in {M : Mach} {N : Net} {s : List Int} (h : Sts M N s) {v : Nat} (hv : v < N.ends.length) : AllIn (inboxL M N s v) 0 (M.msgs - 1) := fun j hj => by
  rw [length_inboxL] at hj
  rw [gi_inboxL _ _ _ _ _ hj]
  exact (msg_in h hv hj).2.2.2.2.2.2
theorem next_in {M : Mach} (h : MachOK M) {st : Int} (h0 : 0 ≤ st) (h1 : st ≤ M.sts - 1) (inb : List Int) : 0 ≤ nextS M st inb ∧ nextS M st inb ≤ M.sts - 1 := by
  unfold nextS
  split
  · exact ⟨h0, h1⟩
  · rename_i hc
    obtain ⟨r1, r2⟩ := clauseI_range M st inb
    have hk : (clauseI M st inb).toNat < M.cls.length := by omega
    have := (h.2.2.2.1.2 _ hk).1.2
    exact this
theorem start_sts {M : Mach} {N : Net} (h : Asked M N) : StsOK M N (startL M N) :=
  ⟨length_startL M N, fun j hj => by rw [length_startL] at hj; rw [gi_startL _ _ _ hj]; exact (start_in h hj).2.2.2.2.2⟩
theorem step_sts {M : Mach} {N : Net} {s : List Int} (h : Sts M N s) : StsOK M N (stepL M N s) :=
  ⟨length_stepL M N s, fun j hj => by
    rw [length_stepL] at hj
    rw [gi_stepL _ _ _ _ hj]
    have := h.2.2 j (by rw [h.2.1]; exact hj)
    exact next_in h.1.1 this.1 this.2 _⟩
theorem run_sts {M : Mach} {N : Net} (h : Asked M N) : ∀ k, Sts M N (runL M N k)
  | 0 => ⟨h, start_sts h⟩
  | k + 1 => ⟨h, step_sts (run_sts h k)⟩
theorem mach_small {M : Mach} (h : MachOK M) : M.small := by
  obtain ⟨⟨⟨h1, h2⟩, ⟨h3, h4⟩, h5, h6⟩, ⟨s1, s2, s3⟩, ⟨t1, t2⟩, ⟨c1, c2⟩, o1, o2⟩ := h
  refine ⟨⟨by omega, fun i => ?_⟩, ⟨by omega, fun i => ?_⟩, ⟨by omega, fun i => ?_⟩, by omega⟩
  · by_cases hi : i < M.start.length
    · have := (s3 i hi).1; unfold InB at s2; omega
    · simp [gr, List.getD, List.getElem?_eq_none (show M.start.length ≤ i by omega)]
  · by_cases hi : i < M.send.length
    · have := (t2 i hi).1; omega
    · simp [gr, List.getD, List.getElem?_eq_none (show M.send.length ≤ i by omega)]
  · by_cases hi : i < M.cls.length
    · have := (c2 i hi).2.1; omega
    · rw [gc_out _ _ (by omega)]; simp [cl0]
end Go.Proofs.Ytdcgpodjoalokaa
