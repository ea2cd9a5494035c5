/- The model's parsed views in memory. -/
import Derived.Test.YtdoaopeegcakiaaPve
import Derived.Test.YtdoaopeegcakiaaIb
namespace Go.Proofs.Ytdoaopeegcakiaa
open Go.RowKit

def quin (x0 x1 x2 x3 x4 : Value) : Nat → Value
  | 0 => x0
  | 1 => x1
  | 2 => x2
  | 3 => x3
  | _ => x4
theorem row5_made (w : World) (x0 x1 x2 x3 x4 : Value) (t : Nat) : (w.alloc (.cells #[x0, x1, x2, x3, x4] t)).rowIs w.heap.size t 5 (quin x0 x1 x2 x3 x4) :=
  ⟨#[x0, x1, x2, x3, x4], heap_alloc_new w _, rfl, fun i hi => by match i, hi with | 0, _ => rfl | 1, _ => rfl | 2, _ => rfl | 3, _ => rfl | 4, _ => rfl⟩
theorem row5_facts {w : World} {b t : Nat} {x0 x1 x2 x3 x4 : Value} (h : w.rowIs b t 5 (quin x0 x1 x2 x3 x4)) :
    w.cell? ⟨b, 0, none⟩ = some x0 ∧ w.cell? ⟨b, 1, none⟩ = some x1 ∧ w.cell? ⟨b, 2, none⟩ = some x2 ∧ w.cell? ⟨b, 3, none⟩ = some x3 ∧ w.cell? ⟨b, 4, none⟩ = some x4 :=
  ⟨h.cell (i := 0) (by omega), h.cell (i := 1) (by omega), h.cell (i := 2) (by omega), h.cell (i := 3) (by omega), h.cell (i := 4) (by omega)⟩
theorem row5_frozen {w : World} {b t : Nat} {x0 x1 x2 x3 x4 : Value} (h : w.rowIs b t 5 (quin x0 x1 x2 x3 x4)) :
    w.frozen? ⟨b, 1, none⟩ = false ∧ w.frozen? ⟨b, 2, none⟩ = false ∧ w.frozen? ⟨b, 3, none⟩ = false ∧ w.frozen? ⟨b, 4, none⟩ = false := ⟨h.frozen _, h.frozen _, h.frozen _, h.frozen _⟩
theorem row5_set {w : World} {b t : Nat} {x0 x1 x2 x3 x4 : Value} (h : w.rowIs b t 5 (quin x0 x1 x2 x3 x4)) (y : Value) :
    (w.setCell ⟨b, 1, none⟩ y).rowIs b t 5 (quin x0 y x2 x3 x4) ∧ (w.setCell ⟨b, 2, none⟩ y).rowIs b t 5 (quin x0 x1 y x3 x4) ∧ (w.setCell ⟨b, 3, none⟩ y).rowIs b t 5 (quin x0 x1 x2 y x4) ∧ (w.setCell ⟨b, 4, none⟩ y).rowIs b t 5 (quin x0 x1 x2 x3 y) :=
  ⟨(h.set 1 y).congr fun i hi => by match i, hi with | 0, _ => rfl | 1, _ => rfl | 2, _ => rfl | 3, _ => rfl | 4, _ => rfl,
   (h.set 2 y).congr fun i hi => by match i, hi with | 0, _ => rfl | 1, _ => rfl | 2, _ => rfl | 3, _ => rfl | 4, _ => rfl,
   (h.set 3 y).congr fun i hi => by match i, hi with | 0, _ => rfl | 1, _ => rfl | 2, _ => rfl | 3, _ => rfl | 4, _ => rfl,
   (h.set 4 y).congr fun i hi => by match i, hi with | 0, _ => rfl | 1, _ => rfl | 2, _ => rfl | 3, _ => rfl | 4, _ => rfl⟩

/-- The numbers of the ports. -/
def VF.ports : VF → List Int
  | .nil => []
  | .cons j _ _ _ r => j :: r.ports
def VF.app : VF → VF → VF
  | .nil, G => G
  | .cons j d i s r, G => .cons j d i s (r.app G)
def VF.snoc (P : VF) (j d i : Int) (s : VF) : VF := P.app (.cons j d i s .nil)
theorem app_nil : ∀ P : VF, P.app .nil = P
  | .nil => rfl
  | .cons j d i s r => by simp only [VF.app]; rw [app_nil r]
theorem snoc_app (j d i : Int) (s G : VF) : ∀ P : VF, (P.snoc j d i s).app G = P.app (.cons j d i s G)
  | .nil => rfl
  | .cons a b c e r => by
    show VF.cons a b c e ((r.snoc j d i s).app G) = VF.cons a b c e (r.app (.cons j d i s G))
    rw [snoc_app j d i s G r]
theorem snoc_dep (j d i : Int) (s : VF) : ∀ P : VF, (P.snoc j d i s).dep = max P.dep (s.dep + 1)
  | .nil => by simp [VF.snoc, VF.app, VF.dep]
  | .cons a b c e r => by
    have h := snoc_dep j d i s r
    show max (e.dep + 1) (r.snoc j d i s).dep = max (max (e.dep + 1) r.dep) (s.dep + 1)
    rw [h]; omega
theorem snoc_ports (j d i : Int) (s : VF) : ∀ P : VF, (P.snoc j d i s).ports = P.ports ++ [j]
  | .nil => rfl
  | .cons a b c e r => by
    have h := snoc_ports j d i s r
    show a :: (r.snoc j d i s).ports = a :: (r.ports ++ [j])
    rw [h]

abbrev ptr (b : Nat) : Value := .pointer (some ⟨b, 0, none⟩)
/-- Parts in memory, all in blocks for which F holds. -/
def ListAt (w : World) (F : Nat → Prop) : VF → List Value → Prop
  | .nil, ps => ps = []
  | .cons _ d i s r, ps => ∃ (b : Nat) (ps' : List Value), ps = ptr b :: ps' ∧ (∃ (pv qv : Value) (qs : List Value), F b ∧ w.rowIs b 91 5 (quin (.int .i64 d) (.int .i64 i) pv qv (.int .i64 s.dep)) ∧ w.ownsRow 0 3 1 pv s.ports.length (intCells s.ports) ∧ (∀ c, pv.ownBlock = some c → F c) ∧ w.ownsRow 0 86 1 qv qs.length qs ∧ (∀ c, qv.ownBlock = some c → F c) ∧ ListAt w F s qs) ∧ ListAt w F r ps'
def NodeAt (w : World) (F : Nat → Prop) (b : Nat) (d i : Int) (s : VF) : Prop :=
  ∃ (pv qv : Value) (qs : List Value), F b ∧ w.rowIs b 91 5 (quin (.int .i64 d) (.int .i64 i) pv qv (.int .i64 s.dep)) ∧ w.ownsRow 0 3 1 pv s.ports.length (intCells s.ports) ∧ (∀ c, pv.ownBlock = some c → F c) ∧ w.ownsRow 0 86 1 qv qs.length qs ∧ (∀ c, qv.ownBlock = some c → F c) ∧ ListAt w F s qs
theorem listAt_cons {w : World} {F : Nat → Prop} {j d i : Int} {s r : VF} {ps : List Value} : ListAt w F (.cons j d i s r) ps ↔ ∃ (b : Nat) (ps' : List Value), ps = ptr b :: ps' ∧ NodeAt w F b d i s ∧ ListAt w F r ps' := Iff.rfl
theorem owns_keepv {w w' : World} {B t k n : Nat} {v : Value} {xs : List Value} (h : w.ownsRow B t k v n xs) (he : ∀ b, v.ownBlock = some b → w'.heap[b]? = w.heap[b]?) : w'.ownsRow B t k v n xs := by
  refine ⟨h.1, ?_⟩
  rcases h.2 with ⟨rfl, hn⟩ | ⟨g, cap, cur, rfl, hb, hh, rest⟩
  · exact .inl ⟨rfl, hn⟩
  · exact .inr ⟨g, cap, cur, rfl, hb, by rw [he g rfl]; exact hh, rest⟩
theorem owns_base {w : World} {B t k n : Nat} {v : Value} {xs : List Value} (h : w.ownsRow B t k v n xs) : w.ownsRow 0 t k v n xs := by
  refine ⟨h.1, ?_⟩
  rcases h.2 with h' | ⟨g, cap, cur, rfl, _, rest⟩
  · exact .inl h'
  · exact .inr ⟨g, cap, cur, rfl, Nat.zero_le _, rest⟩
theorem ListAt.keep {w w' : World} {F G : Nat → Prop} (hF : ∀ b, F b → b < w.heap.size → w'.heap[b]? = w.heap[b]? ∧ G b) : ∀ (s : VF) (ps : List Value), ListAt w F s ps → ListAt w' G s ps
  | .nil, _, h => h
  | .cons _ _ _ s r, _, ⟨b, ps', h1, ⟨pv, qv, qs, h2, h3, h4, h5, h6, h7, h8⟩, h9⟩ =>
    ⟨b, ps', h1, ⟨pv, qv, qs, (hF b h2 h3.lt).2, h3.of_block (hF b h2 h3.lt).1, owns_keepv h4 fun c hc => (hF c (h5 c hc) (World.ownsRow.lt h4 c hc).2).1, fun c hc => (hF c (h5 c hc) (World.ownsRow.lt h4 c hc).2).2,
      owns_keepv h6 fun c hc => (hF c (h7 c hc) (World.ownsRow.lt h6 c hc).2).1, fun c hc => (hF c (h7 c hc) (World.ownsRow.lt h6 c hc).2).2, ListAt.keep hF s qs h8⟩, ListAt.keep hF r ps' h9⟩
theorem NodeAt.keep {w w' : World} {F G : Nat → Prop} {b : Nat} {d i : Int} {s : VF} (h : NodeAt w F b d i s) (hF : ∀ b, F b → b < w.heap.size → w'.heap[b]? = w.heap[b]? ∧ G b) : NodeAt w' G b d i s := by
  have k : ListAt w F (.cons 0 d i s .nil) [ptr b] := listAt_cons.2 ⟨b, [], rfl, h, rfl⟩
  obtain ⟨b', ps', e, k2, _⟩ := listAt_cons.1 (ListAt.keep hF _ _ k)
  have e2 : ptr b = ptr b' := (List.cons.inj e).1
  have e3 : b = b' := by simpa [ptr] using e2
  rw [e3]; exact k2
theorem ListAt.snoc {w : World} {F : Nat → Prop} {b : Nat} {j d i : Int} {s : VF} (h : NodeAt w F b d i s) : ∀ (P : VF) (ps : List Value), ListAt w F P ps → ListAt w F (P.snoc j d i s) (ps ++ [ptr b])
  | .nil, ps, k => by
    have e : ps = [] := k
    subst e
    exact listAt_cons.2 ⟨b, [], rfl, h, rfl⟩
  | .cons _ _ _ _ r, _, k => by
    obtain ⟨b', ps', rfl, k1, k2⟩ := listAt_cons.1 k
    exact listAt_cons.2 ⟨b', ps' ++ [ptr b], rfl, k1, ListAt.snoc h r ps' k2⟩
end Go.Proofs.Ytdoaopeegcakiaa
