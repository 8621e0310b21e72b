/-
  Package cache: a ring of entries.
-/
import Derived.Test.YtokgfnfgpjkpjaaCr0
namespace Go.Proofs.Ytokgfnfgpjkpjaa
open Go.RowKit

/-- an entry: its block, bytes, neighbours -/
structure En where
  at_ : Int
  dv : Value
  bf : Nat
  af : Nat
def EnB (w : World) (x : Nat) (e : En) : Prop := w.heap[x]? = some (.cells #[.int .i64 e.at_, e.dv, .pointer (some ⟨e.bf, 0, none⟩), .pointer (some ⟨e.af, 0, none⟩)] 66 (0, 0))
theorem EnB.lt {w : World} {x : Nat} {e : En} (h : EnB w x e) : x < w.heap.size := (Array.getElem?_eq_some_iff.1 h).1
theorem EnB.cell {w : World} {x : Nat} {e : En} (h : EnB w x e) (t : Nat) : w.cell? ⟨x, t, none⟩ = #[Value.int .i64 e.at_, e.dv, .pointer (some ⟨e.bf, 0, none⟩), .pointer (some ⟨e.af, 0, none⟩)][t]? := by
  unfold EnB at h
  simp [World.cell?, h]
theorem EnB.frozen {w : World} {x : Nat} {e : En} (h : EnB w x e) (t : Nat) : w.frozen? ⟨x, t, none⟩ = false := by
  unfold EnB at h
  simp [World.frozen?, h]
theorem EnB.set {w : World} {x : Nat} {e : En} (h : EnB w x e) (t : Nat) (v : Value) : (w.setCell ⟨x, t, none⟩ v).heap[x]? = some (.cells (#[.int .i64 e.at_, e.dv, .pointer (some ⟨e.bf, 0, none⟩), .pointer (some ⟨e.af, 0, none⟩)].setIfInBounds t v) 66 (0, 0)) := by
  unfold EnB at h
  simp only [World.setCell, Array.getElem?_modify]
  rw [h]
  simp
/-- entries in the blocks of V -/
def Ens (w : World) (V : Nat → Prop) (f : Nat → En) : Prop := ∀ x, V x → EnB w x (f x)
def setAf (f : Nat → En) (x y : Nat) (z : Nat) : En := if z = x then { f x with af := y } else f z
def setBf (f : Nat → En) (x y : Nat) (z : Nat) : En := if z = x then { f x with bf := y } else f z
def setDv (f : Nat → En) (x : Nat) (v : Value) (z : Nat) : En := if z = x then { f x with dv := v } else f z
theorem setAf_at (f : Nat → En) (x y : Nat) : setAf f x y x = { f x with af := y } := if_pos rfl
theorem setAf_ne (f : Nat → En) {x y z : Nat} (h : z ≠ x) : setAf f x y z = f z := if_neg h
theorem setBf_at (f : Nat → En) (x y : Nat) : setBf f x y x = { f x with bf := y } := if_pos rfl
theorem setBf_ne (f : Nat → En) {x y z : Nat} (h : z ≠ x) : setBf f x y z = f z := if_neg h
theorem setAf_bf (f : Nat → En) (x y z : Nat) : (setAf f x y z).bf = (f z).bf := by unfold setAf; split <;> simp_all
theorem setBf_af (f : Nat → En) (x y z : Nat) : (setBf f x y z).af = (f z).af := by unfold setBf; split <;> simp_all
theorem setAf_at_ (f : Nat → En) (x y z : Nat) : (setAf f x y z).at_ = (f z).at_ ∧ (setAf f x y z).dv = (f z).dv := by unfold setAf; split <;> simp_all
theorem setBf_at_ (f : Nat → En) (x y z : Nat) : (setBf f x y z).at_ = (f z).at_ ∧ (setBf f x y z).dv = (f z).dv := by unfold setBf; split <;> simp_all
theorem setAf_af (f : Nat → En) (x y z : Nat) : (setAf f x y z).af = if z = x then y else (f z).af := by unfold setAf; split <;> rfl
theorem setBf_bf (f : Nat → En) (x y z : Nat) : (setBf f x y z).bf = if z = x then y else (f z).bf := by unfold setBf; split <;> rfl
theorem Ens.setA {w : World} {V : Nat → Prop} {f : Nat → En} (h : Ens w V f) {x : Nat} (hx : V x) (y : Nat) : Ens (w.setCell ⟨x, 3, none⟩ (.pointer (some ⟨y, 0, none⟩))) V (setAf f x y) := fun z hz => by
  by_cases e : z = x
  · subst e
    rw [setAf_at]
    unfold EnB
    simpa using (h z hz).set 3 (.pointer (some ⟨y, 0, none⟩))
  · rw [setAf_ne f e]
    exact (Below.heap_setCell _ _ _ _ e).trans (h z hz)
theorem Ens.setB {w : World} {V : Nat → Prop} {f : Nat → En} (h : Ens w V f) {x : Nat} (hx : V x) (y : Nat) : Ens (w.setCell ⟨x, 2, none⟩ (.pointer (some ⟨y, 0, none⟩))) V (setBf f x y) := fun z hz => by
  by_cases e : z = x
  · subst e
    rw [setBf_at]
    unfold EnB
    simpa using (h z hz).set 2 (.pointer (some ⟨y, 0, none⟩))
  · rw [setBf_ne f e]
    exact (Below.heap_setCell _ _ _ _ e).trans (h z hz)
theorem Ens.setD {w : World} {V : Nat → Prop} {f : Nat → En} (h : Ens w V f) {x : Nat} (hx : V x) (v : Value) : Ens (w.setCell ⟨x, 1, none⟩ v) V (setDv f x v) := fun z hz => by
  by_cases e : z = x
  · subst e
    unfold setDv
    rw [if_pos rfl]
    unfold EnB
    simpa using (h z hz).set 1 v
  · unfold setDv
    rw [if_neg e]
    exact (Below.heap_setCell _ _ _ _ e).trans (h z hz)

/-! ### the ring -/
def Lk (f : Nat → En) : List Nat → Prop
  | [] => True
  | [_] => True
  | x :: y :: t => (f x).af = y ∧ (f y).bf = x ∧ Lk f (y :: t)
theorem Lk_app (f : Nat → En) (x : Nat) (B : List Nat) : ∀ A : List Nat, Lk f (A ++ x :: B) ↔ Lk f (A ++ [x]) ∧ Lk f (x :: B)
  | [] => by simp [Lk]
  | [a] => by simp [Lk]; exact ⟨fun ⟨h1, h2, h3⟩ => ⟨⟨h1, h2⟩, h3⟩, fun ⟨⟨h1, h2⟩, h3⟩ => ⟨h1, h2, h3⟩⟩
  | a :: b :: t => by
    have ih := Lk_app f x B (b :: t)
    simp only [List.cons_append, Lk] at ih ⊢
    rw [ih]
    exact ⟨fun ⟨h1, h2, h3, h4⟩ => ⟨⟨h1, h2, h3⟩, h4⟩, fun ⟨⟨h1, h2, h3⟩, h4⟩ => ⟨h1, h2, h3, h4⟩⟩
theorem Lk.congr {f g : Nat → En} : ∀ {l : List Nat}, Lk f l → (∀ x ∈ l.dropLast, (g x).af = (f x).af) → (∀ y ∈ l.tail, (g y).bf = (f y).bf) → Lk g l
  | [], _, _, _ => trivial
  | [_], _, _, _ => trivial
  | x :: y :: t, h, ha, hb => by
    obtain ⟨h1, h2, h3⟩ := h
    refine ⟨(ha x (by simp)).trans h1, (hb y (by simp)).trans h2, h3.congr (fun z hz => ha z ?_) (fun z hz => hb z ?_)⟩
    · simp only [List.dropLast_cons_cons, List.mem_cons]
      exact .inr hz
    · simp only [List.tail_cons] at hz ⊢
      exact List.mem_cons_of_mem _ hz
def Rg (f : Nat → En) (r : Nat) (es : List Nat) : Prop := (r :: es).Nodup ∧ Lk f (r :: es ++ [r])
/-- unlink -/
def unl (f : Nat → En) (e : Nat) : Nat → En := setBf (setAf f (f e).bf (f e).af) (f e).af (f e).bf
/-- linkBefore -/
def lnk (f : Nat → En) (e n : Nat) : Nat → En := setBf (setAf (setAf (setBf f e (f n).bf) e n) (f n).bf e) n e
theorem unl_same (f : Nat → En) (e z : Nat) : (unl f e z).at_ = (f z).at_ ∧ (unl f e z).dv = (f z).dv := by
  unfold unl
  exact ⟨(setBf_at_ _ _ _ _).1.trans (setAf_at_ _ _ _ _).1, (setBf_at_ _ _ _ _).2.trans (setAf_at_ _ _ _ _).2⟩
theorem lnk_same (f : Nat → En) (e n z : Nat) : (lnk f e n z).at_ = (f z).at_ ∧ (lnk f e n z).dv = (f z).dv := by
  unfold lnk
  exact ⟨(setBf_at_ _ _ _ _).1.trans ((setAf_at_ _ _ _ _).1.trans ((setAf_at_ _ _ _ _).1.trans (setBf_at_ _ _ _ _).1)), (setBf_at_ _ _ _ _).2.trans ((setAf_at_ _ _ _ _).2.trans ((setAf_at_ _ _ _ _).2.trans (setBf_at_ _ _ _ _).2))⟩
theorem unl_af (f : Nat → En) (e z : Nat) : (unl f e z).af = if z = (f e).bf then (f e).af else (f z).af := by unfold unl; rw [setBf_af, setAf_af]
theorem unl_bf (f : Nat → En) (e z : Nat) : (unl f e z).bf = if z = (f e).af then (f e).bf else (f z).bf := by unfold unl; rw [setBf_bf, setAf_bf]
theorem lnk_af (f : Nat → En) (e n z : Nat) : (lnk f e n z).af = if z = (f n).bf then e else if z = e then n else (f z).af := by unfold lnk; rw [setBf_af, setAf_af, setAf_af, setBf_af]
theorem lnk_bf (f : Nat → En) (e n z : Nat) : (lnk f e n z).bf = if z = n then e else if z = e then (f n).bf else (f z).bf := by unfold lnk; rw [setBf_bf, setAf_bf, setAf_bf, setBf_bf]

end Go.Proofs.Ytokgfnfgpjkpjaa
