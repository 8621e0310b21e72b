/-
  A range over a function whose iterator itself changes memory: the law.
-/
import Derived.Test.YtajnokkmpjdliaaBs0
import Derived.RangeFuncNested
import Derived.RangeFuncBound
import Derived.RangeFuncCalls
import Derived.RangeFuncLeaves
import Derived.Shelf.Abstract
import Derived.Shelf.RegionOpen
import Derived.WalkKit
import Derived.OwnWalkIn
import Derived.TacticsInMore
import Derived.LoopNIn
import Derived.LoopIn
namespace Go.Proofs.Ytajnokkmpjdliaa
open Go.RowKit

/-- the loop's two blocks stay -/
structure Dl2 (B : Nat) (W W' : World) : Prop where
  d : W'.heap[B]? = W.heap[B]?
  l : W'.heap[B + 1]? = W.heap[B + 1]?
theorem Dl2.refl (B : Nat) (W : World) : Dl2 B W W := ⟨rfl, rfl⟩
theorem Dl2.trans {B : Nat} {X Y Z : World} (h : Dl2 B X Y) (k : Dl2 B Y Z) : Dl2 B X Z := ⟨k.d.trans h.d, k.l.trans h.l⟩
theorem Dl2.of_but {B : Nat} {X : Nat → Prop} {W W' : World} (h : But X W W') (hl : B + 1 < W.heap.size) (h1 : ¬ X B) (h2 : ¬ X (B + 1)) : Dl2 B W W' := ⟨h.block B (by omega) h1, h.block (B + 1) hl h2⟩
theorem Dl2.of_below {B n : Nat} {W W' : World} (h : Below n W W') (hl : B + 1 < n) : Dl2 B W W' := ⟨h.block B (by omega), h.block (B + 1) hl⟩
theorem but_put (W : World) (r : Nat) (o : Obj) : But (fun k => k = r) W (W.putObj r o) := ⟨rfl, rfl, rfl, by simp, fun k _ hk => World.putObj_heap_other hk⟩
/-- how a round's body may be left -/
def rfPost {α : Type} (B : Nat) (I : List α → World → Prop) (Ix : Code → List α → World → Prop) (xs : List α) (W : World) : Exit → Act → World → Prop
  | .normal, _, W' => Dl2 B W W' ∧ I xs W'
  | .ret, _, W' => Dl2 B W W' ∧ Ix .ret xs W'
  | .exit id, _, W' => Dl2 B W W' ∧ Ix (.exit id) xs W'
  | .goto t, _, W' => Dl2 B W W' ∧ Ix (.goto t) xs W'
  | .panic _, _, _ => False
  | .outgrown, _, _ => False
/-- a round, as the iterator may ask for it: R says that the loop is ready, Rx that it was left -/
def RfYG {γ α : Type} (F : Fence) (m : Nat) (P : Program) (B N : Nat) (encs : α → Array Value) (E : List α → α → Prop) (I : γ → List α → World → Prop) (Ix : γ → Code → List α → World → Prop) (R : World → Prop) (Rx : Code → World → Prop) : Prop :=
  ∀ c0 pre x A, E pre x → I c0 pre A → R A → pre.length < N → YieldAt F m P (B + 1) (encs x) A fun e A' => (e = .returned (.bool true) ∧ I c0 (pre ++ [x]) A' ∧ R A') ∨ (e = .returned (.bool false) ∧ ∃ c, Ix c0 c (pre ++ [x]) A' ∧ Rx c A')
/-- what the iterator promises -/
def RfItG {γ α : Type} (F : Fence) (n : Nat) (P : Program) (gf : Nat) (lb : Array Value) (B N : Nat) (encs : α → Array Value) (S Sp : γ → List α → Prop) (E : List α → α → Prop) (I : γ → List α → World → Prop) (Ix : γ → Code → List α → World → Prop) (w : World) (c1 : γ) : Prop :=
  ∀ (R : World → Prop) (Rx : Code → World → Prop) (W : World), (∀ A A', R A → Dl2 B A A' → R A') → (∀ c A A', Rx c A → Dl2 B A A' → Rx c A') → (∀ A, R A → B + 1 < A.heap.size) → (∀ c A, Rx c A → B + 1 < A.heap.size) →
    RfYG F (n - 1) P B N encs E I Ix R Rx → I c1 [] W → R W → Below B w W →
    CallsIn F n P gf (#[.func (.yield (B + 1)) #[] #[]] ++ lb) W fun e W' => (∃ v, e = .returned v) ∧ ((∃ c0 xs, S c0 xs ∧ I c0 xs W' ∧ R W') ∨ (∃ c0 pre c, Sp c0 pre ∧ Ix c0 c pre W' ∧ Rx c W'))

theorem rfLawG {F : Fence} {n : Nat} {P : Program} {γ α : Type} {g : Operand} {ps : Array Tmp} {assign body : Code} {Q : Exit → Act → World → Prop} {a : Act} {w : World}
    (hro : F.round = none) (h1 : 1 ≤ n) {gf : Nat} {lb : Array Value} (hg : a.eval g = .func (.func gf) #[] lb) (hFg : F.fn gf) (eg : ∀ args w, (callFunc gf args).run P w = .ok (.enter gf args) w)
    {encs : α → Array Value} {S Sp : γ → List α → Prop} {E : List α → α → Prop} {N : Nat} (hps : ∀ x, (encs x).size = ps.size)
    (I : γ → List α → World → Prop) (Ix : γ → Code → List α → World → Prop) (hI : ∀ c0 s W o, w.heap.size + 1 < W.heap.size → I c0 s W → I c0 s (W.putObj (w.heap.size + 1) o)) (hIx : ∀ c0 c s W o, w.heap.size + 1 < W.heap.size → Ix c0 c s W → Ix c0 c s (W.putObj (w.heap.size + 1) o)) (c1 : γ) (h0 : ∀ o1 o2, I c1 [] ((w.alloc o1).alloc o2))
    (Ax : γ → List α → α → Act → World → Prop) (hAx : ∀ c0 pre x a' W o, w.heap.size + 1 < W.heap.size → Ax c0 pre x a' W → Ax c0 pre x a' (W.putObj (w.heap.size + 1) o))
    (hit : RfItG F (n - 1) P gf lb w.heap.size N encs S Sp E I Ix w c1)
    (hassign : ∀ (l : Nat) (c0 : γ) (pre : List α) (x : α) (W : World) (K : Act → World → Prop), w.heap.size + 1 < W.heap.size → E pre x → I c0 pre W → pre.length < N → (∀ a' W', Dl2 w.heap.size W W' → Ax c0 pre x a' W' → K a' W') →
      assign.wpIn (F.inRound l) (n - 1 - 1) P (Exit.then K (fun _ _ _ => False)) { tmps := (ps.zip (encs x)).foldl (fun t (p, v) => t.setIfInBounds p v) a.tmps, defers := [] } W)
    (hbody : ∀ (l : Nat) (c0 : γ) (pre : List α) (x : α) (a' : Act) (W : World), w.heap.size + 1 < W.heap.size → E pre x → Ax c0 pre x a' W → pre.length < N → body.wpIn (F.inRound l) (n - 1 - 1) P (rfPost w.heap.size (I c0) (Ix c0) (pre ++ [x]) W) a' W)
    (hdone : ∀ (D : Nat) (c0 : γ) (xs : List α) (W : World), w.heap.size = D → S c0 xs → I c0 xs W → W.heap[D]? = some (.deferred (some [])) → Q .normal { a with defers := { target := .collected D, args := #[] } :: a.defers } W)
    (hstop : ∀ (D : Nat) (c0 : γ) (c : Code) (pre : List α) (W : World), w.heap.size = D → Sp c0 pre → Ix c0 c pre W → W.heap[D]? = some (.deferred (some [])) → c.wpIn F n P Q { a with defers := { target := .collected D, args := #[] } :: a.defers } W) :
    (Code.rangeFunc g ps assign body).wpIn F n P Q a w := by
  refine wpIn_rangeFunc fun fn hfn => ?_
  rw [hro]
  generalize hB : w.heap.size = B at *
  obtain ⟨lp, hlp⟩ : ∃ lp : LoopState → Option Code → Obj, lp = fun st pe => .loop { state := st, pending := pe, fn, tmps := a.tmps, params := ps, assign, body, defers := B } := ⟨_, rfl⟩
  obtain ⟨R, hR⟩ : ∃ R : World → Prop, R = fun A => A.heap[B + 1]? = some (lp .ready none) ∧ A.heap[B]? = some (.deferred (some [])) := ⟨_, rfl⟩
  obtain ⟨Rx, hRx⟩ : ∃ Rx : Code → World → Prop, Rx = fun c A => A.heap[B + 1]? = some (lp .done (some c)) ∧ A.heap[B]? = some (.deferred (some [])) := ⟨_, rfl⟩
  obtain ⟨W1, hW1⟩ : ∃ W1, W1 = (w.alloc (.deferred (some []))).alloc (lp .ready none) := ⟨_, rfl⟩
  have hs1 : W1.heap.size = B + 2 := by rw [hW1]; simp only [World.size_alloc]; omega
  have hR1 : R W1 := by
    rw [hR, hW1]
    refine ⟨?_, ?_⟩
    · have := World.alloc_heap_new (w.alloc (.deferred (some []))) (lp .ready none)
      rwa [World.size_alloc, hB] at this
    · rw [← hB]
      exact (Below.heap_alloc _ _ _ (by simp)).trans (World.alloc_heap_new w _)
  have hI1 : I c1 [] W1 := by rw [hW1]; exact h0 _ _
  have hb1 : Below B w W1 := by
    rw [hW1, ← hB]
    exact ((Below.refl _ w).alloc (Nat.le_refl _) _).alloc (by simp) _
  have hRl : ∀ A, R A → B + 1 < A.heap.size := fun A q => by
    rw [hR] at q
    exact (Array.getElem?_eq_some_iff.1 q.1).1
  have hRxl : ∀ c A, Rx c A → B + 1 < A.heap.size := fun c A q => by
    rw [hRx] at q
    exact (Array.getElem?_eq_some_iff.1 q.1).1
  refine ⟨B + 1, [{ target := .collected B, args := #[] }], W1, { target := .fn (.func gf) lb, args := #[.func (.yield (B + 1)) #[] #[]] }, W1, gf, #[.func (.yield (B + 1)) #[] #[]] ++ lb, W1, ?_, ?_, ?_, ?_, fun _ => h1, ?_⟩
  · rw [hW1, hlp, ← hB]
    exact run_enterLoop_outer _ _ _ _ _
  · simp only [resolve, hg]
    simp [go_sem]
  · intro f' hf'
    simp [Target.leads] at hf'
    subst hf'
    exact hFg
  · simp [invoke, go_sem, eg]
  · refine (hit R Rx W1 (fun A A' q t => ?_) (fun c A A' q t => ?_) hRl hRxl (fun c0 pre x A hE hi hr hlen => ?_) hI1 hR1 hb1).mono ?_
    · rw [hR] at q ⊢
      exact ⟨t.l.trans q.1, t.d.trans q.2⟩
    · rw [hRx] at q ⊢
      exact ⟨t.l.trans q.1, t.d.trans q.2⟩
    · have hlt := hRl A hr
      rw [hR] at hr
      obtain ⟨hl, hk⟩ := hr
      have hl' := hl
      rw [hlp] at hl'
      refine ⟨fn, _, assign, body, run_yield (P := P) (args := encs x) hl' (hps x), roundIn_of_wpIn hfn (hassign _ c0 pre x A _ hlt hE hi hlen fun a1 A1 t1 ax => ?_)⟩
      have hl1 : A1.heap[B + 1]? = some (lp .ready none) := t1.l.trans hl
      have hl1' := hl1
      rw [hlp] at hl1'
      have hlt1 := (Array.getElem?_eq_some_iff.1 hl1).1
      refine ⟨_, run_beginRound hl1' rfl, ?_⟩
      obtain ⟨A2, hA2⟩ : ∃ A2, A2 = A1.putObj (B + 1) (lp .busy none) := ⟨_, rfl⟩
      have e2 : A1.putObj (B + 1) (.loop { state := .busy, pending := none, fn, tmps := a.tmps, params := ps, assign, body, defers := B }) = A2 := by rw [hA2, hlp]
      rw [e2]
      have hs2 : A2.heap.size = A1.heap.size := by rw [hA2]; simp
      have hl2 : A2.heap[B + 1]? = some (lp .busy none) := by rw [hA2]; exact World.putObj_heap_same hlt1
      have hk2 : A2.heap[B]? = some (.deferred (some [])) := by
        rw [hA2]
        exact (World.putObj_heap_other (by omega)).trans (t1.d.trans hk)
      have ax2 : Ax c0 pre x a1 A2 := by rw [hA2]; exact hAx c0 pre x a1 _ _ hlt1 ax
      refine wpIn_mono (hbody _ c0 pre x a1 A2 (by omega) hE ax2 hlen) ?_
      have fin : ∀ (jump : Option Code) (A3 : World), Dl2 B A2 A3 → ∃ A4, (Instr.endRound (B + 1) jump).run P A3 = .ok (.bool jump.isNone) A4 ∧ A4 = A3.putObj (B + 1) (lp (if jump.isNone then .ready else .done) jump) ∧ A3.heap[B + 1]? = some (lp .busy none) ∧ A4.heap[B + 1]? = some (lp (if jump.isNone then .ready else .done) jump) ∧ A4.heap[B]? = some (.deferred (some [])) := fun jump A3 t3 => by
        have hl3 : A3.heap[B + 1]? = some (lp .busy none) := t3.l.trans hl2
        have hl3' := hl3
        rw [hlp] at hl3'
        refine ⟨_, run_endRound (P := P) jump hl3', ?_, hl3, ?_, ?_⟩
        · rw [hlp]
        · rw [hlp]
          exact World.putObj_heap_same (Array.getElem?_eq_some_iff.1 hl3).1
        · exact (World.putObj_heap_other (by omega)).trans (t3.d.trans hk2)
      rintro e a3 A3 hp
      cases e with
      | normal =>
        obtain ⟨t3, hi3⟩ := hp
        obtain ⟨A4, f1, f2, f3, f4, f5⟩ := fin none A3 t3
        refine ⟨_, _, f1, .inl ⟨rfl, ?_, ?_⟩⟩
        · rw [f2]
          exact hI _ _ _ _ (Array.getElem?_eq_some_iff.1 f3).1 hi3
        · rw [hR]
          exact ⟨f4, f5⟩
      | ret =>
        obtain ⟨t3, hi3⟩ := hp
        obtain ⟨A4, f1, f2, f3, f4, f5⟩ := fin (some .ret) A3 t3
        refine ⟨_, _, f1, .inr ⟨rfl, .ret, ?_, ?_⟩⟩
        · rw [f2]
          exact hIx _ _ _ _ _ (Array.getElem?_eq_some_iff.1 f3).1 hi3
        · rw [hRx]
          exact ⟨f4, f5⟩
      | exit id =>
        obtain ⟨t3, hi3⟩ := hp
        obtain ⟨A4, f1, f2, f3, f4, f5⟩ := fin (some (.exit id)) A3 t3
        refine ⟨_, _, f1, .inr ⟨rfl, .exit id, ?_, ?_⟩⟩
        · rw [f2]
          exact hIx _ _ _ _ _ (Array.getElem?_eq_some_iff.1 f3).1 hi3
        · rw [hRx]
          exact ⟨f4, f5⟩
      | goto t =>
        obtain ⟨t3, hi3⟩ := hp
        obtain ⟨A4, f1, f2, f3, f4, f5⟩ := fin (some (.goto t)) A3 t3
        refine ⟨_, _, f1, .inr ⟨rfl, .goto t, ?_, ?_⟩⟩
        · rw [f2]
          exact hIx _ _ _ _ _ (Array.getElem?_eq_some_iff.1 f3).1 hi3
        · rw [hRx]
          exact ⟨f4, f5⟩
      | panic ch => exact hp.elim
      | outgrown => exact hp.elim
    · rintro e W2 ⟨⟨v, rfl⟩, (⟨c0, xs, hS, hi, hr⟩ | ⟨c0, pre, c, hSp, hi, hr⟩)⟩
      · rw [hR] at hr
        have hl' := hr.1
        rw [hlp] at hl'
        refine ⟨none, _, run_endLoop (P := P) hl' (by simp), hdone B c0 xs _ rfl hS (hI _ _ _ _ (Array.getElem?_eq_some_iff.1 hl').1 hi) ((World.putObj_heap_other (by omega)).trans hr.2)⟩
      · rw [hRx] at hr
        have hl' := hr.1
        rw [hlp] at hl'
        refine ⟨some c, _, run_endLoop (P := P) hl' (by simp), hstop B c0 c pre _ rfl hSp (hIx c0 c _ _ _ (Array.getElem?_eq_some_iff.1 hl').1 hi) ((World.putObj_heap_other (by omega)).trans hr.2)⟩


/-- the marks of loops that are over -/
def mks (ds : List Nat) : List Deferred := ds.map fun D => { target := .collected D, args := #[] }
theorem leaves_all {F : Fence} {n : Nat} {P : Program} {fn : Func} {tmps : Array Value} {R : Ending → World → Prop} : ∀ (ds : List Nat) (W : World), ds.Nodup → (∀ D ∈ ds, W.heap[D]? = some (.deferred (some []))) →
    (∀ W', But (fun k => k ∈ ds) W W' → LeavesInM F n P fn tmps R [] .returning W') → LeavesInM F n P fn tmps R (mks ds) .returning W
  | [], W, _, _, h => h W (But.refl _ _)
  | D :: ds, W, hn, hd, h => by
    refine ⟨by simp, .inl ⟨_, _, rfl, run_takeDeferred (hd D List.mem_cons_self), ?_⟩⟩
    have hn' := List.nodup_cons.1 hn
    refine leaves_all ds _ hn'.2 (fun D' hD' => ?_) fun W' hW' => h W' ?_
    · have hne : D' ≠ D := fun e => hn'.1 (by rw [← e]; exact hD')
      exact ((but_put W D (.deferred none)).block D' (Array.getElem?_eq_some_iff.1 (hd D' (List.mem_cons_of_mem _ hD'))).1 hne).trans (hd D' (List.mem_cons_of_mem _ hD'))
    · exact ((but_put W D _).mono fun k _ e => by rw [e]; exact List.mem_cons_self).trans (hW'.mono fun k _ e => List.mem_cons_of_mem _ e)
end Go.Proofs.Ytajnokkmpjdliaa
