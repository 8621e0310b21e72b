/-
  The document's disk: what it holds; Read, SetFuse, burns.
-/
import Derived.Test.YteokekllbpkemaaDk9
namespace Go.Proofs.Yteokekllbpkemaa
open Go.RowKit

/-- block i of an image -/
def blkZ (img : List Int) (i : Nat) : List Int := (img.drop (512 * i)).take 512
def lcs (img : List Int) (nb : Nat) : List Value := (List.range nb).map fun i => .string (strOfNums (blkZ img i))
def rcs (puts : List (Nat × List Int)) : List Value := puts.flatMap fun q => [.int .i64 (q.1 : Int), .string (strOfNums q.2)]
theorem rcs_snoc (puts : List (Nat × List Int)) (q : Nat × List Int) : rcs (puts ++ [q]) = rcs puts ++ [.int .i64 (q.1 : Int), .string (strOfNums q.2)] := by simp [rcs]
theorem rcs_get (puts : List (Nat × List Int)) : ∀ i q, puts[i]? = some q → (rcs puts)[i * 2]? = some (.int .i64 (q.1 : Int)) ∧ (rcs puts)[i * 2 + 1]? = some (.string (strOfNums q.2)) := by
  induction puts with
  | nil => intro i d h; simp at h
  | cons e r ih =>
    intro i d h
    match i with
    | 0 => simp at h; subst h; exact ⟨rfl, rfl⟩
    | i + 1 =>
      have := ih i d (by simpa using h)
      have e1 : (i + 1) * 2 = i * 2 + 2 := by omega
      rw [e1]
      exact this
theorem lcs_get {img : List Int} {nb i : Nat} (h : i < nb) : (lcs img nb)[i]? = some (.string (strOfNums (blkZ img i))) := by simp [lcs, h]

def Rfb (w : World) (r : Nat) (lv pv : Value) (off : Bool) (fu : Int) : Prop := w.heap[r]? = some (.cells #[lv, pv, .bool off, .int .i64 fu] 83 (0, 0))
theorem Rfb.lt {w : World} {r : Nat} {lv pv : Value} {off : Bool} {fu : Int} (h : Rfb w r lv pv off fu) : r < w.heap.size := (Array.getElem?_eq_some_iff.1 h).1
theorem Rfb.cell {w : World} {r : Nat} {lv pv : Value} {off : Bool} {fu : Int} (h : Rfb w r lv pv off fu) (t : Nat) : w.cell? ⟨r, t, none⟩ = #[lv, pv, .bool off, .int .i64 fu][t]? := by
  unfold Rfb at h
  simp [World.cell?, h]
theorem Rfb.frozen {w : World} {r : Nat} {lv pv : Value} {off : Bool} {fu : Int} (h : Rfb w r lv pv off fu) (t : Nat) : w.frozen? ⟨r, t, none⟩ = false := by
  unfold Rfb at h
  simp [World.frozen?, h]
theorem Rfb.of_block {w w' : World} {r : Nat} {lv pv : Value} {off : Bool} {fu : Int} (h : Rfb w r lv pv off fu) (hw : w'.heap[r]? = w.heap[r]?) : Rfb w' r lv pv off fu := hw.trans h
theorem Rfb.set {w : World} {r : Nat} {lv pv : Value} {off : Bool} {fu : Int} (h : Rfb w r lv pv off fu) (t : Nat) (v : Value) : (w.setCell ⟨r, t, none⟩ v).heap[r]? = some (.cells (#[lv, pv, .bool off, .int .i64 fu].setIfInBounds t v) 83 (0, 0)) := by
  unfold Rfb at h
  simp only [World.setCell, Array.getElem?_modify]
  rw [h]
  simp
/-- the document's disk in block r -/
structure RkW (X : Nat → Prop) (w : World) (r : Nat) (img : List Int) (puts : List (Nat × List Int)) (fu : Int) (off : Bool) (lv pv : Value) (nb : Nat) : Prop where
  blk : Rfb w r lv pv off fu
  rowL : w.ownsRow 0 9 1 lv nb (lcs img nb)
  rowP : w.ownsRow 0 98 2 pv puts.length (rcs puts)
  len : img.length = 512 * nb
  lo : 1 ≤ nb
  hi : nb ≤ 524288
  dat : ∀ q ∈ puts, q.1 < nb ∧ q.2.length = 512
  xr : X r
  xl : ∀ g, lv.ownBlock = some g → X g
  xp : ∀ g, pv.ownBlock = some g → X g
  fus : -1 ≤ fu ∧ fu ≤ 9223372036854775807
def Rk (X : Nat → Prop) (w : World) (r : Nat) (img : List Int) (puts : List (Nat × List Int)) (fu : Int) (off : Bool) (nb : Nat) : Prop := ∃ lv pv, RkW X w r img puts fu off lv pv nb
theorem RkW.keep {X : Nat → Prop} {w w' : World} {r : Nat} {img : List Int} {puts : List (Nat × List Int)} {fu : Int} {off : Bool} {lv pv : Value} {nb : Nat} (h : RkW X w r img puts fu off lv pv nb) (hk : ∀ x, X x → x < w.heap.size → w'.heap[x]? = w.heap[x]?) : RkW X w' r img puts fu off lv pv nb :=
  ⟨h.blk.of_block (hk r h.xr h.blk.lt), owns_keep h.rowL (fun g e => hk g (h.xl g e) (World.ownsRow.lt h.rowL g e).2), owns_keep h.rowP (fun g e => hk g (h.xp g e) (World.ownsRow.lt h.rowP g e).2), h.len, h.lo, h.hi, h.dat, h.xr, h.xl, h.xp, h.fus⟩
theorem Rk.keep {X : Nat → Prop} {w w' : World} {r : Nat} {img : List Int} {puts : List (Nat × List Int)} {fu : Int} {off : Bool} {nb : Nat} (h : Rk X w r img puts fu off nb) (hk : ∀ x, X x → x < w.heap.size → w'.heap[x]? = w.heap[x]?) : Rk X w' r img puts fu off nb := by
  obtain ⟨lv, pv, h⟩ := h
  exact ⟨lv, pv, h.keep hk⟩
theorem Rk.but {X Y : Nat → Prop} {w w' : World} {r : Nat} {img : List Int} {puts : List (Nat × List Int)} {fu : Int} {off : Bool} {nb : Nat} (h : Rk X w r img puts fu off nb) (hb : But Y w w') (hx : ∀ x, X x → ¬ Y x) : Rk X w' r img puts fu off nb := h.keep (fun x h1 h2 => hb.block x h2 (hx x h1))
theorem Rk.below {X : Nat → Prop} {w w' : World} {r : Nat} {img : List Int} {puts : List (Nat × List Int)} {fu : Int} {off : Bool} {nb : Nat} (h : Rk X w r img puts fu off nb) (hb : Below w.heap.size w w') : Rk X w' r img puts fu off nb := h.keep (fun x _ h2 => hb.block x h2)
theorem Rk.mono {X X' : Nat → Prop} {w : World} {r : Nat} {img : List Int} {puts : List (Nat × List Int)} {fu : Int} {off : Bool} {nb : Nat} (h : Rk X w r img puts fu off nb) (hx : ∀ x, X x → X' x) : Rk X' w r img puts fu off nb := by
  obtain ⟨lv, pv, h⟩ := h
  exact ⟨lv, pv, h.blk, h.rowL, h.rowP, h.len, h.lo, h.hi, h.dat, hx _ h.xr, fun g e => hx g (h.xl g e), fun g e => hx g (h.xp g e), h.fus⟩
theorem RkW.apart {X : Nat → Prop} {w : World} {r : Nat} {img : List Int} {puts : List (Nat × List Int)} {fu : Int} {off : Bool} {lv pv : Value} {nb : Nat} (h : RkW X w r img puts fu off lv pv nb) : (∀ g, lv.ownBlock = some g → g ≠ r) ∧ (∀ g, pv.ownBlock = some g → g ≠ r) ∧ ∀ g g', lv.ownBlock = some g → pv.ownBlock = some g' → g ≠ g' := by
  have hr : w.heap[r]? = _ := h.blk
  refine ⟨fun g hg e => ?_, fun g hg e => ?_, fun g g' hg hg' e => ?_⟩
  · obtain ⟨c, hc⟩ := row_kind h.rowL hg
    rw [e, hr] at hc; cases hc
  · obtain ⟨c, hc⟩ := row_kind h.rowP hg
    rw [e, hr] at hc; cases hc
  · obtain ⟨c, hc⟩ := row_kind h.rowL hg
    obtain ⟨c', hc'⟩ := row_kind h.rowP hg'
    rw [e, hc'] at hc; cases hc
theorem RkW.reblk {X : Nat → Prop} {w : World} {r : Nat} {img : List Int} {puts : List (Nat × List Int)} {fu fu' : Int} {off off' : Bool} {lv pv : Value} {nb : Nat} (h : RkW X w r img puts fu off lv pv nb) {t : Nat} {v : Value} (hb : Rfb (w.setCell ⟨r, t, none⟩ v) r lv pv off' fu') (hf : -1 ≤ fu' ∧ fu' ≤ 9223372036854775807) : RkW X (w.setCell ⟨r, t, none⟩ v) r img puts fu' off' lv pv nb := by
  obtain ⟨a1, a2, _⟩ := h.apart
  exact ⟨hb, owns_keep h.rowL (fun g e => Below.heap_setCell _ _ _ _ (a1 g e)), owns_keep h.rowP (fun g e => Below.heap_setCell _ _ _ _ (a2 g e)), h.len, h.lo, h.hi, h.dat, h.xr, h.xl, h.xp, hf⟩
theorem RkW.setF {X : Nat → Prop} {w : World} {r : Nat} {img : List Int} {puts : List (Nat × List Int)} {fu : Int} {off : Bool} {lv pv : Value} {nb : Nat} (h : RkW X w r img puts fu off lv pv nb) (k : Int) (hk : -1 ≤ k ∧ k ≤ 9223372036854775807) : RkW X (w.setCell ⟨r, 3, none⟩ (.int .i64 k)) r img puts k off lv pv nb := h.reblk (by unfold Rfb; simpa using h.blk.set 3 (.int .i64 k)) hk
theorem RkW.setO {X : Nat → Prop} {w : World} {r : Nat} {img : List Int} {puts : List (Nat × List Int)} {fu : Int} {off : Bool} {lv pv : Value} {nb : Nat} (h : RkW X w r img puts fu off lv pv nb) (b : Bool) : RkW X (w.setCell ⟨r, 2, none⟩ (.bool b)) r img puts fu b lv pv nb := h.reblk (by unfold Rfb; simpa using h.blk.set 2 (.bool b)) h.fus

theorem one_cell {w : World} {base e n c : Nat} {a : Option Addr} {xs : List Value} (h : w.ownsRow base e 1 (.slice a n c) n xs) (hn : 0 < n) : ∃ g, a = some ⟨g, 0, none⟩ ∧ g < w.heap.size ∧ ∀ i u, xs[i]? = some u → w.cell? ⟨g, i, none⟩ = some u := by
  rcases h with ⟨h0, h⟩
  rcases h with ⟨h1, h2⟩ | ⟨g, cap, cur, h1, h2, h3, h4, h5, h6, h7⟩
  · omega
  · cases h1
    refine ⟨g, rfl, (Array.getElem?_eq_some_iff.1 h3).1, fun i u hu => ?_⟩
    have hi : i < n * 1 := by have := (List.getElem?_eq_some_iff.1 hu).1; omega
    rw [← h7, List.getElem?_take_of_lt hi] at hu
    simp only [World.cell?, h3]
    simpa using hu

/-- burns -/
theorem burns_any {X : Nat → Prop} {w : World} {r : Nat} {img : List Int} {puts : List (Nat × List Int)} {fu : Int} {off : Bool} {lv pv : Value} {nb : Nat} (h : RkW X w r img puts fu off lv pv nb) :
    Calls Try.prog 62 #[.pointer (some ⟨r, 0, none⟩)] w fun e w' => e = .returned (.bool (decide (burnC fu = 0))) ∧ RkW X w' r img puts (burnF fu) (burnO fu off) lv pv nb ∧ But (fun x => x = r) w w' := by
  have hf := h.fus
  have q3 := h.blk.cell 3
  have q2 := h.blk.cell 2
  have f3 := h.blk.frozen 3
  have f2 := h.blk.frozen 2
  simp only [List.getElem?_toArray, List.getElem?_cons_succ, List.getElem?_cons_zero] at q3 q2
  have H := hid h
  clear h
  go_enter Try.func62, Try.ntmps62
  by_cases h2 : fu = 0
  · subst h2
    go_wp2
    go_ret
    exact ⟨rfl, H.out.setO true, (But.refl (fun x => x = r) w).setCell (p := ⟨r, 2, none⟩) (show (fun x => x = r) r from rfl) _⟩
  · by_cases h1 : fu = -1
    · subst h1
      go_wp2
      go_ret
      exact ⟨rfl, H.out, But.refl _ _⟩
    · have hp : 0 < fu := by omega
      have e1 : burnC fu = 0 := if_neg h2
      have e2 : burnF fu = fu - 1 := by unfold burnF; rw [if_neg h1, if_neg h2]
      have e3 : burnO fu off = off := if_neg h2
      rw [e1, e2, e3]
      clear e1 e2 e3
      go_wp2
      go_ret
      exact ⟨rfl, H.out.setF (fu - 1) (by omega), (But.refl (fun x => x = r) w).setCell (p := ⟨r, 3, none⟩) (show (fun x => x = r) r from rfl) _⟩

theorem SetFuse_any {X : Nat → Prop} {w : World} {r : Nat} {img : List Int} {puts : List (Nat × List Int)} {fu : Int} {off : Bool} {nb : Nat} (h : Rk X w r img puts fu off nb) (k : Int) (hk : k ≤ 9223372036854775807) :
    Calls Try.prog 36 #[.pointer (some ⟨r, 0, none⟩), .int .i64 k] w fun e w' => e = .returned (.int .i64 (fuseR off k)) ∧ Rk X w' r img puts (if fuseR off k = 0 then k else fu) off nb ∧ But X w w' := by
  obtain ⟨lv, pv, h⟩ := h
  have q2 := h.blk.cell 2
  have f3 := h.blk.frozen 3
  have q3 := h.blk.cell 3
  simp only [List.getElem?_toArray, List.getElem?_cons_succ, List.getElem?_cons_zero] at q2 q3
  have H := hid h
  clear h
  go_enter Try.func36, Try.ntmps36
  cases off
  · by_cases hx : k < -1
    · have e : fuseR false k = 25 := by simp [fuseR, hx]
      rw [e]
      go_wp2
      go_ret
      exact ⟨rfl, ⟨lv, pv, H.out⟩, But.refl _ _⟩
    · have e : fuseR false k = 0 := by simp [fuseR, hx]
      rw [e]
      go_wp2
      go_ret
      exact ⟨rfl, ⟨lv, pv, H.out.setF k ⟨by omega, hk⟩⟩, (But.refl X w).setCell (p := ⟨r, 3, none⟩) H.out.xr _⟩
  · have e : fuseR true k = 24 := by simp [fuseR]
    rw [e]
    go_wp2
    go_ret
    exact ⟨rfl, ⟨lv, pv, H.out⟩, But.refl _ _⟩

end Go.Proofs.Yteokekllbpkemaa
