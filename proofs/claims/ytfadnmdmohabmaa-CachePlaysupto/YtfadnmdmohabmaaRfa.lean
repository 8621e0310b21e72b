/-
  The document's disk: what it holds; Read, SetFuse, burns.
-/
import Derived.Test.YtfadnmdmohabmaaDke
namespace Go.Proofs.Ytfadnmdmohabmaa
open Go.RowKit

/-- block i of an image -/
def blkI (img : List Int) (i : Nat) : List Int := (img.drop (512 * i)).take 512
def lcs (img : List Int) (nb : Nat) : List Value := (List.range nb).map fun i => .string (strOfNums (blkI img i))
def rcs (puts : List (Nat × List Int)) : List Value := puts.flatMap fun q => [.int .i64 (q.1 : Int), .string (strOfNums q.2)]
theorem rcs_snoc (puts : List (Nat × List Int)) (q : Nat × List Int) : rcs (puts ++ [q]) = rcs puts ++ [.int .i64 (q.1 : Int), .string (strOfNums q.2)] := by simp [rcs]
theorem rcs_get (puts : List (Nat × List Int)) : ∀ i q, puts[i]? = some q → (rcs puts)[i * 2]? = some (.int .i64 (q.1 : Int)) ∧ (rcs puts)[i * 2 + 1]? = some (.string (strOfNums q.2)) := by
  induction puts with
  | nil => intro i d h; simp at h
  | cons e r ih =>
    intro i d h
    match i with
    | 0 => simp at h; subst h; exact ⟨rfl, rfl⟩
    | i + 1 =>
      have := ih i d (by simpa using h)
      have e1 : (i + 1) * 2 = i * 2 + 2 := by omega
      rw [e1]
      exact this
theorem lcs_get {img : List Int} {nb i : Nat} (h : i < nb) : (lcs img nb)[i]? = some (.string (strOfNums (blkI img i))) := by simp [lcs, h]

def Rfb (w : World) (r : Nat) (lv pv : Value) (off : Bool) (fu : Int) : Prop := w.heap[r]? = some (.cells #[lv, pv, .bool off, .int .i64 fu] 87 (0, 0))
theorem Rfb.lt {w : World} {r : Nat} {lv pv : Value} {off : Bool} {fu : Int} (h : Rfb w r lv pv off fu) : r < w.heap.size := (Array.getElem?_eq_some_iff.1 h).1
theorem Rfb.cell {w : World} {r : Nat} {lv pv : Value} {off : Bool} {fu : Int} (h : Rfb w r lv pv off fu) (t : Nat) : w.cell? ⟨r, t, none⟩ = #[lv, pv, .bool off, .int .i64 fu][t]? := by
  unfold Rfb at h
  simp [World.cell?, h]
theorem Rfb.frozen {w : World} {r : Nat} {lv pv : Value} {off : Bool} {fu : Int} (h : Rfb w r lv pv off fu) (t : Nat) : w.frozen? ⟨r, t, none⟩ = false := by
  unfold Rfb at h
  simp [World.frozen?, h]
theorem Rfb.of_block {w w' : World} {r : Nat} {lv pv : Value} {off : Bool} {fu : Int} (h : Rfb w r lv pv off fu) (hw : w'.heap[r]? = w.heap[r]?) : Rfb w' r lv pv off fu := hw.trans h
theorem Rfb.set {w : World} {r : Nat} {lv pv : Value} {off : Bool} {fu : Int} (h : Rfb w r lv pv off fu) (t : Nat) (v : Value) : (w.setCell ⟨r, t, none⟩ v).heap[r]? = some (.cells (#[lv, pv, .bool off, .int .i64 fu].setIfInBounds t v) 87 (0, 0)) := by
  unfold Rfb at h
  simp only [World.setCell, Array.getElem?_modify]
  rw [h]
  simp
/-- the document's disk in block r -/
structure RkW (X : Nat → Prop) (w : World) (r : Nat) (img : List Int) (puts : List (Nat × List Int)) (fu : Int) (off : Bool) (lv pv : Value) (nb : Nat) : Prop where
  blk : Rfb w r lv pv off fu
  rowL : w.ownsRow 0 9 1 lv nb (lcs img nb)
  rowP : w.ownsRow 0 132 2 pv puts.length (rcs puts)
  len : img.length = 512 * nb
  lo : 1 ≤ nb
  hi : nb ≤ 524288
  dat : ∀ q ∈ puts, q.1 < nb ∧ q.2.length = 512
  xr : X r
  xl : ∀ g, lv.ownBlock = some g → X g
  xp : ∀ g, pv.ownBlock = some g → X g
  fus : -1 ≤ fu ∧ fu ≤ 9223372036854775807
def Rk (X : Nat → Prop) (w : World) (r : Nat) (img : List Int) (puts : List (Nat × List Int)) (fu : Int) (off : Bool) (nb : Nat) : Prop := ∃ lv pv, RkW X w r img puts fu off lv pv nb
theorem RkW.keep {X : Nat → Prop} {w w' : World} {r : Nat} {img : List Int} {puts : List (Nat × List Int)} {fu : Int} {off : Bool} {lv pv : Value} {nb : Nat} (h : RkW X w r img puts fu off lv pv nb) (hk : ∀ x, X x → x < w.heap.size → w'.heap[x]? = w.heap[x]?) : RkW X w' r img puts fu off lv pv nb :=
  ⟨h.blk.of_block (hk r h.xr h.blk.lt), owns_keep h.rowL (fun g e => hk g (h.xl g e) (World.ownsRow.lt h.rowL g e).2), owns_keep h.rowP (fun g e => hk g (h.xp g e) (World.ownsRow.lt h.rowP g e).2), h.len, h.lo, h.hi, h.dat, h.xr, h.xl, h.xp, h.fus⟩
theorem Rk.keep {X : Nat → Prop} {w w' : World} {r : Nat} {img : List Int} {puts : List (Nat × List Int)} {fu : Int} {off : Bool} {nb : Nat} (h : Rk X w r img puts fu off nb) (hk : ∀ x, X x → x < w.heap.size → w'.heap[x]? = w.heap[x]?) : Rk X w' r img puts fu off nb := by
  obtain ⟨lv, pv, h⟩ := h
  exact ⟨lv, pv, h.keep hk⟩
theorem Rk.but {X Y : Nat → Prop} {w w' : World} {r : Nat} {img : List Int} {puts : List (Nat × List Int)} {fu : Int} {off : Bool} {nb : Nat} (h : Rk X w r img puts fu off nb) (hb : But Y w w') (hx : ∀ x, X x → ¬ Y x) : Rk X w' r img puts fu off nb := h.keep (fun x h1 h2 => hb.block x h2 (hx x h1))
theorem Rk.below {X : Nat → Prop} {w w' : World} {r : Nat} {img : List Int} {puts : List (Nat × List Int)} {fu : Int} {off : Bool} {nb : Nat} (h : Rk X w r img puts fu off nb) (hb : Below w.heap.size w w') : Rk X w' r img puts fu off nb := h.keep (fun x _ h2 => hb.block x h2)
theorem Rk.mono {X X' : Nat → Prop} {w : World} {r : Nat} {img : List Int} {puts : List (Nat × List Int)} {fu : Int} {off : Bool} {nb : Nat} (h : Rk X w r img puts fu off nb) (hx : ∀ x, X x → X' x) : Rk X' w r img puts fu off nb := by
  obtain ⟨lv, pv, h⟩ := h
  exact ⟨lv, pv, h.blk, h.rowL, h.rowP, h.len, h.lo, h.hi, h.dat, hx _ h.xr, fun g e => hx g (h.xl g e), fun g e => hx g (h.xp g e), h.fus⟩
theorem RkW.apart {X : Nat → Prop} {w : World} {r : Nat} {img : List Int} {puts : List (Nat × List Int)} {fu : Int} {off : Bool} {lv pv : Value} {nb : Nat} (h : RkW X w r img puts fu off lv pv nb) : (∀ g, lv.ownBlock = some g → g ≠ r) ∧ (∀ g, pv.ownBlock = some g → g ≠ r) ∧ ∀ g g', lv.ownBlock = some g → pv.ownBlock = some g' → g ≠ g' := by
  have hr : w.heap[r]? = _ := h.blk
  refine ⟨fun g hg e => ?_, fun g hg e => ?_, fun g g' hg hg' e => ?_⟩
  · obtain ⟨c, hc⟩ := row_kind h.rowL hg
    rw [e, hr] at hc; cases hc
  · obtain ⟨c, hc⟩ := row_kind h.rowP hg
    rw [e, hr] at hc; cases hc
  · obtain ⟨c, hc⟩ := row_kind h.rowL hg
    obtain ⟨c', hc'⟩ := row_kind h.rowP hg'
    rw [e, hc'] at hc; cases hc
theorem RkW.reblk {X : Nat → Prop} {w : World} {r : Nat} {img : List Int} {puts : List (Nat × List Int)} {fu fu' : Int} {off off' : Bool} {lv pv : Value} {nb : Nat} (h : RkW X w r img puts fu off lv pv nb) {t : Nat} {v : Value} (hb : Rfb (w.setCell ⟨r, t, none⟩ v) r lv pv off' fu') (hf : -1 ≤ fu' ∧ fu' ≤ 9223372036854775807) : RkW X (w.setCell ⟨r, t, none⟩ v) r img puts fu' off' lv pv nb := by
  obtain ⟨a1, a2, _⟩ := h.apart
  exact ⟨hb, owns_keep h.rowL (fun g e => Below.heap_setCell _ _ _ _ (a1 g e)), owns_keep h.rowP (fun g e => Below.heap_setCell _ _ _ _ (a2 g e)), h.len, h.lo, h.hi, h.dat, h.xr, h.xl, h.xp, hf⟩
theorem RkW.setF {X : Nat → Prop} {w : World} {r : Nat} {img : List Int} {puts : List (Nat × List Int)} {fu : Int} {off : Bool} {lv pv : Value} {nb : Nat} (h : RkW X w r img puts fu off lv pv nb) (k : Int) (hk : -1 ≤ k ∧ k ≤ 9223372036854775807) : RkW X (w.setCell ⟨r, 3, none⟩ (.int .i64 k)) r img puts k off lv pv nb := h.reblk (by unfold Rfb; simpa using h.blk.set 3 (.int .i64 k)) hk
theorem RkW.setO {X : Nat → Prop} {w : World} {r : Nat} {img : List Int} {puts : List (Nat × List Int)} {fu : Int} {off : Bool} {lv pv : Value} {nb : Nat} (h : RkW X w r img puts fu off lv pv nb) (b : Bool) : RkW X (w.setCell ⟨r, 2, none⟩ (.bool b)) r img puts fu b lv pv nb := h.reblk (by unfold Rfb; simpa using h.blk.set 2 (.bool b)) h.fus

theorem one_cell {w : World} {base e n c : Nat} {a : Option Addr} {xs : List Value} (h : w.ownsRow base e 1 (.slice a n c) n xs) (hn : 0 < n) : ∃ g, a = some ⟨g, 0, none⟩ ∧ g < w.heap.size ∧ ∀ i u, xs[i]? = some u → w.cell? ⟨g, i, none⟩ = some u := by
  rcases h with ⟨h0, h⟩
  rcases h with ⟨h1, h2⟩ | ⟨g, cap, cur, h1, h2, h3, h4, h5, h6, h7⟩
  · omega
  · cases h1
    refine ⟨g, rfl, (Array.getElem?_eq_some_iff.1 h3).1, fun i u hu => ?_⟩
    have hi : i < n * 1 := by have := (List.getElem?_eq_some_iff.1 hu).1; omega
    rw [← h7, List.getElem?_take_of_lt hi] at hu
    simp only [World.cell?, h3]
    simpa using hu

/-- burns -/
theorem burns_any {X : Nat → Prop} {w : World} {r : Nat} {img : List Int} {puts : List (Nat × List Int)} {fu : Int} {off : Bool} {lv pv : Value} {nb : Nat} (h : RkW X w r img puts fu off lv pv nb) :
    Calls Try.prog 84 #[.pointer (some ⟨r, 0, none⟩)] w fun e w' => e = .returned (.bool (decide (burnC fu = 0))) ∧ RkW X w' r img puts (burnF fu) (burnO fu off) lv pv nb ∧ But (fun x => x = r) w w' := by
  have hf := h.fus
  have q3 := h.blk.cell 3
  have q2 := h.blk.cell 2
  have f3 := h.blk.frozen 3
  have f2 := h.blk.frozen 2
  simp only [List.getElem?_toArray, List.getElem?_cons_succ, List.getElem?_cons_zero] at q3 q2
  have H := hid h
  clear h
  go_enter Try.func84, Try.ntmps84
  by_cases h2 : fu = 0
  · subst h2
    go_wp2
    go_ret
    exact ⟨rfl, H.out.setO true, (But.refl (fun x => x = r) w).setCell (p := ⟨r, 2, none⟩) (show (fun x => x = r) r from rfl) _⟩
  · by_cases h1 : fu = -1
    · subst h1
      go_wp2
      go_ret
      exact ⟨rfl, H.out, But.refl _ _⟩
    · have hp : 0 < fu := by omega
      have e1 : burnC fu = 0 := if_neg h2
      have e2 : burnF fu = fu - 1 := by unfold burnF; rw [if_neg h1, if_neg h2]
      have e3 : burnO fu off = off := if_neg h2
      rw [e1, e2, e3]
      clear e1 e2 e3
      go_wp2
      go_ret
      exact ⟨rfl, H.out.setF (fu - 1) (by omega), (But.refl (fun x => x = r) w).setCell (p := ⟨r, 3, none⟩) (show (fun x => x = r) r from rfl) _⟩

theorem SetFuse_any {X : Nat → Prop} {w : World} {r : Nat} {img : List Int} {puts : List (Nat × List Int)} {fu : Int} {off : Bool} {nb : Nat} (h : Rk X w r img puts fu off nb) (k : Int) (hk : k ≤ 9223372036854775807) :
    Calls Try.prog 52 #[.pointer (some ⟨r, 0, none⟩), .int .i64 k] w fun e w' => e = .returned (.int .i64 (fuseR off k)) ∧ Rk X w' r img puts (if fuseR off k = 0 then k else fu) off nb ∧ But X w w' := by
  obtain ⟨lv, pv, h⟩ := h
  have q2 := h.blk.cell 2
  have f3 := h.blk.frozen 3
  have q3 := h.blk.cell 3
  simp only [List.getElem?_toArray, List.getElem?_cons_succ, List.getElem?_cons_zero] at q2 q3
  have H := hid h
  clear h
  go_enter Try.func52, Try.ntmps52
  cases off
  · by_cases hx : k < -1
    · have e : fuseR false k = 25 := by simp [fuseR, hx]
      rw [e]
      go_wp2
      go_ret
      exact ⟨rfl, ⟨lv, pv, H.out⟩, But.refl _ _⟩
    · have e : fuseR false k = 0 := by simp [fuseR, hx]
      rw [e]
      go_wp2
      go_ret
      exact ⟨rfl, ⟨lv, pv, H.out.setF k ⟨by omega, hk⟩⟩, (But.refl X w).setCell (p := ⟨r, 3, none⟩) H.out.xr _⟩
  · have e : fuseR true k = 24 := by simp [fuseR]
    rw [e]
    go_wp2
    go_ret
    exact ⟨rfl, ⟨lv, pv, H.out⟩, But.refl _ _⟩

end Go.Proofs.Ytfadnmdmohabmaa

/-
  The document's disk: Read, Pending, Write.
-/
namespace Go.Proofs.Ytfadnmdmohabmaa
open Go.RowKit

def seenK (img : List Int) (puts : List (Nat × List Int)) (x k : Nat) : List Int := (puts.take k).foldl (fun s q => if q.1 = x then q.2 else s) (blkI img x)
theorem seenK_all (img : List Int) (puts : List (Nat × List Int)) (x : Nat) : seenK img puts x puts.length = seenZ img puts x := by unfold seenK; rw [List.take_length]; rfl

set_option maxRecDepth 100000 in
set_option maxHeartbeats 1000000 in
theorem refRead_any {X : Nat → Prop} {w : World} {r : Nat} {img : List Int} {puts : List (Nat × List Int)} {fu : Int} {off : Bool} {nb : Nat} (h : Rk X w r img puts fu off nb) (x : Int) (hl : puts.length ≤ 1073741824) :
    Calls Try.prog 73 #[.pointer (some ⟨r, 0, none⟩), .int .i64 x] w fun e w' => e = .returned (.tuple #[.string (strOfNums (readR img puts off nb x).2), .int .i64 (readR img puts off nb x).1]) ∧ w' = w := by
  obtain ⟨lv, pv, h⟩ := h
  obtain ⟨aL, cL, rfl, _⟩ := owns_slice h.rowL
  obtain ⟨aP, cP, rfl, _⟩ := owns_slice h.rowP
  have q0 := h.blk.cell 0
  have q1 := h.blk.cell 1
  have q2 := h.blk.cell 2
  simp only [List.getElem?_toArray, List.getElem?_cons_succ, List.getElem?_cons_zero] at q0 q1 q2
  have hhi := h.hi
  have hlo := h.lo
  cases off
  · by_cases hx : x < 0 ∨ (nb : Int) ≤ x
    · have hr : readR img puts false nb x = (22, []) := by simp only [readR, if_pos hx, Bool.false_eq_true, if_false]
      rw [hr]
      clear h hr
      go_enter Try.func73, Try.ntmps73
      by_cases h1 : x < 0
      · go_wp2
        go_ret2
        exact ⟨rfl, rfl⟩
      · have h2 : (nb : Int) ≤ x := by omega
        go_wp2
        go_ret2
        exact ⟨rfl, rfl⟩
    · obtain ⟨y, rfl⟩ : ∃ y : Nat, x = y := ⟨x.toNat, by omega⟩
      have hr : readR img puts false nb (y : Int) = (0, seenZ img puts y) := by simp only [readR, if_neg hx, Bool.false_eq_true, if_false, Int.toNat_natCast]
      rw [hr]
      have hy : y < nb := by omega
      have n1 : ¬ ((y : Int) < 0) := by omega
      have n2 : ¬ ((nb : Int) ≤ (y : Int)) := by omega
      have n3 : (y : Int) < (nb : Int) := by omega
      obtain ⟨gL, rfl, hgL, hcL⟩ := one_cell h.rowL (by omega)
      have r0 := hcL _ _ (lcs_get (img := img) hy)
      have HP : Hid (puts.length = 0 ∨ ∃ gP, aP = some ⟨gP, 0, none⟩ ∧ ∀ i q, puts[i]? = some q → w.cell? ⟨gP, i * 2, none⟩ = some (.int .i64 (q.1 : Int)) ∧ w.cell? ⟨gP, i * 2 + 1, none⟩ = some (.string (strOfNums q.2))) := by
        show _ ∨ _
        by_cases h0 : puts.length = 0
        · exact .inl h0
        · obtain ⟨g, e, _, hc⟩ := wide_cell h.rowP (by omega)
          exact .inr ⟨g, e, fun i q hi => ⟨hc _ _ (rcs_get puts i q hi).1, hc _ _ (rcs_get puts i q hi).2⟩⟩
      clear h hr hcL hx
      go_enter Try.func73, Try.ntmps73
      go_wp2_with fail
      go_loopw [6, 7] (fun s i wt => ∃ k : Nat, k ≤ puts.length ∧ i = .int .i64 (k : Int) ∧ s = .string (strOfNums (seenK img puts y k)) ∧ wt = w) (fun _ i _ => puts.length - (intOf i).toNat)
      case atStart => exact ⟨0, Nat.zero_le _, rfl, rfl, rfl⟩
      case round =>
        obtain ⟨k, hk, rfl, rfl, rfl⟩ := hrel
        by_cases hkn : k < puts.length
        · obtain ⟨gP, rfl, hcs⟩ := HP.out.resolve_left (by omega)
          have hd : puts[k]? = some puts[k] := List.getElem?_eq_getElem hkn
          obtain ⟨c0, c1⟩ := hcs k _ hd
          have hkn' : (k : Int) < (puts.length : Int) := by omega
          have hst : seenK img puts y (k + 1) = if puts[k].1 = y then puts[k].2 else seenK img puts y k := fold_snoc _ _ _ hkn
          generalize puts[k] = q at *
          clear hcs hd
          by_cases he : q.1 = y
          · rw [if_pos he] at hst
            have he' : (q.1 : Int) = (y : Int) := by omega
            have Hst := hid hst
            clear hst
            go_wp2_with fail
            go_roundw
            case rel => exact ⟨k + 1, by omega, by go_num, by rw [Hst.out], by first | rfl | trivial⟩
            case measure => simp [intOf]; omega
          · rw [if_neg he] at hst
            have he' : ¬ (q.1 : Int) = (y : Int) := by omega
            have Hst := hid hst
            clear hst
            go_wp2_with fail
            go_roundw
            case rel => exact ⟨k + 1, by omega, by go_num, by rw [Hst.out], by first | rfl | trivial⟩
            case measure => simp [intOf]; omega
        · obtain rfl : k = puts.length := by omega
          rw [seenK_all]
          generalize hS : strOfNums (seenZ img puts y) = S at *
          go_wp2
          go_ret2
          subst hS
          exact ⟨rfl, rfl⟩
  · have hr : readR img puts true nb x = (24, []) := by simp only [readR, if_true]
    rw [hr]
    clear h hr
    go_enter Try.func73, Try.ntmps73
    go_wp2
    go_ret2
    exact ⟨rfl, rfl⟩

theorem newsV1 (w : World) (v : Value) (t : TypeId) {S : Nat} (hS : w.heap.size = S) : ∀ j u, [v][j]? = some u → (w.alloc (.cells #[v] t)).cell? ((⟨S, 0, none⟩ : Addr).add j) = some u := by
  subst hS
  intro j u h
  match j, h with
  | 0, h => simp at h; subst h; simp [Addr.add]

def atsQ (puts : List (Nat × List Int)) : List Int := puts.map fun q => (q.1 : Int)
set_option maxRecDepth 100000 in
set_option maxHeartbeats 1000000 in
theorem refPending_any {X : Nat → Prop} {w : World} {r : Nat} {img : List Int} {puts : List (Nat × List Int)} {fu : Int} {off : Bool} {nb : Nat} (h : Rk X w r img puts fu off nb) (hl : puts.length ≤ 1073741824) :
    Calls Try.prog 56 #[.pointer (some ⟨r, 0, none⟩)] w fun e w' => ∃ a c, e = .returned (.slice a puts.length c) ∧ RdI w'.heap.size w' a puts.length (atsQ puts) ∧ Below w.heap.size w w' := by
  obtain ⟨lv, pv, h⟩ := h
  obtain ⟨aP, cP, rfl, _⟩ := owns_slice h.rowP
  have q1 := h.blk.cell 1
  simp only [List.getElem?_toArray, List.getElem?_cons_succ, List.getElem?_cons_zero] at q1
  have hrl := h.blk.lt
  have hla : (atsQ puts).length = puts.length := by simp [atsQ]
  have HP : Hid (puts.length = 0 ∨ ∃ gP, aP = some ⟨gP, 0, none⟩ ∧ gP < w.heap.size ∧ ∀ i q, puts[i]? = some q → w.cell? ⟨gP, i * 2, none⟩ = some (.int .i64 (q.1 : Int))) := by
    show _ ∨ _
    by_cases h0 : puts.length = 0
    · exact .inl h0
    · obtain ⟨g, e, hg, hc⟩ := wide_cell h.rowP (by omega)
      exact .inr ⟨g, e, hg, fun i q hi => hc _ _ (rcs_get puts i q hi).1⟩
  obtain ⟨i3, hi3, hz3, hs3, hb3⟩ := info_parts infoI
  clear h
  go_enter Try.func56, Try.ntmps56
  go_wp2_with fail
  go_loopw [3, 4] (fun v i wt => ∃ k : Nat, k ≤ puts.length ∧ i = .int .i64 (k : Int) ∧ OwI w.heap.size wt v k ((atsQ puts).take k) ∧ Below w.heap.size w wt) (fun _ i _ => puts.length - (intOf i).toNat)
  case atStart => exact ⟨0, Nat.zero_le _, rfl, OwI.nil _ _, Below.refl _ _⟩
  case round =>
    obtain ⟨k, hk, rfl, hO, hbt⟩ := hrel
    have r1 := (hbt.cell (p := ⟨r, 1, none⟩) hrl).trans q1
    by_cases hkn : k < puts.length
    · obtain ⟨gP, rfl, hgP, hcs⟩ := HP.out.resolve_left (by omega)
      have hd : puts[k]? = some puts[k] := List.getElem?_eq_getElem hkn
      have c0 := (hbt.cell (p := ⟨gP, k * 2, none⟩) hgP).trans (hcs k _ hd)
      have hkn' : (k : Int) < (puts.length : Int) := by omega
      have hst : (atsQ puts).take (k + 1) = (atsQ puts).take k ++ [(puts[k].1 : Int)] := by
        rw [List.take_succ_eq_append_getElem (by omega)]
        simp [atsQ]
      generalize puts[k] = q at *
      have HOa := hid (hO.alloc (.cells #[.int .i64 (q.1 : Int)] 3))
      have Hst := hid hst
      have Hbt := hid hbt
      have hws : w.heap.size ≤ wr.heap.size := hbt.size
      obtain ⟨aO, cO, rfl, _⟩ := owns_slice hO
      clear hcs hd hst hO hbt
      go_wp2_with (at_builtin; refine wpList_append_lies _ rfl _ _ 43 (by rfl) w.heap.size 3 i3 (.int .i64 0) 1 8 Try.underlying43 hi3 hz3 hs3 hb3 rfl (by decide) _ k (((atsQ puts).take k).map (Value.int .i64)) (by rfl) HOa.out ⟨wr.heap.size, 0, none⟩ 1 1 [.int .i64 (q.1 : Int)] (by rfl) (by rfl) (by exact newsV1 _ _ _ rfl) (by intro u hu; simp at hu; subst hu; rfl) (by decide) (by unfold maxLen; omega) (by omega) (by simp; omega) (wr.heap.size + 1) (by simp) ?_)
      intro g4 cap4 w6 ho4 hg4 hlie4 _
      have HO4 := hid ho4
      have HB4 := hid ((Hbt.out.alloc hws (.cells #[.int .i64 (q.1 : Int)] 3)).grown hg4 (by simp; omega) (fun x e => (World.ownsRow.lt HOa.out x e).1))
      clear ho4 hg4 hlie4 c0 r1
      go_wp2_with fail
      go_roundw
      case rel => exact ⟨k + 1, by omega, by go_num, by rw [Hst.out]; unfold OwI; rw [List.map_append, List.map_take]; exact HO4.out, HB4.out⟩
      case measure => simp [intOf]; omega
    · obtain rfl : k = puts.length := by omega
      obtain ⟨aO, cO, rfl, _⟩ := owns_slice hO
      have HO := hid hO
      have Hbt := hid hbt
      clear hO hbt
      go_wp2
      go_ret
      refine ⟨aO, cO, rfl, ?_, Hbt.out⟩
      have := HO.out.rdi
      rw [← hla, List.take_length] at this
      rw [← hla]
      exact this

theorem info98 : (Try.prog.info? 132).map (fun i => (i.zero, i.size, i.bytes)) = some (some (.agg #[.int .i64 0, .string ⟨#[]⟩]), 2, 24) := by kernel_rfl

end Go.Proofs.Ytfadnmdmohabmaa
