/-
  The record of numbers (cisternlaw1's Ints): its blocks, each by a tag of its own (0 the record, 1 Fresh, 2 Was, 3 Bases, 4 Kept, 5 Marks, 6 + i the i-th list untouched, 100 what is only read, 200 others').
-/
import Derived.Test.YteaebdonnicbkaaShf
namespace Go.Proofs.Yteaebdonnicbkaa
open Go.RowKit

def Inb (w : World) (q : Nat) (cnt tot : Int) (fr wa ba : Value) (lk : Int) (ke ma : Value) : Prop := w.heap[q]? = some (.cells #[.int .i64 cnt, .int .i64 tot, .bool false, fr, wa, ba, .int .i64 lk, ke, ma] 67 (0, 0))
theorem Inb.lt {w : World} {q : Nat} {cnt tot : Int} {fr wa ba : Value} {lk : Int} {ke ma : Value} (h : Inb w q cnt tot fr wa ba lk ke ma) : q < w.heap.size := (Array.getElem?_eq_some_iff.1 h).1
theorem Inb.cell {w : World} {q : Nat} {cnt tot : Int} {fr wa ba : Value} {lk : Int} {ke ma : Value} (h : Inb w q cnt tot fr wa ba lk ke ma) (t : Nat) : w.cell? ⟨q, t, none⟩ = #[Value.int .i64 cnt, .int .i64 tot, .bool false, fr, wa, ba, .int .i64 lk, ke, ma][t]? := by
  unfold Inb at h
  simp [World.cell?, h]
theorem Inb.frozen {w : World} {q : Nat} {cnt tot : Int} {fr wa ba : Value} {lk : Int} {ke ma : Value} (h : Inb w q cnt tot fr wa ba lk ke ma) (t : Nat) : w.frozen? ⟨q, t, none⟩ = false := by
  unfold Inb at h
  simp [World.frozen?, h]
theorem Inb.of_block {w w' : World} {q : Nat} {cnt tot : Int} {fr wa ba : Value} {lk : Int} {ke ma : Value} (h : Inb w q cnt tot fr wa ba lk ke ma) (hw : w'.heap[q]? = w.heap[q]?) : Inb w' q cnt tot fr wa ba lk ke ma := hw.trans h
theorem Inb.set {w : World} {q : Nat} {cnt tot : Int} {fr wa ba : Value} {lk : Int} {ke ma : Value} (h : Inb w q cnt tot fr wa ba lk ke ma) (t : Nat) (v : Value) : (w.setCell ⟨q, t, none⟩ v).heap[q]? = some (.cells (#[.int .i64 cnt, .int .i64 tot, .bool false, fr, wa, ba, .int .i64 lk, ke, ma].setIfInBounds t v) 67 (0, 0)) := by
  unfold Inb at h
  simp only [World.setCell, Array.getElem?_modify]
  rw [h]
  simp

/-- numbers that are only read, by their value -/
def Sl3 (κ : Nat → Nat) (w : World) (v : Value) (zs : List Int) : Prop :=
  ∃ a c, v = .slice a zs.length c ∧ (zs = [] ∨ ∃ g, a = some ⟨g, 0, none⟩ ∧ κ g = 100 ∧ g < w.heap.size ∧ ∀ t, t < zs.length → w.cell? ⟨g, t, none⟩ = some (.int .i64 (zs.getD t 0)))
theorem Sl3.keep {κ κ' : Nat → Nat} {w w' : World} {v : Value} {zs : List Int} (h : Sl3 κ w v zs) (hs : w.heap.size ≤ w'.heap.size) (hk : ∀ g, g < w.heap.size → κ g = 100 → w'.heap[g]? = w.heap[g]?) (hκ : ∀ g, g < w.heap.size → κ g = 100 → κ' g = 100) : Sl3 κ' w' v zs := by
  obtain ⟨a, c, e, h⟩ := h
  refine ⟨a, c, e, ?_⟩
  rcases h with h | ⟨g, h1, h2, h3, h4⟩
  · exact .inl h
  · exact .inr ⟨g, h1, hκ g h3 h2, by omega, fun t ht => (World.cell?_of_block (w := w) (a := ⟨g, t, none⟩) (hk g h3 h2)).trans (h4 t ht)⟩

structure In (B : Nat) (κ : Nat → Nat) (w : World) (q : Nat) (cnt tot lk : Int) (lo n nK nM : Nat) (fr wa ba ke ma : Value) (fv hv kv : List Value) (bs ms : List Int) (Z K : Nat → List Int) : Prop where
  blk : Inb w q cnt tot fr wa ba lk ke ma
  kq : κ q = 0
  qB : B ≤ q
  oF : w.ownsRow B 36 1 fr n fv
  kF : ∀ g, fr.ownBlock = some g → κ g = 1
  oW : w.ownsRow B 36 1 wa n hv
  kW : ∀ g, wa.ownBlock = some g → κ g = 2
  oB : OwI B w ba n bs
  kB : ∀ g, ba.ownBlock = some g → κ g = 3
  oK : w.ownsRow B 36 1 ke nK kv
  kK : ∀ g, ke.ownBlock = some g → κ g = 4
  oM : OwI B w ma nM ms
  kM : ∀ g, ma.ownBlock = some g → κ g = 5
  fs : ∀ i, lo ≤ i → i < n → (fv.getD i (.bool false) = .slice none 0 0 ∧ Z i = []) ∨ ∃ g, fv.getD i (.bool false) = .slice (some ⟨g, 0, none⟩) (Z i).length (Z i).length ∧ Blk .i64 3 w g (Z i) ∧ κ g = 6 + i ∧ B ≤ g
  ks : ∀ j, j < nK → Sl3 κ w (kv.getD j (.bool false)) (K j)

/-- all but what bears the tag t is as it was -/
def Kp (κ : Nat → Nat) (t : Nat) (w w' : World) : Prop := w.heap.size ≤ w'.heap.size ∧ ∀ g, g < w.heap.size → κ g ≠ t → w'.heap[g]? = w.heap[g]?
theorem Kp.of_but {κ : Nat → Nat} {t : Nat} {X : Nat → Prop} {w w' : World} (h : But X w w') (hX : ∀ g, g < w.heap.size → X g → κ g = t) : Kp κ t w w' :=
  ⟨h.size, fun g hg hk => h.block g hg (fun hx => hk (hX g hg hx))⟩
theorem row_kp {κ : Nat → Nat} {t s : Nat} {w w' : World} {B e n : Nat} {v : Value} {xs : List Value} (h : w.ownsRow B e 1 v n xs) (hk : ∀ g, v.ownBlock = some g → κ g = s) (kp : Kp κ t w w') (hts : s ≠ t) : w'.ownsRow B e 1 v n xs :=
  owns_keep h (fun g hg => kp.2 g (World.ownsRow.lt h g hg).2 (by rw [hk g hg]; exact hts))
theorem In.kept {B : Nat} {κ : Nat → Nat} {w w' : World} {q : Nat} {cnt tot lk : Int} {lo n nK nM : Nat} {fr wa ba ke ma : Value} {fv hv kv : List Value} {bs ms : List Int} {Z K : Nat → List Int}
    (h : In B κ w q cnt tot lk lo n nK nM fr wa ba ke ma fv hv kv bs ms Z K) {t : Nat} (kp : Kp κ t w w') (ht : 200 ≤ t) (hn : n ≤ 90) : In B κ w' q cnt tot lk lo n nK nM fr wa ba ke ma fv hv kv bs ms Z K := by
  refine ⟨h.blk.of_block (kp.2 q h.blk.lt (by rw [h.kq]; omega)), h.kq, h.qB, row_kp h.oF h.kF kp (by omega), h.kF, row_kp h.oW h.kW kp (by omega), h.kW, row_kp h.oB h.kB kp (by omega), h.kB, row_kp h.oK h.kK kp (by omega), h.kK, row_kp h.oM h.kM kp (by omega), h.kM, ?_, ?_⟩
  · intro i h1 h2
    rcases h.fs i h1 h2 with q | ⟨g, q1, q2, q3, q4⟩
    · exact .inl q
    · exact .inr ⟨g, q1, q2.of_block (kp.2 g q2.lt (by omega)), q3, q4⟩
  · intro j hj
    exact (h.ks j hj).keep kp.1 (fun g hg hk => kp.2 g hg (by omega)) (fun g _ hk => hk)
theorem Kp.below {κ : Nat → Nat} {t : Nat} {w w' : World} (h : Below w.heap.size w w') : Kp κ t w w' := ⟨h.size, fun g hg _ => h.block g hg⟩

/-- the i-th list untouched: its cells -/
theorem In.fcell {B : Nat} {κ : Nat → Nat} {w : World} {q : Nat} {cnt tot lk : Int} {lo n nK nM : Nat} {fr wa ba ke ma : Value} {fv hv kv : List Value} {bs ms : List Int} {Z K : Nat → List Int}
    (h : In B κ w q cnt tot lk lo n nK nM fr wa ba ke ma fv hv kv bs ms Z K) {i : Nat} (h1 : lo ≤ i) (h2 : i < n) : ∃ a, fv.getD i (.bool false) = .slice a (Z i).length (Z i).length ∧ ((Z i).length = 0 ∨ ∃ g, a = some ⟨g, 0, none⟩ ∧ g < w.heap.size ∧ κ g = 6 + i ∧ Blk .i64 3 w g (Z i)) := by
  rcases h.fs i h1 h2 with ⟨q1, q2⟩ | ⟨g, q1, q2, q3, q4⟩
  · exact ⟨none, by rw [q1, q2]; rfl, .inl (by rw [q2]; rfl)⟩
  · exact ⟨_, q1, .inr ⟨g, rfl, q2.lt, q3, q2⟩⟩

end Go.Proofs.Yteaebdonnicbkaa

/-
  The record of numbers: untouched (function 62), kept (function 52).
-/
namespace Go.Proofs.Yteaebdonnicbkaa
open Go.RowKit

/-- a row's cells -/
theorem row_cell {w : World} {B e n : Nat} {v : Value} {xs : List Value} (h : w.ownsRow B e 1 v n xs) {i : Nat} (hi : i < n) : ∃ g c, v = .slice (some ⟨g, 0, none⟩) n c ∧ B ≤ g ∧ g < w.heap.size ∧ w.cell? ⟨g, i, none⟩ = some (xs.getD i (.bool false)) := by
  obtain ⟨a, c, rfl, _⟩ := owns_slice h
  obtain ⟨g, rfl, h1, h2, h3⟩ := owns_cells h (by omega)
  exact ⟨g, c, rfl, h1, h2, h3 i hi⟩
theorem But.setSame {X : Nat → Prop} {a w : World} (h : But X a w) {p : Addr} (hp : X p.block) (u : Value) : But X a (w.setCell p u) := h.setCell hp u
theorem In.bad {B : Nat} {κ : Nat → Nat} {w : World} {q : Nat} {cnt tot lk : Int} {lo n nK nM : Nat} {fr wa ba ke ma : Value} {fv hv kv : List Value} {bs ms : List Int} {Z K : Nat → List Int}
    (h : In B κ w q cnt tot lk lo n nK nM fr wa ba ke ma fv hv kv bs ms Z K) : In B κ (w.setCell ⟨q, 2, none⟩ (.bool false)) q cnt tot lk lo n nK nM fr wa ba ke ma fv hv kv bs ms Z K := by
  have hu : But (fun x => x = q) w (w.setCell ⟨q, 2, none⟩ (.bool false)) := (But.refl (fun x => x = q) w).setCell (p := ⟨q, 2, none⟩) (show (fun x => x = q) q from rfl) _
  have kp : Kp κ 0 w (w.setCell ⟨q, 2, none⟩ (.bool false)) := Kp.of_but hu (fun g _ e => by rw [e]; exact h.kq)
  have hb := h.blk.set 2 (.bool false)
  refine ⟨by unfold Inb; simpa using hb, h.kq, h.qB, row_kp h.oF h.kF kp (by omega), h.kF, row_kp h.oW h.kW kp (by omega), h.kW, row_kp h.oB h.kB kp (by omega), h.kB, row_kp h.oK h.kK kp (by omega), h.kK, row_kp h.oM h.kM kp (by omega), h.kM, ?_, ?_⟩
  · intro i h1 h2
    rcases h.fs i h1 h2 with q | ⟨g, q1, q2, q3, q4⟩
    · exact .inl q
    · exact .inr ⟨g, q1, q2.of_block (kp.2 g q2.lt (by omega)), q3, q4⟩
  · intro j hj
    exact (h.ks j hj).keep kp.1 (fun g hg hk => kp.2 g hg (by omega)) (fun g _ hk => hk)
theorem In.drewN {B : Nat} {κ : Nat → Nat} {w : World} {q : Nat} {cnt tot lk : Int} {lo n nK nM : Nat} {fr wa ba ke ma : Value} {fv hv kv : List Value} {bs ms : List Int} {Z K : Nat → List Int}
    (h : In B κ w q cnt tot lk lo n nK nM fr wa ba ke ma fv hv kv bs ms Z K) (hn : n ≤ 90) (m : Nat) : In B κ (w.drewN m) q cnt tot lk lo n nK nM fr wa ba ke ma fv hv kv bs ms Z K :=
  h.kept (t := 200) ⟨Nat.le_refl _, fun _ _ _ => rfl⟩ (Nat.le_refl _) hn
theorem Sl3.drewN {κ : Nat → Nat} {w : World} {v : Value} {zs : List Int} (h : Sl3 κ w v zs) (m : Nat) : Sl3 κ (w.drewN m) v zs := h.keep (Nat.le_refl _) (fun _ _ _ => rfl) (fun _ _ h => h)
theorem But.drewN' {X : Nat → Prop} {a w : World} (h : But X a w) (m : Nat) : But X a (w.drewN m) := ⟨h.os, h.tape, h.output, h.size, h.block⟩

/-- what the lists untouched held -/
def Hs3 (κ : Nat → Nat) (w : World) (n : Nat) (hv : List Value) (Z : Nat → List Int) : Prop := ∀ i, i < n → Sl3 κ w (hv.getD i (.bool false)) (Z i)
theorem Hs3.drewN {κ : Nat → Nat} {w : World} {n : Nat} {hv : List Value} {Z : Nat → List Int} (h : Hs3 κ w n hv Z) (m : Nat) : Hs3 κ (w.drewN m) n hv Z := fun i hi => (h i hi).drewN m
theorem Hs3.kp {κ : Nat → Nat} {t : Nat} {w w' : World} {n : Nat} {hv : List Value} {Z : Nat → List Int} (h : Hs3 κ w n hv Z) (kp : Kp κ t w w') (ht : t ≠ 100) : Hs3 κ w' n hv Z :=
  fun i hi => (h i hi).keep kp.1 (fun g hg hk => kp.2 g hg (by omega)) (fun g _ hk => hk)
theorem In.kp0 {B : Nat} {κ : Nat → Nat} {w : World} {q : Nat} {cnt tot lk : Int} {lo n nK nM : Nat} {fr wa ba ke ma : Value} {fv hv kv : List Value} {bs ms : List Int} {Z K : Nat → List Int}
    (h : In B κ w q cnt tot lk lo n nK nM fr wa ba ke ma fv hv kv bs ms Z K) (j : Nat) (u : Value) : Kp κ 0 w (w.setCell ⟨q, j, none⟩ u) :=
  Kp.of_but ((But.refl (fun x => x = q) w).setCell (p := ⟨q, j, none⟩) (show (fun x => x = q) q from rfl) _) (fun g _ e => by rw [e]; exact h.kq)

set_option maxRecDepth 100000 in
set_option maxHeartbeats 4000000 in
theorem iuntouched_any (B : Nat) (κ : Nat → Nat) (w : World) (q : Nat) (cnt tot lk : Int) (n nK nM : Nat) (fr wa ba ke ma : Value) (fv hv kv : List Value) (bs ms : List Int) (Z K : Nat → List Int) (hn : n ≤ 3) (hl : ∀ i, i < n → (Z i).length ≤ 67108864)
    (h : In B κ w q cnt tot lk 0 n nK nM fr wa ba ke ma fv hv kv bs ms Z K) (hh : Hs3 κ w n hv Z) :
    Calls Try.prog 62 #[.pointer (some ⟨q, 0, none⟩)] w fun e w' => e = .returned (.tuple #[]) ∧ In B κ w' q cnt tot lk 0 n nK nM fr wa ba ke ma fv hv kv bs ms Z K ∧ Hs3 κ w' n hv Z ∧ But (fun x => x = q) w w' := by
  obtain ⟨aF, cF, rfl, _⟩ := owns_slice h.oF
  obtain ⟨aW, cW, rfl, _⟩ := owns_slice h.oW
  have H := hid h
  have HH := hid hh
  clear h hh
  have q3 := H.out.blk.cell 3
  simp only [List.getElem?_toArray, List.getElem?_cons_succ, List.getElem?_cons_zero] at q3
  go_enter Try.func62, Try.ntmps62
  go_wp2_with fail
  clear q3
  go_loopw [2] (fun s2 wt => ∃ i : Nat, i ≤ n ∧ s2 = .int .i64 (i : Int) ∧ In B κ wt q cnt tot lk 0 n nK nM (.slice aF n cF) (.slice aW n cW) ba ke ma fv hv kv bs ms Z K ∧ Hs3 κ wt n hv Z ∧ But (fun x => x = q) w wt) (fun s2 _ => n - (intOf s2).toNat)
  case atStart => exact ⟨0, Nat.zero_le _, rfl, H.out, HH.out, But.refl _ _⟩
  case round =>
    clear H HH
    obtain ⟨i, hi, rfl, hI, hh, hu⟩ := hrel
    have q3 := hI.blk.cell 3
    have q4 := hI.blk.cell 4
    simp only [List.getElem?_toArray, List.getElem?_cons_succ, List.getElem?_cons_zero] at q3 q4
    by_cases hin : i < n
    · have hin' : (i : Int) < (n : Int) := by omega
      have HI := hid hI
      have HH := hid hh
      have HU := hid hu
      clear hI hh hu q3 q4
      obtain ⟨gF, cF', eF, _, lF, rF⟩ := row_cell HI.out.oF hin
      obtain ⟨af, ef, cf⟩ := HI.out.fcell (Nat.zero_le _) hin
      rw [ef] at rF
      cases eF
      have q3 := HI.out.blk.cell 3
      simp only [List.getElem?_toArray, List.getElem?_cons_succ, List.getElem?_cons_zero] at q3
      clear cf ef
      generalize hWO : wr = WO at *
      clear hWO
      go_wp2_with fail
      clear q3 rF
      go_loopw [3] (fun s3 wt => ∃ k : Nat, k ≤ (Z i).length ∧ s3 = .int .i64 (k : Int) ∧ In B κ wt q cnt tot lk 0 n nK nM (.slice (some ⟨gF, 0, none⟩) n cF) (.slice aW n cW) ba ke ma fv hv kv bs ms Z K ∧ Hs3 κ wt n hv Z ∧ But (fun x => x = q) w wt) (fun s3 _ => (Z i).length - (intOf s3).toNat)
      case atStart => exact ⟨0, Nat.zero_le _, rfl, HI.out, HH.out, HU.out⟩
      case round =>
        clear HI HH HU
        obtain ⟨k, hk, rfl, hI, hh, hu⟩ := hrel
        have q2 := hI.blk.cell 2
        have q3 := hI.blk.cell 3
        have q4 := hI.blk.cell 4
        have f2 := hI.blk.frozen 2
        simp only [List.getElem?_toArray, List.getElem?_cons_succ, List.getElem?_cons_zero] at q2 q3 q4
        obtain ⟨gF', cF2, eF, _, _, rF⟩ := row_cell hI.oF hin
        cases eF
        obtain ⟨gW, cW2, eW, _, _, rW⟩ := row_cell hI.oW hin
        cases eW
        obtain ⟨af, ef, cf⟩ := hI.fcell (Nat.zero_le _) hin
        obtain ⟨aw, cw, ew, cwl⟩ := hh i hin
        rw [ef] at rF
        rw [ew] at rW
        have hlen := hl i hin
        have hne3 : (67 : Nat) = 67 := rfl
        by_cases hkz : k < (Z i).length
        · have hkz' : (k : Int) < ((Z i).length : Int) := by omega
          obtain ⟨g, rfl, hg1, hg2, hg3⟩ := cf.resolve_left (by omega)
          obtain ⟨g', rfl, _, _, hg4⟩ := cwl.resolve_left (by intro e; rw [e] at hkz; simp at hkz)
          have c1 := hg3.cell k hkz
          have c2 := hg4 k hkz
          have HI := hid hI.bad
          have Hh2 := hid (hh.kp (hI.kp0 2 (.bool false)) (by decide))
          have HU := hid (hu.setCell (p := ⟨q, 2, none⟩) (show (fun x => x = q) q from rfl) (.bool false))
          clear hI hh hu hg3 hg4 ef ew hne3
          generalize (Z i).getD k 0 = x at *
          generalize hZ : (Z i).length = zl at *
          go_wp2_with fail
          go_quiet (fail)
          go_wp2
          go_roundw
          case rel => exact ⟨k + 1, by omega, by go_num, HI.out.drewN (by omega) _, Hh2.out.drewN _, HU.out.drewN' _⟩
          case measure => simp [intOf]; omega
        · have hkz' : ¬ ((k : Int) < ((Z i).length : Int)) := by omega
          have HI := hid hI
          have Hh2 := hid hh
          have HU := hid hu
          clear hI hh hu ef ew cf cwl
          go_wp2_with fail
          go_roundw
          case rel => exact ⟨i + 1, by omega, by go_num, HI.out, Hh2.out, HU.out⟩
          case measure => simp [intOf]; omega
    · have hin' : ¬ ((i : Int) < (n : Int)) := by omega
      have HI := hid hI
      have HH := hid hh
      have HU := hid hu
      clear hI hh hu
      go_wp2
      go_end0
      exact ⟨rfl, HI.out, HH.out, HU.out⟩

/-- what is kept is marks -/
def Hk3 (nK : Nat) (K : Nat → List Int) (ms : List Int) : Prop := ∀ j, j < nK → ∀ t, t < (K j).length → (K j).getD t 0 = -1 - (ms.getD j 0 + (t : Int))

set_option maxRecDepth 100000 in
set_option maxHeartbeats 4000000 in
theorem ikept_any (B : Nat) (κ : Nat → Nat) (w : World) (q : Nat) (cnt tot lk : Int) (lo n nK nM : Nat) (fr wa ba ke ma : Value) (fv hv kv : List Value) (bs ms : List Int) (Z K : Nat → List Int) (hn : n ≤ 3) (hnK : nK ≤ 134217728) (hKl : ∀ j, j < nK → (K j).length ≤ 134217728) (hms : ∀ j, j < nK → 0 ≤ ms.getD j 0 ∧ ms.getD j 0 ≤ 1125899906842624)
    (h : In B κ w q cnt tot lk lo n nK nM fr wa ba ke ma fv hv kv bs ms Z K) (hM : nK = nM) (hK : Hk3 nK K ms) :
    Calls Try.prog 52 #[.pointer (some ⟨q, 0, none⟩)] w fun e w' => e = .returned (.bool true) ∧ Below w.heap.size w w' := by
  subst hM
  obtain ⟨aK, cK, rfl, _⟩ := owns_slice h.oK
  obtain ⟨aM, cM, rfl, _⟩ := owns_slice h.oM
  have H := hid h
  clear h
  have q7 := H.out.blk.cell 7
  simp only [List.getElem?_toArray, List.getElem?_cons_succ, List.getElem?_cons_zero] at q7
  go_enter Try.func52, Try.ntmps52
  go_wp2_with fail
  clear q7
  go_loopw [3] (fun s2 wt => ∃ i : Nat, i ≤ nK ∧ s2 = .int .i64 (i : Int) ∧ Below w.heap.size w wt) (fun s2 _ => nK - (intOf s2).toNat)
  case atStart => exact ⟨0, Nat.zero_le _, rfl, Below.refl _ _⟩
  case round =>
    obtain ⟨i, hi, rfl, hb⟩ := hrel
    have hI := H.out.kept (t := 200) (w' := wr) ⟨hb.size, fun g hg _ => hb.block g hg⟩ (Nat.le_refl _) (by omega)
    have q7 := hI.blk.cell 7
    have q2 := hI.blk.cell 2
    simp only [List.getElem?_toArray, List.getElem?_cons_succ, List.getElem?_cons_zero] at q7 q2
    by_cases hin : i < nK
    · have hin' : (i : Int) < (nK : Int) := by omega
      obtain ⟨gK, cK', eK, _, lK, rK⟩ := row_cell hI.oK hin
      cases eK
      obtain ⟨ak, ck, ek, clk⟩ := hI.ks i hin
      rw [ek] at rK
      have HI := hid hI
      have Hb := hid hb
      have hlen := hKl i hin
      have hm0 := hms i hin
      clear hI hb ek clk q2
      generalize hWO : wr = WO at *
      clear hWO
      go_wp2_with fail
      clear q7 rK
      go_loopw [4] (fun s3 wt => ∃ k : Nat, k ≤ (K i).length ∧ s3 = .int .i64 (k : Int) ∧ Below w.heap.size w wt) (fun s3 _ => (K i).length - (intOf s3).toNat)
      case atStart => exact ⟨0, Nat.zero_le _, rfl, Hb.out⟩
      case round =>
        clear HI Hb
        obtain ⟨k, hk, rfl, hb⟩ := hrel
        have hI := H.out.kept (t := 200) (w' := wr) ⟨hb.size, fun g hg _ => hb.block g hg⟩ (Nat.le_refl _) (by omega)
        have q7 := hI.blk.cell 7
        have q8 := hI.blk.cell 8
        simp only [List.getElem?_toArray, List.getElem?_cons_succ, List.getElem?_cons_zero] at q7 q8
        obtain ⟨gK', cK2, eK, _, _, rK⟩ := row_cell hI.oK hin
        cases eK
        obtain ⟨gM, cM2, eM, _, _, rM⟩ := row_cell hI.oM hin
        cases eM
        obtain ⟨ak', ck', ek, clk⟩ := hI.ks i hin
        rw [ek] at rK
        have rM' : wr.cell? ⟨gM, i, none⟩ = some (.int .i64 (ms.getD i 0)) := by
          rw [rM]
          have := hI.oM.len
          simp [show i < ms.length by omega]
        have Hb := hid hb
        by_cases hkz : k < (K i).length
        · have hkz' : (k : Int) < ((K i).length : Int) := by omega
          obtain ⟨g, rfl, _, _, hg4⟩ := clk.resolve_left (by intro e; rw [e] at hkz; simp at hkz)
          have c2 := hg4 k hkz
          rw [hK i hin k hkz] at c2
          clear hI hg4 ek rM hb
          generalize ms.getD i 0 = x at *
          generalize hZ : (K i).length = zl at *
          have e1 : IntKind.i64.wrap (x + (k : Int)) = x + (k : Int) := by rw [IntKind.wrap_i64]; omega
          have e2 : IntKind.i64.wrap (-1 - (x + (k : Int))) = -1 - (x + (k : Int)) := by rw [IntKind.wrap_i64]; omega
          go_wp2_with fail
          go_quiet (fail)
          go_wp2
          go_roundw
          case rel => exact ⟨k + 1, by omega, by go_num, ⟨Hb.out.os, Hb.out.tape, Hb.out.output, Hb.out.size, Hb.out.block⟩⟩
          case measure => simp [intOf]; omega
        · have hkz' : ¬ ((k : Int) < ((K i).length : Int)) := by omega
          clear hI hb ek clk
          go_wp2_with fail
          go_roundw
          case rel => exact ⟨i + 1, by omega, by go_num, Hb.out⟩
          case measure => simp [intOf]; omega
    · have hin' : ¬ ((i : Int) < (nK : Int)) := by omega
      have Hb := hid hb
      clear hI hb
      go_wp2
      go_ret
      exact ⟨rfl, Hb.out⟩

end Go.Proofs.Yteaebdonnicbkaa

/-
  The record of numbers: what its steps leave.
-/
namespace Go.Proofs.Yteaebdonnicbkaa
open Go.RowKit

/-- marks from m on -/
def mkI (m : Int) (n : Nat) : List Int := (List.range n).map fun k : Nat => -1 - (m + (k : Int))
theorem length_mkI (m : Int) (n : Nat) : (mkI m n).length = n := by simp [mkI]
theorem mkI_getD (m : Int) {n k : Nat} (h : k < n) : (mkI m n).getD k 0 = -1 - (m + (k : Int)) := by simp [mkI, h]
theorem mkI_succ (m : Int) (n : Nat) : mkI m (n + 1) = mkI m n ++ [-1 - (m + (n : Int))] := by simp [mkI, List.range_succ]
def updZ (Z : Nat → List Int) (i : Nat) (zs : List Int) (j : Nat) : List Int := if j = i then zs else Z j
theorem updZ_at (Z : Nat → List Int) (i : Nat) (zs : List Int) : updZ Z i zs i = zs := if_pos rfl
theorem updZ_ne (Z : Nat → List Int) {i j : Nat} (zs : List Int) (h : j ≠ i) : updZ Z i zs j = Z j := if_neg h

theorem In.congrZ {B : Nat} {κ : Nat → Nat} {w : World} {q : Nat} {cnt tot lk : Int} {lo n nK nM : Nat} {fr wa ba ke ma : Value} {fv hv kv : List Value} {bs ms : List Int} {Z Z' K : Nat → List Int}
    (h : In B κ w q cnt tot lk lo n nK nM fr wa ba ke ma fv hv kv bs ms Z K) (hz : ∀ j, lo ≤ j → j < n → Z j = Z' j) : In B κ w q cnt tot lk lo n nK nM fr wa ba ke ma fv hv kv bs ms Z' K :=
  ⟨h.blk, h.kq, h.qB, h.oF, h.kF, h.oW, h.kW, h.oB, h.kB, h.oK, h.kK, h.oM, h.kM, fun i h1 h2 => by rw [← hz i h1 h2]; exact h.fs i h1 h2, h.ks⟩
/-- a number is written into the i-th list -/
theorem In.wrote {B : Nat} {κ : Nat → Nat} {w : World} {q : Nat} {cnt tot lk : Int} {lo n nK nM : Nat} {fr wa ba ke ma : Value} {fv hv kv : List Value} {bs ms : List Int} {Z K : Nat → List Int}
    (h : In B κ w q cnt tot lk lo n nK nM fr wa ba ke ma fv hv kv bs ms Z K) (hn : n ≤ 90) {i g k : Nat} (h1 : lo ≤ i) (h2 : i < n) (he : fv.getD i (.bool false) = .slice (some ⟨g, 0, none⟩) (Z i).length (Z i).length) (hB : Blk .i64 3 w g (Z i)) (hk : κ g = 6 + i) (x : Int) :
    In B κ (w.setCell ⟨g, k, none⟩ (.int .i64 x)) q cnt tot lk lo n nK nM fr wa ba ke ma fv hv kv bs ms (updZ Z i ((Z i).set k x)) K := by
  have kp : Kp κ (6 + i) w (w.setCell ⟨g, k, none⟩ (.int .i64 x)) := Kp.of_but ((But.refl (fun y => y = g) w).setCell (p := ⟨g, k, none⟩) (show (fun y => y = g) g from rfl) _) (fun y _ e => by rw [e]; exact hk)
  refine ⟨h.blk.of_block (kp.2 q h.blk.lt (by rw [h.kq]; omega)), h.kq, h.qB, row_kp h.oF h.kF kp (by omega), h.kF, row_kp h.oW h.kW kp (by omega), h.kW, row_kp h.oB h.kB kp (by omega), h.kB, row_kp h.oK h.kK kp (by omega), h.kK, row_kp h.oM h.kM kp (by omega), h.kM, ?_, ?_⟩
  · intro j j1 j2
    by_cases e : j = i
    · subst e
      rw [updZ_at]
      refine .inr ⟨g, by simpa using he, hB.set k x, hk, ?_⟩
      rcases h.fs j j1 j2 with ⟨q1, _⟩ | ⟨g', q1, _, _, q4⟩
      · rw [he] at q1; cases q1
      · rw [he] at q1; cases q1; exact q4
    · rw [updZ_ne _ _ e]
      rcases h.fs j j1 j2 with q | ⟨g', q1, q2, q3, q4⟩
      · exact .inl q
      · exact .inr ⟨g', q1, q2.of_block (kp.2 g' q2.lt (by omega)), q3, q4⟩
  · intro j hj
    exact (h.ks j hj).keep kp.1 (fun y hy hk' => kp.2 y hy (by omega)) (fun y _ hk' => hk')

/-- a block is given a tag -/
def tag (κ : Nat → Nat) (g t x : Nat) : Nat := if x = g then t else κ x
theorem tag_at (κ : Nat → Nat) (g t : Nat) : tag κ g t g = t := if_pos rfl
theorem tag_ne (κ : Nat → Nat) {g x : Nat} (t : Nat) (h : x ≠ g) : tag κ g t x = κ x := if_neg h

end Go.Proofs.Yteaebdonnicbkaa

/-
  The record of numbers: a row grows.
-/
namespace Go.Proofs.Yteaebdonnicbkaa
open Go.RowKit

theorem info36 : (Try.prog.info? 36).map (fun i => (i.zero, i.size, i.bytes)) = some (some (.slice none 0 0), 1, 24) := by kernel_rfl
/-- a row of tag t has grown, and the record's j-th field bears it -/
structure Grew (κ κ' : Nat → Nat) (t : Nat) (w w6 : World) : Prop where
  size : w.heap.size ≤ w6.heap.size
  keep : ∀ g, g < w.heap.size → κ g ≠ t → κ g ≠ 0 → w6.heap[g]? = w.heap[g]?
  same : ∀ g, g < w.heap.size → κ' g = κ g
theorem grew {κ : Nat → Nat} {t q j : Nat} {w wa w5 : World} {v u : Value} {g' : Nat} (hq : κ q = 0) (hb : Below w.heap.size w wa) (hg : wa.grownBy w5 v.ownBlock) (hv : ∀ g, v.ownBlock = some g → κ g = t) (hl : v.ownBlock = some g' ∨ g' = wa.heap.size) : Grew κ (tag κ g' t) t w (w5.setCell ⟨q, j, none⟩ u) := by
  refine ⟨Nat.le_trans hb.size (Nat.le_trans hg.size (by simp [World.setCell])), fun g h1 h2 h3 => ?_, fun g h1 => ?_⟩
  · rw [Below.heap_setCell _ _ _ _ (show g ≠ q from fun e => h3 (e ▸ hq)), hg.block g (Nat.lt_of_lt_of_le h1 hb.size) (fun e => h2 (hv g e.symm)), hb.block g h1]
  · by_cases e : g = g'
    · subst e
      rw [tag_at]
      rcases hl with hl | hl
      · exact (hv g hl).symm
      · have := hb.size; omega
    · exact tag_ne κ t e
theorem Grew.row {κ κ' : Nat → Nat} {t s : Nat} {w w6 : World} (h : Grew κ κ' t w w6) {B e n : Nat} {v : Value} {xs : List Value} (hr : w.ownsRow B e 1 v n xs) (hk : ∀ g, v.ownBlock = some g → κ g = s) (h1 : s ≠ t) (h2 : s ≠ 0) : w6.ownsRow B e 1 v n xs ∧ ∀ g, v.ownBlock = some g → κ' g = s :=
  ⟨owns_keep hr (fun g hg => h.keep g (World.ownsRow.lt hr g hg).2 (by rw [hk g hg]; exact h1) (by rw [hk g hg]; exact h2)), fun g hg => by rw [h.same g (World.ownsRow.lt hr g hg).2]; exact hk g hg⟩
theorem Grew.sl {κ κ' : Nat → Nat} {t : Nat} {w w6 : World} (h : Grew κ κ' t w w6) (ht : t ≤ 90) {v : Value} {zs : List Int} (hs : Sl3 κ w v zs) : Sl3 κ' w6 v zs :=
  hs.keep h.size (fun g hg hk => h.keep g hg (by omega) (by omega)) (fun g hg hk => by rw [h.same g hg]; exact hk)
theorem Grew.blk {κ κ' : Nat → Nat} {t : Nat} {w w6 : World} (h : Grew κ κ' t w w6) (ht : t ≤ 5) {g i : Nat} {zs : List Int} (hb : Blk .i64 3 w g zs) (hk : κ g = 6 + i) : Blk .i64 3 w6 g zs ∧ κ' g = 6 + i :=
  ⟨hb.of_block (h.keep g hb.lt (by omega) (by omega)), by rw [h.same g hb.lt]; exact hk⟩
theorem setq {w : World} {wa w5 : World} {q : Nat} {cnt tot lk : Int} {fr wa' ba ke ma : Value} (h : Inb w q cnt tot fr wa' ba lk ke ma) {κ : Nat → Nat} {t : Nat} {v : Value} (hq : κ q = 0) (ht : t ≠ 0) (hb : Below w.heap.size w wa) (hg : wa.grownBy w5 v.ownBlock) (hv : ∀ g, v.ownBlock = some g → κ g = t) : Inb w5 q cnt tot fr wa' ba lk ke ma :=
  h.of_block (by rw [hg.block q (Nat.lt_of_lt_of_le h.lt hb.size) (fun e => ht (by rw [← hv q e.symm, hq])), hb.block q h.lt])

theorem In.stepK {B : Nat} {κ : Nat → Nat} {w wa w5 : World} {q : Nat} {cnt tot lk : Int} {lo n nK nM : Nat} {fr wa' ba ke ma : Value} {fv hv kv : List Value} {bs ms : List Int} {Z K : Nat → List Int}
    (h : In B κ w q cnt tot lk lo n nK nM fr wa' ba ke ma fv hv kv bs ms Z K) (hb : Below w.heap.size w wa) {v1 v2 : Value} {z1 z2 : List Int} {g' c' : Nat} (hg : wa.grownBy w5 ke.ownBlock) (hl : ke.ownBlock = some g' ∨ g' = wa.heap.size)
    (ho : w5.ownsRow B 36 1 (.slice (some ⟨g', 0, none⟩) (nK + 2) c') (nK + 2) (kv ++ [v1, v2])) (s1 : Sl3 κ w v1 z1) (s2 : Sl3 κ w v2 z2) (hkv : kv.length = nK) :
    In B (tag κ g' 4) (w5.setCell ⟨q, 7, none⟩ (.slice (some ⟨g', 0, none⟩) (nK + 2) c')) q cnt tot lk lo n (nK + 2) nM fr wa' ba (.slice (some ⟨g', 0, none⟩) (nK + 2) c') ma fv hv (kv ++ [v1, v2]) bs ms Z (updZ (updZ K nK z1) (nK + 1) z2) := by
  have G := grew (j := 7) (u := .slice (some ⟨g', 0, none⟩) (nK + 2) c') h.kq hb hg h.kK hl
  have hb5 := (setq h.blk h.kq (by decide) hb hg h.kK).set 7 (.slice (some ⟨g', 0, none⟩) (nK + 2) c')
  have hne : g' ≠ q := fun e => by
    rcases hl with hl | hl
    · have := h.kK g' hl; rw [e, h.kq] at this; omega
    · have := h.blk.lt; have := hb.size; omega
  refine ⟨by unfold Inb; simpa using hb5, (G.same q h.blk.lt).trans h.kq, h.qB, (G.row h.oF h.kF (by decide) (by decide)).1, (G.row h.oF h.kF (by decide) (by decide)).2, (G.row h.oW h.kW (by decide) (by decide)).1, (G.row h.oW h.kW (by decide) (by decide)).2, (G.row h.oB h.kB (by decide) (by decide)).1, (G.row h.oB h.kB (by decide) (by decide)).2,
    owns_setCell ho (p := ⟨q, 7, none⟩) (fun e => by simp [Value.ownBlock] at e; exact hne e) _, (fun g hg => by cases hg; exact tag_at κ g' 4), (G.row h.oM h.kM (by decide) (by decide)).1, (G.row h.oM h.kM (by decide) (by decide)).2, ?_, ?_⟩
  · intro i h1 h2
    rcases h.fs i h1 h2 with q | ⟨g, q1, q2, q3, q4⟩
    · exact .inl q
    · exact .inr ⟨g, q1, (G.blk (by decide) q2 q3).1, (G.blk (by decide) q2 q3).2, q4⟩
  · intro j hj
    by_cases e1 : j = nK + 1
    · subst e1
      rw [updZ_at, show (kv ++ [v1, v2]).getD (nK + 1) (.bool false) = v2 from by rw [List.getD_eq_getElem?_getD, List.getElem?_append_right (by omega), hkv]; simp]
      exact G.sl (by decide) s2
    · rw [updZ_ne _ _ e1]
      by_cases e2 : j = nK
      · subst e2
        rw [updZ_at, show (kv ++ [v1, v2]).getD j (.bool false) = v1 from by rw [List.getD_eq_getElem?_getD, List.getElem?_append_right (by omega), hkv]; simp]
        exact G.sl (by decide) s1
      · rw [updZ_ne _ _ e2, show (kv ++ [v1, v2]).getD j (.bool false) = kv.getD j (.bool false) from by rw [List.getD_eq_getElem?_getD, List.getElem?_append_left (by omega), List.getD_eq_getElem?_getD]]
        exact G.sl (by decide) (h.ks j (by omega))
theorem In.stepM {B : Nat} {κ : Nat → Nat} {w wa w5 : World} {q : Nat} {cnt tot lk : Int} {lo n nK nM : Nat} {fr wa' ba ke ma : Value} {fv hv kv : List Value} {bs ms : List Int} {Z K : Nat → List Int}
    (h : In B κ w q cnt tot lk lo n nK nM fr wa' ba ke ma fv hv kv bs ms Z K) (hb : Below w.heap.size w wa) {m2 : List Int} {d g' c' : Nat} (hg : wa.grownBy w5 ma.ownBlock) (hl : ma.ownBlock = some g' ∨ g' = wa.heap.size)
    (ho : OwI B w5 (.slice (some ⟨g', 0, none⟩) (nM + d) c') (nM + d) (ms ++ m2)) :
    In B (tag κ g' 5) (w5.setCell ⟨q, 8, none⟩ (.slice (some ⟨g', 0, none⟩) (nM + d) c')) q cnt tot lk lo n nK (nM + d) fr wa' ba ke (.slice (some ⟨g', 0, none⟩) (nM + d) c') fv hv kv bs (ms ++ m2) Z K := by
  have G := grew (j := 8) (u := .slice (some ⟨g', 0, none⟩) (nM + d) c') h.kq hb hg h.kM hl
  have hb5 := (setq h.blk h.kq (by decide) hb hg h.kM).set 8 (.slice (some ⟨g', 0, none⟩) (nM + d) c')
  have hne : g' ≠ q := fun e => by
    rcases hl with hl | hl
    · have := h.kM g' hl; rw [e, h.kq] at this; omega
    · have := h.blk.lt; have := hb.size; omega
  refine ⟨by unfold Inb; simpa using hb5, (G.same q h.blk.lt).trans h.kq, h.qB, (G.row h.oF h.kF (by decide) (by decide)).1, (G.row h.oF h.kF (by decide) (by decide)).2, (G.row h.oW h.kW (by decide) (by decide)).1, (G.row h.oW h.kW (by decide) (by decide)).2, (G.row h.oB h.kB (by decide) (by decide)).1, (G.row h.oB h.kB (by decide) (by decide)).2,
    (G.row h.oK h.kK (by decide) (by decide)).1, (G.row h.oK h.kK (by decide) (by decide)).2, owns_setCell ho (p := ⟨q, 8, none⟩) (fun e => by simp [Value.ownBlock] at e; exact hne e) _, (fun g hg => by cases hg; exact tag_at κ g' 5), ?_, fun j hj => G.sl (by decide) (h.ks j hj)⟩
  intro i h1 h2
  rcases h.fs i h1 h2 with q | ⟨g, q1, q2, q3, q4⟩
  · exact .inl q
  · exact .inr ⟨g, q1, (G.blk (by decide) q2 q3).1, (G.blk (by decide) q2 q3).2, q4⟩

end Go.Proofs.Yteaebdonnicbkaa

/-
  The record of numbers: a list leaves the untouched, the untouched are none.
-/
namespace Go.Proofs.Yteaebdonnicbkaa
open Go.RowKit

/-- what is new, and what bore the tag of the i-th list, is only read -/
def rtg (κ : Nat → Nat) (S i x : Nat) : Nat := if S ≤ x ∨ κ x = 6 + i then 100 else κ x
theorem rtg_new (κ : Nat → Nat) {S x : Nat} (i : Nat) (h : S ≤ x) : rtg κ S i x = 100 := if_pos (.inl h)
theorem rtg_at (κ : Nat → Nat) (S : Nat) {i x : Nat} (h : κ x = 6 + i) : rtg κ S i x = 100 := if_pos (.inr h)
theorem rtg_ne (κ : Nat → Nat) {S i x : Nat} (h : x < S) (h2 : κ x ≠ 6 + i) : rtg κ S i x = κ x := if_neg (fun q => q.elim (fun q => by omega) h2)
theorem In.retag {B : Nat} {κ κ' : Nat → Nat} {w : World} {q : Nat} {cnt tot lk : Int} {lo n nK nM : Nat} {fr wa ba ke ma : Value} {fv hv kv : List Value} {bs ms : List Int} {Z K : Nat → List Int}
    (h : In B κ w q cnt tot lk lo n nK nM fr wa ba ke ma fv hv kv bs ms Z K) (hn : n ≤ 90) (hlo : lo ≤ n) (hκ : ∀ x, x < w.heap.size → κ x ≠ 6 + lo → κ' x = κ x) : In B κ' w q cnt tot lk (lo + 1) n nK nM fr wa ba ke ma fv hv kv bs ms Z K := by
  refine ⟨h.blk, by rw [hκ q h.blk.lt (by rw [h.kq]; omega)]; exact h.kq, h.qB, h.oF, fun g hg => ?_, h.oW, fun g hg => ?_, h.oB, fun g hg => ?_, h.oK, fun g hg => ?_, h.oM, fun g hg => ?_, ?_, ?_⟩
  · rw [hκ g (World.ownsRow.lt h.oF g hg).2 (by rw [h.kF g hg]; omega)]; exact h.kF g hg
  · rw [hκ g (World.ownsRow.lt h.oW g hg).2 (by rw [h.kW g hg]; omega)]; exact h.kW g hg
  · rw [hκ g (World.ownsRow.lt h.oB g hg).2 (by rw [h.kB g hg]; omega)]; exact h.kB g hg
  · rw [hκ g (World.ownsRow.lt h.oK g hg).2 (by rw [h.kK g hg]; omega)]; exact h.kK g hg
  · rw [hκ g (World.ownsRow.lt h.oM g hg).2 (by rw [h.kM g hg]; omega)]; exact h.kM g hg
  · intro i h1 h2
    rcases h.fs i (by omega) h2 with q | ⟨g, q1, q2, q3, q4⟩
    · exact .inl q
    · exact .inr ⟨g, q1, q2, by rw [hκ g q2.lt (by omega)]; exact q3, q4⟩
  · intro j hj
    exact (h.ks j hj).keep (Nat.le_refl _) (fun _ _ _ => rfl) (fun g hg hk => by rw [hκ g hg (by omega)]; exact hk)
theorem In.clear {B : Nat} {κ : Nat → Nat} {w : World} {q : Nat} {cnt tot lk : Int} {lo n nK nM : Nat} {fr wa ba ke ma : Value} {fv hv kv : List Value} {bs ms : List Int} {Z K : Nat → List Int}
    (h : In B κ w q cnt tot lk lo n nK nM fr wa ba ke ma fv hv kv bs ms Z K) : In B κ (((w.setCell ⟨q, 3, none⟩ (.slice none 0 0)).setCell ⟨q, 4, none⟩ (.slice none 0 0)).setCell ⟨q, 5, none⟩ (.slice none 0 0)) q cnt tot lk 0 0 nK nM (.slice none 0 0) (.slice none 0 0) (.slice none 0 0) ke ma [] [] kv [] ms Z K := by
  have hu : But (fun x => x = q) w (((w.setCell ⟨q, 3, none⟩ (.slice none 0 0)).setCell ⟨q, 4, none⟩ (.slice none 0 0)).setCell ⟨q, 5, none⟩ (.slice none 0 0)) := (((But.refl (fun x => x = q) w).setCell (p := ⟨q, 3, none⟩) (show (fun x => x = q) q from rfl) _).setCell (p := ⟨q, 4, none⟩) (show (fun x => x = q) q from rfl) _).setCell (p := ⟨q, 5, none⟩) (show (fun x => x = q) q from rfl) _
  have kp : Kp κ 0 w _ := Kp.of_but hu (fun g _ e => by rw [e]; exact h.kq)
  have b1 : Inb (w.setCell ⟨q, 3, none⟩ (.slice none 0 0)) q cnt tot (.slice none 0 0) wa ba lk ke ma := by unfold Inb; simpa using h.blk.set 3 (.slice none 0 0)
  have b2 : Inb ((w.setCell ⟨q, 3, none⟩ (.slice none 0 0)).setCell ⟨q, 4, none⟩ (.slice none 0 0)) q cnt tot (.slice none 0 0) (.slice none 0 0) ba lk ke ma := by unfold Inb; simpa using b1.set 4 (.slice none 0 0)
  have b3 : Inb (((w.setCell ⟨q, 3, none⟩ (.slice none 0 0)).setCell ⟨q, 4, none⟩ (.slice none 0 0)).setCell ⟨q, 5, none⟩ (.slice none 0 0)) q cnt tot (.slice none 0 0) (.slice none 0 0) (.slice none 0 0) lk ke ma := by unfold Inb; simpa using b2.set 5 (.slice none 0 0)
  refine ⟨b3, h.kq, h.qB, World.ownsRow_nil _ _ _ _, (fun g e => by cases e), World.ownsRow_nil _ _ _ _, (fun g e => by cases e), OwI.nil _ _, (fun g e => by cases e), row_kp h.oK h.kK kp (by omega), h.kK, row_kp h.oM h.kM kp (by omega), h.kM, fun i h1 h2 => by omega, ?_⟩
  intro j hj
  exact (h.ks j hj).keep kp.1 (fun g hg hk => kp.2 g hg (by omega)) (fun g _ hk => hk)
/-- two numbers' lists in a block of their own -/
theorem newsV2 (w : World) (u v : Value) (t : TypeId) : ∀ j y, [u, v][j]? = some y → (w.alloc (.cells #[u, v] t)).cell? ((⟨w.heap.size, 0, none⟩ : Addr).add j) = some y := by
  intro j y h
  match j, h with
  | 0, h => simp at h; subst h; simp [Addr.add]
  | 1, h => simp at h; subst h; simp [Addr.add]
/-- the kept and their marks, with two more -/
theorem Hk3.two {nK : Nat} {K : Nat → List Int} {ms : List Int} (h : Hk3 nK K ms) (hl : ms.length = nK) (m : Int) (a b : Nat) : Hk3 (nK + 2) (updZ (updZ K nK (mkI m a)) (nK + 1) (mkI m b)) (ms ++ [m, m]) := by
  intro j hj t ht
  by_cases e1 : j = nK + 1
  · subst e1
    rw [updZ_at] at ht ⊢
    rw [length_mkI] at ht
    rw [mkI_getD m ht, List.getD_eq_getElem?_getD, List.getElem?_append_right (by omega), hl]
    simp
  · rw [updZ_ne _ _ e1] at ht ⊢
    by_cases e2 : j = nK
    · subst e2
      rw [updZ_at] at ht ⊢
      rw [length_mkI] at ht
      rw [mkI_getD m ht, List.getD_eq_getElem?_getD, List.getElem?_append_right (by omega), hl]
      simp
    · rw [updZ_ne _ _ e2] at ht ⊢
      rw [h j (by omega) t ht, List.getD_eq_getElem?_getD, List.getD_eq_getElem?_getD, List.getElem?_append_left (by omega)]
theorem two_old {nK j : Nat} {K : Nat → List Int} {ms : List Int} (hl : ms.length = nK) (m : Int) (a b : List Int) (hj : j < nK) : updZ (updZ K nK a) (nK + 1) b j = K j ∧ (ms ++ [m, m]).getD j 0 = ms.getD j 0 := by
  constructor
  · rw [updZ_ne _ _ (by omega), updZ_ne _ _ (by omega)]
  · rw [List.getD_eq_getElem?_getD, List.getD_eq_getElem?_getD, List.getElem?_append_left (by omega)]
theorem two_new {nK j : Nat} {K : Nat → List Int} {ms : List Int} (hl : ms.length = nK) (m : Int) (a b : List Int) (h1 : nK ≤ j) (h2 : j < nK + 2) : (updZ (updZ K nK a) (nK + 1) b j = a ∨ updZ (updZ K nK a) (nK + 1) b j = b) ∧ (ms ++ [m, m]).getD j 0 = m := by
  rw [List.getD_eq_getElem?_getD, List.getElem?_append_right (by omega), hl]
  have : j = nK ∨ j = nK + 1 := by omega
  rcases this with rfl | rfl
  · exact ⟨.inl (by rw [updZ_ne _ _ (by omega), updZ_at]), by simp⟩
  · exact ⟨.inr (updZ_at _ _ _), by simp⟩
/-- a list of numbers of one's own, only read from now on -/
theorem Sl3.of_own {κ : Nat → Nat} {w : World} {B n g c : Nat} {zs : List Int} (h : OwI B w (.slice (some ⟨g, 0, none⟩) n c) n zs) (hk : κ g = 100) : Sl3 κ w (.slice (some ⟨g, 0, none⟩) n c) zs := by
  have hl := h.len
  refine ⟨_, c, by rw [hl], ?_⟩
  by_cases hz : zs = []
  · exact .inl hz
  · have hn : 0 < n := by
      have := List.length_pos_iff.2 hz
      omega
    obtain ⟨g', e, _, h2, h3⟩ := owns_cells h hn
    cases e
    exact .inr ⟨g, rfl, hk, h2, fun t ht => by rw [h3 t (by omega)]; simp [ht]⟩
theorem Sl3.of_blk {κ : Nat → Nat} {w : World} {a : Option Addr} {zs : List Int} (h : zs.length = 0 ∨ ∃ g, a = some ⟨g, 0, none⟩ ∧ κ g = 100 ∧ Blk .i64 3 w g zs) : Sl3 κ w (.slice a zs.length zs.length) zs := by
  refine ⟨a, zs.length, rfl, ?_⟩
  rcases h with h | ⟨g, h1, h2, h3⟩
  · exact .inl (List.length_eq_zero_iff.1 h)
  · exact .inr ⟨g, h1, h2, h3.lt, fun t ht => h3.cell t ht⟩

end Go.Proofs.Yteaebdonnicbkaa
