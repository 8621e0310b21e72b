/-
  syntax: trees, as they lie in memory; what mayBe tells of one, in plain words; partsMayBe.
-/
import Derived.Test.YtbllaacbeagljaaGreatDoorSy6
namespace Go.Proofs.YtbllaacbeagljaaGreatDoor
open Go.RowKit

/-- a node with all below it -/
structure Nd where
  k : Int
  tx : List Int
  n : Int
  at_ : Int
  kids : List Nd

/-- a list of nodes that is read, in blocks outside of X -/
def KR (X : Nat → Prop) (w : World) : Nat → Option Addr → Nat → List Nd → Prop
  | 0, _, l, ks => l = 0 ∧ ks = []
  | d + 1, a, l, ks => l = ks.length ∧ l ≤ 16777216 ∧ ∀ i (hi : i < ks.length), ∃ g o a' l' c', a = some ⟨g, o, none⟩ ∧ ¬ X g ∧ g < w.heap.size ∧
      (w.cell? ⟨g, o + i * 5, none⟩ = some (.int .i64 ks[i].k) ∧ w.cell? ⟨g, o + i * 5 + 1, none⟩ = some (.string (strOfNums ks[i].tx)) ∧ w.cell? ⟨g, o + i * 5 + 2, none⟩ = some (.int .i64 ks[i].n) ∧
        w.cell? ⟨g, o + i * 5 + 3, none⟩ = some (.int .i64 ks[i].at_) ∧ w.cell? ⟨g, o + i * 5 + 4, none⟩ = some (.slice a' l' c')) ∧
      (Pl.isB ks[i].tx ∧ ks[i].tx.length ≤ 16777216) ∧ KR X w d a' l' ks[i].kids
theorem KR.len {X : Nat → Prop} {w : World} : ∀ {d : Nat} {a : Option Addr} {l : Nat} {ks : List Nd}, KR X w d a l ks → l = ks.length ∧ l ≤ 16777216
  | 0, _, _, _, h => by obtain ⟨rfl, rfl⟩ := h; exact ⟨rfl, by omega⟩
  | _ + 1, _, _, _, h => ⟨h.1, h.2.1⟩
theorem KR.but {X : Nat → Prop} {w w' : World} (hb : But X w w') : ∀ {d : Nat} {a : Option Addr} {l : Nat} {ks : List Nd}, KR X w d a l ks → KR X w' d a l ks
  | 0, _, _, _, h => h
  | d + 1, a, l, ks, h => by
    obtain ⟨h1, h2, h3⟩ := h
    refine ⟨h1, h2, fun i hi => ?_⟩
    obtain ⟨g, o, a', l', c', e, hx, hg, hc, ht, hk⟩ := h3 i hi
    have q : ∀ j, w'.cell? ⟨g, j, none⟩ = w.cell? ⟨g, j, none⟩ := fun j => hb.cell (by exact hg) (by exact hx)
    refine ⟨g, o, a', l', c', e, hx, Nat.lt_of_lt_of_le hg hb.size, ?_, ht, KR.but hb hk⟩
    rw [q, q, q, q, q]
    exact hc
theorem KR.mono {X Y : Nat → Prop} {w : World} (hX : ∀ g, g < w.heap.size → Y g → X g) : ∀ {d : Nat} {a : Option Addr} {l : Nat} {ks : List Nd}, KR X w d a l ks → KR Y w d a l ks
  | 0, _, _, _, h => h
  | d + 1, a, l, ks, h => by
    obtain ⟨h1, h2, h3⟩ := h
    refine ⟨h1, h2, fun i hi => ?_⟩
    obtain ⟨g, o, a', l', c', e, hx, hg, hc, ht, hk⟩ := h3 i hi
    exact ⟨g, o, a', l', c', e, fun y => hx (hX g hg y), hg, hc, ht, KR.mono hX hk⟩
theorem KR.next {X : Nat → Prop} {w w' : World} {d : Nat} {a : Option Addr} {l : Nat} {ks : List Nd} (h : KR X w d a l ks) (hb : Below w.heap.size w w') : KR X w' d a l ks := h.but (But.of_below hb)

/-- no two texts stand beside one another -/
def partsB : List Nd → Bool
  | x :: y :: r => !(x.k == 13 && y.k == 13) && partsB (y :: r)
  | _ => true
/-- what is told of a list, from left to right, up to the first that may not be -/
def mbAll (g : Nat → Nd → Bool × Bool) : Nat → List Nd → Bool × Bool
  | _, [] => (true, false)
  | i, t :: r => if (g i t).1 = true then ((mbAll g (i + 1) r).1, (g i t).2 || (mbAll g (i + 1) r).2) else (false, false)
/-- what is asked of one node -/
def oneB (f : Nat) (r : Int) (wi : Bool) (t : Nd) : Bool := takesB r t.k t.tx && textB t.k t.tx && numB t.k t.n && cntB (kdP wi t.k) t.kids.length && (f == 0 || partsB t.kids)
/-- may a node and all below it be, and does something lie too deep? (at depth 65 - f) -/
def mbN : Nat → Int → Bool → Nd → Bool × Bool
  | 0, _, _, _ => (true, true)
  | f + 1, r, wi, t => if oneB f r wi t = true then mbAll (fun i s => mbN f (rolAt (kdP wi t.k) i) (wi || t.k == 12) s) 0 t.kids else (false, false)

theorem kdP_len (wi : Bool) (k : Int) : (kdP wi k).1.length ≤ 3 ∧ ((kdP wi k).1.length = 0 → (kdP wi k).2.2 = false) := by
  unfold kdP
  split
  · simp
  · unfold kdZ
    by_cases h0 : k = 1 ∨ k = 11
    · rw [if_pos h0]; simp
    rw [if_neg h0]
    by_cases h1 : k = 3
    · rw [if_pos h1]; simp
    rw [if_neg h1]
    by_cases h2 : k = 10
    · rw [if_pos h2]; simp
    rw [if_neg h2]
    by_cases h3 : k = 2
    · rw [if_pos h3]; simp
    rw [if_neg h3]
    by_cases h4 : k = 5
    · rw [if_pos h4]; simp
    rw [if_neg h4]
    by_cases h5 : k = 7
    · rw [if_pos h5]; simp
    rw [if_neg h5]
    by_cases h6 : k = 9
    · rw [if_pos h6]; simp
    rw [if_neg h6]
    by_cases h7 : k = 4 ∨ k = 6 ∨ k = 29 ∨ k = 33
    · rw [if_pos h7]; simp
    rw [if_neg h7]
    by_cases h8 : k = 12
    · rw [if_pos h8]; simp
    rw [if_neg h8]
    by_cases h9 : k = 27 ∨ k = 28
    · rw [if_pos h9]; simp
    rw [if_neg h9]
    by_cases h10 : k = 34
    · rw [if_pos h10]; simp
    rw [if_neg h10]
    cases opZ k <;> simp
theorem kdP_pos {wi : Bool} {k : Int} {n : Nat} (h : cntB (kdP wi k) n = true) (hn : 0 < n) : 0 < (kdP wi k).1.length := by
  have h2 := (kdP_len wi k).2
  unfold cntB at h
  by_cases q : (kdP wi k).1.length = 0
  · rw [h2 q, q] at h
    simp at h
    omega
  · omega
theorem parts_step {ks : List Nd} {i : Nat} (h : i + 1 < ks.length) : partsB (ks.drop i) = (!(ks[i].k == 13 && ks[i + 1].k == 13) && partsB (ks.drop (i + 1))) := by
  rw [List.drop_eq_getElem_cons (by omega : i < ks.length), List.drop_eq_getElem_cons h]
  rfl
theorem parts_end {ks : List Nd} {i : Nat} (h : ks.length ≤ i + 1) : partsB (ks.drop i) = true := by
  by_cases q : i < ks.length
  · rw [List.drop_eq_getElem_cons q, List.drop_eq_nil_of_le (by omega)]
    rfl
  · rw [List.drop_eq_nil_of_le (by omega)]
    rfl
set_option maxRecDepth 100000 in
set_option maxHeartbeats 4000000 in
theorem parts_any {X : Nat → Prop} {d : Nat} (t : Nd) (a : Option Addr) (l c : Nat) (w : World) (hK : KR X w d a l t.kids) : Calls Tryz.prog 106 #[.agg (ncs t.k (strOfNums t.tx) t.n t.at_ a l c)] w fun e w' => e = .returned (.bool (partsB t.kids)) ∧ Below w.heap.size w w' := by
  obtain ⟨hl, hlm⟩ := hK.len
  have HB0 := hid (below1 w (.cells (ncs t.k (strOfNums t.tx) t.n t.at_ a l c) 25))
  have hK1 : KR X (w.alloc (.cells (ncs t.k (strOfNums t.tx) t.n t.at_ a l c) 25)) d a l t.kids := hK.next (below1 _ _)
  have hC1 := Cs.new w 25 (ncs t.k (strOfNums t.tx) t.n t.at_ a l c)
  obtain ⟨k, tx, n, at_, ks⟩ := t
  simp only at *
  obtain ⟨W, hW⟩ : ∃ W, W = w.alloc (.cells (ncs k (strOfNums tx) n at_ a l c) 25) := ⟨_, rfl⟩
  rw [← hW] at hK1 hC1 HB0
  have HB := HB0
  clear HB0
  obtain ⟨b, hb⟩ : ∃ b, b = w.heap.size := ⟨_, rfl⟩
  rw [← hb] at hC1
  have m4 := hC1.cell 4 _ rfl
  have HK := hid hK1
  have HW := hid hW
  have Hb := hid hb
  have HL := hid hl
  obtain ⟨r, hr⟩ : ∃ r, r = partsB ks := ⟨_, rfl⟩
  rw [← hr]
  have HR := hid hr
  generalize strOfNums tx = S at *
  clear hK hK1 hC1 hW hb hl hr
  go_enter Tryz.func106, Tryz.ntmps106
  go_wp2_with fail
  rw [← HW.out, ← Hb.out]
  go_loopw [3] (fun iv wr => ∃ j : Nat, iv = .int .i64 ((j : Int) + 1) ∧ j ≤ l ∧ partsB (ks.drop j) = r ∧ wr = W) (fun iv _ => l + 1 - (intOf iv).toNat)
  case atStart => exact ⟨0, rfl, Nat.zero_le _, by rw [HR.out]; rfl, rfl⟩
  case round =>
    obtain ⟨j, rfl, hj, hp, rfl⟩ := hrel
    have HP := hid hp
    clear hp
    by_cases hjn : j + 1 < l
    · have hjn' : (j : Int) + 1 < (l : Int) := by omega
      have hl := HL.out
      cases d with
      | zero => have := HK.out.1; omega
      | succ d =>
        obtain ⟨_, _, hrow⟩ := HK.out
        obtain ⟨g, o, a', l', c', rfl, _, _, ⟨x0, _⟩, _⟩ := hrow j (by omega)
        obtain ⟨g', o', _, _, _, e, _, _, ⟨y0, _⟩, _⟩ := hrow (j + 1) (by omega)
        obtain ⟨rfl, rfl⟩ : g = g' ∧ o = o' := by simpa using e
        have HS := hid (parts_step (ks := ks) (i := j) (by omega))
        clear hrow e
        generalize ks[j].k = kx at *
        generalize ks[j + 1].k = ky at *
        cases h1 : (kx == 13) <;> cases h2 : (ky == 13)
        all_goals
          rw [h1, h2] at HS
          go_wp2_with fail
          first
            | exact ⟨⟨j + 1, by go_num, by omega, by rw [← HP.out, HS.out]; simp, trivial⟩, by simp [intOf]; omega⟩
            | (go_ret; exact ⟨ret_bool (by rw [← HP.out, HS.out]; simp), HB.out⟩)
    · have hjn' : ¬ (j : Int) + 1 < (l : Int) := by omega
      have HE := hid (parts_end (ks := ks) (i := j) (by have := HL.out; omega))
      go_wp2_with fail
      go_ret
      exact ⟨ret_bool (by rw [← HP.out, HE.out]), HB.out⟩

end Go.Proofs.YtbllaacbeagljaaGreatDoor
