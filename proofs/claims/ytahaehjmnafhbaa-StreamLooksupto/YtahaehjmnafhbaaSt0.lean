/-
  stream: what is taken from bytes, part by part.
-/
import Derived.Test.YtahaehjmnafhbaaSp0
import Derived.Test.YtahaehjmnafhbaaBut
namespace Go.Proofs.Ytahaehjmnafhbaa
open Go.RowKit

/-- bytes that are read, with room behind them (or none at all) -/
def RdC (B : Nat) (w : World) (v : Value) (zs : List Int) : Prop :=
  Pl.isB zs ∧ ((v = .slice none 0 0 ∧ zs = []) ∨ ∃ b off c, v = .slice (some ⟨b, off, none⟩) zs.length c ∧ zs.length < c ∧ b < B ∧ ∀ t, t < zs.length → w.cell? ⟨b, off + t, none⟩ = some (.int .u8 (zs.getD t 0)))
/-- a taker's, or a tape's, block -/
def Tkr (T : TypeId) (w : World) (k : Nat) (v : Value) (sh : Bool) : Prop := w.heap[k]? = some (.cells #[v, .bool sh] T (0, 0))
theorem Tkr.lt {T : TypeId} {w : World} {k : Nat} {v : Value} {sh : Bool} (h : Tkr T w k v sh) : k < w.heap.size := (Array.getElem?_eq_some_iff.1 h).1
theorem Tkr.c0 {T : TypeId} {w : World} {k : Nat} {v : Value} {sh : Bool} (h : Tkr T w k v sh) : w.cell? ⟨k, 0, none⟩ = some v := by unfold Tkr at h; simp [World.cell?, h]
theorem Tkr.c1 {T : TypeId} {w : World} {k : Nat} {v : Value} {sh : Bool} (h : Tkr T w k v sh) : w.cell? ⟨k, 1, none⟩ = some (.bool sh) := by unfold Tkr at h; simp [World.cell?, h]
theorem Tkr.fz {T : TypeId} {w : World} {k : Nat} {v : Value} {sh : Bool} (h : Tkr T w k v sh) (t : Nat) : w.frozen? ⟨k, t, none⟩ = false := by unfold Tkr at h; simp [World.frozen?, h]
theorem Tkr.set0 {T : TypeId} {w : World} {k : Nat} {v : Value} {sh : Bool} (h : Tkr T w k v sh) (u : Value) : Tkr T (w.setCell ⟨k, 0, none⟩ u) k u sh := by
  unfold Tkr at *
  simp only [World.setCell, Array.getElem?_modify]
  rw [h]
  simp
theorem Tkr.set1 {T : TypeId} {w : World} {k : Nat} {v : Value} {sh : Bool} (h : Tkr T w k v sh) (u : Bool) : Tkr T (w.setCell ⟨k, 1, none⟩ (.bool u)) k v u := by
  unfold Tkr at *
  simp only [World.setCell, Array.getElem?_modify]
  rw [h]
  simp
def TkS (T : TypeId) (w : World) (k : Nat) (s : St) : Prop := ∃ v, Tkr T w k v s.2 ∧ RdC k w v s.1
theorem TkS.lt {T : TypeId} {w : World} {k : Nat} {s : St} (h : TkS T w k s) : k < w.heap.size := by obtain ⟨v, h, _⟩ := h; exact h.lt
theorem RdC.mono {B B' : Nat} {w : World} {v : Value} {zs : List Int} (h : RdC B w v zs) (hB : B ≤ B') : RdC B' w v zs := by
  obtain ⟨h1, h2 | ⟨b, off, c, e, h3, h4, h5⟩⟩ := h
  · exact ⟨h1, .inl h2⟩
  · exact ⟨h1, .inr ⟨b, off, c, e, h3, by omega, h5⟩⟩
theorem RdC.but {B : Nat} {X : Nat → Prop} {w w' : World} {v : Value} {zs : List Int} (h : RdC B w v zs) (hb : But X w w') (hB : B ≤ w.heap.size) (hX : ∀ x, x < B → ¬ X x) : RdC B w' v zs := by
  obtain ⟨h1, h2 | ⟨b, off, c, e, h3, h4, h5⟩⟩ := h
  · exact ⟨h1, .inl h2⟩
  · exact ⟨h1, .inr ⟨b, off, c, e, h3, h4, fun t ht => (hb.cell (p := ⟨b, off + t, none⟩) (Nat.lt_of_lt_of_le h4 hB) (hX b h4)).trans (h5 t ht)⟩⟩
theorem RdC.rd {B : Nat} {w : World} {v : Value} {zs : List Int} (h : RdC B w v zs) : ∃ a c, v = .slice a zs.length c ∧ zs.length ≤ c ∧ Rd B w a zs.length zs := by
  obtain ⟨h1, ⟨rfl, rfl⟩ | ⟨b, off, c, e, h3, h4, h5⟩⟩ := h
  · exact ⟨none, 0, rfl, Nat.le_refl _, rfl, h1, .inl rfl⟩
  · exact ⟨_, c, e, by omega, rfl, h1, .inr ⟨b, off, rfl, h4, h5⟩⟩
theorem TkS.but {T : TypeId} {X : Nat → Prop} {w w' : World} {k : Nat} {s : St} (h : TkS T w k s) (hb : But X w w') (hX : ∀ x, x ≤ k → ¬ X x) : TkS T w' k s := by
  obtain ⟨v, h1, h2⟩ := h
  refine ⟨v, ?_, h2.but hb (Nat.le_of_lt h1.lt) (fun x hx => hX x (by omega))⟩
  have hl := h1.lt
  unfold Tkr at *
  rw [hb.block k hl (hX k (Nat.le_refl _))]
  exact h1
theorem RdC.cut {B : Nat} {w : World} {b off c m : Nat} {zs : List Int} (hb : Pl.isB zs) (hl : m ≤ zs.length) (hc : zs.length < c) (hB : b < B) (h : ∀ t, t < zs.length → w.cell? ⟨b, off + t, none⟩ = some (.int .u8 (zs.getD t 0))) :
    RdC B w (.slice (some ⟨b, off, none⟩) m c) (zs.take m) ∧ RdC B w (.slice (some ⟨b, off + m, none⟩) (zs.length - m) (c - m)) (zs.drop m) := by
  have l1 : (zs.take m).length = m := by simp; omega
  have l2 : (zs.drop m).length = zs.length - m := by simp
  refine ⟨⟨Pl.isB_take hb _, .inr ⟨b, off, c, by rw [l1], by omega, hB, fun t ht => ?_⟩⟩, ⟨Pl.isB_drop hb _, .inr ⟨b, off + m, c - m, by rw [l2], by omega, hB, fun t ht => ?_⟩⟩⟩
  · rw [h t (by omega)]
    simp only [List.getD_eq_getElem?_getD]
    rw [List.getElem?_take_of_lt (by omega)]
  · rw [Nat.add_assoc, h (m + t) (by omega)]
    simp only [List.getD_eq_getElem?_getD, List.getElem?_drop]

set_option maxRecDepth 100000 in
set_option maxHeartbeats 1000000 in
theorem part_any {w : World} {k : Nat} {s : St} (m : Int) (h0 : 0 ≤ m) (h1 : m ≤ 4398046511104) (hs : s.1.length ≤ 16777216) (h : TkS 73 w k s) :
    Calls Try.prog 35 #[.pointer (some ⟨k, 0, none⟩), .int .i64 m] w fun e w' => ∃ v, e = .returned v ∧ RdC k w' v (pt s m).1 ∧ TkS 73 w' k (pt s m).2 ∧ But (fun x => x = k) w w' ∧ w'.heap.size = w.heap.size := by
  obtain ⟨v, hT, hR⟩ := h
  have c0 := hT.c0
  have c1 := hT.c1
  have f0 := hT.fz 0
  have f1 := hT.fz 1
  have HT := hid hT
  have hkl := hT.lt
  by_cases hm : (s.1.length : Int) < m
  · have e : pt s m = ([], ([], true)) := by unfold pt; rw [if_pos hm]
    rw [e]
    obtain ⟨a, c, rfl, _, _⟩ := hR.rd
    have HE : Hid (RdC k ((w.setCell ⟨k, 0, none⟩ (.slice none 0 0)).setCell ⟨k, 1, none⟩ (.bool true)) (.slice none 0 0) [] ∧ TkS 73 ((w.setCell ⟨k, 0, none⟩ (.slice none 0 0)).setCell ⟨k, 1, none⟩ (.bool true)) k ([], true) ∧ But (fun x => x = k) w ((w.setCell ⟨k, 0, none⟩ (.slice none 0 0)).setCell ⟨k, 1, none⟩ (.bool true)) ∧ ((w.setCell ⟨k, 0, none⟩ (.slice none 0 0)).setCell ⟨k, 1, none⟩ (.bool true)).heap.size = w.heap.size) := by
      refine ⟨⟨Pl.isB_nil, .inl ⟨rfl, rfl⟩⟩, ⟨_, (hT.set0 _).set1 true, ⟨Pl.isB_nil, .inl ⟨rfl, rfl⟩⟩⟩, ((But.refl (fun x => x = k) w).setCell (p := ⟨k, 0, none⟩) rfl _).setCell (p := ⟨k, 1, none⟩) rfl _, by simp [World.setCell]⟩
    clear hT hR e hkl
    go_enter Try.func35, Try.ntmps35
    go_wp2
    go_ret
    exact ⟨_, rfl, HE.out⟩
  · have e : pt s m = (s.1.take m.toNat, (s.1.drop m.toNat, s.2)) := by unfold pt; rw [if_neg hm]
    rw [e]
    obtain ⟨q, rfl⟩ := Int.eq_ofNat_of_zero_le h0
    obtain ⟨hB, ⟨rfl, hz⟩ | ⟨b, off, c, rfl, h3, h4, h5⟩⟩ := hR
    · have hq : q = 0 := by rw [hz] at hm; simp at hm; omega
      subst hq
      have HE : Hid (RdC k (w.setCell ⟨k, 0, none⟩ (.slice none 0 0)) (.slice none 0 0) [] ∧ TkS 73 (w.setCell ⟨k, 0, none⟩ (.slice none 0 0)) k ([], s.2) ∧ But (fun x => x = k) w (w.setCell ⟨k, 0, none⟩ (.slice none 0 0)) ∧ (w.setCell ⟨k, 0, none⟩ (.slice none 0 0)).heap.size = w.heap.size) := by
        refine ⟨⟨Pl.isB_nil, .inl ⟨rfl, rfl⟩⟩, ⟨_, hT.set0 _, ⟨Pl.isB_nil, .inl ⟨rfl, rfl⟩⟩⟩, (But.refl (fun x => x = k) w).setCell (p := ⟨k, 0, none⟩) rfl _, by simp [World.setCell]⟩
      clear hT e hkl hB
      go_enter Try.func35, Try.ntmps35
      go_wp2
      go_ret
      exact ⟨_, rfl, HE.out⟩
    · have hq : q ≤ s.1.length := by omega
      have hb1 : But (fun x => x = k) w (w.setCell ⟨k, 0, none⟩ (.slice (some ⟨b, off + q, none⟩) (s.1.length - q) (c - q))) := (But.refl (fun x => x = k) w).setCell (p := ⟨k, 0, none⟩) rfl _
      have hcut := RdC.cut hB hq h3 h4 h5
      have HE : Hid (RdC k (w.setCell ⟨k, 0, none⟩ (.slice (some ⟨b, off + q, none⟩) (s.1.length - q) (c - q))) (.slice (some ⟨b, off, none⟩) q c) (s.1.take (Int.ofNat q).toNat) ∧ TkS 73 (w.setCell ⟨k, 0, none⟩ (.slice (some ⟨b, off + q, none⟩) (s.1.length - q) (c - q))) k (s.1.drop (Int.ofNat q).toNat, s.2) ∧ But (fun x => x = k) w (w.setCell ⟨k, 0, none⟩ (.slice (some ⟨b, off + q, none⟩) (s.1.length - q) (c - q))) ∧ (w.setCell ⟨k, 0, none⟩ (.slice (some ⟨b, off + q, none⟩) (s.1.length - q) (c - q))).heap.size = w.heap.size) := by
        refine ⟨hcut.1.but hb1 (Nat.le_of_lt hkl) (fun x hx => by omega), ⟨_, hT.set0 _, hcut.2.but hb1 (Nat.le_of_lt hkl) (fun x hx => by omega)⟩, hb1, by simp [World.setCell]⟩
      have hqc : (q : Int) ≤ (c : Int) := by omega
      have hne : ¬ c = q := by omega
      clear hT e hkl hB h5 hcut hb1
      generalize s.1.length = n at *
      go_enter Try.func35, Try.ntmps35
      go_wp2
      go_ret
      exact ⟨_, rfl, HE.out⟩

end Go.Proofs.Ytahaehjmnafhbaa
