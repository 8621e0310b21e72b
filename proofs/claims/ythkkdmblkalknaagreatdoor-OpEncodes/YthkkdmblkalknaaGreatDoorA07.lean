import Derived.Test.YthkkdmblkalknaaGreatDoorA04
import Derived.Test.YthkkdmblkalknaaGreatDoorA06
import Derived.Test.YthkkdmblkalknaaGreatDoorA01
import Derived.Test.YthkkdmblkalknaaGreatDoorA05
/-
  stream: what is taken from bytes, part by part.
-/
namespace Go.Proofs.YthkkdmblkalknaaGreatDoor
open Go.RowKit

abbrev St := List Int × Bool
/-- so many bytes off the front; where there are fewer, nothing is left -/
def pt (s : St) (k : Int) : List Int × St := if (s.1.length : Int) < k then ([], ([], true)) else (s.1.take k.toNat, (s.1.drop k.toNat, s.2))
def nbG (f : St → Int → List Int × St) (s : St) (k : Int) : Int × St := (Pl.num (f s k).1, (f s k).2)
def txG (f : St → Int → List Int × St) (s : St) : List Int × St := f (nbG f s 1).2 (nbG f s 1).1
theorem isB_pt {s : St} (h : Pl.isB s.1) (k : Int) : Pl.isB (pt s k).1 ∧ Pl.isB (pt s k).2.1 := by
  unfold pt; split
  · exact ⟨Pl.isB_nil, Pl.isB_nil⟩
  · exact ⟨Pl.isB_take h _, Pl.isB_drop h _⟩

/-- bytes that are read, with room behind them (or none at all) -/
def RdC (B : Nat) (w : World) (v : Value) (zs : List Int) : Prop :=
  Pl.isB zs ∧ ((v = .slice none 0 0 ∧ zs = []) ∨ ∃ b off c, v = .slice (some ⟨b, off, none⟩) zs.length c ∧ zs.length ≤ c ∧ b < B ∧ ∀ t, t < zs.length → w.cell? ⟨b, off + t, none⟩ = some (.int .u8 (zs.getD t 0)))
/-- a taker's, or a tape's, block -/
def Tkr (T : TypeId) (w : World) (k : Nat) (v : Value) (sh : Bool) : Prop := w.heap[k]? = some (.cells #[v, .bool sh] T (0, 0))
theorem Tkr.lt {T : TypeId} {w : World} {k : Nat} {v : Value} {sh : Bool} (h : Tkr T w k v sh) : k < w.heap.size := (Array.getElem?_eq_some_iff.1 h).1
theorem Tkr.c0 {T : TypeId} {w : World} {k : Nat} {v : Value} {sh : Bool} (h : Tkr T w k v sh) : w.cell? ⟨k, 0, none⟩ = some v := by unfold Tkr at h; simp [World.cell?, h]
theorem Tkr.c1 {T : TypeId} {w : World} {k : Nat} {v : Value} {sh : Bool} (h : Tkr T w k v sh) : w.cell? ⟨k, 1, none⟩ = some (.bool sh) := by unfold Tkr at h; simp [World.cell?, h]
theorem Tkr.fz {T : TypeId} {w : World} {k : Nat} {v : Value} {sh : Bool} (h : Tkr T w k v sh) (t : Nat) : w.frozen? ⟨k, t, none⟩ = false := by unfold Tkr at h; simp [World.frozen?, h]
theorem Tkr.set0 {T : TypeId} {w : World} {k : Nat} {v : Value} {sh : Bool} (h : Tkr T w k v sh) (u : Value) : Tkr T (w.setCell ⟨k, 0, none⟩ u) k u sh := by
  unfold Tkr at *
  simp only [World.setCell, Array.getElem?_modify]
  rw [h]
  simp
theorem Tkr.set1 {T : TypeId} {w : World} {k : Nat} {v : Value} {sh : Bool} (h : Tkr T w k v sh) (u : Bool) : Tkr T (w.setCell ⟨k, 1, none⟩ (.bool u)) k v u := by
  unfold Tkr at *
  simp only [World.setCell, Array.getElem?_modify]
  rw [h]
  simp
def TkS (T : TypeId) (w : World) (k : Nat) (s : St) : Prop := ∃ v, Tkr T w k v s.2 ∧ RdC k w v s.1
theorem TkS.lt {T : TypeId} {w : World} {k : Nat} {s : St} (h : TkS T w k s) : k < w.heap.size := by obtain ⟨v, h, _⟩ := h; exact h.lt
theorem RdC.mono {B B' : Nat} {w : World} {v : Value} {zs : List Int} (h : RdC B w v zs) (hB : B ≤ B') : RdC B' w v zs := by
  obtain ⟨h1, h2 | ⟨b, off, c, e, h3, h4, h5⟩⟩ := h
  · exact ⟨h1, .inl h2⟩
  · exact ⟨h1, .inr ⟨b, off, c, e, h3, by omega, h5⟩⟩
theorem RdC.but {B : Nat} {X : Nat → Prop} {w w' : World} {v : Value} {zs : List Int} (h : RdC B w v zs) (hb : But X w w') (hB : B ≤ w.heap.size) (hX : ∀ x, x < B → ¬ X x) : RdC B w' v zs := by
  obtain ⟨h1, h2 | ⟨b, off, c, e, h3, h4, h5⟩⟩ := h
  · exact ⟨h1, .inl h2⟩
  · exact ⟨h1, .inr ⟨b, off, c, e, h3, h4, fun t ht => (hb.cell (p := ⟨b, off + t, none⟩) (Nat.lt_of_lt_of_le h4 hB) (hX b h4)).trans (h5 t ht)⟩⟩
theorem RdC.rd {B : Nat} {w : World} {v : Value} {zs : List Int} (h : RdC B w v zs) : ∃ a c, v = .slice a zs.length c ∧ zs.length ≤ c ∧ Rd B w a zs.length zs := by
  obtain ⟨h1, ⟨rfl, rfl⟩ | ⟨b, off, c, e, h3, h4, h5⟩⟩ := h
  · exact ⟨none, 0, rfl, Nat.le_refl _, rfl, h1, .inl rfl⟩
  · exact ⟨_, c, e, h3, rfl, h1, .inr ⟨b, off, rfl, h4, h5⟩⟩
theorem TkS.but {T : TypeId} {X : Nat → Prop} {w w' : World} {k : Nat} {s : St} (h : TkS T w k s) (hb : But X w w') (hX : ∀ x, x ≤ k → ¬ X x) : TkS T w' k s := by
  obtain ⟨v, h1, h2⟩ := h
  refine ⟨v, ?_, h2.but hb (Nat.le_of_lt h1.lt) (fun x hx => hX x (by omega))⟩
  have hl := h1.lt
  unfold Tkr at *
  rw [hb.block k hl (hX k (Nat.le_refl _))]
  exact h1
theorem RdC.cut {B : Nat} {w : World} {b off c m : Nat} {zs : List Int} (hb : Pl.isB zs) (hl : m ≤ zs.length) (hc : zs.length ≤ c) (hB : b < B) (h : ∀ t, t < zs.length → w.cell? ⟨b, off + t, none⟩ = some (.int .u8 (zs.getD t 0))) :
    RdC B w (.slice (some ⟨b, off, none⟩) m c) (zs.take m) ∧ RdC B w (.slice (some ⟨b, off + m, none⟩) (zs.length - m) (c - m)) (zs.drop m) := by
  have l1 : (zs.take m).length = m := by simp; omega
  have l2 : (zs.drop m).length = zs.length - m := by simp
  refine ⟨⟨Pl.isB_take hb _, .inr ⟨b, off, c, by rw [l1], by omega, hB, fun t ht => ?_⟩⟩, ⟨Pl.isB_drop hb _, .inr ⟨b, off + m, c - m, by rw [l2], by omega, hB, fun t ht => ?_⟩⟩⟩
  · rw [h t (by omega)]
    simp only [List.getD_eq_getElem?_getD]
    rw [List.getElem?_take_of_lt (by omega)]
  · rw [Nat.add_assoc, h (m + t) (by omega)]
    simp only [List.getD_eq_getElem?_getD, List.getElem?_drop]

set_option maxRecDepth 100000 in
set_option maxHeartbeats 1000000 in
theorem part_any {w : World} {k : Nat} {s : St} (m : Int) (h0 : 0 ≤ m) (h1 : m ≤ 4398046511104) (_hs : s.1.length ≤ 16777216) (h : TkS 93 w k s) :
    Calls Tryz.prog 76 #[.pointer (some ⟨k, 0, none⟩), .int .i64 m] w fun e w' => ∃ v, e = .returned v ∧ RdC k w' v (pt s m).1 ∧ TkS 93 w' k (pt s m).2 ∧ But (fun x => x = k) w w' ∧ w'.heap.size = w.heap.size := by
  obtain ⟨v, hT, hR⟩ := h
  have c0 := hT.c0
  have c1 := hT.c1
  have f0 := hT.fz 0
  have f1 := hT.fz 1
  have HT := hid hT
  have hkl := hT.lt
  by_cases hm : (s.1.length : Int) < m
  · have e : pt s m = ([], ([], true)) := by unfold pt; rw [if_pos hm]
    rw [e]
    obtain ⟨a, c, rfl, _, _⟩ := hR.rd
    have HE : Hid (RdC k ((w.setCell ⟨k, 0, none⟩ (.slice none 0 0)).setCell ⟨k, 1, none⟩ (.bool true)) (.slice none 0 0) [] ∧ TkS 93 ((w.setCell ⟨k, 0, none⟩ (.slice none 0 0)).setCell ⟨k, 1, none⟩ (.bool true)) k ([], true) ∧ But (fun x => x = k) w ((w.setCell ⟨k, 0, none⟩ (.slice none 0 0)).setCell ⟨k, 1, none⟩ (.bool true)) ∧ ((w.setCell ⟨k, 0, none⟩ (.slice none 0 0)).setCell ⟨k, 1, none⟩ (.bool true)).heap.size = w.heap.size) := by
      refine ⟨⟨Pl.isB_nil, .inl ⟨rfl, rfl⟩⟩, ⟨_, (hT.set0 _).set1 true, ⟨Pl.isB_nil, .inl ⟨rfl, rfl⟩⟩⟩, ((But.refl (fun x => x = k) w).setCell (p := ⟨k, 0, none⟩) rfl _).setCell (p := ⟨k, 1, none⟩) rfl _, by simp [World.setCell]⟩
    clear hT hR e hkl
    go_enter Tryz.func76, Tryz.ntmps76
    go_wp2
    go_ret
    exact ⟨_, rfl, HE.out⟩
  · have e : pt s m = (s.1.take m.toNat, (s.1.drop m.toNat, s.2)) := by unfold pt; rw [if_neg hm]
    rw [e]
    obtain ⟨q, rfl⟩ := Int.eq_ofNat_of_zero_le h0
    obtain ⟨hB, ⟨rfl, hz⟩ | ⟨b, off, c, rfl, h3, h4, h5⟩⟩ := hR
    · have hq : q = 0 := by rw [hz] at hm; simp at hm; omega
      subst hq
      have HE : Hid (RdC k (w.setCell ⟨k, 0, none⟩ (.slice none 0 0)) (.slice none 0 0) [] ∧ TkS 93 (w.setCell ⟨k, 0, none⟩ (.slice none 0 0)) k ([], s.2) ∧ But (fun x => x = k) w (w.setCell ⟨k, 0, none⟩ (.slice none 0 0)) ∧ (w.setCell ⟨k, 0, none⟩ (.slice none 0 0)).heap.size = w.heap.size) := by
        refine ⟨⟨Pl.isB_nil, .inl ⟨rfl, rfl⟩⟩, ⟨_, hT.set0 _, ⟨Pl.isB_nil, .inl ⟨rfl, rfl⟩⟩⟩, (But.refl (fun x => x = k) w).setCell (p := ⟨k, 0, none⟩) rfl _, by simp [World.setCell]⟩
      clear hT e hkl hB
      go_enter Tryz.func76, Tryz.ntmps76
      go_wp2
      go_ret
      exact ⟨_, rfl, HE.out⟩
    · have hq : q ≤ s.1.length := by omega
      by_cases hcq : c = q
      · have hqn : s.1.length = q := by omega
        have hb1 : But (fun x => x = k) w (w.setCell ⟨k, 0, none⟩ (.slice (some ⟨b, off, none⟩) 0 0)) := (But.refl (fun x => x = k) w).setCell (p := ⟨k, 0, none⟩) rfl _
        have hcut := RdC.cut hB hq h3 h4 h5
        have hd : s.1.drop (Int.ofNat q).toNat = [] := by rw [List.drop_of_length_le]; show s.1.length ≤ q; omega
        have HE : Hid (RdC k (w.setCell ⟨k, 0, none⟩ (.slice (some ⟨b, off, none⟩) 0 0)) (.slice (some ⟨b, off, none⟩) q q) (s.1.take (Int.ofNat q).toNat) ∧ TkS 93 (w.setCell ⟨k, 0, none⟩ (.slice (some ⟨b, off, none⟩) 0 0)) k (s.1.drop (Int.ofNat q).toNat, s.2) ∧ But (fun x => x = k) w (w.setCell ⟨k, 0, none⟩ (.slice (some ⟨b, off, none⟩) 0 0)) ∧ (w.setCell ⟨k, 0, none⟩ (.slice (some ⟨b, off, none⟩) 0 0)).heap.size = w.heap.size) := by
          rw [hd]
          rw [hcq] at hcut
          refine ⟨hcut.1.but hb1 (Nat.le_of_lt hkl) (fun x hx => by omega), ⟨_, hT.set0 _, ⟨Pl.isB_nil, .inr ⟨b, off, 0, rfl, Nat.le_refl _, h4, fun t ht => by simp at ht⟩⟩⟩, hb1, by simp [World.setCell]⟩
        rw [hqn, hcq] at c0
        clear hT e hkl hB h5 hcut hb1 hd h3 hm
        subst hcq
        clear hqn hq
        go_enter Tryz.func76, Tryz.ntmps76
        go_wp2
        go_ret
        exact ⟨_, rfl, HE.out⟩
      have hb1 : But (fun x => x = k) w (w.setCell ⟨k, 0, none⟩ (.slice (some ⟨b, off + q, none⟩) (s.1.length - q) (c - q))) := (But.refl (fun x => x = k) w).setCell (p := ⟨k, 0, none⟩) rfl _
      have hcut := RdC.cut hB hq h3 h4 h5
      have HE : Hid (RdC k (w.setCell ⟨k, 0, none⟩ (.slice (some ⟨b, off + q, none⟩) (s.1.length - q) (c - q))) (.slice (some ⟨b, off, none⟩) q c) (s.1.take (Int.ofNat q).toNat) ∧ TkS 93 (w.setCell ⟨k, 0, none⟩ (.slice (some ⟨b, off + q, none⟩) (s.1.length - q) (c - q))) k (s.1.drop (Int.ofNat q).toNat, s.2) ∧ But (fun x => x = k) w (w.setCell ⟨k, 0, none⟩ (.slice (some ⟨b, off + q, none⟩) (s.1.length - q) (c - q))) ∧ (w.setCell ⟨k, 0, none⟩ (.slice (some ⟨b, off + q, none⟩) (s.1.length - q) (c - q))).heap.size = w.heap.size) := by
        refine ⟨hcut.1.but hb1 (Nat.le_of_lt hkl) (fun x hx => by omega), ⟨_, hT.set0 _, hcut.2.but hb1 (Nat.le_of_lt hkl) (fun x hx => by omega)⟩, hb1, by simp [World.setCell]⟩
      have hqc : (q : Int) ≤ (c : Int) := by omega
      have hne : ¬ c = q := hcq
      clear hT e hkl hB h5 hcut hb1
      generalize s.1.length = n at *
      go_enter Tryz.func76, Tryz.ntmps76
      go_wp2
      go_ret
      exact ⟨_, rfl, HE.out⟩

end Go.Proofs.YthkkdmblkalknaaGreatDoor
/-
  stream: numbers and texts that are taken.
-/
namespace Go.Proofs.YthkkdmblkalknaaGreatDoor
open Go.RowKit

theorem num_lt4 {l : List Int} (h : Pl.isB l) (hl : l.length ≤ 4) : Pl.num l < 4294967296 := by
  have h1 := Pl.num_lt h
  have h2 : (256 : Int) ^ l.length ≤ 4294967296 := by
    generalize l.length = n at hl
    rcases (show n = 0 ∨ n = 1 ∨ n = 2 ∨ n = 3 ∨ n = 4 from by omega) with rfl | rfl | rfl | rfl | rfl <;> decide
  omega
theorem pt_len {s : St} {m : Int} : (pt s m).1.length ≤ m.toNat ∧ (pt s m).2.1.length ≤ s.1.length := by
  unfold pt
  split
  · simp
  · simp; omega
theorem nbG_bd {s : St} {m : Int} (hB : Pl.isB s.1) (h4 : m ≤ 4) : 0 ≤ (nbG pt s m).1 ∧ (nbG pt s m).1 < 4294967296 ∧ (nbG pt s m).2.1.length ≤ s.1.length ∧ Pl.isB (nbG pt s m).2.1 := by
  have hb := isB_pt hB m
  have hl := pt_len (s := s) (m := m)
  exact ⟨Pl.num_nonneg hb.1, num_lt4 hb.1 (by omega), hl.2, hb.2⟩

set_option maxRecDepth 100000 in
set_option maxHeartbeats 1000000 in
theorem number_any {w : World} {k : Nat} {s : St} (m : Int) (hm : m = 1 ∨ m = 4) (hs : s.1.length ≤ 16777216) (h : TkS 93 w k s) :
    Calls Tryz.prog 73 #[.pointer (some ⟨k, 0, none⟩), .int .i64 m] w fun e w' => e = .returned (.int .i64 (nbG pt s m).1) ∧ TkS 93 w' k (nbG pt s m).2 ∧ But (fun x => x = k) w w' := by
  have hm0 : 0 ≤ m := by omega
  have hw : okW [m] := by intro x hx; simp at hx; subst hx; rcases hm with rfl | rfl <;> decide
  have hsw : sumW [m] = m.toNat := by simp [sumW]
  have HN : Hid (Calls Tryz.prog 76 #[.pointer (some ⟨k, 0, none⟩), .int .i64 m] w fun e w1 => ∃ v, e = .returned v ∧ ∃ W, W = w1.alloc (.cells #[.int .i64 m] 3) ∧
      Calls Tryz.prog 105 #[v, .slice (some ⟨w1.heap.size, 0, none⟩) 1 1] W fun e w3 => TkS 93 w3 k (nbG pt s m).2 ∧ But (fun x => x = k) w w3 ∧
        ((e = .returned (.tuple #[.slice none 0 0, .int .i64 12]) ∧ (nbG pt s m).1 = 0) ∨ ∃ g, e = .returned (.tuple #[.slice (some ⟨g, 0, none⟩) 1 1, .int .i64 0]) ∧ w3.cell? ⟨g, 0, none⟩ = some (.int .i64 (nbG pt s m).1))) := by
    refine Calls.mono (part_any m hm0 (by omega) hs h) ?_
    rintro e w1 ⟨v, rfl, hv, hT, hb, hz⟩
    obtain ⟨W, hW⟩ : ∃ W, W = w1.alloc (.cells #[.int .i64 m] 3) := ⟨_, rfl⟩
    refine ⟨v, rfl, W, hW, ?_⟩
    have hbW : But (fun x => x = k) w1 W := by rw [hW]; exact (But.refl _ _).alloc _
    have hbl : Below w1.heap.size w1 W := by rw [hW]; exact (Below.refl _ _).alloc (Nat.le_refl _) _
    have hkl := hT.lt
    have hsz : W.heap.size = w1.heap.size + 1 := by rw [hW]; simp
    have hT2 : TkS 93 W k (nbG pt s m).2 := hT.but (But.of_below (X := fun _ => False) hbl) (fun _ _ h => h)
    obtain ⟨a, c, rfl, hc, hR⟩ := hv.rd
    have hR2 : Rd W.heap.size W a (pt s m).1.length (pt s m).1 := ((hR.mono (Nat.le_of_lt hkl)).below hbl).mono hbl.size
    have hI : RdI W.heap.size W (some ⟨w1.heap.size, 0, none⟩) 1 [m] := ⟨rfl, .inr ⟨_, 0, rfl, by omega, fun t ht => by
      obtain rfl : t = 0 := by omega
      exact cell_al hW 0 _ rfl⟩⟩
    have hn : (nbG pt s m).1 = Pl.num (pt s m).1 := rfl
    have hi := isB_pt (s := s) (by obtain ⟨_, _, q⟩ := h; exact q.1) m
    have hpl := pt_len (s := s) (m := m)
    by_cases q : (s.1.length : Int) < m
    · have e : (pt s m).1 = [] := by unfold pt; rw [if_pos q]
      rw [e] at hR2 ⊢
      refine Calls.mono (Unpack_size a (some ⟨w1.heap.size, 0, none⟩) 0 c 1 1 [m] W (by decide) hI hw (by rw [hsw]; omega)) ?_
      rintro e w3 ⟨rfl, rfl⟩
      exact ⟨hT2, hb.trans hbW, .inl ⟨rfl, by rw [hn, e]; rfl⟩⟩
    · have e : (pt s m).1.length = m.toNat := by unfold pt; rw [if_neg q]; simp; omega
      have hval : valK (pt s m).1 [m] 0 = (nbG pt s m).1 := by
        rw [hn]
        unfold valK
        simp [sumW]
        rw [List.take_of_length_le (by omega)]
      have h4 := num_lt4 hi.1 (by omega)
      refine Calls.mono (Unpack_ok a (some ⟨w1.heap.size, 0, none⟩) _ c 1 1 (pt s m).1 [m] W (by decide) hc hR2 hI hw (by rw [hsw]; exact e) (fun t ht => by
        obtain rfl : t = 0 := by omega
        rw [hval, hn]; omega)) ?_
      rintro e w3 ⟨g, rfl, hg, hB, hb3⟩
      refine ⟨hT2.but (But.of_below (X := fun _ => False) hb3) (fun _ _ h => h), (hb.trans hbW).trans (But.of_below hb3), .inr ⟨g, rfl, ?_⟩⟩
      have := hB.cell 0 (by rw [length_vals]; omega)
      rw [this]
      simp [vals, hval]
  clear hw hsw h hm0 hs
  generalize (nbG pt s m).1 = N at *
  generalize (nbG pt s m).2 = S at *
  go_enter Tryz.func73, Tryz.ntmps73
  go_wp2_with fail
  refine Calls.mono HN.out ?_
  rintro e w1 ⟨v, rfl, W, hW, h36⟩
  have H36 := hid h36
  have HW := hid hW
  clear h36 hW HN
  go_wp2_with fail
  rw [← HW.out]
  refine Calls.mono H36.out ?_
  rintro e w3 ⟨hT, hb, ⟨rfl, h0⟩ | ⟨g, rfl, hc⟩⟩
  · have HE := hid (And.intro hT hb)
    subst h0
    clear hT hb H36 HW
    go_wp2
    go_ret
    exact ⟨rfl, HE.out⟩
  · have HE := hid (And.intro hT hb)
    clear hT hb H36 HW
    go_wp2
    go_ret
    exact ⟨rfl, HE.out⟩

set_option maxRecDepth 100000 in
set_option maxHeartbeats 1000000 in
theorem text_any {w : World} {k : Nat} {s : St} (hs : s.1.length ≤ 16777216) (h : TkS 93 w k s) :
    Calls Tryz.prog 74 #[.pointer (some ⟨k, 0, none⟩)] w fun e w' => e = .returned (.string (strOfNums (txG pt s).1)) ∧ TkS 93 w' k (txG pt s).2 ∧ But (fun x => x = k) w w' := by
  have hB : Pl.isB s.1 := by obtain ⟨_, _, q⟩ := h; exact q.1
  have hbd := nbG_bd (m := 1) hB (by decide)
  have HN : Hid (Calls Tryz.prog 73 #[.pointer (some ⟨k, 0, none⟩), .int .i64 1] w fun e w1 => e = .returned (.int .i64 (nbG pt s 1).1) ∧
      Calls Tryz.prog 76 #[.pointer (some ⟨k, 0, none⟩), .int .i64 (nbG pt s 1).1] w1 fun e w3 => ∃ v, e = .returned v ∧ (convert 23 9 v).run Tryz.prog w3 = .ok (.string (strOfNums (txG pt s).1)) w3 ∧ TkS 93 w3 k (txG pt s).2 ∧ But (fun x => x = k) w w3) := by
    refine Calls.mono (number_any 1 (.inl rfl) hs h) ?_
    rintro e w1 ⟨rfl, hT, hb⟩
    refine ⟨rfl, Calls.mono (part_any _ hbd.1 (by omega) (by omega) hT) ?_⟩
    rintro e w3 ⟨v, rfl, hv, hT3, hb3, _⟩
    obtain ⟨a, c, rfl, hc, hR⟩ := hv.rd
    exact ⟨_, rfl, conv_str hR c, hT3, hb.trans hb3⟩
  clear hbd h hB hs
  generalize (nbG pt s 1).1 = N at *
  generalize strOfNums (txG pt s).1 = S at *
  generalize (txG pt s).2 = S2 at *
  go_enter Tryz.func74, Tryz.ntmps74
  go_wp2_with fail
  refine Calls.mono HN.out ?_
  rintro e w1 ⟨rfl, h35⟩
  have H35 := hid h35
  clear h35 HN
  go_wp2_with fail
  refine Calls.mono H35.out ?_
  rintro e w3 ⟨v, rfl, hcv, hE⟩
  have HE := hid hE
  clear hE H35
  go_wp2
  go_ret
  exact ⟨rfl, HE.out⟩

end Go.Proofs.YthkkdmblkalknaaGreatDoor
/-
  op: appendBytes by its contract.
-/
namespace Go.Proofs.YthkkdmblkalknaaGreatDoor
open Go.RowKit

theorem wordB_nm (o : PO) : wordB o cNM = txtB o.nm := if_pos rfl
theorem wordB_ot {x : ByteArray} (o : PO) (h1 : ¬ x = cNM) (h : x = cOT) : wordB o x = txtB o.ot := by unfold wordB; rw [if_neg h1, if_pos h]
theorem wordB_fr {x : ByteArray} (o : PO) (h1 : ¬ x = cNM) (h2 : ¬ x = cOT) (h : x = cFR) : wordB o x = Pl.dig o.fr 4 := by unfold wordB; rw [if_neg h1, if_neg h2, if_pos h]
theorem wordB_to {x : ByteArray} (o : PO) (h1 : ¬ x = cNM) (h2 : ¬ x = cOT) (h3 : ¬ x = cFR) (h : x = cTO) : wordB o x = Pl.dig o.to 4 := by unfold wordB; rw [if_neg h1, if_neg h2, if_neg h3, if_pos h]
theorem wordB_da {x : ByteArray} (o : PO) (h1 : ¬ x = cNM) (h2 : ¬ x = cOT) (h3 : ¬ x = cFR) (h4 : ¬ x = cTO) (h : x = cDA) : wordB o x = o.da := by unfold wordB; rw [if_neg h1, if_neg h2, if_neg h3, if_neg h4, if_pos h]
theorem wordB_no {x : ByteArray} (o : PO) (h1 : ¬ x = cNM) (h2 : ¬ x = cOT) (h3 : ¬ x = cFR) (h4 : ¬ x = cTO) (h5 : ¬ x = cDA) : wordB o x = [] := by unfold wordB; rw [if_neg h1, if_neg h2, if_neg h3, if_neg h4, if_neg h5]

theorem len_txt {s : ByteArray} (h : s.size ≤ 31) : (txtB s).length ≤ 32 := by
  unfold txtB
  rw [List.length_append, Pl.length_dig, length_nums]
  omega
theorem len_word {o : PO} (h : o.ck = 0) (x : ByteArray) : (wordB o x).length ≤ 512 := by
  have q := ck_ok h
  have t1 := len_txt q.nm
  have t2 := len_txt q.ot
  unfold wordB
  repeat' split
  all_goals first | omega | (rw [Pl.length_dig]; omega) | exact q.n | simp
theorem len_flat {o : PO} (h : o.ck = 0) (ws : List ByteArray) : (ws.flatMap (wordB o)).length ≤ 512 * ws.length := by
  induction ws with
  | nil => simp
  | cons x r ih =>
    have := len_word h x
    simp only [List.flatMap_cons, List.length_append, List.length_cons]
    omega

/-- a form among the forms -/
def FmC (w : World) (m : Nat) : Prop := w.cell? ⟨0, m * 4, none⟩ = some (.string (kw m)) ∧ w.cell? ⟨0, m * 4 + 1, none⟩ = some (.string (tl m).1) ∧ w.cell? ⟨0, m * 4 + 2, none⟩ = some (.string (tl m).2.1) ∧ w.cell? ⟨0, m * 4 + 3, none⟩ = some (.string (tl m).2.2)
theorem FmC.of {w : World} (h : GT w) {m : Nat} (hm : m ≤ 11) : FmC w m := by
  have e : ∀ j, j < 4 → w.cell? ⟨0, m * 4 + j, none⟩ = some (.string ((frm m).getD j cE)) := fun j hj => by
    rw [h.fm (m * 4 + j) (by omega)]
    unfold ftab
    rw [show (m * 4 + j) / 4 = m by omega, show (m * 4 + j) % 4 = j by omega]
  exact ⟨e 0 (by decide), e 1 (by decide), e 2 (by decide), e 3 (by decide)⟩

set_option maxRecDepth 100000 in
set_option maxHeartbeats 8000000 in
theorem aBytes_any {B : Nat} {w : World} {v : Value} {zs : List Int} (o : PO) (a : Option Addr) (c : Nat) (hk : o.ck = 0) (hn : a = none → c = 0) (hD : Rd B w a o.da.length o.da) (hG : GT w) (hGB : 9 ≤ B) (ho : Ow B w v zs) (hz : zs.length ≤ 536870912) (hw : B ≤ w.heap.size) :
    Calls Tryz.prog 39 #[v, opV o.k o.nm o.ot o.fr o.to a o.da.length c] w fun e w' => ∃ v', e = .returned v' ∧ Ow B w' v' (zs ++ encO o) ∧ Gr w w' v v' := by
  have q := ck_ok hk
  obtain ⟨m, hm⟩ := Int.eq_ofNat_of_zero_le (show 0 ≤ o.k by have := q.k1; omega)
  have m1 : 1 ≤ m := by have := q.k1; omega
  have m2 : m ≤ 11 := by have := q.k2; omega
  obtain ⟨W, hW⟩ : ∃ W, W = w.alloc (.cells #[.int .i64 o.k, .string o.nm, .string o.ot, .int .i64 o.fr, .int .i64 o.to, .slice a o.da.length c] 29) := ⟨_, rfl⟩
  have b1 : Below w.heap.size w W := by rw [hW]; exact below1 _ _
  have zW : W.heap.size = w.heap.size + 1 := by rw [hW]; simp
  have hS : some w.heap.size ≠ v.ownBlock := fun e => by have := ho.lt _ e.symm; omega
  obtain ⟨e4, n4⟩ := nw_idx m1 m2
  have HN : Hid (Calls Tryz.prog 67 #[v, .int .i64 o.k, .int .i64 1] W fun e w2 => ∃ v2, e = .returned v2 ∧ w2.cell? ⟨w.heap.size, 0, none⟩ = some (.int .i64 (m : Int)) ∧ FmC w2 m ∧
      ∀ w3, w3 = w2.alloc (.cells #[.string (kw m), .string (tl m).1, .string (tl m).2.1, .string (tl m).2.2] 76) → AbS B w.heap.size w2.heap.size o a c (frm m) w w3 v v2 (zs ++ Pl.dig o.k 1)) := by
    refine (aNum_any o.k 1 (.inl rfl) (by have := q.k1; omega) (by show o.k < 256 ^ 1; have := q.k2; omega) (ho.next b1) (by omega) (Nat.le_trans hw b1.size)).mono ?_
    rintro e w2 ⟨v2, rfl, h2, hg⟩
    have l1 : w.heap.size < W.heap.size := by omega
    have c0 := fun i x (h : (#[.int .i64 o.k, .string o.nm, .string o.ot, .int .i64 o.fr, .int .i64 o.to, .slice a o.da.length c] : Array Value)[i]? = some x) => (hg.cell (a := ⟨w.heap.size, i, none⟩) l1 hS).trans (cell_al hW i x h)
    have g2 : Below B W w2 := hg.below (Nat.le_trans hw b1.size) ho.base
    have hG2 : GT w2 := (hG.next b1).below g2 hGB
    refine ⟨v2, rfl, by rw [← hm]; exact c0 0 _ rfl, FmC.of hG2 m2, fun w3 h3 => ?_⟩
    have b3 : Below w2.heap.size w2 w3 := by rw [h3]; exact below1 _ _
    have zg := hg.size
    have l2 : w.heap.size < w2.heap.size := by omega
    have sn := hg.apart l1 hS
    have gg := ((Gr.of_below v b1).trans hg).trans (Gr.of_below v2 b3)
    refine ⟨h2.next b3, gg, gg.below hw ho.base, (b3.cell l2).trans (c0 1 _ rfl), (b3.cell l2).trans (c0 2 _ rfl), (b3.cell l2).trans (c0 3 _ rfl), (b3.cell l2).trans (c0 4 _ rfl), (b3.cell l2).trans (c0 5 _ rfl), fun j hj => four_cells h3 j hj, Nat.lt_of_lt_of_le l2 b3.size, sn, ?_, fun e => ?_⟩
    · rw [h3]; simp
    · have := h2.lt _ e.symm; omega
  have HWD := hid (fun W0 => words_any (kw m) (tl m).1 (tl m).2.1 (tl m).2.2 W0 _ rfl (nw m) e4 n4)
  have hlen : ∀ i, i ≤ 4 → (zs ++ Pl.dig o.k 1 ++ ((frm m).take i).flatMap (wordB o)).length ≤ 1073741000 := fun i hi => by
    have := len_flat hk ((frm m).take i)
    rw [List.length_append, List.length_append, Pl.length_dig]
    have : ((frm m).take i).length ≤ 4 := by rw [List.length_take]; omega
    omega
  have HT := hid (fun (W0 : World) (v0 : Value) (ys : List Int) (s : ByteArray) (hs : s.size ≤ 31) (h0 : Ow B W0 v0 ys) (hy : ys.length ≤ 1073741000) (hB : B ≤ W0.heap.size) => aText_any s (by omega) h0 hy hB)
  have HU := hid (fun (W0 : World) (v0 : Value) (ys : List Int) (n : Int) (n0 : 0 ≤ n) (n1 : n ≤ 262144) (h0 : Ow B W0 v0 ys) (hy : ys.length ≤ 1073741000) (hB : B ≤ W0.heap.size) => aNum_any n 4 (.inr rfl) n0 (by show n < 256 ^ 4; omega) h0 (by omega) hB)
  have HA := hid (fun (W0 : World) (v0 : Value) (ys : List Int) (h0 : Ow B W0 v0 ys) (hb : Below B w W0) (hy : ys.length ≤ 1073741000) (hB : B ≤ W0.heap.size) => app_rd 23 h0 (hD.below hb) hn (by have := q.n; omega) (by omega) hB)
  have HL := hid hlen
  have HQ := hid q
  have HWB := hid hw
  have HE : Hid (encO o = Pl.dig o.k 1 ++ ((frm m).take (nw m)).flatMap (wordB o)) := by
    unfold encO wordsOf
    rw [show o.k.toNat = m by omega]
    exact rfl
  have HW := hid hW
  have m1' : (1 : Int) ≤ (m : Int) := by omega
  have m2' : (m : Int) ≤ 11 := by omega
  have hnw : (nw m : Int) ≤ 4 := by omega
  clear hW b1 zW hS e4 hlen hk hD hG hGB ho hz q hn
  rw [hm] at HN HE HW HL ⊢
  clear hm
  go_enter Tryz.func39, Tryz.ntmps39
  go_wp2_with fail
  rw [← HW.out]
  refine Calls.mono HN.out ?_
  rintro e w2 ⟨v2, rfl, hc0, ⟨f0, f1, f2, f3⟩, hA⟩
  have HAb := hid hA
  clear hA HN HW
  generalize hSz : w.heap.size = S at HAb hc0 ⊢
  clear hSz
  go_wp2_with fail
  refine (HWD.out _).mono ?_
  rintro e w3 ⟨rfl, hw3⟩
  have hA := HAb.out w3 hw3
  clear HAb HWD f0 f1 f2 f3 hc0 hw3
  generalize w2.heap.size = D at *
  have HS0 := hid hA
  clear hA
  go_wp2_with fail
  go_loopw [0, 17] (fun d i wr => ∃ (r : Nat), r ≤ nw m ∧ i = .int .i64 (r : Int) ∧ AbS B S D o a c (frm m) w wr v d (zs ++ Pl.dig (m : Int) 1 ++ ((frm m).take r).flatMap (wordB o))) (fun _ i _ => nw m - (intOf i).toNat)
  case atStart => exact ⟨0, Nat.zero_le _, rfl, by simpa using HS0.out⟩
  case round =>
    obtain ⟨r, hr, rfl, hS⟩ := hrel
    by_cases hlt : r < nw m
    · have hc := hS.d r (by omega)
      rw [Nat.zero_add] at hc
      have hnx := flat_take (wordB o) (frm m) r (by show r < 4; omega)
      have o1 := hS.o1
      have o2 := hS.o2
      have o3 := hS.o3
      have o4 := hS.o4
      have o5 := hS.o5
      generalize hx : (frm m).getD r ByteArray.empty = x at hc hnx
      clear hx
      have HNX := hid hnx
      have HSS := hid hS
      have HLr := hid (HL.out r (by omega))
      have hBw := hid (Nat.le_trans HWB.out hS.gr.size)
      generalize hys : zs ++ Pl.dig (m : Int) 1 ++ ((frm m).take r).flatMap (wordB o) = ys at *
      have HN2 : Hid (zs ++ Pl.dig (m : Int) 1 ++ ((frm m).take (r + 1)).flatMap (wordB o) = ys ++ wordB o x) := by
        show _ = _
        rw [HNX.out, ← hys]; simp only [List.append_assoc]
      clear hnx hS hys HNX
      by_cases h0 : x = cNM
      · have q0 : (x.toList == ([78, 65, 77, 69] : List UInt8)) = true := by rw [beq_lit]; simp [h0]
        have H0 := hid h0
        clear h0
        go_wp2_with fail
        refine (HT.out _ _ _ _ HQ.out.nm HSS.out.ow HLr.out hBw.out).mono ?_
        rintro e w4 ⟨v4, rfl, h4, g4⟩
        have HS2 := hid (HSS.out.step h4 g4 HWB.out)
        clear h4 g4 HSS o1 o2 o3 o4 o5
        go_wp2
        go_roundw
        case rel => exact ⟨r + 1, by omega, by go_num, by rw [HN2.out, H0.out, wordB_nm]; exact HS2.out⟩
        case measure => simp [intOf]; omega
      · have q0 : (x.toList == ([78, 65, 77, 69] : List UInt8)) = false := by rw [beq_lit]; simp [h0]
        have H0 := hid h0
        clear h0
        by_cases h1 : x = cOT
        · have q1 : (x.toList == ([79, 84, 72, 69, 82] : List UInt8)) = true := by rw [beq_lit]; simp [h1]
          have H1 := hid h1
          clear h1
          go_wp2_with fail
          refine (HT.out _ _ _ _ HQ.out.ot HSS.out.ow HLr.out hBw.out).mono ?_
          rintro e w4 ⟨v4, rfl, h4, g4⟩
          have HS2 := hid (HSS.out.step h4 g4 HWB.out)
          clear h4 g4 HSS o1 o2 o3 o4 o5
          go_wp2
          go_roundw
          case rel => exact ⟨r + 1, by omega, by go_num, by rw [HN2.out, wordB_ot o H0.out H1.out]; exact HS2.out⟩
          case measure => simp [intOf]; omega
        · have q1 : (x.toList == ([79, 84, 72, 69, 82] : List UInt8)) = false := by rw [beq_lit]; simp [h1]
          have H1 := hid h1
          clear h1
          by_cases h2 : x = cFR
          · have q2 : (x.toList == ([70, 82, 79, 77] : List UInt8)) = true := by rw [beq_lit]; simp [h2]
            have H2 := hid h2
            clear h2
            go_wp2_with fail
            refine (HU.out _ _ _ _ HQ.out.f0 HQ.out.f1 HSS.out.ow HLr.out hBw.out).mono ?_
            rintro e w4 ⟨v4, rfl, h4, g4⟩
            have HS2 := hid (HSS.out.step h4 g4 HWB.out)
            clear h4 g4 HSS o1 o2 o3 o4 o5
            go_wp2
            go_roundw
            case rel => exact ⟨r + 1, by omega, by go_num, by rw [HN2.out, wordB_fr o H0.out H1.out H2.out]; exact HS2.out⟩
            case measure => simp [intOf]; omega
          · have q2 : (x.toList == ([70, 82, 79, 77] : List UInt8)) = false := by rw [beq_lit]; simp [h2]
            have H2 := hid h2
            clear h2
            by_cases h3 : x = cTO
            · have q3 : (x.toList == ([84, 79] : List UInt8)) = true := by rw [beq_lit]; simp [h3]
              have H3 := hid h3
              clear h3
              go_wp2_with fail
              refine (HU.out _ _ _ _ HQ.out.t0 HQ.out.t1 HSS.out.ow HLr.out hBw.out).mono ?_
              rintro e w4 ⟨v4, rfl, h4, g4⟩
              have HS2 := hid (HSS.out.step h4 g4 HWB.out)
              clear h4 g4 HSS o1 o2 o3 o4 o5
              go_wp2
              go_roundw
              case rel => exact ⟨r + 1, by omega, by go_num, by rw [HN2.out, wordB_to o H0.out H1.out H2.out H3.out]; exact HS2.out⟩
              case measure => simp [intOf]; omega
            · have q3 : (x.toList == ([84, 79] : List UInt8)) = false := by rw [beq_lit]; simp [h3]
              have H3 := hid h3
              clear h3
              by_cases h4 : x = cDA
              · have q4 : (x.toList == ([68, 65, 84, 65] : List UInt8)) = true := by rw [beq_lit]; simp [h4]
                have H4 := hid h4
                clear h4
                obtain ⟨v4, w4, hr4, h4, g4⟩ := HA.out _ _ _ HSS.out.ow HSS.out.bel HLr.out hBw.out
                have HS2 := hid (HSS.out.step h4 g4 HWB.out)
                clear h4 g4 HSS
                go_wp2_with (at_builtin; refine Lib.wpList_append_run _ rfl _ _ _ _ rfl _ _ rfl rfl _ _ hr4 ?_)
                go_roundw
                case rel => exact ⟨r + 1, by omega, by go_num, by rw [HN2.out, wordB_da o H0.out H1.out H2.out H3.out H4.out]; exact HS2.out⟩
                case measure => simp [intOf]; omega
              · have q4 : (x.toList == ([68, 65, 84, 65] : List UInt8)) = false := by rw [beq_lit]; simp [h4]
                have H4 := hid h4
                clear h4
                have HS2 := HSS
                clear o1 o2 o3 o4 o5
                go_wp2
                go_roundw
                case rel => exact ⟨r + 1, by omega, by go_num, by rw [HN2.out, wordB_no o H0.out H1.out H2.out H3.out H4.out, List.append_nil]; exact HS2.out⟩
                case measure => simp [intOf]; omega
    · obtain rfl : r = nw m := by omega
      have HF := hid hS
      clear hS
      go_wp2
      go_ret
      exact ⟨_, rfl, by rw [HE.out, ← List.append_assoc]; exact HF.out.ow, HF.out.gr⟩

end Go.Proofs.YthkkdmblkalknaaGreatDoor
