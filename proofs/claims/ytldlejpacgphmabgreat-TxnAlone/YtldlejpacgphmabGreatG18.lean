import Derived.Test.YtldlejpacgphmabGreatG17
import Derived.Test.YtldlejpacgphmabGreatG00
import Derived.Deep.RegionHeld3
import Derived.Deep.DeepCutAuto
namespace Go.Proofs.YtldlejpacgphmabGreat
open Go.RowKit Go.Deep
def RdH (Z : Nat → Prop) (w : World) (j c p room nb K fr bl : Nat) (d : Pd) (s : Js) (zs : List Int) (e : Ending) (w' : World) : Prop :=
 ∃ g cp, e = .returned (.tuple #[.slice (some ⟨g, 0, none⟩) 512 cp, .int .i64 0]) ∧ w.heap.size ≤ g ∧ Own w' g 512 cp zs ∧ Pl.isB zs ∧ (∃ Z', Jq Z' w' j c p room nb (K + 1) fr bl d s ∧ Gr Z Z' w ∧ ¬ Z' g) ∧ But Z w w'
theorem RdH.low {Z : Nat → Prop} {w w1 : World} {j c p room nb K fr bl : Nat} {d : Pd} {s : Js} {zs : List Int} {e : Ending} {w' : World} (b : Below w.heap.size w w1) (h : RdH (fun k => Z k ∧ k < w.heap.size) w1 j c p room nb K fr bl d s zs e w') : RdH Z w j c p room nb K fr bl d s zs e w' := by
 obtain ⟨g, cp, e1, e2, e3, e4, ⟨Z', e5, e6, e7⟩, e8⟩ := h
 have hs := b.size
 exact ⟨g, cp, e1, by omega, e3, e4, ⟨Z', e5, fun k hk q => (e6 k (by omega) q).1, e7⟩, (But.of_below b).comp e8 (fun k _ q => q.1)⟩
theorem look_j {Z : Nat → Prop} {w : World} {j c p room nb K fr bl : Nat} {d : Pd} {s : Js} (h : Jq Z w j c p room nb K fr bl d s) (h1 : fr + bl ≤ nb) (hon : d.off = false) (hl : d.puts.length ≤ 1073741824) (hK : K < 4611686018427387904) (y : Nat) (hy : y < nb) (hh : homeC nb fr bl (y : Int) = 0) {b : Nat} (hc : w.cell? ⟨b, 1, none⟩ = some (.iface 44 (.pointer (some ⟨j, 0, none⟩)))) :
  Calls Tryz.prog 132 #[.pointer (some ⟨b, 0, none⟩), .int .i64 (y : Int)] w (RdH Z w j c p room nb K fr bl d s (jread d s y)) := by
 obtain ⟨PO, hPO⟩ : ∃ PO : Ending → World → Prop, PO = RdH Z w j c p room nb K fr bl d s (jread d s y) := ⟨_, rfl⟩
 rw [← hPO]
 have HR := hid (Read_home h h1 hon hl hK y hy hh)
 have HP : Hid (∀ g cp w', (RdH Z w j c p room nb K fr bl d s (jread d s y) (.returned (.tuple #[.slice (some ⟨g, 0, none⟩) 512 cp, .int .i64 0])) w') → PO (.returned (.tuple #[.slice (some ⟨g, 0, none⟩) 512 cp, .int .i64 0])) w') := fun g cp w' q => by rw [hPO]; exact q
 clear h hPO
 go_enter Tryz.func132, Tryz.ntmps132
 go_wp2_with (rw [readJ])
 refine Calls.mono HR.out ?_
 rintro e w3 ⟨g3, cp3, rfl, q⟩
 have FIN := hid (HP.out g3 cp3 w3 ⟨g3, cp3, rfl, q⟩)
 clear q HR HP
 go_wp2
 exact FIN.out
theorem look_w {Z Zw : Nat → Prop} {w : World} {x j c p room nb K fr bl m n : Nat} {D : DataW (Nat × Nat × Int)} {a : Nat → Option (Nat × Nat × Int)} {sv mv : Value} {L : Nat → Option (List Int)} {d : Pd} {s : Js} (h : Jq Z w j c p room nb K fr bl d s) (hW : Wq Zw w x j m n nb fr bl D a sv mv L) (h1 : fr + bl ≤ nb) (hon : d.off = false) (hl : d.puts.length ≤ 1073741824) (hK : K < 4611686018427387904) (hnb : nb ≤ 524288) (y : Nat) (hy : y < nb) (hh : homeC nb fr bl (y : Int) = 0) {b : Nat} (hc : w.cell? ⟨b, 1, none⟩ = some (.iface 143 (.pointer (some ⟨x, 0, none⟩)))) :
  Calls Tryz.prog 132 #[.pointer (some ⟨b, 0, none⟩), .int .i64 (y : Int)] w (RdH Z w j c p room nb K fr bl d s ((L y).getD (jread d s y))) := by
 obtain ⟨PO, hPO⟩ : ∃ PO : Ending → World → Prop, PO = RdH Z w j c p room nb K fr bl d s ((L y).getD (jread d s y)) := ⟨_, rfl⟩
 rw [← hPO]
 have HR := hid (wread_home h hW h1 hon hl hK hnb y hy hh)
 have HP : Hid (∀ g cp w', (RdH Z w j c p room nb K fr bl d s ((L y).getD (jread d s y)) (.returned (.tuple #[.slice (some ⟨g, 0, none⟩) 512 cp, .int .i64 0])) w') → PO (.returned (.tuple #[.slice (some ⟨g, 0, none⟩) 512 cp, .int .i64 0])) w') := fun g cp w' q => by rw [hPO]; exact q
 clear h hW hPO
 go_enter Tryz.func132, Tryz.ntmps132
 go_wp2_with (rw [readW])
 refine Calls.mono HR.out ?_
 rintro e w3 ⟨g3, cp3, rfl, q⟩
 have FIN := hid (HP.out g3 cp3 w3 ⟨g3, cp3, rfl, q⟩)
 clear q HR HP
 go_wp2
 exact FIN.out
theorem sread_home {Z : Nat → Prop} {w : World} {j c p room nb K fr bl : Nat} {d : Pd} {s : Js} (h : Jq Z w j c p room nb K fr bl d s) (h1 : fr + bl ≤ nb) (hon : d.off = false) (hl : d.puts.length ≤ 1073741824) (hK : K < 4611686018427387904) (y : Nat) (hy : y < nb) (hh : homeC nb fr bl (y : Int) = 0) {st : Nat} {tv : Value} (hs : Stb w st j tv) :
  Calls Tryz.prog 83 #[.pointer (some ⟨st, 0, none⟩), .int .i64 (y : Int)] w (RdH Z w j c p room nb K fr bl d s (jread d s y)) := by
 obtain ⟨PO, hPO⟩ : ∃ PO : Ending → World → Prop, PO = RdH Z w j c p room nb K fr bl d s (jread d s y) := ⟨_, rfl⟩
 rw [← hPO]
 have HA := hid (sask_any h hs)
 rw [hon] at HA
 have HL : Hid (∀ w1, Below w.heap.size w w1 → Calls Tryz.prog 132 #[.pointer (some ⟨st, 0, none⟩), .int .i64 (y : Int)] w1 (RdH (fun k => Z k ∧ k < w.heap.size) w1 j c p room nb K fr bl d s (jread d s y))) := fun w1 b1 => look_j (h.cut.below b1) h1 hon hl hK y hy hh ((b1.cell (p := ⟨st, 1, none⟩) hs.lt).trans (hs.cell 1))
 have HP : Hid (∀ w1 e w', Below w.heap.size w w1 → RdH (fun k => Z k ∧ k < w.heap.size) w1 j c p room nb K fr bl d s (jread d s y) e w' → PO e w') := fun w1 e w' b q => by rw [hPO]; exact q.low b
 clear h hs hPO
 go_enter Tryz.func83, Tryz.ntmps83
 go_wp2_with fail
 refine Calls.mono HA.out ?_
 rintro e w1 ⟨rfl, b1⟩
 have HL1 := hid (HL.out w1 b1)
 have HP1 : Hid (∀ e w', RdH (fun k => Z k ∧ k < w.heap.size) w1 j c p room nb K fr bl d s (jread d s y) e w' → PO e w') := fun e w' q => HP.out w1 e w' b1 q
 clear b1 HA HL HP
 go_wp2_with fail
 refine Calls.mono HL1.out ?_
 rintro e w3 q
 obtain ⟨g3, cp3, rfl, _⟩ := id q
 have FIN := hid (HP1.out _ w3 q)
 clear q HL1 HP1
 go_wp2
 exact FIN.out
theorem tread_home {Z Zw : Nat → Prop} {w : World} {x j c p room nb K fr bl m n : Nat} {D : DataW (Nat × Nat × Int)} {a : Nat → Option (Nat × Nat × Int)} {sv mv : Value} {L : Nat → Option (List Int)} {d : Pd} {s : Js} (h : Jq Z w j c p room nb K fr bl d s) (hW : Wq Zw w x j m n nb fr bl D a sv mv L) (h1 : fr + bl ≤ nb) (hon : d.off = false) (hl : d.puts.length ≤ 1073741824) (hK : K < 4611686018427387904) (hnb : nb ≤ 524288) (y : Nat) (hy : y < nb) (hh : homeC nb fr bl (y : Int) = 0) {t st : Nat} (ht : Txb w t j (.iface 143 (.pointer (some ⟨x, 0, none⟩))) st (.pointer (some ⟨x, 0, none⟩))) (hs : Stb w st j (.pointer (some ⟨t, 0, none⟩))) :
  Calls Tryz.prog 82 #[.pointer (some ⟨t, 0, none⟩), .int .i64 (y : Int)] w (RdH Z w j c p room nb K fr bl d s ((L y).getD (jread d s y))) := by
 obtain ⟨PO, hPO⟩ : ∃ PO : Ending → World → Prop, PO = RdH Z w j c p room nb K fr bl d s ((L y).getD (jread d s y)) := ⟨_, rfl⟩
 rw [← hPO]
 have HA := hid (task_open h hon ht hs)
 have HL : Hid (∀ w1, Below w.heap.size w w1 → Calls Tryz.prog 132 #[.pointer (some ⟨t, 0, none⟩), .int .i64 (y : Int)] w1 (RdH (fun k => Z k ∧ k < w.heap.size) w1 j c p room nb K fr bl d s ((L y).getD (jread d s y)))) := fun w1 b1 => look_w (h.cut.below b1) (hW.keep (fun k _ hk => b1.block k hk)) h1 hon hl hK hnb y hy hh ((b1.cell (p := ⟨t, 1, none⟩) ht.lt).trans (ht.cell 1))
 have HP : Hid (∀ w1 e w', Below w.heap.size w w1 → RdH (fun k => Z k ∧ k < w.heap.size) w1 j c p room nb K fr bl d s ((L y).getD (jread d s y)) e w' → PO e w') := fun w1 e w' b q => by rw [hPO]; exact q.low b
 clear h hs ht hW hPO
 go_enter Tryz.func82, Tryz.ntmps82
 go_wp2_with fail
 refine Calls.mono HA.out ?_
 rintro e w1 ⟨rfl, b1⟩
 have HL1 := hid (HL.out w1 b1)
 have HP1 : Hid (∀ e w', RdH (fun k => Z k ∧ k < w.heap.size) w1 j c p room nb K fr bl d s ((L y).getD (jread d s y)) e w' → PO e w') := fun e w' q => HP.out w1 e w' b1 q
 clear b1 HA HL HP
 go_wp2_with fail
 refine Calls.mono HL1.out ?_
 rintro e w3 q
 obtain ⟨g3, cp3, rfl, _⟩ := id q
 have FIN := hid (HP1.out _ w3 q)
 clear q HL1 HP1
 go_wp2
 exact FIN.out
open Go.RowKit Go.Deep
set_option maxRecDepth 100000 in
theorem over_new (j nb fr bl : Nat) (w : World) : Calls Tryz.prog 85 #[.iface 44 (.pointer (some ⟨j, 0, none⟩))] w fun e w' => ∃ x m, e = .returned (.pointer (some ⟨x, 0, none⟩)) ∧ w.heap.size ≤ x ∧ w.heap.size ≤ m ∧ x < w'.heap.size ∧ m < w'.heap.size ∧ Below w.heap.size w w' ∧ Wq (fun k => k = x ∨ k = m) w' x j m 0 nb fr bl (.map []) (fun _ => none) (.slice none 0 0) (.slice none 0 0) (fun _ => none) := by
 obtain ⟨w1, hw1⟩ : ∃ w1, w1 = w.alloc (.map #[] 0) := ⟨_, rfl⟩
 have z1 : w1.heap.size = w.heap.size + 1 := by rw [hw1]; simp
 have b1 : Below w.heap.size w w1 := by rw [hw1]; exact (Below.refl _ _).alloc (Nat.le_refl _) _
 have m1 : w1.ownsMap Tryz.prog 3 wrElem w.heap.size 0 (.map [] : DataW (Nat × Nat × Int)) := by rw [hw1]; exact World.ownsMap_made w Tryz.prog 3 wrElem
 obtain ⟨w2, hw2⟩ : ∃ w2, w2 = w1.alloc (.cells #[.iface 44 (.pointer (some ⟨j, 0, none⟩)), .map (some w.heap.size), .slice none 0 0, .slice none 0 0] 208) := ⟨_, rfl⟩
 have z2 : w2.heap.size = w.heap.size + 2 := by rw [hw2]; simp [z1]
 have b2 : Below w1.heap.size w1 w2 := by rw [hw2]; exact (Below.refl _ _).alloc (Nat.le_refl _) _
 have FIN : Hid (∃ x m, Ending.returned (.pointer (some ⟨w.heap.size + 1, 0, none⟩)) = .returned (.pointer (some ⟨x, 0, none⟩)) ∧ w.heap.size ≤ x ∧ w.heap.size ≤ m ∧ x < w2.heap.size ∧ m < w2.heap.size ∧ Below w.heap.size w w2 ∧ Wq (fun k => k = x ∨ k = m) w2 x j m 0 nb fr bl (.map []) (fun _ => none) (.slice none 0 0) (.slice none 0 0) (fun _ => none)) := by
  refine ⟨w.heap.size + 1, w.heap.size, rfl, by omega, by omega, by omega, by omega, b1.trans (b2.mono (by omega)), ⟨?_, mapW_keep m1 (b2.block _ (by omega)), AMx.nil nb, (fun y g cp k e => by cases e), fun _ _ => rfl, .inl rfl, .inr rfl⟩⟩
  rw [hw2, ← z1]
  exact Array.getElem?_push_size
 have HW : Hid (w2 = (w.alloc (.map #[] 0)).alloc (.cells #[.iface 44 (.pointer (some ⟨j, 0, none⟩)), .map (some w.heap.size), .slice none 0 0, .slice none 0 0] 208)) := hw2.trans (by rw [hw1])
 have hmm := @run_makeMap Tryz.prog
 clear hw1 hw2 b1 b2 m1 z1 z2
 go_enter Tryz.func85, Tryz.ntmps85
 go_wp2
 rw [← HW.out]
 go_ret
 exact FIN.out
set_option maxRecDepth 100000 in
set_option maxHeartbeats 1000000 in
theorem begin_any {Z : Nat → Prop} {w : World} {j c p room nb K fr bl : Nat} {d : Pd} {s : Js} (h : Jq Z w j c p room nb K fr bl d s) (hon : d.off = false) {st : Nat} (hs : Stb w st j (.pointer none)) :
  Calls Tryz.prog 27 #[.pointer (some ⟨st, 0, none⟩)] w fun e w' => ∃ t x m, e = .returned (.tuple #[.pointer (some ⟨t, 0, none⟩), .int .i64 0]) ∧ (w.heap.size ≤ t ∧ w.heap.size ≤ x ∧ w.heap.size ≤ m ∧ x < t ∧ m < t ∧ t < w'.heap.size) ∧ Txb w' t j (.iface 143 (.pointer (some ⟨x, 0, none⟩))) st (.pointer (some ⟨x, 0, none⟩)) ∧ Stb w' st j (.pointer (some ⟨t, 0, none⟩)) ∧ Wq (fun k => k = x ∨ k = m) w' x j m 0 nb fr bl (.map []) (fun _ => none) (.slice none 0 0) (.slice none 0 0) (fun _ => none) ∧ But (fun k => k = st) w w' := by
 obtain ⟨PO, hPO⟩ : ∃ PO : Ending → World → Prop, PO = fun e w' => ∃ t x m, e = .returned (.tuple #[.pointer (some ⟨t, 0, none⟩), .int .i64 0]) ∧ (w.heap.size ≤ t ∧ w.heap.size ≤ x ∧ w.heap.size ≤ m ∧ x < t ∧ m < t ∧ t < w'.heap.size) ∧ Txb w' t j (.iface 143 (.pointer (some ⟨x, 0, none⟩))) st (.pointer (some ⟨x, 0, none⟩)) ∧ Stb w' st j (.pointer (some ⟨t, 0, none⟩)) ∧ Wq (fun k => k = x ∨ k = m) w' x j m 0 nb fr bl (.map []) (fun _ => none) (.slice none 0 0) (.slice none 0 0) (fun _ => none) ∧ But (fun k => k = st) w w' := ⟨_, rfl⟩
 rw [← hPO]
 have HA := hid (sask_any h hs)
 rw [hon] at HA
 have HS : Hid (∀ w', Below w.heap.size w w' → Stb w' st j (.pointer none) ∧ st < w'.heap.size) := fun w' b => ⟨hs.keep (b.block st hs.lt), Nat.lt_of_lt_of_le hs.lt b.size⟩
 have hsl := hs.lt
 have HP : Hid (∀ w2 x m, Below w.heap.size w w2 → (w.heap.size ≤ x ∧ w.heap.size ≤ m ∧ x < w2.heap.size ∧ m < w2.heap.size) → Wq (fun k => k = x ∨ k = m) w2 x j m 0 nb fr bl (.map []) (fun _ => none) (.slice none 0 0) (.slice none 0 0) (fun _ => none) → PO (.returned (.tuple #[.pointer (some ⟨w2.heap.size, 0, none⟩), .int .i64 0])) ((w2.setCell ⟨st, 2, none⟩ (.pointer (some ⟨w2.heap.size, 0, none⟩))).alloc (.cells #[.pointer (some ⟨j, 0, none⟩), .iface 143 (.pointer (some ⟨x, 0, none⟩)), .pointer (some ⟨st, 0, none⟩), .pointer (some ⟨x, 0, none⟩)] 146))) := fun w2 x m b2 hx hW => by
  rw [hPO]
  have s2 := b2.size
  have bs : But (fun k => k = st) w2 (w2.setCell ⟨st, 2, none⟩ (.pointer (some ⟨w2.heap.size, 0, none⟩))) := (But.refl (fun k => k = st) w2).setCell rfl _
  have bt : But (fun k => k = st) w2 ((w2.setCell ⟨st, 2, none⟩ (.pointer (some ⟨w2.heap.size, 0, none⟩))).alloc (.cells #[.pointer (some ⟨j, 0, none⟩), .iface 143 (.pointer (some ⟨x, 0, none⟩)), .pointer (some ⟨st, 0, none⟩), .pointer (some ⟨x, 0, none⟩)] 146)) := bs.alloc _
  refine ⟨w2.heap.size, x, m, rfl, ⟨by omega, hx.1, hx.2.1, hx.2.2.1, hx.2.2.2, by simp⟩, ?_, ?_, hW.but bt (fun k hk q e => by omega), (But.of_below b2 (X := fun k => k = st)).comp bt (fun _ _ q => q)⟩
  ·have := @Array.getElem?_push_size _ (w2.setCell ⟨st, 2, none⟩ (.pointer (some ⟨w2.heap.size, 0, none⟩))).heap (.cells #[.pointer (some ⟨j, 0, none⟩), .iface 143 (.pointer (some ⟨x, 0, none⟩)), .pointer (some ⟨st, 0, none⟩), .pointer (some ⟨x, 0, none⟩)] 146 (0, 0))
   unfold Txb
   simp only [World.alloc]
   rw [show w2.heap.size = (w2.setCell ⟨st, 2, none⟩ (.pointer (some ⟨w2.heap.size, 0, none⟩))).heap.size by simp]
   simpa using this
  ·exact ((HS.out w2 b2).1.set _).keep (Below.heap_alloc _ _ _ (by simpa using (HS.out w2 b2).2))
 clear h hs hPO
 go_enter Tryz.func27, Tryz.ntmps27
 go_wp2_with fail
 refine Calls.mono HA.out ?_
 rintro e w1 ⟨rfl, b1⟩
 obtain ⟨s1, _⟩ := HS.out w1 b1
 have k0 := s1.cell 0
 have k1 := s1.cell 1
 have k2 := s1.cell 2
 simp at k0 k1 k2
 have B1 := hid b1
 clear b1 HA s1
 go_wp2_with fail
 refine Calls.mono (over_new j nb fr bl w1) ?_
 rintro e w2 ⟨x, m, rfl, hx1, hx2, hx3, hx4, b2, hW⟩
 have s1 := B1.out.size
 have B2 : Hid (Below w.heap.size w w2) := B1.out.trans (b2.mono s1)
 obtain ⟨s2, hsl2⟩ := HS.out w2 B2.out
 have q0 := s2.cell 0
 have q2 := s2.cell 2
 have qf := s2.frozen 2
 simp at q0 q2
 have FIN := hid (HP.out w2 x m B2.out ⟨by omega, by omega, hx3, hx4⟩ hW)
 clear b2 hW k0 k1 k2 HS HP s2 B1 B2 hx1 hx2 s1
 go_wp2
 exact FIN.out
set_option maxRecDepth 100000 in
theorem end_any {w : World} {t j st : Nat} {fv wv tv : Value} (ht : Txb w t j fv st wv) (hs : Stb w st j tv) (hne : st ≠ t) :
  Calls Tryz.prog 88 #[.pointer (some ⟨t, 0, none⟩)] w fun e w' => e = .returned (.tuple #[]) ∧ Txb w' t j .nilIface st (.pointer none) ∧ Stb w' st j (.pointer none) ∧ But (fun k => k = st ∨ k = t) w w' := by
 obtain ⟨PO, hPO⟩ : ∃ PO : Ending → World → Prop, PO = fun e w' => e = .returned (.tuple #[]) ∧ Txb w' t j .nilIface st (.pointer none) ∧ Stb w' st j (.pointer none) ∧ But (fun k => k = st ∨ k = t) w w' := ⟨_, rfl⟩
 rw [← hPO]
 obtain ⟨w3, hw3⟩ : ∃ w3, w3 = ((w.setCell ⟨st, 2, none⟩ (.pointer none)).setCell ⟨t, 3, none⟩ (.pointer none)).setCell ⟨t, 1, none⟩ .nilIface := ⟨_, rfl⟩
 have FIN : Hid (Txb w3 t j .nilIface st (.pointer none) ∧ Stb w3 st j (.pointer none) ∧ But (fun k => k = st ∨ k = t) w w3) := by
  have t1 : Txb (w.setCell ⟨st, 2, none⟩ (.pointer none)) t j fv st wv := ht.keep (Below.heap_setCell _ _ _ _ (fun e => hne e.symm))
  have t2 : Txb ((w.setCell ⟨st, 2, none⟩ (.pointer none)).setCell ⟨t, 3, none⟩ (.pointer none)) t j fv st (.pointer none) := by
   unfold Txb at *
   simp only [World.setCell, Array.getElem?_modify] at t1 ⊢
   rw [t1]
   simp
  refine ⟨?_, ?_, ?_⟩
  ·rw [hw3]
   unfold Txb at *
   simp only [World.setCell, Array.getElem?_modify] at t2 ⊢
   rw [t2]
   simp
  ·rw [hw3]
   exact ((hs.set (.pointer none)).keep (Below.heap_setCell _ _ _ _ hne)).keep (Below.heap_setCell _ _ _ _ hne)
  ·rw [hw3]
   exact (((But.refl (fun k => k = st ∨ k = t) w).setCell (.inl rfl) _).setCell (.inr rfl) _).setCell (.inr rfl) _
 have FP : Hid (PO (.returned (.tuple #[])) w3) := by rw [hPO]; exact ⟨rfl, FIN.out⟩
 have HW := hid hw3
 clear FIN hPO
 have k2 := ht.cell 2
 have k3 := ht.cell 3
 have k1 := ht.cell 1
 have f1 := ht.frozen 1
 have f3 := ht.frozen 3
 have q2 := hs.cell 2
 have qf := hs.frozen 2
 simp at k1 k2 k3 q2
 have hne' : ¬ t = st := fun e => hne e.symm
 clear ht hs hw3
 go_enter Tryz.func88, Tryz.ntmps88
 go_wp2
 rw [← HW.out]
 go_end0
 exact FP.out
open Go.RowKit
theorem zA {α : Type} (l : List α) (i : Nat) (a : α) : l.toArray.setIfInBounds i a = (l.set i a).toArray := by simp only [List.setIfInBounds_toArray]
theorem zB {α : Type} (l : List α) (a b : α) : (a :: l).set 0 b = b :: l := rfl
theorem zC {α : Type} (l : List α) (n : Nat) (a b : α) : (a :: l).set (n + 1) b = a :: l.set n b := rfl
theorem tk {P : Program} {ops : Array Oper} {Q : Exit → Act → World → Prop} {md : Region.Mode} {S : World → Prop} {po : String} {af : Array Edge} {v : Value} {fuel : Nat} {listed : Array Bool} {a : Act} {w : World} (i : Nat) (d : Option Tmp) (o : Op) (t : TypeId) (g : Option (Nat × Bool)) (hS : S w)
  (h : wpAnyH P md ops Q S fuel (listed.setIfInBounds i true) (a.put d v) w) (hi : ops[i]? = some ⟨d, o, t, po, af, g⟩ := by rfl)
  (hk : (Region.noSelect ops && (Region.free md ops listed i && (Region.ready md ops listed).contains i)) = true := by kernel_rfl) (hQ : ∀ c a w, Q (.panic c) (a.put d v) w → Q (.panic c) a w := by exact fun _ _ _ h => h) (hw : Region.wanted ⟨d, o, t, po, af, g⟩ (yielded ops a.tmps) = true := by rfl) (hy : ∀ w, S w → (execOp a.eval ⟨d, o, t, po, af, g⟩).run P w = .ok (.value v) w := by (intro a h; (try dsimp only at h); (try go_split_ands); go_simp; try with_reducible rfl)) : wpAnyH P md ops Q S (fuel + 1) listed a w := by
 simp only [Bool.and_eq_true] at hk
 exact wpAnyH_take hi hk.1 hk.2.1 hk.2.2 hQ (Or.inl ⟨hw, hy⟩) hS h
theorem sk {P : Program} {ops : Array Oper} {Q : Exit → Act → World → Prop} {md : Region.Mode} {S : World → Prop} {po : String} {af : Array Edge} {fuel : Nat} {listed : Array Bool} {a : Act} {w : World} (i : Nat) (d : Option Tmp) (o : Op) (t : TypeId) (g : Option (Nat × Bool)) (hS : S w)
  (h : wpAnyH P md ops Q S fuel (listed.setIfInBounds i true) (a.put d undef) w) (hi : ops[i]? = some ⟨d, o, t, po, af, g⟩ := by rfl)
  (hk : (Region.noSelect ops && (Region.free md ops listed i && (Region.ready md ops listed).contains i)) = true := by kernel_rfl) (hQ : ∀ c a w, Q (.panic c) (a.put d undef) w → Q (.panic c) a w := by exact fun _ _ _ h => h) (hw : Region.wanted ⟨d, o, t, po, af, g⟩ (yielded ops a.tmps) = false := by rfl) : wpAnyH P md ops Q S (fuel + 1) listed a w := by
 simp only [Bool.and_eq_true] at hk
 exact wpAnyH_take hi hk.1 hk.2.1 hk.2.2 hQ (Or.inr ⟨hw, rfl⟩) hS h
open Go.RowKit Go.Deep
def putL (L : Nat → Option (List Int)) (y : Nat) (zs : List Int) : Nat → Option (List Int) := fun z => if z = y then some zs else L z
theorem Wq.put {Zw : Nat → Prop} {w w1 w2 : World} {x j m n nb fr bl : Nat} {D : DataW (Nat × Nat × Int)} {a : Nat → Option (Nat × Nat × Int)} {sv mv : Value} {L : Nat → Option (List Int)} (hW : Wq Zw w x j m n nb fr bl D a sv mv L) (hxm : x ≠ m) (hdm : ∀ z g cp k, a z = some (g, cp, k) → g ≠ m) {y : Nat} (hy : y < nb) (hh : homeC nb fr bl (y : Int) = 0) {g cp : Nat} {mk : Int} {zs : List Int} (b1 : Below w.heap.size w w1) (hg : w.heap.size ≤ g) (ho : Own w1 g 512 cp zs) (hz : Pl.isB zs) (m2 : w2.ownsMap Tryz.prog 3 wrElem m (n + 1) (D.put (.int .i64 (y : Int)) (.held (g, cp, mk)))) (t2 : But (fun k => k = m) w1 w2) :
  Wq (fun k => Zw k ∨ k = g) w2 x j m (n + 1) nb fr bl (D.put (.int .i64 (y : Int)) (.held (g, cp, mk))) (putX a y (g, cp, mk)) sv mv (putL L y zs) ∧ But (fun k => k = m) w w2 := by
 have hxl := hW.lt
 have hml := hW.mp.lt
 have s1 := b1.size
 have bt : But (fun k => k = m) w w2 := (But.of_below b1 (X := fun k => k = m)).comp t2 (fun _ _ q => q)
 refine ⟨⟨(bt.block x hxl hxm).trans hW.blk, m2, hW.am.put y hy _, fun z g' cp' k e => ?_, fun z e => ?_, .inl hW.zx, .inl hW.zm⟩, bt⟩
 ·by_cases ez : z = y
  ·subst ez
   have e' : some (g, cp, mk) = some (g', cp', k) := by simpa [putX] using e
   cases e'
   exact ⟨zs, by simp [putL], ho.keep (t2.block g ho.lt (by omega)), hz, ⟨hy, hh⟩, .inr rfl⟩
  ·have e' : a z = some (g', cp', k) := by simpa [putX, ez] using e
   obtain ⟨zs', q1, q2, q3, q4, q5⟩ := hW.dat z g' cp' k e'
   exact ⟨zs', by simp [putL, ez, q1], q2.keep (bt.block g' q2.lt (hdm z g' cp' k e')), q3, q4, .inl q5⟩
 ·by_cases ez : z = y
  ·subst ez
   simp [putX] at e
  ·have e' : a z = none := by simpa [putX, ez] using e
   simp [putL, ez, hW.non z e']
set_option maxRecDepth 100000 in
set_option maxHeartbeats 4000000 in
theorem lay_none {Zw : Nat → Prop} {w : World} {x j m n nb fr bl : Nat} {D : DataW (Nat × Nat × Int)} {a : Nat → Option (Nat × Nat × Int)} {sv : Value} {L : Nat → Option (List Int)} (hW : Wq Zw w x j m n nb fr bl D a sv (.slice none 0 0) L) (hxm : x ≠ m) (hdm : ∀ z g cp k, a z = some (g, cp, k) → g ≠ m) (hn : n ≤ 1073741823) (y : Nat) (hy : y < nb) (hh : homeC nb fr bl (y : Int) = 0) (hnb : nb ≤ 524288) (ad : Addr) (cd : Nat) (zs : List Int) (hR : Rd w.heap.size w (some ad) 512 zs) :
  Calls Tryz.prog 134 #[.pointer (some ⟨x, 0, none⟩), .int .i64 (y : Int), .slice (some ad) 512 cd] w fun e w' => e = .returned (.tuple #[]) ∧ ∃ g cp, w.heap.size ≤ g ∧ Wq (fun k => Zw k ∨ k = g) w' x j m (n + 1) nb fr bl (D.put (.int .i64 (y : Int)) (.held (g, cp, 0))) (putX a y (g, cp, 0)) sv (.slice none 0 0) (putL L y zs) ∧ But (fun k => k = m) w w' := by
 obtain ⟨PO, hPO⟩ : ∃ PO : Ending → World → Prop, PO = fun e w' => e = .returned (.tuple #[]) ∧ ∃ g cp, w.heap.size ≤ g ∧ Wq (fun k => Zw k ∨ k = g) w' x j m (n + 1) nb fr bl (D.put (.int .i64 (y : Int)) (.held (g, cp, 0))) (putX a y (g, cp, 0)) sv (.slice none 0 0) (putL L y zs) ∧ But (fun k => k = m) w w' := ⟨_, rfl⟩
 rw [← hPO]
 have hisb := hR.2.1
 obtain ⟨ba, bn, bc, mk, ok, hhas, hat⟩ : ∃ ba bn bc mk ok, Maps.has D (.int .i64 (y : Int)) = ok ∧ ∀ v ps, wrElem v = some (D.atKey (.int .i64 (y : Int)) .nil, ps) → v = .agg #[.slice ba bn bc, .int .i64 mk] := by
  cases ha : a y with
  | some r =>
   obtain ⟨g, cp, mk⟩ := r
   refine ⟨some ⟨g, 0, none⟩, 512, cp, mk, true, (hW.am.hit y _ ha).1, fun v ps hv => ?_⟩
   rw [(hW.am.hit y _ ha).2] at hv
   exact wrElem_inv hv
  | none =>
   have hhas : Maps.has D (.int .i64 (y : Int)) = false := hW.am.miss (y : Int) (fun z e => by
    have : z = y := by omega
    rw [this]; exact ha)
   refine ⟨none, 0, 0, 0, false, hhas, fun v ps hv => ?_⟩
   rw [Maps.atKey_of_not_has hhas] at hv
   exact wrElem_nil hv
 have x1 := hW.cell 1
 simp at x1
 have hm := hW.mp
 have hkey : keyOf Tryz.prog 3 (.int .i64 (y : Int)) = some (.int .i64 (y : Int)) := Maps.keyOf_int_mk Tryz.underlying3 (WalkArith.wf_i64 (by omega))
 have hxl := hW.lt
 obtain ⟨w1, hw1⟩ : ∃ w1, w1 = w.alloc (.cells #[.slice ba bn bc, .int .i64 mk] 214) := ⟨_, rfl⟩
 have b1 : Below w.heap.size w w1 := by rw [hw1]; exact (Below.refl _ _).alloc (Nat.le_refl _) _
 have s1 := b1.size
 have x3 := (b1.cell (p := ⟨x, 3, none⟩) hxl).trans (hW.cell 3)
 simp at x3
 have HCl : Hid (Calls Tryz.prog 56 #[.slice (some ad) 512 cd] w1.drew fun e wc => ∃ g cp, e = .returned (.slice (some ⟨g, 0, none⟩) 512 cp) ∧ wc.cell? ⟨x, 3, none⟩ = some (.slice none 0 0) ∧ x < wc.heap.size ∧ ∃ nw g' cp', Value.pointer (some ⟨wc.heap.size, 0, none⟩) = .pointer (some ⟨nw, 0, none⟩) ∧ (wc.alloc (.cells #[.slice (some ⟨g, 0, none⟩) 512 cp, .int .i64 0] 214)).cell? ⟨nw, 0, none⟩ = some (.slice (some ⟨g', 0, none⟩) 512 cp') ∧ (wc.alloc (.cells #[.slice (some ⟨g, 0, none⟩) 512 cp, .int .i64 0] 214)).cell? ⟨nw, 1, none⟩ = some (.int .i64 0) ∧ w1.heap.size ≤ nw ∧ w1.heap.size ≤ g' ∧ nw < (wc.alloc (.cells #[.slice (some ⟨g, 0, none⟩) 512 cp, .int .i64 0] 214)).heap.size ∧ Own (wc.alloc (.cells #[.slice (some ⟨g, 0, none⟩) 512 cp, .int .i64 0] 214)) g' 512 cp' zs ∧ Below w1.heap.size w1 (wc.alloc (.cells #[.slice (some ⟨g, 0, none⟩) 512 cp, .int .i64 0] 214))) := by
  refine Calls.mono (Clone_any ad 512 cd zs w1.drew (by omega) ((hR.below (b1.drew)).mono b1.size)) ?_
  rintro e wc ⟨g, cp, rfl, h1, h2, h3⟩
  have h3' : Below w1.heap.size w1 wc := (Below.refl w1.heap.size w1).drew.trans h3
  have h1' : w1.heap.size ≤ g := h1
  have s3 := h3'.size
  have b4 : Below wc.heap.size wc (wc.alloc (.cells #[.slice (some ⟨g, 0, none⟩) 512 cp, .int .i64 0] 214)) := (Below.refl _ _).alloc (Nat.le_refl _) _
  exact ⟨g, cp, rfl, (h3'.cell (p := ⟨x, 3, none⟩) (by show x < _; omega)).trans x3, by omega, wc.heap.size, g, cp, rfl, cell_new rfl 0 _ rfl, cell_new rfl 1 _ rfl, s3, h1', by simp, h2.keep (b4.block g h2.lt), h3'.trans (b4.mono s3)⟩
 obtain ⟨wB, hwB⟩ : ∃ wB, wB = w1.alloc (.cells #[.slice none 0 0, .int .i64 0] 214) := ⟨_, rfl⟩
 have bB : Below w1.heap.size w1 wB := by rw [hwB]; exact (Below.refl _ _).alloc (Nat.le_refl _) _
 have zB : wB.heap.size = w1.heap.size + 1 := by rw [hwB]; simp
 have x3B : (w1.alloc (.cells #[.slice none 0 0, .int .i64 0] 214)).drew.cell? ⟨x, 3, none⟩ = some (.slice none 0 0) := by
  rw [← hwB]
  exact (bB.cell (p := ⟨x, 3, none⟩) (by show x < _; omega)).trans x3
 have hxn : ¬ w1.heap.size = x := by omega
 have HCB : Hid (Calls Tryz.prog 56 #[.slice (some ad) 512 cd] (w1.alloc (.cells #[.slice none 0 0, .int .i64 0] 214)).drew fun e wc => ∃ g cp, e = .returned (.slice (some ⟨g, 0, none⟩) 512 cp) ∧ wc.cell? ⟨x, 3, none⟩ = some (.slice none 0 0) ∧ wc.cell? ⟨w1.heap.size, 0, none⟩ = some (.slice none 0 0) ∧ wc.cell? ⟨w1.heap.size, 1, none⟩ = some (.int .i64 0) ∧ wc.frozen? ⟨w1.heap.size, 0, none⟩ = false ∧ wc.frozen? ⟨w1.heap.size, 1, none⟩ = false ∧ ((wc.setCell ⟨w1.heap.size, 0, none⟩ (.slice (some ⟨g, 0, none⟩) 512 cp)).setCell ⟨w1.heap.size, 1, none⟩ (.int .i64 0)).cell? ⟨x, 3, none⟩ = some (.slice none 0 0) ∧ ∃ nw g' cp', Value.pointer (some ⟨w1.heap.size, 0, none⟩) = .pointer (some ⟨nw, 0, none⟩) ∧ ((wc.setCell ⟨w1.heap.size, 0, none⟩ (.slice (some ⟨g, 0, none⟩) 512 cp)).setCell ⟨w1.heap.size, 1, none⟩ (.int .i64 0)).cell? ⟨nw, 0, none⟩ = some (.slice (some ⟨g', 0, none⟩) 512 cp') ∧ ((wc.setCell ⟨w1.heap.size, 0, none⟩ (.slice (some ⟨g, 0, none⟩) 512 cp)).setCell ⟨w1.heap.size, 1, none⟩ (.int .i64 0)).cell? ⟨nw, 1, none⟩ = some (.int .i64 0) ∧ w1.heap.size ≤ nw ∧ w1.heap.size ≤ g' ∧ nw < ((wc.setCell ⟨w1.heap.size, 0, none⟩ (.slice (some ⟨g, 0, none⟩) 512 cp)).setCell ⟨w1.heap.size, 1, none⟩ (.int .i64 0)).heap.size ∧ Own ((wc.setCell ⟨w1.heap.size, 0, none⟩ (.slice (some ⟨g, 0, none⟩) 512 cp)).setCell ⟨w1.heap.size, 1, none⟩ (.int .i64 0)) g' 512 cp' zs ∧ Below w1.heap.size w1 ((wc.setCell ⟨w1.heap.size, 0, none⟩ (.slice (some ⟨g, 0, none⟩) 512 cp)).setCell ⟨w1.heap.size, 1, none⟩ (.int .i64 0))) := by
  rw [← hwB]
  refine Calls.mono (Clone_any ad 512 cd zs wB.drew (by omega) ((hR.below (b1.trans (bB.mono s1)).drew).mono (by show w.heap.size ≤ wB.heap.size; omega))) ?_
  rintro e wc ⟨g, cp, rfl, h1, h2, h3⟩
  have h3' : Below wB.heap.size wB wc := (Below.refl wB.heap.size wB).drew.trans h3
  have h1' : wB.heap.size ≤ g := h1
  have s3 := h3'.size
  have kb : wc.heap[w1.heap.size]? = some (.cells #[.slice none 0 0, .int .i64 0] 214 (0, 0)) := (h3'.block w1.heap.size (by omega)).trans (by rw [hwB]; exact Array.getElem?_push_size)
  have bS : But (fun k => k = w1.heap.size) wc ((wc.setCell ⟨w1.heap.size, 0, none⟩ (.slice (some ⟨g, 0, none⟩) 512 cp)).setCell ⟨w1.heap.size, 1, none⟩ (.int .i64 0)) := ((But.refl (fun k => k = w1.heap.size) wc).setCell rfl _).setCell rfl _
  have kf : ((wc.setCell ⟨w1.heap.size, 0, none⟩ (.slice (some ⟨g, 0, none⟩) 512 cp)).setCell ⟨w1.heap.size, 1, none⟩ (.int .i64 0)).heap[w1.heap.size]? = some (.cells #[.slice (some ⟨g, 0, none⟩) 512 cp, .int .i64 0] 214 (0, 0)) := by
   simp only [World.setCell, Array.getElem?_modify]
   rw [kb]
   simp
  have bw : Below w1.heap.size w1 ((wc.setCell ⟨w1.heap.size, 0, none⟩ (.slice (some ⟨g, 0, none⟩) 512 cp)).setCell ⟨w1.heap.size, 1, none⟩ (.int .i64 0)) := ((But.of_below (bB.trans (h3'.mono (by omega))) (X := fun k => k = w1.heap.size)).comp bS (fun _ _ q => q)).below (Nat.le_refl _) (fun k hk q => by omega)
  refine ⟨g, cp, rfl, (h3'.cell (p := ⟨x, 3, none⟩) (by show x < _; omega)).trans ((bB.cell (p := ⟨x, 3, none⟩) (by show x < _; omega)).trans x3), by simp [World.cell?, kb], by simp [World.cell?, kb], by simp [World.frozen?, kb], by simp [World.frozen?, kb], (bS.cell (p := ⟨x, 3, none⟩) (by show x < _; omega) (by show ¬ x = w1.heap.size; omega)).trans ((h3'.cell (p := ⟨x, 3, none⟩) (by show x < _; omega)).trans ((bB.cell (p := ⟨x, 3, none⟩) (by show x < _; omega)).trans x3)), w1.heap.size, g, cp, rfl, by simp only [World.cell?, kf]; rfl, by simp only [World.cell?, kf]; rfl, Nat.le_refl _, by omega, by simp; omega, h2.keep (bS.block g h2.lt (by omega)), bw⟩
 have HF2 : Hid (∀ wq g cp, Below w1.heap.size w1 wq → w1.heap.size ≤ g → Own wq g 512 cp zs → ∃ wU, (Instr.mapUpdate 205 (.map (some m)) (.int .i64 (y : Int)) (.agg #[.slice (some ⟨g, 0, none⟩) 512 cp, .int .i64 0])).run Tryz.prog wq.drew = .ok () wU ∧ But (fun k => k = m) wq wU ∧ PO (.returned (.tuple #[])) wU) := fun wq g cp bq hg ho => by
  have bwq : Below w.heap.size w wq.drew := (b1.trans (bq.mono s1)).drew
  obtain ⟨wU, hrun, hownU, hturn⟩ := World.ownsMap.store (w := wq.drew) (mapW_keep hm (bwq.block m hm.lt)) law3 Tryz.underlying205 (by unfold maxLen; omega) hkey (val := .agg #[.slice (some ⟨g, 0, none⟩) 512 cp, .int .i64 0]) (d := .held (g, cp, 0)) (ps := []) rfl
  have tb := turned_but hturn
  obtain ⟨p1, p2⟩ := hW.put hxm hdm hy hh (g := g) (cp := cp) (mk := 0) (zs := zs) bwq (by omega) (ho.keep rfl) hisb hownU tb
  refine ⟨wU, hrun, (But.of_below (Below.refl wq.heap.size wq).drew (X := fun k => k = m)).comp tb (fun _ _ q => q), ?_⟩
  rw [hPO]
  exact ⟨rfl, g, cp, by omega, p1, p2⟩
 have HX : Hid (∀ wq, Below w1.heap.size w1 wq → wq.cell? ⟨x, 1, none⟩ = some (.map (some m))) := fun wq bq => ((b1.trans (bq.mono s1)).cell (p := ⟨x, 1, none⟩) hxl).trans x1
 have hml : m < w.heap.size := hm.lt
 have HW1 := hid hw1
 clear hW hw1 b1 hR hPO hwB bB zB
 go_enter Tryz.func134, Tryz.ntmps134
 go_upto_region 1 with (at_lookup; refine wpList_lookup_own_ok _ rfl _ _ 205 rfl 3 214 law3 Tryz.underlying205 wrElem (zero214 _) .nil [] rfl m n D rfl hm _ _ rfl hkey ?_; intro v ps hv; obtain rfl := hat v ps hv; clear hv; rw [hhas])
 rw [← HW1.out]
 go_cut [8] (fun s8 wx => ∃ nw g cp, s8 = .pointer (some ⟨nw, 0, none⟩) ∧ wx.cell? ⟨nw, 0, none⟩ = some (.slice (some ⟨g, 0, none⟩) 512 cp) ∧ wx.cell? ⟨nw, 1, none⟩ = some (.int .i64 0) ∧ w1.heap.size ≤ nw ∧ w1.heap.size ≤ g ∧ nw < wx.heap.size ∧ Own wx g 512 cp zs ∧ Below w1.heap.size w1 wx)
 case first =>
  refine wp_region_noPanic ?_
  refine wp_region_held_drew (S := fun w' => w'.cell? ⟨x, 3, none⟩ = some (.slice none 0 0)) (by kernel_rfl) x3 (fun hSS => ?_)
  refine tk 0 (some 18) (.move (.tmp 2)) 22 none hSS ?_
  refine tk 2 (some 20) (.move (.tmp 0)) 143 none hSS ?_
  refine tk 3 (some 21) (.nilCheck (.tmp 20)) 0 none hSS ?_
  refine tk 4 (some 22) (.fieldAddr 208 (.tmp 21) 3) 0 none hSS ?_
  try simp only [Act.put, zA, zB, zC]
  refine tk 5 (some 23) (.load 26 (.tmp 22)) 26 none hSS ?_
  refine tk 6 (some 24) (.call { callee := .builtin .len, args := #[.tmp 23], argTypes := #[26] }) 3 none hSS ?_
  try simp only [Act.put, zA, zB, zC]
  refine wpAnyH_ready (rs := [1, 8]) (by kernel_rfl) (by simp) (AllReadyH.cons (o := ({ dst := some 19, op := Op.call { callee := Callee.value (Operand.func 56), args := #[Operand.tmp 18], argTypes := #[22] }, type := 22, pos := _, after := _, guard := none } : Oper)) rfl (fun K9 hK9 => ?_) (AllReadyH.cons (o := ({ dst := some 8, op := Op.alloc 214, type := 0, pos := _, after := _, guard := none } : Oper)) rfl (fun K9 hK9 => ?_) AllReadyH.nil))
  ·go_simp
   go_at_call 56
   refine Calls.mono HCl.out ?_
   rintro e wc ⟨g, cp, rfl, x3', hxc, hF⟩
   have HF := hid hF
   clear HCl hF HCB
   refine hK9.out _ _ x3' (fun hSS => ?_)
   clear hK9 K9
   try simp only [Act.put, zA, zB, zC]
   refine tk 7 (some 25) (.build 214 #[(0, .tmp 19), (1, .tmp 24)]) 214 none hSS ?_
   try simp only [Act.put, zA, zB, zC]
   refine wpAnyH_ready (rs := [8]) (by kernel_rfl) (by simp) (AllReadyH.cons (o := ({ dst := some 8, op := Op.alloc 214, type := 0, pos := _, after := _, guard := none } : Oper)) rfl (fun K9 hK9 => ?_) AllReadyH.nil)
   go_simp
   refine hK9.out _ _ (by first | exact x3' | exact (((Below.refl wc.heap.size wc).alloc (Nat.le_refl _) _).cell (p := ⟨x, 3, none⟩) hxc).trans x3') (fun hSS => ?_)
   clear hK9 K9
   try simp only [Act.put, zA, zB, zC]
   refine wpAnyH_ready (rs := [9]) (by kernel_rfl) (by simp) (AllReadyH.cons (o := ({ dst := none, op := Op.store 214 (Operand.tmp 8) (Operand.tmp 25), type := 0, pos := _, after := _, guard := none } : Oper)) rfl (fun K9 hK9 => ?_) AllReadyH.nil)
   go_simp
   refine hK9.out _ _ (by first | exact x3' | exact (((Below.refl wc.heap.size wc).alloc (Nat.le_refl _) _).cell (p := ⟨x, 3, none⟩) hxc).trans x3') (fun hSS => ?_)
   clear hK9 K9
   try simp only [Act.put, zA, zB, zC]
   refine wpAnyH_done (by kernel_rfl) (NoPanic.normal ?_) _
   clear hSS
   go_wp2_with fail
   go_meet
   exact HF.out
  ·go_simp
   refine hK9.out _ _ x3B (fun hSS => ?_)
   clear hK9 K9
   try simp only [Act.put, zA, zB, zC]
   refine wpAnyH_ready (rs := [1]) (by kernel_rfl) (by simp) (AllReadyH.cons (o := ({ dst := some 19, op := Op.call { callee := Callee.value (Operand.func 56), args := #[Operand.tmp 18], argTypes := #[22] }, type := 22, pos := _, after := _, guard := none } : Oper)) rfl (fun K9 hK9 => ?_) AllReadyH.nil)
   go_simp
   go_at_call 56
   refine Calls.mono HCB.out ?_
   rintro e wc ⟨g, cp, rfl, x3', n0, n1, f0, f1, x3s, hF⟩
   have HF := hid hF
   clear HCl hF HCB
   refine hK9.out _ _ x3' (fun hSS => ?_)
   clear hK9 K9
   try simp only [Act.put, zA, zB, zC]
   refine tk 7 (some 25) (.build 214 #[(0, .tmp 19), (1, .tmp 24)]) 214 none hSS ?_
   try simp only [Act.put, zA, zB, zC]
   refine wpAnyH_ready (rs := [9]) (by kernel_rfl) (by simp) (AllReadyH.cons (o := ({ dst := none, op := Op.store 214 (Operand.tmp 8) (Operand.tmp 25), type := 0, pos := _, after := _, guard := none } : Oper)) rfl (fun K9 hK9 => ?_) AllReadyH.nil)
   go_simp
   refine hK9.out _ _ x3s (fun hSS => ?_)
   clear hK9 K9
   try simp only [Act.put, zA, zB, zC]
   refine wpAnyH_done (by kernel_rfl) (NoPanic.normal ?_) _
   clear hSS
   go_wp2_with fail
   go_meet
   exact HF.out
 case rest =>
 rename World => wq
 obtain ⟨nw, g, cp, rfl, q0, q1, hnw, hg, hnl, ho, bq⟩ := hcut
 obtain ⟨wU, hrun, bU, hFin⟩ := HF2.out wq g cp bq hg ho
 have xq := HX.out wq bq
 have sq := bq.size
 have u1 := (bU.cell (p := ⟨x, 1, none⟩) (by show x < _; omega) hxm).trans xq
 have u2 := (bU.cell (p := ⟨nw, 0, none⟩) hnl (by show ¬ nw = m; omega)).trans q0
 have u3 := (bU.cell (p := ⟨nw, 1, none⟩) hnl (by show ¬ nw = m; omega)).trans q1
 have FIN := hid hFin
 clear HF2 HX HCl HCB bU hFin bq ho hat hhas hdm hm hn hy hh hnb hisb hkey x3 x3B hxn x1 HW1 hml s1 sq hnw hg hnl hxl hxm
 go_wp2_with fail
 refine wp_region_noPanic ?_
 refine wp_region_held_drew (S := fun w' => w'.cell? ⟨x, 1, none⟩ = some (.map (some m)) ∧ w'.cell? ⟨nw, 0, none⟩ = some (.slice (some ⟨g, 0, none⟩) 512 cp) ∧ w'.cell? ⟨nw, 1, none⟩ = some (.int .i64 0)) (by kernel_rfl) ⟨xq, q0, q1⟩ (fun hSS => ?_)
 refine tk 0 (some 63) (.move (.tmp 0)) 143 none hSS ?_
 refine tk 1 (some 64) (.nilCheck (.tmp 63)) 0 none hSS ?_
 refine tk 2 (some 65) (.fieldAddr 208 (.tmp 64) 1) 0 none hSS ?_
 try simp only [Act.put, zA, zB, zC]
 refine tk 3 (some 66) (.load 205 (.tmp 65)) 205 none hSS ?_
 refine tk 4 (some 67) (.move (.tmp 1)) 3 none hSS ?_
 refine tk 5 (some 68) (.load 214 (.tmp 8)) 214 none hSS ?_
 try simp only [Act.put, zA, zB, zC]
 refine wpAnyH_ready (rs := [6]) (by kernel_rfl) (by simp) (AllReadyH.cons (o := ({ dst := none, op := Op.mapUpdate 205 (Operand.tmp 66) (Operand.tmp 67) (Operand.tmp 68), type := 0, pos := _, after := _, guard := none } : Oper)) rfl (fun K9 hK9 => ?_) AllReadyH.nil)
 go_simp
 refine hK9.out _ _ ⟨u1, u2, u3⟩ (fun hSS => ?_)
 clear hK9 K9
 try simp only [Act.put, zA, zB, zC]
 refine wpAnyH_done (by kernel_rfl) (NoPanic.normal ?_) _
 clear hSS
 go_wp2
 go_end0
 exact FIN.out
end Go.Proofs.YtldlejpacgphmabGreat
