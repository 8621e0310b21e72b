import Derived.Test.YtldlejpacgphmabGreatG17
import Derived.Test.YtldlejpacgphmabGreatG00
import Derived.Deep.RegionHeld3
import Derived.Deep.DeepCutAuto
namespace Go.Proofs.YtldlejpacgphmabGreat
open Go.RowKit Go.Deep
def RdH (Z : Nat → Prop) (w : World) (j c p room nb K fr bl : Nat) (d : Pd) (s : Js) (zs : List Int) (e : Ending) (w' : World) : Prop :=
 ∃ g cp, e = .returned (.tuple #[.slice (some ⟨g, 0, none⟩) 512 cp, .int .i64 0]) ∧ w.heap.size ≤ g ∧ Own w' g 512 cp zs ∧ Pl.isB zs ∧ (∃ Z', Jq Z' w' j c p room nb (K + 1) fr bl d s ∧ Gr Z Z' w ∧ ¬ Z' g) ∧ But Z w w'
theorem RdH.low {Z : Nat → Prop} {w w1 : World} {j c p room nb K fr bl : Nat} {d : Pd} {s : Js} {zs : List Int} {e : Ending} {w' : World} (b : Below w.heap.size w w1) (h : RdH (fun k => Z k ∧ k < w.heap.size) w1 j c p room nb K fr bl d s zs e w') : RdH Z w j c p room nb K fr bl d s zs e w' := by
 obtain ⟨g, cp, e1, e2, e3, e4, ⟨Z', e5, e6, e7⟩, e8⟩ := h
 have hs := b.size
 exact ⟨g, cp, e1, by omega, e3, e4, ⟨Z', e5, fun k hk q => (e6 k (by omega) q).1, e7⟩, (But.of_below b).comp e8 (fun k _ q => q.1)⟩
theorem look_j {Z : Nat → Prop} {w : World} {j c p room nb K fr bl : Nat} {d : Pd} {s : Js} (h : Jq Z w j c p room nb K fr bl d s) (h1 : fr + bl ≤ nb) (hon : d.off = false) (hl : d.puts.length ≤ 1073741824) (hK : K < 4611686018427387904) (y : Nat) (hy : y < nb) (hh : homeC nb fr bl (y : Int) = 0) {b : Nat} (hc : w.cell? ⟨b, 1, none⟩ = some (.iface 44 (.pointer (some ⟨j, 0, none⟩)))) :
  Calls Tryz.prog 132 #[.pointer (some ⟨b, 0, none⟩), .int .i64 (y : Int)] w (RdH Z w j c p room nb K fr bl d s (jread d s y)) := by
 obtain ⟨PO, hPO⟩ : ∃ PO : Ending → World → Prop, PO = RdH Z w j c p room nb K fr bl d s (jread d s y) := ⟨_, rfl⟩
 rw [← hPO]
 have HR := hid (Read_home h h1 hon hl hK y hy hh)
 have HP : Hid (∀ g cp w', (RdH Z w j c p room nb K fr bl d s (jread d s y) (.returned (.tuple #[.slice (some ⟨g, 0, none⟩) 512 cp, .int .i64 0])) w') → PO (.returned (.tuple #[.slice (some ⟨g, 0, none⟩) 512 cp, .int .i64 0])) w') := fun g cp w' q => by rw [hPO]; exact q
 clear h hPO
 go_enter Tryz.func132, Tryz.ntmps132
 go_wp2_with (rw [readJ])
 refine Calls.mono HR.out ?_
 rintro e w3 ⟨g3, cp3, rfl, q⟩
 have FIN := hid (HP.out g3 cp3 w3 ⟨g3, cp3, rfl, q⟩)
 clear q HR HP
 go_wp2
 exact FIN.out
theorem look_w {Z Zw : Nat → Prop} {w : World} {x j c p room nb K fr bl m n : Nat} {D : DataW (Nat × Nat × Int)} {a : Nat → Option (Nat × Nat × Int)} {sv mv : Value} {L : Nat → Option (List Int)} {d : Pd} {s : Js} (h : Jq Z w j c p room nb K fr bl d s) (hW : Wq Zw w x j m n nb fr bl D a sv mv L) (h1 : fr + bl ≤ nb) (hon : d.off = false) (hl : d.puts.length ≤ 1073741824) (hK : K < 4611686018427387904) (hnb : nb ≤ 524288) (y : Nat) (hy : y < nb) (hh : homeC nb fr bl (y : Int) = 0) {b : Nat} (hc : w.cell? ⟨b, 1, none⟩ = some (.iface 143 (.pointer (some ⟨x, 0, none⟩)))) :
  Calls Tryz.prog 132 #[.pointer (some ⟨b, 0, none⟩), .int .i64 (y : Int)] w (RdH Z w j c p room nb K fr bl d s ((L y).getD (jread d s y))) := by
 obtain ⟨PO, hPO⟩ : ∃ PO : Ending → World → Prop, PO = RdH Z w j c p room nb K fr bl d s ((L y).getD (jread d s y)) := ⟨_, rfl⟩
 rw [← hPO]
 have HR := hid (wread_home h hW h1 hon hl hK hnb y hy hh)
 have HP : Hid (∀ g cp w', (RdH Z w j c p room nb K fr bl d s ((L y).getD (jread d s y)) (.returned (.tuple #[.slice (some ⟨g, 0, none⟩) 512 cp, .int .i64 0])) w') → PO (.returned (.tuple #[.slice (some ⟨g, 0, none⟩) 512 cp, .int .i64 0])) w') := fun g cp w' q => by rw [hPO]; exact q
 clear h hW hPO
 go_enter Tryz.func132, Tryz.ntmps132
 go_wp2_with (rw [readW])
 refine Calls.mono HR.out ?_
 rintro e w3 ⟨g3, cp3, rfl, q⟩
 have FIN := hid (HP.out g3 cp3 w3 ⟨g3, cp3, rfl, q⟩)
 clear q HR HP
 go_wp2
 exact FIN.out
theorem sread_home {Z : Nat → Prop} {w : World} {j c p room nb K fr bl : Nat} {d : Pd} {s : Js} (h : Jq Z w j c p room nb K fr bl d s) (h1 : fr + bl ≤ nb) (hon : d.off = false) (hl : d.puts.length ≤ 1073741824) (hK : K < 4611686018427387904) (y : Nat) (hy : y < nb) (hh : homeC nb fr bl (y : Int) = 0) {st : Nat} {tv : Value} (hs : Stb w st j tv) :
  Calls Tryz.prog 83 #[.pointer (some ⟨st, 0, none⟩), .int .i64 (y : Int)] w (RdH Z w j c p room nb K fr bl d s (jread d s y)) := by
 obtain ⟨PO, hPO⟩ : ∃ PO : Ending → World → Prop, PO = RdH Z w j c p room nb K fr bl d s (jread d s y) := ⟨_, rfl⟩
 rw [← hPO]
 have HA := hid (sask_any h hs)
 rw [hon] at HA
 have HL : Hid (∀ w1, Below w.heap.size w w1 → Calls Tryz.prog 132 #[.pointer (some ⟨st, 0, none⟩), .int .i64 (y : Int)] w1 (RdH (fun k => Z k ∧ k < w.heap.size) w1 j c p room nb K fr bl d s (jread d s y))) := fun w1 b1 => look_j (h.cut.below b1) h1 hon hl hK y hy hh ((b1.cell (p := ⟨st, 1, none⟩) hs.lt).trans (hs.cell 1))
 have HP : Hid (∀ w1 e w', Below w.heap.size w w1 → RdH (fun k => Z k ∧ k < w.heap.size) w1 j c p room nb K fr bl d s (jread d s y) e w' → PO e w') := fun w1 e w' b q => by rw [hPO]; exact q.low b
 clear h hs hPO
 go_enter Tryz.func83, Tryz.ntmps83
 go_wp2_with fail
 refine Calls.mono HA.out ?_
 rintro e w1 ⟨rfl, b1⟩
 have HL1 := hid (HL.out w1 b1)
 have HP1 : Hid (∀ e w', RdH (fun k => Z k ∧ k < w.heap.size) w1 j c p room nb K fr bl d s (jread d s y) e w' → PO e w') := fun e w' q => HP.out w1 e w' b1 q
 clear b1 HA HL HP
 go_wp2_with fail
 refine Calls.mono HL1.out ?_
 rintro e w3 q
 obtain ⟨g3, cp3, rfl, _⟩ := id q
 have FIN := hid (HP1.out _ w3 q)
 clear q HL1 HP1
 go_wp2
 exact FIN.out
theorem tread_home {Z Zw : Nat → Prop} {w : World} {x j c p room nb K fr bl m n : Nat} {D : DataW (Nat × Nat × Int)} {a : Nat → Option (Nat × Nat × Int)} {sv mv : Value} {L : Nat → Option (List Int)} {d : Pd} {s : Js} (h : Jq Z w j c p room nb K fr bl d s) (hW : Wq Zw w x j m n nb fr bl D a sv mv L) (h1 : fr + bl ≤ nb) (hon : d.off = false) (hl : d.puts.length ≤ 1073741824) (hK : K < 4611686018427387904) (hnb : nb ≤ 524288) (y : Nat) (hy : y < nb) (hh : homeC nb fr bl (y : Int) = 0) {t st : Nat} (ht : Txb w t j (.iface 143 (.pointer (some ⟨x, 0, none⟩))) st (.pointer (some ⟨x, 0, none⟩))) (hs : Stb w st j (.pointer (some ⟨t, 0, none⟩))) :
  Calls Tryz.prog 82 #[.pointer (some ⟨t, 0, none⟩), .int .i64 (y : Int)] w (RdH Z w j c p room nb K fr bl d s ((L y).getD (jread d s y))) := by
 obtain ⟨PO, hPO⟩ : ∃ PO : Ending → World → Prop, PO = RdH Z w j c p room nb K fr bl d s ((L y).getD (jread d s y)) := ⟨_, rfl⟩
 rw [← hPO]
 have HA := hid (task_open h hon ht hs)
 have HL : Hid (∀ w1, Below w.heap.size w w1 → Calls Tryz.prog 132 #[.pointer (some ⟨t, 0, none⟩), .int .i64 (y : Int)] w1 (RdH (fun k => Z k ∧ k < w.heap.size) w1 j c p room nb K fr bl d s ((L y).getD (jread d s y)))) := fun w1 b1 => look_w (h.cut.below b1) (hW.keep (fun k _ hk => b1.block k hk)) h1 hon hl hK hnb y hy hh ((b1.cell (p := ⟨t, 1, none⟩) ht.lt).trans (ht.cell 1))
 have HP : Hid (∀ w1 e w', Below w.heap.size w w1 → RdH (fun k => Z k ∧ k < w.heap.size) w1 j c p room nb K fr bl d s ((L y).getD (jread d s y)) e w' → PO e w') := fun w1 e w' b q => by rw [hPO]; exact q.low b
 clear h hs ht hW hPO
 go_enter Tryz.func82, Tryz.ntmps82
 go_wp2_with fail
 refine Calls.mono HA.out ?_
 rintro e w1 ⟨rfl, b1⟩
 have HL1 := hid (HL.out w1 b1)
 have HP1 : Hid (∀ e w', RdH (fun k => Z k ∧ k < w.heap.size) w1 j c p room nb K fr bl d s ((L y).getD (jread d s y)) e w' → PO e w') := fun e w' q => HP.out w1 e w' b1 q
 clear b1 HA HL HP
 go_wp2_with fail
 refine Calls.mono HL1.out ?_
 rintro e w3 q
 obtain ⟨g3, cp3, rfl, _⟩ := id q
 have FIN := hid (HP1.out _ w3 q)
 clear q HL1 HP1
 go_wp2
 exact FIN.out
open Go.RowKit Go.Deep
set_option maxRecDepth 100000 in
theorem over_new (j nb fr bl : Nat) (w : World) : Calls Tryz.prog 85 #[.iface 44 (.pointer (some ⟨j, 0, none⟩))] w fun e w' => ∃ x m, e = .returned (.pointer (some ⟨x, 0, none⟩)) ∧ w.heap.size ≤ x ∧ w.heap.size ≤ m ∧ x < w'.heap.size ∧ m < w'.heap.size ∧ Below w.heap.size w w' ∧ Wq (fun k => k = x ∨ k = m) w' x j m 0 nb fr bl (.map []) (fun _ => none) (.slice none 0 0) (.slice none 0 0) (fun _ => none) := by
 obtain ⟨w1, hw1⟩ : ∃ w1, w1 = w.alloc (.map #[] 0) := ⟨_, rfl⟩
 have z1 : w1.heap.size = w.heap.size + 1 := by rw [hw1]; simp
 have b1 : Below w.heap.size w w1 := by rw [hw1]; exact (Below.refl _ _).alloc (Nat.le_refl _) _
 have m1 : w1.ownsMap Tryz.prog 3 wrElem w.heap.size 0 (.map [] : DataW (Nat × Nat × Int)) := by rw [hw1]; exact World.ownsMap_made w Tryz.prog 3 wrElem
 obtain ⟨w2, hw2⟩ : ∃ w2, w2 = w1.alloc (.cells #[.iface 44 (.pointer (some ⟨j, 0, none⟩)), .map (some w.heap.size), .slice none 0 0, .slice none 0 0] 208) := ⟨_, rfl⟩
 have z2 : w2.heap.size = w.heap.size + 2 := by rw [hw2]; simp [z1]
 have b2 : Below w1.heap.size w1 w2 := by rw [hw2]; exact (Below.refl _ _).alloc (Nat.le_refl _) _
 have FIN : Hid (∃ x m, Ending.returned (.pointer (some ⟨w.heap.size + 1, 0, none⟩)) = .returned (.pointer (some ⟨x, 0, none⟩)) ∧ w.heap.size ≤ x ∧ w.heap.size ≤ m ∧ x < w2.heap.size ∧ m < w2.heap.size ∧ Below w.heap.size w w2 ∧ Wq (fun k => k = x ∨ k = m) w2 x j m 0 nb fr bl (.map []) (fun _ => none) (.slice none 0 0) (.slice none 0 0) (fun _ => none)) := by
  refine ⟨w.heap.size + 1, w.heap.size, rfl, by omega, by omega, by omega, by omega, b1.trans (b2.mono (by omega)), ⟨?_, mapW_keep m1 (b2.block _ (by omega)), AMx.nil nb, (fun y g cp k e => by cases e), fun _ _ => rfl, .inl rfl, .inr rfl⟩⟩
  rw [hw2, ← z1]
  exact Array.getElem?_push_size
 have HW : Hid (w2 = (w.alloc (.map #[] 0)).alloc (.cells #[.iface 44 (.pointer (some ⟨j, 0, none⟩)), .map (some w.heap.size), .slice none 0 0, .slice none 0 0] 208)) := hw2.trans (by rw [hw1])
 have hmm := @run_makeMap Tryz.prog
 clear hw1 hw2 b1 b2 m1 z1 z2
 go_enter Tryz.func85, Tryz.ntmps85
 go_wp2
 rw [← HW.out]
 go_ret
 exact FIN.out
set_option maxRecDepth 100000 in
set_option maxHeartbeats 1000000 in
theorem begin_any {Z : Nat → Prop} {w : World} {j c p room nb K fr bl : Nat} {d : Pd} {s : Js} (h : Jq Z w j c p room nb K fr bl d s) (hon : d.off = false) {st : Nat} (hs : Stb w st j (.pointer none)) :
  Calls Tryz.prog 27 #[.pointer (some ⟨st, 0, none⟩)] w fun e w' => ∃ t x m, e = .returned (.tuple #[.pointer (some ⟨t, 0, none⟩), .int .i64 0]) ∧ (w.heap.size ≤ t ∧ w.heap.size ≤ x ∧ w.heap.size ≤ m ∧ x < t ∧ m < t ∧ t < w'.heap.size) ∧ Txb w' t j (.iface 143 (.pointer (some ⟨x, 0, none⟩))) st (.pointer (some ⟨x, 0, none⟩)) ∧ Stb w' st j (.pointer (some ⟨t, 0, none⟩)) ∧ Wq (fun k => k = x ∨ k = m) w' x j m 0 nb fr bl (.map []) (fun _ => none) (.slice none 0 0) (.slice none 0 0) (fun _ => none) ∧ But (fun k => k = st) w w' := by
 obtain ⟨PO, hPO⟩ : ∃ PO : Ending → World → Prop, PO = fun e w' => ∃ t x m, e = .returned (.tuple #[.pointer (some ⟨t, 0, none⟩), .int .i64 0]) ∧ (w.heap.size ≤ t ∧ w.heap.size ≤ x ∧ w.heap.size ≤ m ∧ x < t ∧ m < t ∧ t < w'.heap.size) ∧ Txb w' t j (.iface 143 (.pointer (some ⟨x, 0, none⟩))) st (.pointer (some ⟨x, 0, none⟩)) ∧ Stb w' st j (.pointer (some ⟨t, 0, none⟩)) ∧ Wq (fun k => k = x ∨ k = m) w' x j m 0 nb fr bl (.map []) (fun _ => none) (.slice none 0 0) (.slice none 0 0) (fun _ => none) ∧ But (fun k => k = st) w w' := ⟨_, rfl⟩
 rw [← hPO]
 have HA := hid (sask_any h hs)
 rw [hon] at HA
 have HS : Hid (∀ w', Below w.heap.size w w' → Stb w' st j (.pointer none) ∧ st < w'.heap.size) := fun w' b => ⟨hs.keep (b.block st hs.lt), Nat.lt_of_lt_of_le hs.lt b.size⟩
 have hsl := hs.lt
 have HP : Hid (∀ w2 x m, Below w.heap.size w w2 → (w.heap.size ≤ x ∧ w.heap.size ≤ m ∧ x < w2.heap.size ∧ m < w2.heap.size) → Wq (fun k => k = x ∨ k = m) w2 x j m 0 nb fr bl (.map []) (fun _ => none) (.slice none 0 0) (.slice none 0 0) (fun _ => none) → PO (.returned (.tuple #[.pointer (some ⟨w2.heap.size, 0, none⟩), .int .i64 0])) ((w2.setCell ⟨st, 2, none⟩ (.pointer (some ⟨w2.heap.size, 0, none⟩))).alloc (.cells #[.pointer (some ⟨j, 0, none⟩), .iface 143 (.pointer (some ⟨x, 0, none⟩)), .pointer (some ⟨st, 0, none⟩), .pointer (some ⟨x, 0, none⟩)] 146))) := fun w2 x m b2 hx hW => by
  rw [hPO]
  have s2 := b2.size
  have bs : But (fun k => k = st) w2 (w2.setCell ⟨st, 2, none⟩ (.pointer (some ⟨w2.heap.size, 0, none⟩))) := (But.refl (fun k => k = st) w2).setCell rfl _
  have bt : But (fun k => k = st) w2 ((w2.setCell ⟨st, 2, none⟩ (.pointer (some ⟨w2.heap.size, 0, none⟩))).alloc (.cells #[.pointer (some ⟨j, 0, none⟩), .iface 143 (.pointer (some ⟨x, 0, none⟩)), .pointer (some ⟨st, 0, none⟩), .pointer (some ⟨x, 0, none⟩)] 146)) := bs.alloc _
  refine ⟨w2.heap.size, x, m, rfl, ⟨by omega, hx.1, hx.2.1, hx.2.2.1, hx.2.2.2, by simp⟩, ?_, ?_, hW.but bt (fun k hk q e => by omega), (But.of_below b2 (X := fun k => k = st)).comp bt (fun _ _ q => q)⟩
  ·have := @Array.getElem?_push_size _ (w2.setCell ⟨st, 2, none⟩ (.pointer (some ⟨w2.heap.size, 0, none⟩))).heap (.cells #[.pointer (some ⟨j, 0, none⟩), .iface 143 (.pointer (some ⟨x, 0, none⟩)), .pointer (some ⟨st, 0, none⟩), .pointer (some ⟨x, 0, none⟩)] 146 (0, 0))
   unfold Txb
   simp only [World.alloc]
   rw [show w2.heap.size = (w2.setCell ⟨st, 2, none⟩ (.pointer (some ⟨w2.heap.size, 0, none⟩))).heap.size by simp]
   simpa using this
  ·exact ((HS.out w2 b2).1.set _).keep (Below.heap_alloc _ _ _ (by simpa using (HS.out w2 b2).2))
 clear h hs hPO
 go_enter Tryz.func27, Tryz.ntmps27
 go_wp2_with fail
 refine Calls.mono HA.out ?_
 rintro e w1 ⟨rfl, b1⟩
 obtain ⟨s1, _⟩ := HS.out w1 b1
 have k0 := s1.cell 0
 have k1 := s1.cell 1
 have k2 := s1.cell 2
 simp at k0 k1 k2
 have B1 := hid b1
 clear b1 HA s1
 go_wp2_with fail
 refine Calls.mono (over_new j nb fr bl w1) ?_
 rintro e w2 ⟨x, m, rfl, hx1, hx2, hx3, hx4, b2, hW⟩
 have s1 := B1.out.size
 have B2 : Hid (Below w.heap.size w w2) := B1.out.trans (b2.mono s1)
 obtain ⟨s2, hsl2⟩ := HS.out w2 B2.out
 have q0 := s2.cell 0
 have q2 := s2.cell 2
 have qf := s2.frozen 2
 simp at q0 q2
 have FIN := hid (HP.out w2 x m B2.out ⟨by omega, by omega, hx3, hx4⟩ hW)
 clear b2 hW k0 k1 k2 HS HP s2 B1 B2 hx1 hx2 s1
 go_wp2
 exact FIN.out
set_option maxRecDepth 100000 in
theorem end_any {w : World} {t j st : Nat} {fv wv tv : Value} (ht : Txb w t j fv st wv) (hs : Stb w st j tv) (hne : st ≠ t) :
  Calls Tryz.prog 88 #[.pointer (some ⟨t, 0, none⟩)] w fun e w' => e = .returned (.tuple #[]) ∧ Txb w' t j .nilIface st (.pointer none) ∧ Stb w' st j (.pointer none) ∧ But (fun k => k = st ∨ k = t) w w' := by
 obtain ⟨PO, hPO⟩ : ∃ PO : Ending → World → Prop, PO = fun e w' => e = .returned (.tuple #[]) ∧ Txb w' t j .nilIface st (.pointer none) ∧ Stb w' st j (.pointer none) ∧ But (fun k => k = st ∨ k = t) w w' := ⟨_, rfl⟩
 rw [← hPO]
 obtain ⟨w3, hw3⟩ : ∃ w3, w3 = ((w.setCell ⟨st, 2, none⟩ (.pointer none)).setCell ⟨t, 3, none⟩ (.pointer none)).setCell ⟨t, 1, none⟩ .nilIface := ⟨_, rfl⟩
 have FIN : Hid (Txb w3 t j .nilIface st (.pointer none) ∧ Stb w3 st j (.pointer none) ∧ But (fun k => k = st ∨ k = t) w w3) := by
  have t1 : Txb (w.setCell ⟨st, 2, none⟩ (.pointer none)) t j fv st wv := ht.keep (Below.heap_setCell _ _ _ _ (fun e => hne e.symm))
  have t2 : Txb ((w.setCell ⟨st, 2, none⟩ (.pointer none)).setCell ⟨t, 3, none⟩ (.pointer none)) t j fv st (.pointer none) := by
   unfold Txb at *
   simp only [World.setCell, Array.getElem?_modify] at t1 ⊢
   rw [t1]
   simp
  refine ⟨?_, ?_, ?_⟩
  ·rw [hw3]
   unfold Txb at *
   simp only [World.setCell, Array.getElem?_modify] at t2 ⊢
   rw [t2]
   simp
  ·rw [hw3]
   exact ((hs.set (.pointer none)).keep (Below.heap_setCell _ _ _ _ hne)).keep (Below.heap_setCell _ _ _ _ hne)
  ·rw [hw3]
   exact (((But.refl (fun k => k = st ∨ k = t) w).setCell (.inl rfl) _).setCell (.inr rfl) _).setCell (.inr rfl) _
 have FP : Hid (PO (.returned (.tuple #[])) w3) := by rw [hPO]; exact ⟨rfl, FIN.out⟩
 have HW := hid hw3
 clear FIN hPO
 have k2 := ht.cell 2
 have k3 := ht.cell 3
 have k1 := ht.cell 1
 have f1 := ht.frozen 1
 have f3 := ht.frozen 3
 have q2 := hs.cell 2
 have qf := hs.frozen 2
 simp at k1 k2 k3 q2
 have hne' : ¬ t = st := fun e => hne e.symm
 clear ht hs hw3
 go_enter Tryz.func88, Tryz.ntmps88
 go_wp2
 rw [← HW.out]
 go_end0
 exact FP.out
open Go.RowKit
theorem zA {α : Type} (l : List α) (i : Nat) (a : α) : l.toArray.setIfInBounds i a = (l.set i a).toArray := by simp only [List.setIfInBounds_toArray]
theorem zB {α : Type} (l : List α) (a b : α) : (a :: l).set 0 b = b :: l := rfl
theorem zC {α : Type} (l : List α) (n : Nat) (a b : α) : (a :: l).set (n + 1) b = a :: l.set n b := rfl
theorem tk {P : Program} {ops : Array Oper} {Q : Exit → Act → World → Prop} {md : Region.Mode} {S : World → Prop} {po : String} {af : Array Edge} {v : Value} {fuel : Nat} {listed : Array Bool} {a : Act} {w : World} (i : Nat) (d : Option Tmp) (o : Op) (t : TypeId) (g : Option (Nat × Bool)) (hS : S w)
  (h : wpAnyH P md ops Q S fuel (listed.setIfInBounds i true) (a.put d v) w) (hi : ops[i]? = some ⟨d, o, t, po, af, g⟩ := by rfl)
  (hk : (Region.noSelect ops && (Region.free md ops listed i && (Region.ready md ops listed).contains i)) = true := by kernel_rfl) (hQ : ∀ c a w, Q (.panic c) (a.put d v) w → Q (.panic c) a w := by exact fun _ _ _ h => h) (hw : Region.wanted ⟨d, o, t, po, af, g⟩ (yielded ops a.tmps) = true := by rfl) (hy : ∀ w, S w → (execOp a.eval ⟨d, o, t, po, af, g⟩).run P w = .ok (.value v) w := by (intro a h; (try dsimp only at h); (try go_split_ands); go_simp; try with_reducible rfl)) : wpAnyH P md ops Q S (fuel + 1) listed a w := by
 simp only [Bool.and_eq_true] at hk
 exact wpAnyH_take hi hk.1 hk.2.1 hk.2.2 hQ (Or.inl ⟨hw, hy⟩) hS h
theorem sk {P : Program} {ops : Array Oper} {Q : Exit → Act → World → Prop} {md : Region.Mode} {S : World → Prop} {po : String} {af : Array Edge} {fuel : Nat} {listed : Array Bool} {a : Act} {w : World} (i : Nat) (d : Option Tmp) (o : Op) (t : TypeId) (g : Option (Nat × Bool)) (hS : S w)
  (h : wpAnyH P md ops Q S fuel (listed.setIfInBounds i true) (a.put d undef) w) (hi : ops[i]? = some ⟨d, o, t, po, af, g⟩ := by rfl)
  (hk : (Region.noSelect ops && (Region.free md ops listed i && (Region.ready md ops listed).contains i)) = true := by kernel_rfl) (hQ : ∀ c a w, Q (.panic c) (a.put d undef) w → Q (.panic c) a w := by exact fun _ _ _ h => h) (hw : Region.wanted ⟨d, o, t, po, af, g⟩ (yielded ops a.tmps) = false := by rfl) : wpAnyH P md ops Q S (fuel + 1) listed a w := by
 simp only [Bool.and_eq_true] at hk
 exact wpAnyH_take hi hk.1 hk.2.1 hk.2.2 hQ (Or.inr ⟨hw, rfl⟩) hS h
open Go.RowKit Go.Deep
def putL (L : Nat → Option (List Int)) (y : Nat) (zs : List Int) : Nat → Option (List Int) := fun z => if z = y then some zs else L z
open Go.RowKit Go.Deep
abbrev Wr := Nat × Nat × Int
abbrev Sp := Nat × Option Wr
abbrev Mr := Nat × (Nat → Option Wr)
def undo (ss : List Sp) (a : Nat → Option Wr) : Nat → Option Wr := fun y => match ss.find? (fun s => s.1 == y) with
 | some s => s.2
 | none => a y
def back1 (s : Sp) (a : Nat → Option Wr) : Nat → Option Wr := fun y => if y = s.1 then s.2 else a y
theorem undo_nil (a : Nat → Option Wr) : undo [] a = a := rfl
theorem undo_snoc (ss : List Sp) (s : Sp) (a : Nat → Option Wr) : undo (ss ++ [s]) a = undo ss (back1 s a) := by
 funext y
 unfold undo back1
 rw [List.find?_append]
 cases h : ss.find? (fun s => s.1 == y) with
 | some t => rfl
 | none =>
  simp only [Option.none_or, List.find?_cons, List.find?_nil]
  by_cases e : s.1 = y
  ·simp [e]
  ·have : (s.1 == y) = false := by simpa using e
   rw [this]
   simp [Ne.symm e]
theorem undo_put {ss : List Sp} {y : Nat} (h : ∃ s ∈ ss, s.1 = y) (a : Nat → Option Wr) (r : Option Wr) : undo ss (fun z => if z = y then r else a z) = undo ss a := by
 funext z
 unfold undo
 cases h2 : ss.find? (fun s => s.1 == z) with
 | some t => rfl
 | none =>
  obtain ⟨s, hs, e⟩ := h
  have := List.find?_eq_none.1 h2 s hs
  have hz : z ≠ y := fun q => this (by simp [q, e])
  simp [hz]
theorem undo_step (ss : List Sp) (y : Nat) (a : Nat → Option Wr) (r : Option Wr) : undo (ss ++ [(y, a y)]) (fun z => if z = y then r else a z) = undo ss a := by
 rw [undo_snoc]
 congr 1
 funext z
 unfold back1
 by_cases e : z = y
 ·simp [e]
 ·simp [e]
structure Mk (a : Nat → Option Wr) (ss : List Sp) (ms : List Mr) : Prop where
 le : ∀ y g cp k, a y = some (g, cp, k) → 0 ≤ k ∧ k ≤ (ms.length : Int)
 pos : ∀ (i p : Nat) (b : Nat → Option Wr), ms[i]? = some (p, b) → p ≤ ss.length ∧ undo (ss.drop p) a = b ∧ ∀ y g cp k, b y = some (g, cp, k) → 0 ≤ k ∧ k ≤ (i : Int)
 mono : ∀ (i p : Nat) (b : Nat → Option Wr) (i' p' : Nat) (b' : Nat → Option Wr), ms[i]? = some (p, b) → ms[i']? = some (p', b') → i ≤ i' → p ≤ p'
 now : ∀ y g cp k, a y = some (g, cp, k) → k = (ms.length : Int) → 0 < ms.length → ∀ (i p : Nat) (b : Nat → Option Wr), ms[i]? = some (p, b) → ∃ s ∈ ss.drop p, s.1 = y
theorem Mk.nil : Mk (fun _ => none) [] [] := ⟨(fun _ _ _ _ e => by cases e), (fun i p b e => by simp at e), (fun i p b i' p' b' e => by simp at e), (fun _ _ _ _ e => by cases e)⟩
theorem Mk.mark {a : Nat → Option Wr} {ss : List Sp} {ms : List Mr} (h : Mk a ss ms) : Mk a ss (ms ++ [(ss.length, a)]) := by
 have hg : ∀ i p b, (ms ++ [(ss.length, a)])[i]? = some (p, b) → (i < ms.length ∧ ms[i]? = some (p, b)) ∨ (i = ms.length ∧ p = ss.length ∧ b = a) := fun i p b e => by
  rw [List.getElem?_append] at e
  split at e
  ·rename_i q; exact .inl ⟨q, e⟩
  ·rename_i q
   have hi : i - ms.length = 0 := by
    rcases Nat.eq_zero_or_pos (i - ms.length) with z | z
    ·exact z
    ·rw [List.getElem?_eq_none (by simp; omega)] at e; cases e
   rw [hi] at e
   simp at e
   exact .inr ⟨by omega, e.1.symm, e.2.symm⟩
 refine ⟨fun y g cp k e => ?_, fun i p b e => ?_, fun i p b i' p' b' e e' hi => ?_, fun y g cp k e ek hp i p b ei => ?_⟩
 ·have := h.le y g cp k e
  simp
  omega
 ·rcases hg i p b e with ⟨q, e⟩ | ⟨rfl, rfl, rfl⟩
  ·exact h.pos i p b e
  ·exact ⟨Nat.le_refl _, by rw [List.drop_length, undo_nil], fun y g cp k e => h.le y g cp k e⟩
 ·rcases hg i p b e with ⟨q, e⟩ | ⟨q, q2, q3⟩
  ·rcases hg i' p' b' e' with ⟨r, e'⟩ | ⟨r, r2, r3⟩
   ·exact h.mono i p b i' p' b' e e' hi
   ·have := (h.pos i p b e).1
    omega
  ·rcases hg i' p' b' e' with ⟨r, e'⟩ | ⟨r, r2, r3⟩
   ·omega
   ·omega
 ·have := (h.le y g cp k e).2
  simp at ek
  omega
theorem Mk.lay0 {a : Nat → Option Wr} {ss : List Sp} {ms : List Mr} (h : Mk a ss ms) {y g cp : Nat} (hc : ms = [] ∨ ∃ g' cp', a y = some (g', cp', (ms.length : Int))) : Mk (fun z => if z = y then some (g, cp, (ms.length : Int)) else a z) ss ms := by
 have hst : ms = [] ∨ ∀ (i p : Nat) (b : Nat → Option Wr), ms[i]? = some (p, b) → ∃ s ∈ ss.drop p, s.1 = y := by
  rcases hc with e | ⟨g', cp', e⟩
  ·exact .inl e
  ·by_cases q : ms = []
   ·exact .inl q
   ·exact .inr (fun i p b ei => h.now y g' cp' _ e rfl (List.length_pos_iff.2 q) i p b ei)
 refine ⟨fun z g2 cp2 k e => ?_, fun i p b e => ?_, h.mono, fun z g2 cp2 k e ek hp i p b ei => ?_⟩
 ·by_cases q : z = y
  ·simp [q] at e
   obtain ⟨_, _, rfl⟩ := e
   omega
  ·simp [q] at e
   exact h.le z g2 cp2 k e
 ·rcases hst with q | q
  ·rw [q] at e; simp at e
  ·obtain ⟨h1, h2, h3⟩ := h.pos i p b e
   exact ⟨h1, by rw [undo_put (q i p b e)]; exact h2, h3⟩
 ·rcases hst with q | q
  ·rw [q] at ei; simp at ei
  ·by_cases r : z = y
   ·rw [r]; exact q i p b ei
   ·simp [r] at e
    exact h.now z g2 cp2 k e ek hp i p b ei
theorem Mk.lay1 {a : Nat → Option Wr} {ss : List Sp} {ms : List Mr} (h : Mk a ss ms) (y g cp : Nat) : Mk (fun z => if z = y then some (g, cp, (ms.length : Int)) else a z) (ss ++ [(y, a y)]) ms := by
 refine ⟨fun z g2 cp2 k e => ?_, fun i p b e => ?_, h.mono, fun z g2 cp2 k e ek hp i p b ei => ?_⟩
 ·by_cases q : z = y
  ·simp [q] at e
   obtain ⟨_, _, rfl⟩ := e
   omega
  ·simp [q] at e
   exact h.le z g2 cp2 k e
 ·obtain ⟨h1, h2, h3⟩ := h.pos i p b e
  refine ⟨by simp; omega, ?_, h3⟩
  rw [List.drop_append_of_le_length h1, undo_step]
  exact h2
 ·have h1 := (h.pos i p b ei).1
  rw [List.drop_append_of_le_length h1]
  by_cases r : z = y
  ·exact ⟨(y, a y), by simp, r.symm⟩
  ·simp [r] at e
   obtain ⟨s, hs, es⟩ := h.now z g2 cp2 k e ek hp i p b ei
   exact ⟨s, by simp [hs], es⟩
theorem Mk.back {a : Nat → Option Wr} {ss : List Sp} {ms : List Mr} (h : Mk a ss ms) {i p : Nat} {b : Nat → Option Wr} (hi : ms[i]? = some (p, b)) : Mk b (ss.take p) (ms.take (i + 1)) := by
 obtain ⟨h1, h2, h3⟩ := h.pos i p b hi
 have hil : i < ms.length := (List.getElem?_eq_some_iff.1 hi).1
 have hlen : (ms.take (i + 1)).length = i + 1 := by rw [List.length_take]; omega
 have hg : ∀ i' p' b', (ms.take (i + 1))[i']? = some (p', b') → i' ≤ i ∧ ms[i']? = some (p', b') := fun i' p' b' e => by
  have hl := (List.getElem?_eq_some_iff.1 e).1
  rw [hlen] at hl
  rw [List.getElem?_take_of_lt hl] at e
  exact ⟨by omega, e⟩
 have hpre : ∀ i' p' b', i' ≤ i → ms[i']? = some (p', b') → undo ((ss.take p).drop p') b = b' := fun i' p' b' hle e => by
  obtain ⟨r1, r2, _⟩ := h.pos i' p' b' e
  have hpp := h.mono i' p' b' i p b e hi hle
  have hsp : ss.drop p' = (ss.take p).drop p' ++ ss.drop p := by
   conv => lhs; rw [← List.take_append_drop p ss]
   rw [List.drop_append_of_le_length (by rw [List.length_take]; omega)]
  have hcomp : undo (ss.drop p') a = undo ((ss.take p).drop p') (undo (ss.drop p) a) := by
   rw [hsp]
   funext y
   unfold undo
   rw [List.find?_append]
   cases ((ss.take p).drop p').find? (fun s => s.1 == y) <;> rfl
  rw [← r2, hcomp, h2]
 refine ⟨fun y g cp k e => ?_, fun i' p' b' e => ?_, fun i1 p1 b1 i2 p2 b2 e1 e2 hle => h.mono i1 p1 b1 i2 p2 b2 (hg _ _ _ e1).2 (hg _ _ _ e2).2 hle, fun y g cp k e ek _ _ _ _ _ => ?_⟩
 ·have := h3 y g cp k e
  rw [hlen]
  omega
 ·obtain ⟨hle, e⟩ := hg i' p' b' e
  obtain ⟨r1, r2, r3⟩ := h.pos i' p' b' e
  exact ⟨by rw [List.length_take]; have := h.mono i' p' b' i p b e hi hle; omega, hpre i' p' b' hle e, r3⟩
 ·have := h3 y g cp k e
  rw [hlen] at ek
  omega
end Go.Proofs.YtldlejpacgphmabGreat
