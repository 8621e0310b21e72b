import Derived.Test.YtlefjidbpjkhlaaGreatN18
import Derived.Test.YtlefjidbpjkhlaaGreatN13
import Derived.Maps.Views
import Derived.Test.YtlefjidbpjkhlaaGreatN06
import Derived.Deep.RegionHeld3
import Derived.Deep.DeepCutAuto
namespace Go.Proofs.YtlefjidbpjkhlaaGreat
open Go.RowKit Go.Deep
def cntX {H : Type} (a : Nat → Option H) : Nat → Nat
 | 0 => 0
 | n + 1 => cntX a n + if (a n).isSome then 1 else 0
theorem cntX_le {H : Type} (a : Nat → Option H) (n : Nat) : cntX a n ≤ n := by
 induction n with
 | zero => exact Nat.le_refl _
 | succ n ih => unfold cntX; split <;> omega
structure AMx {H : Type} (nb : Nat) (D : DataW H) (a : Nat → Option H) : Prop where
 tidy : Maps.Tidy D
 cnt : Maps.size D ≤ cntX a nb
 hit : ∀ x q, a x = some q → Maps.has D (.int .i64 (x : Int)) = true ∧ ∀ z, D.atKey (.int .i64 (x : Int)) z = .held q
 miss : ∀ x : Int, (∀ y : Nat, (y : Int) = x → a y = none) → Maps.has D (.int .i64 x) = false
theorem AMx.nil {H : Type} (nb : Nat) : AMx (H := H) nb (.map []) (fun _ => none) := ⟨Maps.tidy_empty, Nat.zero_le _, fun x q h => (by cases h), fun _ _ => rfl⟩
def putX {H : Type} (a : Nat → Option H) (x : Nat) (q : H) : Nat → Option H := fun y => if y = x then some q else a y
theorem cnt_putX {H : Type} (a : Nat → Option H) (x : Nat) (q : H) (n : Nat) : cntX (putX a x q) n = cntX a n + if x < n ∧ a x = none then 1 else 0 := by
 induction n with
 | zero => simp [cntX]
 | succ n ih =>
  unfold cntX
  rw [ih]
  by_cases e : n = x
  ·subst e
   have h1 : (putX a n q n).isSome = true := by simp [putX]
   rw [h1]
   cases ha : a n <;> simp
  ·have h1 : putX a x q n = a n := by simp [putX, e]
   rw [h1]
   by_cases h2 : x < n
   ·have h3 : x < n + 1 := by omega
    simp only [h2, h3, true_and]
    omega
   ·have h3 : ¬ x < n + 1 := by omega
    simp only [h2, h3, false_and, if_false]
    omega
theorem AMx.put {H : Type} {nb : Nat} {D : DataW H} {a : Nat → Option H} (h : AMx nb D a) (x : Nat) (hx : x < nb) (q : H) : AMx nb (D.put (.int .i64 (x : Int)) (.held q)) (putX a x q) := by
 have hk : WideAt.IsKeyLit (.int .i64 (x : Int)) := trivial
 refine ⟨h.tidy.put hk _, ?_, fun y r hr => ?_, fun y hy => ?_⟩
 ·rw [Maps.size_put h.tidy, cnt_putX]
  have hc := h.cnt
  cases ha : a x with
  | none =>
   simp only [hx, true_and, if_true]
   split <;> omega
  | some r =>
   rw [(h.hit x r ha).1]
   simp
   omega
 ·by_cases e : y = x
  ·subst e
   have : q = r := by simpa [putX] using hr
   subst this
   exact ⟨Maps.has_put_same h.tidy.isMap hk _, fun z => Maps.atKey_put_same h.tidy.isMap hk _ z⟩
  ·have hne : (Lit.int .i64 (y : Int)) ≠ .int .i64 (x : Int) := fun q => e (by injection q with _ q; omega)
   have hr' : a y = some r := by simpa [putX, e] using hr
   exact ⟨by rw [Maps.has_put_other hne]; exact (h.hit y r hr').1, fun z => by rw [Maps.atKey_put_other hne]; exact (h.hit y r hr').2 z⟩
 ·have hne : (Lit.int .i64 y) ≠ .int .i64 (x : Int) := fun q => by
   injection q with _ q
   have := hy x q.symm
   simp [putX] at this
  rw [Maps.has_put_other hne]
  refine h.miss y (fun t ht => ?_)
  have := hy t ht
  unfold putX at this
  split at this
  ·cases this
  ·exact this
def wrElem (v : Value) : Option (DataW (Nat × Nat × Int) × List MemPlace) :=
 match v with
 | .agg cs => match cs.toList with
  | [.slice none 0 0, .int .i64 0] => some (.nil, [])
  | [.slice (some ⟨g, 0, none⟩) 512 c, .int .i64 m] => some (.held (g, c, m), [])
  | _ => none
 | _ => none
theorem wrElem_inv {v : Value} {g c : Nat} {m : Int} {ps : List MemPlace} (h : wrElem v = some (.held (g, c, m), ps)) : v = .agg #[.slice (some ⟨g, 0, none⟩) 512 c, .int .i64 m] := by
 unfold wrElem at h
 split at h
 ·rename_i cs
  split at h
  ·cases h
  ·rename_i e
   cases h
   have : cs = #[.slice (some ⟨g, 0, none⟩) 512 c, .int .i64 m] := by
    cases cs
    simpa using e
   rw [this]
  ·cases h
 ·cases h
theorem wrElem_nil {v : Value} {ps : List MemPlace} (h : wrElem v = some (.nil, ps)) : v = .agg #[.slice none 0 0, .int .i64 0] := by
 unfold wrElem at h
 split at h
 ·rename_i cs
  split at h
  ·rename_i e
   have : cs = #[.slice none 0 0, .int .i64 0] := by
    cases cs
    simpa using e
   rw [this]
  ·cases h
  ·cases h
 ·cases h
theorem homeC_forty {nb fr bl : Nat} {at_ : Int} (h : homeC nb fr bl at_ ≠ 0) : homeC nb fr bl at_ = 42 := by
 unfold homeC at *
 split at h
 ·rename_i q; rw [if_pos q]
 ·exact absurd rfl h
theorem zero214 (w : World) : (zeroValue 142).run Tryz.prog w = .ok (.agg #[.slice none 0 0, .int .i64 0]) w := by kernel_rfl
structure Wq (Z : Nat → Prop) (w : World) (x j m n nb fr bl : Nat) (D : DataW (Nat × Nat × Int)) (a : Nat → Option (Nat × Nat × Int)) (sv mv : Value) (L : Nat → Option (List Int)) : Prop where
 blk : w.heap[x]? = some (.cells #[.iface 76 (.pointer (some ⟨j, 0, none⟩)), .map (some m), sv, mv] 135 (0, 0))
 mp : w.ownsMap Tryz.prog 3 wrElem m n D
 am : AMx nb D a
 dat : ∀ y g cp k, a y = some (g, cp, k) → ∃ zs, L y = some zs ∧ Own w g 512 cp zs ∧ Pl.isB zs ∧ (y < nb ∧ homeC nb fr bl (y : Int) = 0) ∧ Z g
 non : ∀ y, a y = none → L y = none
 zx : Z x
 zm : Z m
theorem Wq.lt {Z : Nat → Prop} {w : World} {x j m n nb fr bl : Nat} {D : DataW (Nat × Nat × Int)} {a : Nat → Option (Nat × Nat × Int)} {sv mv : Value} {L : Nat → Option (List Int)} (h : Wq Z w x j m n nb fr bl D a sv mv L) : x < w.heap.size := (Array.getElem?_eq_some_iff.1 h.blk).1
theorem Wq.cell {Z : Nat → Prop} {w : World} {x j m n nb fr bl : Nat} {D : DataW (Nat × Nat × Int)} {a : Nat → Option (Nat × Nat × Int)} {sv mv : Value} {L : Nat → Option (List Int)} (h : Wq Z w x j m n nb fr bl D a sv mv L) (t : Nat) : w.cell? ⟨x, t, none⟩ = #[.iface 76 (.pointer (some ⟨j, 0, none⟩)), .map (some m), sv, mv][t]? := by
 have hb := h.blk
 simp [World.cell?, hb]
theorem mapW_keep {w w' : World} {mp n : Nat} {D : DataW (Nat × Nat × Int)} (h : w.ownsMap Tryz.prog 3 wrElem mp n D) (hk : w'.heap[mp]? = w.heap[mp]?) : w'.ownsMap Tryz.prog 3 wrElem mp n D := by
 obtain ⟨es, ck, h1, h2⟩ := h
 exact ⟨es, ck, hk.trans h1, h2⟩
theorem Wq.keep {Z : Nat → Prop} {w w' : World} {x j m n nb fr bl : Nat} {D : DataW (Nat × Nat × Int)} {a : Nat → Option (Nat × Nat × Int)} {sv mv : Value} {L : Nat → Option (List Int)} (h : Wq Z w x j m n nb fr bl D a sv mv L) (hk : ∀ k, Z k → k < w.heap.size → w'.heap[k]? = w.heap[k]?) : Wq Z w' x j m n nb fr bl D a sv mv L where
 blk := (hk x h.zx h.lt).trans h.blk
 mp := mapW_keep h.mp (hk m h.zm h.mp.lt)
 am := h.am
 dat := fun y g cp k e => by
  obtain ⟨zs, e1, e2, e3, e4, e5⟩ := h.dat y g cp k e
  exact ⟨zs, e1, e2.keep (hk g e5 e2.lt), e3, e4, e5⟩
 non := h.non
 zx := h.zx
 zm := h.zm
theorem Wq.but {Z Y : Nat → Prop} {w w' : World} {x j m n nb fr bl : Nat} {D : DataW (Nat × Nat × Int)} {a : Nat → Option (Nat × Nat × Int)} {sv mv : Value} {L : Nat → Option (List Int)} (h : Wq Z w x j m n nb fr bl D a sv mv L) (hb : But Y w w') (hy : ∀ k, k < w.heap.size → Z k → ¬ Y k) : Wq Z w' x j m n nb fr bl D a sv mv L := h.keep (fun k q hk => hb.block k hk (hy k hk q))
set_option maxRecDepth 100000 in
theorem readJ (v : Value) (w : World) : Sem.run Tryz.prog (method 414 76 v "Read") w = .ok (259, v) w := by kernel_rfl
set_option maxRecDepth 100000 in
theorem readW (v : Value) (w : World) : Sem.run Tryz.prog (method 414 83 v "Read") w = .ok (261, v) w := by kernel_rfl
set_option maxRecDepth 100000 in
set_option maxHeartbeats 2000000 in
theorem wread_home {Z Zw : Nat → Prop} {w : World} {x j c p room nb K fr bl m n : Nat} {D : DataW (Nat × Nat × Int)} {a : Nat → Option (Nat × Nat × Int)} {sv mv : Value} {L : Nat → Option (List Int)} {d : Pd} {s : Js} (h : Jq Z w j c p room nb K fr bl d s) (hW : Wq Zw w x j m n nb fr bl D a sv mv L) (h1 : fr + bl ≤ nb) (hon : d.off = false) (hl : d.puts.length ≤ 1073741824) (hK : K < 4611686018427387904) (hnb : nb ≤ 524288) (y : Nat) (hy : y < nb) (hh : homeC nb fr bl (y : Int) = 0) :
  Calls Tryz.prog 261 #[.pointer (some ⟨x, 0, none⟩), .int .i64 (y : Int)] w fun e w' => ∃ g cp, e = .returned (.tuple #[.slice (some ⟨g, 0, none⟩) 512 cp, .int .i64 0]) ∧ w.heap.size ≤ g ∧ Own w' g 512 cp ((L y).getD (jread d s y)) ∧ Pl.isB ((L y).getD (jread d s y)) ∧ (∃ Z', Jq Z' w' j c p room nb (K + 1) fr bl d s ∧ Gr Z Z' w ∧ ¬ Z' g) ∧ But Z w w' := by
 have x0 := hW.cell 0
 have x1 := hW.cell 1
 simp at x0 x1
 have hm := hW.mp
 have hkey : keyOf Tryz.prog 3 (.int .i64 (y : Int)) = some (.int .i64 (y : Int)) := Maps.keyOf_int_mk Tryz.underlying3 (WalkArith.wf_i64 (by omega))
 have hxl := hW.lt
 cases ha : a y with
 | some r =>
  obtain ⟨g, cp, mk⟩ := r
  obtain ⟨zs, e1, e2, e3, e4, e5⟩ := hW.dat y g cp mk ha
  have hhas := (hW.am.hit y (g, cp, mk) ha).1
  have hatk := (hW.am.hit y (g, cp, mk) ha).2
  obtain ⟨w1, hw1⟩ : ∃ w1, w1 = w.alloc (.cells #[.slice (some ⟨g, 0, none⟩) 512 cp, .int .i64 mk] 142) := ⟨_, rfl⟩
  have b1 : Below w.heap.size w w1 := by rw [hw1]; exact (Below.refl _ _).alloc (Nat.le_refl _) _
  have HCl := hid (Clone_any ⟨g, 0, none⟩ 512 cp zs w1 (by omega) ((e2.keep (b1.block g e2.lt)).rd e3))
  have HJ := hid h
  have B1 := hid b1
  have HZ := hid (And.intro e1 e3)
  have HW1 := hid hw1
  clear h hW e1 e2 e3 e4 e5 ha b1 hw1
  go_enter Tryz.func261, Tryz.ntmps261
  go_wp2_with (at_lookup; refine wpList_lookup_own_ok _ rfl _ _ 132 rfl 3 142 law3 Tryz.underlying132 wrElem (zero214 _) .nil [] rfl m n D rfl hm _ _ rfl hkey ?_; intro v ps hv; rw [hatk .nil] at hv; obtain rfl := wrElem_inv hv; clear hv; rw [hhas])
  rw [← HW1.out]
  refine Calls.mono HCl.out ?_
  rintro e w3 ⟨g3, cp3, rfl, hg3, ho3, b3⟩
  have FIN : Hid (w.heap.size ≤ g3 ∧ Own w3 g3 512 cp3 ((L y).getD (jread d s y)) ∧ Pl.isB ((L y).getD (jread d s y)) ∧ (∃ Z', Jq Z' w3 j c p room nb (K + 1) fr bl d s ∧ Gr Z Z' w ∧ ¬ Z' g3) ∧ But Z w w3) := by
   rw [HZ.out.1]
   have b13 : Below w.heap.size w w3 := B1.out.trans (b3.mono B1.out.size)
   have hs1 := B1.out.size
   exact ⟨by omega, ho3, HZ.out.2, ⟨_, Jq.mono (HJ.out.cut.below b13) (fun _ q => q) (by omega), fun k _ q => q.1, fun q => by have := q.2; omega⟩, But.of_below b13⟩
  clear hg3 ho3 b3 HCl hm
  go_wp2
  go_ret2
  exact ⟨g3, cp3, rfl, FIN.out⟩
 | none =>
  have hLn := hW.non y ha
  have hhas : Maps.has D (.int .i64 (y : Int)) = false := hW.am.miss (y : Int) (fun z e => by
   have : z = y := by omega
   rw [this]; exact ha)
  obtain ⟨w1, hw1⟩ : ∃ w1, w1 = w.alloc (.cells #[.slice none 0 0, .int .i64 0] 142) := ⟨_, rfl⟩
  have b1 : Below w.heap.size w w1 := by rw [hw1]; exact (Below.refl _ _).alloc (Nat.le_refl _) _
  have x0' := (b1.cell (p := ⟨x, 0, none⟩) hxl).trans x0
  have HR := hid (Read_home (h.cut.below b1) h1 hon hl hK y hy hh)
  have hatn : ∀ z, D.atKey (.int .i64 (y : Int)) z = z := fun z => Maps.atKey_of_not_has hhas z
  have B1 := hid b1
  have HL := hid hLn
  have HW1 := hid hw1
  clear h hW ha hLn b1
  rw [hw1] at x0'
  clear hw1
  go_enter Tryz.func261, Tryz.ntmps261
  go_wp2_with (first | (rw [readJ]) | (at_lookup; refine wpList_lookup_own_ok _ rfl _ _ 132 rfl 3 142 law3 Tryz.underlying132 wrElem (zero214 _) .nil [] rfl m n D rfl hm _ _ rfl hkey ?_; intro v ps hv; rw [hatn .nil] at hv; obtain rfl := wrElem_nil hv; clear hv; rw [hhas]))
  rw [← HW1.out]
  refine Calls.mono HR.out ?_
  rintro e w3 ⟨g3, cp3, rfl, hg3, ho3, hib, ⟨Z3, hq3, hG3, hn3⟩, b3⟩
  have FIN : Hid (w.heap.size ≤ g3 ∧ Own w3 g3 512 cp3 ((L y).getD (jread d s y)) ∧ Pl.isB ((L y).getD (jread d s y)) ∧ (∃ Z', Jq Z' w3 j c p room nb (K + 1) fr bl d s ∧ Gr Z Z' w ∧ ¬ Z' g3) ∧ But Z w w3) := by
   rw [HL.out]
   have hs1 := B1.out.size
   exact ⟨by omega, ho3, hib, ⟨Z3, hq3, fun k hk q => (hG3 k (by omega) q).1, hn3⟩, (But.of_below B1.out).comp b3 (fun k _ q => q.1)⟩
  clear hg3 ho3 hib hq3 hG3 hn3 b3 HR hm
  go_wp2
  go_ret2
  exact ⟨g3, cp3, rfl, FIN.out⟩
set_option maxRecDepth 100000 in
set_option maxHeartbeats 2000000 in
theorem wread_far {Z Zw : Nat → Prop} {w : World} {x j c p room nb K fr bl m n : Nat} {D : DataW (Nat × Nat × Int)} {a : Nat → Option (Nat × Nat × Int)} {sv mv : Value} {L : Nat → Option (List Int)} {d : Pd} {s : Js} (h : Jq Z w j c p room nb K fr bl d s) (hW : Wq Zw w x j m n nb fr bl D a sv mv L) (h1 : fr + bl ≤ nb) (hon : d.off = false) (y : Int) (hy1 : -9223372036854775808 ≤ y) (hy2 : y ≤ 9223372036854775807) (hh : homeC nb fr bl y ≠ 0) :
  Calls Tryz.prog 261 #[.pointer (some ⟨x, 0, none⟩), .int .i64 y] w fun e w' => e = .returned (.tuple #[.slice none 0 0, .int .i64 42]) ∧ Below w.heap.size w w' := by
 have x0 := hW.cell 0
 have x1 := hW.cell 1
 simp at x0 x1
 have hm := hW.mp
 have hkey : keyOf Tryz.prog 3 (.int .i64 y) = some (.int .i64 y) := Maps.keyOf_int_mk Tryz.underlying3 (WalkArith.wf_i64 (by omega))
 have hxl := hW.lt
 have hhas : Maps.has D (.int .i64 y) = false := hW.am.miss y (fun z e => by
  cases ha : a z with
  | none => rfl
  | some r =>
   obtain ⟨g, cp, mk⟩ := r
   obtain ⟨zs, _, _, _, e4, _⟩ := hW.dat z g cp mk ha
   rw [← e] at hh
   exact absurd e4.2 hh)
 obtain ⟨w1, hw1⟩ : ∃ w1, w1 = w.alloc (.cells #[.slice none 0 0, .int .i64 0] 142) := ⟨_, rfl⟩
 have b1 : Below w.heap.size w w1 := by rw [hw1]; exact (Below.refl _ _).alloc (Nat.le_refl _) _
 have x0' := (b1.cell (p := ⟨x, 0, none⟩) hxl).trans x0
 have hRf := Read_far (h.below b1) h1 hon y hh
 rw [homeC_forty hh] at hRf
 have HR := hid hRf
 have hatn : ∀ z, D.atKey (.int .i64 y) z = z := fun z => Maps.atKey_of_not_has hhas z
 have B1 := hid b1
 have HW1 := hid hw1
 clear h hW b1 hRf hh
 rw [hw1] at x0'
 clear hw1
 go_enter Tryz.func261, Tryz.ntmps261
 go_wp2_with (first | (rw [readJ]) | (at_lookup; refine wpList_lookup_own_ok _ rfl _ _ 132 rfl 3 142 law3 Tryz.underlying132 wrElem (zero214 _) .nil [] rfl m n D rfl hm _ _ rfl hkey ?_; intro v ps hv; rw [hatn .nil] at hv; obtain rfl := wrElem_nil hv; clear hv; rw [hhas]))
 rw [← HW1.out]
 refine Calls.mono HR.out ?_
 rintro e w3 ⟨rfl, b3⟩
 have FIN := hid (B1.out.trans (b3.mono B1.out.size))
 clear b3 HR hm
 go_wp2
 go_ret2
 exact ⟨rfl, FIN.out⟩
open Go.RowKit Go.Deep
def RdH (Z : Nat → Prop) (w : World) (j c p room nb K fr bl : Nat) (d : Pd) (s : Js) (zs : List Int) (e : Ending) (w' : World) : Prop :=
 ∃ g cp, e = .returned (.tuple #[.slice (some ⟨g, 0, none⟩) 512 cp, .int .i64 0]) ∧ w.heap.size ≤ g ∧ Own w' g 512 cp zs ∧ Pl.isB zs ∧ (∃ Z', Jq Z' w' j c p room nb (K + 1) fr bl d s ∧ Gr Z Z' w ∧ ¬ Z' g) ∧ But Z w w'
theorem RdH.low {Z : Nat → Prop} {w w1 : World} {j c p room nb K fr bl : Nat} {d : Pd} {s : Js} {zs : List Int} {e : Ending} {w' : World} (b : Below w.heap.size w w1) (h : RdH (fun k => Z k ∧ k < w.heap.size) w1 j c p room nb K fr bl d s zs e w') : RdH Z w j c p room nb K fr bl d s zs e w' := by
 obtain ⟨g, cp, e1, e2, e3, e4, ⟨Z', e5, e6, e7⟩, e8⟩ := h
 have hs := b.size
 exact ⟨g, cp, e1, by omega, e3, e4, ⟨Z', e5, fun k hk q => (e6 k (by omega) q).1, e7⟩, (But.of_below b).comp e8 (fun k _ q => q.1)⟩
theorem look_j {Z : Nat → Prop} {w : World} {j c p room nb K fr bl : Nat} {d : Pd} {s : Js} (h : Jq Z w j c p room nb K fr bl d s) (h1 : fr + bl ≤ nb) (hon : d.off = false) (hl : d.puts.length ≤ 1073741824) (hK : K < 4611686018427387904) (y : Nat) (hy : y < nb) (hh : homeC nb fr bl (y : Int) = 0) {b : Nat} (hc : w.cell? ⟨b, 1, none⟩ = some (.iface 76 (.pointer (some ⟨j, 0, none⟩)))) :
  Calls Tryz.prog 62 #[.pointer (some ⟨b, 0, none⟩), .int .i64 (y : Int)] w (RdH Z w j c p room nb K fr bl d s (jread d s y)) := by
 obtain ⟨PO, hPO⟩ : ∃ PO : Ending → World → Prop, PO = RdH Z w j c p room nb K fr bl d s (jread d s y) := ⟨_, rfl⟩
 rw [← hPO]
 have HR := hid (Read_home h h1 hon hl hK y hy hh)
 have HP : Hid (∀ g cp w', (RdH Z w j c p room nb K fr bl d s (jread d s y) (.returned (.tuple #[.slice (some ⟨g, 0, none⟩) 512 cp, .int .i64 0])) w') → PO (.returned (.tuple #[.slice (some ⟨g, 0, none⟩) 512 cp, .int .i64 0])) w') := fun g cp w' q => by rw [hPO]; exact q
 clear h hPO
 go_enter Tryz.func62, Tryz.ntmps62
 go_wp2_with (rw [readJ])
 refine Calls.mono HR.out ?_
 rintro e w3 ⟨g3, cp3, rfl, q⟩
 have FIN := hid (HP.out g3 cp3 w3 ⟨g3, cp3, rfl, q⟩)
 clear q HR HP
 go_wp2
 exact FIN.out
theorem look_w {Z Zw : Nat → Prop} {w : World} {x j c p room nb K fr bl m n : Nat} {D : DataW (Nat × Nat × Int)} {a : Nat → Option (Nat × Nat × Int)} {sv mv : Value} {L : Nat → Option (List Int)} {d : Pd} {s : Js} (h : Jq Z w j c p room nb K fr bl d s) (hW : Wq Zw w x j m n nb fr bl D a sv mv L) (h1 : fr + bl ≤ nb) (hon : d.off = false) (hl : d.puts.length ≤ 1073741824) (hK : K < 4611686018427387904) (hnb : nb ≤ 524288) (y : Nat) (hy : y < nb) (hh : homeC nb fr bl (y : Int) = 0) {b : Nat} (hc : w.cell? ⟨b, 1, none⟩ = some (.iface 83 (.pointer (some ⟨x, 0, none⟩)))) :
  Calls Tryz.prog 62 #[.pointer (some ⟨b, 0, none⟩), .int .i64 (y : Int)] w (RdH Z w j c p room nb K fr bl d s ((L y).getD (jread d s y))) := by
 obtain ⟨PO, hPO⟩ : ∃ PO : Ending → World → Prop, PO = RdH Z w j c p room nb K fr bl d s ((L y).getD (jread d s y)) := ⟨_, rfl⟩
 rw [← hPO]
 have HR := hid (wread_home h hW h1 hon hl hK hnb y hy hh)
 have HP : Hid (∀ g cp w', (RdH Z w j c p room nb K fr bl d s ((L y).getD (jread d s y)) (.returned (.tuple #[.slice (some ⟨g, 0, none⟩) 512 cp, .int .i64 0])) w') → PO (.returned (.tuple #[.slice (some ⟨g, 0, none⟩) 512 cp, .int .i64 0])) w') := fun g cp w' q => by rw [hPO]; exact q
 clear h hW hPO
 go_enter Tryz.func62, Tryz.ntmps62
 go_wp2_with (rw [readW])
 refine Calls.mono HR.out ?_
 rintro e w3 ⟨g3, cp3, rfl, q⟩
 have FIN := hid (HP.out g3 cp3 w3 ⟨g3, cp3, rfl, q⟩)
 clear q HR HP
 go_wp2
 exact FIN.out
theorem sread_home {Z : Nat → Prop} {w : World} {j c p room nb K fr bl : Nat} {d : Pd} {s : Js} (h : Jq Z w j c p room nb K fr bl d s) (h1 : fr + bl ≤ nb) (hon : d.off = false) (hl : d.puts.length ≤ 1073741824) (hK : K < 4611686018427387904) (y : Nat) (hy : y < nb) (hh : homeC nb fr bl (y : Int) = 0) {st : Nat} {tv : Value} (hs : Stb w st j tv) :
  Calls Tryz.prog 30 #[.pointer (some ⟨st, 0, none⟩), .int .i64 (y : Int)] w (RdH Z w j c p room nb K fr bl d s (jread d s y)) := by
 obtain ⟨PO, hPO⟩ : ∃ PO : Ending → World → Prop, PO = RdH Z w j c p room nb K fr bl d s (jread d s y) := ⟨_, rfl⟩
 rw [← hPO]
 have HA := hid (sask_any h hs)
 rw [hon] at HA
 have HL : Hid (∀ w1, Below w.heap.size w w1 → Calls Tryz.prog 62 #[.pointer (some ⟨st, 0, none⟩), .int .i64 (y : Int)] w1 (RdH (fun k => Z k ∧ k < w.heap.size) w1 j c p room nb K fr bl d s (jread d s y))) := fun w1 b1 => look_j (h.cut.below b1) h1 hon hl hK y hy hh ((b1.cell (p := ⟨st, 1, none⟩) hs.lt).trans (hs.cell 1))
 have HP : Hid (∀ w1 e w', Below w.heap.size w w1 → RdH (fun k => Z k ∧ k < w.heap.size) w1 j c p room nb K fr bl d s (jread d s y) e w' → PO e w') := fun w1 e w' b q => by rw [hPO]; exact q.low b
 clear h hs hPO
 go_enter Tryz.func30, Tryz.ntmps30
 go_wp2_with fail
 refine Calls.mono HA.out ?_
 rintro e w1 ⟨rfl, b1⟩
 have HL1 := hid (HL.out w1 b1)
 have HP1 : Hid (∀ e w', RdH (fun k => Z k ∧ k < w.heap.size) w1 j c p room nb K fr bl d s (jread d s y) e w' → PO e w') := fun e w' q => HP.out w1 e w' b1 q
 clear b1 HA HL HP
 go_wp2_with fail
 refine Calls.mono HL1.out ?_
 rintro e w3 q
 obtain ⟨g3, cp3, rfl, _⟩ := id q
 have FIN := hid (HP1.out _ w3 q)
 clear q HL1 HP1
 go_wp2
 exact FIN.out
theorem tread_home {Z Zw : Nat → Prop} {w : World} {x j c p room nb K fr bl m n : Nat} {D : DataW (Nat × Nat × Int)} {a : Nat → Option (Nat × Nat × Int)} {sv mv : Value} {L : Nat → Option (List Int)} {d : Pd} {s : Js} (h : Jq Z w j c p room nb K fr bl d s) (hW : Wq Zw w x j m n nb fr bl D a sv mv L) (h1 : fr + bl ≤ nb) (hon : d.off = false) (hl : d.puts.length ≤ 1073741824) (hK : K < 4611686018427387904) (hnb : nb ≤ 524288) (y : Nat) (hy : y < nb) (hh : homeC nb fr bl (y : Int) = 0) {t st : Nat} (ht : Txb w t j (.iface 83 (.pointer (some ⟨x, 0, none⟩))) st (.pointer (some ⟨x, 0, none⟩))) (hs : Stb w st j (.pointer (some ⟨t, 0, none⟩))) :
  Calls Tryz.prog 47 #[.pointer (some ⟨t, 0, none⟩), .int .i64 (y : Int)] w (RdH Z w j c p room nb K fr bl d s ((L y).getD (jread d s y))) := by
 obtain ⟨PO, hPO⟩ : ∃ PO : Ending → World → Prop, PO = RdH Z w j c p room nb K fr bl d s ((L y).getD (jread d s y)) := ⟨_, rfl⟩
 rw [← hPO]
 have HA := hid (task_open h hon ht hs)
 have HL : Hid (∀ w1, Below w.heap.size w w1 → Calls Tryz.prog 62 #[.pointer (some ⟨t, 0, none⟩), .int .i64 (y : Int)] w1 (RdH (fun k => Z k ∧ k < w.heap.size) w1 j c p room nb K fr bl d s ((L y).getD (jread d s y)))) := fun w1 b1 => look_w (h.cut.below b1) (hW.keep (fun k _ hk => b1.block k hk)) h1 hon hl hK hnb y hy hh ((b1.cell (p := ⟨t, 1, none⟩) ht.lt).trans (ht.cell 1))
 have HP : Hid (∀ w1 e w', Below w.heap.size w w1 → RdH (fun k => Z k ∧ k < w.heap.size) w1 j c p room nb K fr bl d s ((L y).getD (jread d s y)) e w' → PO e w') := fun w1 e w' b q => by rw [hPO]; exact q.low b
 clear h hs ht hW hPO
 go_enter Tryz.func47, Tryz.ntmps47
 go_wp2_with fail
 refine Calls.mono HA.out ?_
 rintro e w1 ⟨rfl, b1⟩
 have HL1 := hid (HL.out w1 b1)
 have HP1 : Hid (∀ e w', RdH (fun k => Z k ∧ k < w.heap.size) w1 j c p room nb K fr bl d s ((L y).getD (jread d s y)) e w' → PO e w') := fun e w' q => HP.out w1 e w' b1 q
 clear b1 HA HL HP
 go_wp2_with fail
 refine Calls.mono HL1.out ?_
 rintro e w3 q
 obtain ⟨g3, cp3, rfl, _⟩ := id q
 have FIN := hid (HP1.out _ w3 q)
 clear q HL1 HP1
 go_wp2
 exact FIN.out
open Go.RowKit Go.Deep
set_option maxRecDepth 100000 in
theorem over_new (j nb fr bl : Nat) (w : World) : Calls Tryz.prog 38 #[.iface 76 (.pointer (some ⟨j, 0, none⟩))] w fun e w' => ∃ x m, e = .returned (.pointer (some ⟨x, 0, none⟩)) ∧ w.heap.size ≤ x ∧ w.heap.size ≤ m ∧ x < w'.heap.size ∧ m < w'.heap.size ∧ Below w.heap.size w w' ∧ Wq (fun k => k = x ∨ k = m) w' x j m 0 nb fr bl (.map []) (fun _ => none) (.slice none 0 0) (.slice none 0 0) (fun _ => none) := by
 obtain ⟨w1, hw1⟩ : ∃ w1, w1 = w.alloc (.map #[] 0) := ⟨_, rfl⟩
 have z1 : w1.heap.size = w.heap.size + 1 := by rw [hw1]; simp
 have b1 : Below w.heap.size w w1 := by rw [hw1]; exact (Below.refl _ _).alloc (Nat.le_refl _) _
 have m1 : w1.ownsMap Tryz.prog 3 wrElem w.heap.size 0 (.map [] : DataW (Nat × Nat × Int)) := by rw [hw1]; exact World.ownsMap_made w Tryz.prog 3 wrElem
 obtain ⟨w2, hw2⟩ : ∃ w2, w2 = w1.alloc (.cells #[.iface 76 (.pointer (some ⟨j, 0, none⟩)), .map (some w.heap.size), .slice none 0 0, .slice none 0 0] 135) := ⟨_, rfl⟩
 have z2 : w2.heap.size = w.heap.size + 2 := by rw [hw2]; simp [z1]
 have b2 : Below w1.heap.size w1 w2 := by rw [hw2]; exact (Below.refl _ _).alloc (Nat.le_refl _) _
 have FIN : Hid (∃ x m, Ending.returned (.pointer (some ⟨w.heap.size + 1, 0, none⟩)) = .returned (.pointer (some ⟨x, 0, none⟩)) ∧ w.heap.size ≤ x ∧ w.heap.size ≤ m ∧ x < w2.heap.size ∧ m < w2.heap.size ∧ Below w.heap.size w w2 ∧ Wq (fun k => k = x ∨ k = m) w2 x j m 0 nb fr bl (.map []) (fun _ => none) (.slice none 0 0) (.slice none 0 0) (fun _ => none)) := by
  refine ⟨w.heap.size + 1, w.heap.size, rfl, by omega, by omega, by omega, by omega, b1.trans (b2.mono (by omega)), ⟨?_, mapW_keep m1 (b2.block _ (by omega)), AMx.nil nb, (fun y g cp k e => by cases e), fun _ _ => rfl, .inl rfl, .inr rfl⟩⟩
  rw [hw2, ← z1]
  exact Array.getElem?_push_size
 have HW : Hid (w2 = (w.alloc (.map #[] 0)).alloc (.cells #[.iface 76 (.pointer (some ⟨j, 0, none⟩)), .map (some w.heap.size), .slice none 0 0, .slice none 0 0] 135)) := hw2.trans (by rw [hw1])
 have hmm := @run_makeMap Tryz.prog
 clear hw1 hw2 b1 b2 m1 z1 z2
 go_enter Tryz.func38, Tryz.ntmps38
 go_wp2
 rw [← HW.out]
 go_ret
 exact FIN.out
set_option maxRecDepth 100000 in
set_option maxHeartbeats 1000000 in
theorem begin_any {Z : Nat → Prop} {w : World} {j c p room nb K fr bl : Nat} {d : Pd} {s : Js} (h : Jq Z w j c p room nb K fr bl d s) (hon : d.off = false) {st : Nat} (hs : Stb w st j (.pointer none)) :
  Calls Tryz.prog 9 #[.pointer (some ⟨st, 0, none⟩)] w fun e w' => ∃ t x m, e = .returned (.tuple #[.pointer (some ⟨t, 0, none⟩), .int .i64 0]) ∧ (w.heap.size ≤ t ∧ w.heap.size ≤ x ∧ w.heap.size ≤ m ∧ x < t ∧ m < t ∧ t < w'.heap.size) ∧ Txb w' t j (.iface 83 (.pointer (some ⟨x, 0, none⟩))) st (.pointer (some ⟨x, 0, none⟩)) ∧ Stb w' st j (.pointer (some ⟨t, 0, none⟩)) ∧ Wq (fun k => k = x ∨ k = m) w' x j m 0 nb fr bl (.map []) (fun _ => none) (.slice none 0 0) (.slice none 0 0) (fun _ => none) ∧ But (fun k => k = st) w w' := by
 obtain ⟨PO, hPO⟩ : ∃ PO : Ending → World → Prop, PO = fun e w' => ∃ t x m, e = .returned (.tuple #[.pointer (some ⟨t, 0, none⟩), .int .i64 0]) ∧ (w.heap.size ≤ t ∧ w.heap.size ≤ x ∧ w.heap.size ≤ m ∧ x < t ∧ m < t ∧ t < w'.heap.size) ∧ Txb w' t j (.iface 83 (.pointer (some ⟨x, 0, none⟩))) st (.pointer (some ⟨x, 0, none⟩)) ∧ Stb w' st j (.pointer (some ⟨t, 0, none⟩)) ∧ Wq (fun k => k = x ∨ k = m) w' x j m 0 nb fr bl (.map []) (fun _ => none) (.slice none 0 0) (.slice none 0 0) (fun _ => none) ∧ But (fun k => k = st) w w' := ⟨_, rfl⟩
 rw [← hPO]
 have HA := hid (sask_any h hs)
 rw [hon] at HA
 have HS : Hid (∀ w', Below w.heap.size w w' → Stb w' st j (.pointer none) ∧ st < w'.heap.size) := fun w' b => ⟨hs.keep (b.block st hs.lt), Nat.lt_of_lt_of_le hs.lt b.size⟩
 have hsl := hs.lt
 have HP : Hid (∀ w2 x m, Below w.heap.size w w2 → (w.heap.size ≤ x ∧ w.heap.size ≤ m ∧ x < w2.heap.size ∧ m < w2.heap.size) → Wq (fun k => k = x ∨ k = m) w2 x j m 0 nb fr bl (.map []) (fun _ => none) (.slice none 0 0) (.slice none 0 0) (fun _ => none) → PO (.returned (.tuple #[.pointer (some ⟨w2.heap.size, 0, none⟩), .int .i64 0])) ((w2.setCell ⟨st, 2, none⟩ (.pointer (some ⟨w2.heap.size, 0, none⟩))).alloc (.cells #[.pointer (some ⟨j, 0, none⟩), .iface 83 (.pointer (some ⟨x, 0, none⟩)), .pointer (some ⟨st, 0, none⟩), .pointer (some ⟨x, 0, none⟩)] 86))) := fun w2 x m b2 hx hW => by
  rw [hPO]
  have s2 := b2.size
  have bs : But (fun k => k = st) w2 (w2.setCell ⟨st, 2, none⟩ (.pointer (some ⟨w2.heap.size, 0, none⟩))) := (But.refl (fun k => k = st) w2).setCell rfl _
  have bt : But (fun k => k = st) w2 ((w2.setCell ⟨st, 2, none⟩ (.pointer (some ⟨w2.heap.size, 0, none⟩))).alloc (.cells #[.pointer (some ⟨j, 0, none⟩), .iface 83 (.pointer (some ⟨x, 0, none⟩)), .pointer (some ⟨st, 0, none⟩), .pointer (some ⟨x, 0, none⟩)] 86)) := bs.alloc _
  refine ⟨w2.heap.size, x, m, rfl, ⟨by omega, hx.1, hx.2.1, hx.2.2.1, hx.2.2.2, by simp⟩, ?_, ?_, hW.but bt (fun k hk q e => by omega), (But.of_below b2 (X := fun k => k = st)).comp bt (fun _ _ q => q)⟩
  ·have := @Array.getElem?_push_size _ (w2.setCell ⟨st, 2, none⟩ (.pointer (some ⟨w2.heap.size, 0, none⟩))).heap (.cells #[.pointer (some ⟨j, 0, none⟩), .iface 83 (.pointer (some ⟨x, 0, none⟩)), .pointer (some ⟨st, 0, none⟩), .pointer (some ⟨x, 0, none⟩)] 86 (0, 0))
   unfold Txb
   simp only [World.alloc]
   rw [show w2.heap.size = (w2.setCell ⟨st, 2, none⟩ (.pointer (some ⟨w2.heap.size, 0, none⟩))).heap.size by simp]
   simpa using this
  ·exact ((HS.out w2 b2).1.set _).keep (Below.heap_alloc _ _ _ (by simpa using (HS.out w2 b2).2))
 clear h hs hPO
 go_enter Tryz.func9, Tryz.ntmps9
 go_wp2_with fail
 refine Calls.mono HA.out ?_
 rintro e w1 ⟨rfl, b1⟩
 obtain ⟨s1, _⟩ := HS.out w1 b1
 have k0 := s1.cell 0
 have k1 := s1.cell 1
 have k2 := s1.cell 2
 simp at k0 k1 k2
 have B1 := hid b1
 clear b1 HA s1
 go_wp2_with fail
 refine Calls.mono (over_new j nb fr bl w1) ?_
 rintro e w2 ⟨x, m, rfl, hx1, hx2, hx3, hx4, b2, hW⟩
 have s1 := B1.out.size
 have B2 : Hid (Below w.heap.size w w2) := B1.out.trans (b2.mono s1)
 obtain ⟨s2, hsl2⟩ := HS.out w2 B2.out
 have q0 := s2.cell 0
 have q2 := s2.cell 2
 have qf := s2.frozen 2
 simp at q0 q2
 have FIN := hid (HP.out w2 x m B2.out ⟨by omega, by omega, hx3, hx4⟩ hW)
 clear b2 hW k0 k1 k2 HS HP s2 B1 B2 hx1 hx2 s1
 go_wp2
 exact FIN.out
set_option maxRecDepth 100000 in
theorem end_any {w : World} {t j st : Nat} {fv wv tv : Value} (ht : Txb w t j fv st wv) (hs : Stb w st j tv) (hne : st ≠ t) :
  Calls Tryz.prog 42 #[.pointer (some ⟨t, 0, none⟩)] w fun e w' => e = .returned (.tuple #[]) ∧ Txb w' t j .nilIface st (.pointer none) ∧ Stb w' st j (.pointer none) ∧ But (fun k => k = st ∨ k = t) w w' := by
 obtain ⟨PO, hPO⟩ : ∃ PO : Ending → World → Prop, PO = fun e w' => e = .returned (.tuple #[]) ∧ Txb w' t j .nilIface st (.pointer none) ∧ Stb w' st j (.pointer none) ∧ But (fun k => k = st ∨ k = t) w w' := ⟨_, rfl⟩
 rw [← hPO]
 obtain ⟨w3, hw3⟩ : ∃ w3, w3 = ((w.setCell ⟨st, 2, none⟩ (.pointer none)).setCell ⟨t, 3, none⟩ (.pointer none)).setCell ⟨t, 1, none⟩ .nilIface := ⟨_, rfl⟩
 have FIN : Hid (Txb w3 t j .nilIface st (.pointer none) ∧ Stb w3 st j (.pointer none) ∧ But (fun k => k = st ∨ k = t) w w3) := by
  have t1 : Txb (w.setCell ⟨st, 2, none⟩ (.pointer none)) t j fv st wv := ht.keep (Below.heap_setCell _ _ _ _ (fun e => hne e.symm))
  have t2 : Txb ((w.setCell ⟨st, 2, none⟩ (.pointer none)).setCell ⟨t, 3, none⟩ (.pointer none)) t j fv st (.pointer none) := by
   unfold Txb at *
   simp only [World.setCell, Array.getElem?_modify] at t1 ⊢
   rw [t1]
   simp
  refine ⟨?_, ?_, ?_⟩
  ·rw [hw3]
   unfold Txb at *
   simp only [World.setCell, Array.getElem?_modify] at t2 ⊢
   rw [t2]
   simp
  ·rw [hw3]
   exact ((hs.set (.pointer none)).keep (Below.heap_setCell _ _ _ _ hne)).keep (Below.heap_setCell _ _ _ _ hne)
  ·rw [hw3]
   exact (((But.refl (fun k => k = st ∨ k = t) w).setCell (.inl rfl) _).setCell (.inr rfl) _).setCell (.inr rfl) _
 have FP : Hid (PO (.returned (.tuple #[])) w3) := by rw [hPO]; exact ⟨rfl, FIN.out⟩
 have HW := hid hw3
 clear FIN hPO
 have k2 := ht.cell 2
 have k3 := ht.cell 3
 have k1 := ht.cell 1
 have f1 := ht.frozen 1
 have f3 := ht.frozen 3
 have q2 := hs.cell 2
 have qf := hs.frozen 2
 simp at k1 k2 k3 q2
 have hne' : ¬ t = st := fun e => hne e.symm
 clear ht hs hw3
 go_enter Tryz.func42, Tryz.ntmps42
 go_wp2
 rw [← HW.out]
 go_end0
 exact FP.out
open Go.RowKit Go.Deep
def putL (L : Nat → Option (List Int)) (y : Nat) (zs : List Int) : Nat → Option (List Int) := fun z => if z = y then some zs else L z
open Go.RowKit Go.Deep
end Go.Proofs.YtlefjidbpjkhlaaGreat
