import Derived.Test.YtldlejpacgphmaaGreatG40
import Derived.Test.YtldlejpacgphmaaGreatG24
import Derived.Deep.RegionHeld3
namespace Go.Proofs.YtldlejpacgphmaaGreat
open Go.RowKit
theorem WD.probes {W : Nat → Prop} {w : World} {wb room nb fr bl K lasted : Nat} {H : List Int} {Us : List (List Pm)} (h : WD W w wb room nb fr bl K lasted H Us) (mask : Int) : Calls Tryz.prog 31 #[.pointer (some ⟨wb, 0, none⟩), .int .u64 mask] w fun e w' => e = .returned (.bool true) ∧ Below w.heap.size w w' := by
 obtain ⟨Z, p, c, j, g, tried, tl, td, hb, hc, ta, tc, vs, Ls, n1, cs, d, s, h, hOn, hW⟩ := h
 obtain ⟨hD, _, _⟩ := h.jq.dk
 exact probes_any h.wd h.lg h.r1 h.r2 hD h.jq.fits.1 (hOn.cut h.lo h.fit h.nb) (Int.le_refl _) h.lo h.fit h.nb (hOn.us h.lo h.fit h.nb).2 mask
theorem WD.looks {W : Nat → Prop} {w : World} {wb room nb fr bl K lasted : Nat} {H : List Int} {Us : List (List Pm)} (h : WD W w wb room nb fr bl K lasted H Us) (hK : K + nb < 4611686018427387904) : nb ≤ 524288 ∧ wb < w.heap.size ∧ ∃ j g ta tc, g < w.heap.size ∧ w.cell? ⟨wb, 2, none⟩ = some (.pointer (some ⟨j, 0, none⟩)) ∧ w.cell? ⟨wb, 3, none⟩ = some (.pointer (some ⟨g, 0, none⟩)) ∧ w.cell? ⟨g, 3, none⟩ = some (.slice ta Us.length tc) ∧ (∀ w', Below w.heap.size w w' → Calls Tryz.prog 14 #[.pointer (some ⟨g, 0, none⟩)] w' fun e w'' => e = .returned (.int .i64 (nb : Int)) ∧ w'' = w') ∧ (∀ w' at_, Below w.heap.size w w' → Calls Tryz.prog 15 #[.pointer (some ⟨g, 0, none⟩), .int .i64 at_] w' fun e w'' => e = .returned (.int .i64 (homeC nb fr bl at_)) ∧ Below w'.heap.size w' w'') ∧ ∀ w', Below w.heap.size w w' → Calls Tryz.prog 34 #[.pointer (some ⟨j, 0, none⟩), .pointer (some ⟨g, 0, none⟩)] w' fun e w'' => e = .returned (.bool true) ∧ w''.cell? ⟨wb, 2, none⟩ = some (.pointer (some ⟨j, 0, none⟩)) ∧ w''.cell? ⟨wb, 3, none⟩ = some (.pointer (some ⟨g, 0, none⟩)) ∧ But W w w'' := by
 obtain ⟨Z, p, c, j, g, tried, tl, td, hb, hc, ta, tc, vs, Ls, n1, cs, d, s, h, hOn, hW⟩ := h
 refine ⟨h.nb, h.wd.lt, j, g, ta, tc, h.lg.gl, h.wd.cell 2, h.wd.cell 3, h.lg.lg.c3, fun w' hb' => refDisk_any (h.below hb').lg.lg h.nb, fun w' at_ hb' => ?_, fun w' hb' => ?_⟩
 ·refine Calls.mono (refAt_any (h.below hb').lg.lg h.nb h.fit at_) ?_
  rintro e w'' ⟨rfl, b⟩
  exact ⟨rfl, b⟩
 ·have h' := h.below hb'
  refine Calls.mono (holds_any h'.jq hOn h'.lg (fun k _ q => .inl q) h.lo h.fit hK) ?_
  rintro e w'' ⟨rfl, _, b⟩
  have hwd := h'.wd.keep (b.block wb h'.wd.lt h'.zw)
  exact ⟨rfl, hwd.cell 2, hwd.cell 3, (But.of_below hb' (X := W)).comp b (fun k _ q => by rw [hW]; exact .inl (.inl q))⟩
end Go.Proofs.YtldlejpacgphmaaGreat
namespace Go.Proofs.YtldlejpacgphmaaGreat
open Go.RowKit
def OpenFree (Z : Nat → Prop) (w : World) (c p room nb K M : Nat) (fr bl : Int) (e : Ending) (w' : World) : Prop :=
 ∃ jv code d', e = .returned (.tuple #[.pointer jv, .int .i64 code]) ∧ (jv = none ↔ code ≠ 0) ∧ (placeC nb fr bl ≠ 0 → code = placeC nb fr bl) ∧ d'.off = false ∧ d'.fu = -1 ∧ d'.puts.length ≤ M ∧ (∃ Z', Cq Z' w' c p room nb K d' ∧ Gr Z Z' w) ∧ But Z w w'
theorem Open_q {Z : Nat → Prop} {w : World} {c p room nb K : Nat} {d : Pd} (h : Cq Z w c p room nb K d) (fr bl : Int) (hl : d.puts.length + nb + nb + 8 ≤ 1073741823) (hon : d.off = false) (hfu : d.fu = -1) :
  Calls Tryz.prog 27 #[.pointer (some ⟨c, 0, none⟩), .int .i64 fr, .int .i64 bl] w (OpenFree Z w c p room nb K (d.puts.length + nb + nb + 8) fr bl) := by
 have hlc : layC d nb fr bl = placeC nb fr bl := by unfold layC; rw [hon, if_neg (by decide)]
 refine Calls.mono (Open_any h fr bl hl) ?_
 rintro e w' ⟨b1, jv, code, rfl, k⟩
 rw [hlc] at k
 rcases k with ⟨k1, k2, k3, k4⟩ | ⟨k1, f, b, ef, eb, hb1, hb2, k⟩
 ·exact ⟨jv, code, d, rfl, ⟨fun _ => by rw [k2]; exact k1, fun _ => k3⟩, fun _ => k2, hon, hfu, by omega, k4, b1⟩
 ·rcases k with ⟨k2, k3, _, k4⟩ | ⟨l, q, k2, k3, k4, Z', k5, k6⟩
  ·exact ⟨jv, code, d, rfl, ⟨fun _ => by rw [k2]; decide, fun _ => k3⟩, fun q => absurd k1 q, hon, hfu, by omega, k4, b1⟩
  ·obtain ⟨f1, f2, f3⟩ := Pd.runs_free hon hfu (settleCmds nb f b (openS nb f b d l q))
   have hp := d.runs_puts (settleCmds nb f b (openS nb f b d l q))
   have hs := length_settleCmds nb f b (openS nb f b d l q)
   rcases k6 with ⟨k7, _⟩ | ⟨k7, j, k8, _, k9⟩
   ·exact absurd (k4.trans f1) k7
   ·exact ⟨jv, code, _, rfl, ⟨fun q => (by rw [k8] at q; cases q), fun q => absurd k7 q⟩, fun q => absurd k1 q, f2, f3, by omega, ⟨Z', k9.toCq, k5⟩, b1⟩
def catZ (f : Nat → List Int) : Nat → List Int
 | 0 => []
 | i + 1 => catZ f i ++ f i
theorem length_catZ {f : Nat → List Int} : ∀ {i : Nat}, (∀ x, x < i → (f x).length = 512) → (catZ f i).length = 512 * i
 | 0, _ => rfl
 | i + 1, h => by
  rw [catZ, List.length_append, length_catZ (fun x hx => h x (by omega)), h i (by omega)]
  omega
theorem isB_catZ {f : Nat → List Int} : ∀ {i : Nat}, (∀ x, x < i → Pl.isB (f x)) → Pl.isB (catZ f i)
 | 0, _ => Pl.isB_nil
 | i + 1, h => by
  intro z hz
  rw [catZ] at hz
  rcases List.mem_append.1 hz with hz | hz
  ·exact isB_catZ (fun x hx => h x (by omega)) z hz
  ·exact h i (by omega) z hz
theorem imgB_catZ {f : Nat → List Int} : ∀ {i : Nat}, (∀ x, x < i → (f x).length = 512) → ∀ x, x < i → imgB (catZ f i) x = f x
 | 0, _, x, hx => absurd hx (Nat.not_lt_zero _)
 | i + 1, h, x, hx => by
  have hl := length_catZ (f := f) (i := i) (fun x hx => h x (by omega))
  unfold imgB
  rw [catZ]
  by_cases hxi : x < i
  ·have ih := imgB_catZ (fun x hx => h x (by omega)) x hxi
   unfold imgB at ih
   rw [List.drop_append_of_le_length (by omega), List.take_append_of_le_length (by rw [List.length_drop]; omega)]
   exact ih
  ·have hxe : x = i := by omega
   subst hxe
   rw [← hl, List.drop_left, List.take_of_length_le (by rw [h x (by omega)]; omega)]
theorem read_cat {d : Pd} {nb : Nat} (hf : d.Fits nb) (hr : ∀ x, x < nb → (d.read x).length = 512) : d.read = imgB (catZ d.read nb) := by
 funext x
 by_cases hx : x < nb
 ·exact (imgB_catZ hr x hx).symm
 ·have e1 : imgB (catZ d.read nb) x = [] := by
   unfold imgB
   rw [List.drop_of_length_le (by rw [length_catZ hr]; omega), List.take_nil]
  rw [e1]
  rcases seen_poss d.img d.puts x with q | q
  ·show seenZ d.img d.puts x = []
   rw [q]
   unfold imgB
   rw [List.drop_of_length_le (by rw [hf.1]; omega), List.take_nil]
  ·exact absurd (hf.2.2 _ q).1 hx
theorem grow_at {w : World} {B n : Nat} {a : Option Addr} {c : Nat} {zs : List Int} (ho : w.ownsRow B 5 1 (.slice a n c) n (zs.map (Value.int .u8))) {b off m cp : Nat} {body : List Int} (hl : body.length = m) (hc : ∀ t, t < m → w.cell? ⟨b, off + t, none⟩ = some (.int .u8 (body.getD t 0))) (hm : m ≤ 1048576) (hn : n ≤ 1073741823) (hw : B ≤ w.heap.size) :
  ∃ a' c' w', (Builtin.append_ #[22, 22] 22 #[.slice a n c, .slice (some ⟨b, off, none⟩) m cp]).run Tryz.prog w = .ok (.slice a' (n + m) c') w' ∧ w'.ownsRow B 5 1 (.slice a' (n + m) c') (n + m) ((zs ++ body).map (Value.int .u8)) ∧ But (fun k => (Value.slice a n c).ownBlock = some k) w w' ∧ ((Value.slice a' (n + m) c').ownBlock = (Value.slice a n c).ownBlock ∨ (Value.slice a' (n + m) c').ownBlock = some w.heap.size) := by
 obtain ⟨i0, hi, hz0, hz1, hz2⟩ := info_parts info5
 obtain ⟨v', w', hr, h2, h3, _, h5⟩ := run_append_own_at (P := Tryz.prog) w B 22 22 5 i0 (.int .u8 0) 1 1 Tryz.underlying22 hi hz0 hz1 hz2 rfl (by decide) (.slice a n c) n (zs.map (Value.int .u8)) ho ⟨b, off, none⟩ m cp (body.map (Value.int .u8)) (by simp [hl]) (fun j u hu => by
   rw [Addr.add_lit]
   have hj : j < body.length := by have := (List.getElem?_eq_some_iff.1 hu).1; simpa using this
   rw [hc j (by omega)]
   simp [hj] at hu
   rw [← hu]
   simp [hj]) (fun u hu => by obtain ⟨z, _, rfl⟩ := List.mem_map.1 hu; rfl) (by unfold maxLen; omega) (by omega) hw
 obtain ⟨a', c', rfl, _⟩ := owns_slice h2
 exact ⟨a', c', w', hr, by rw [List.map_append]; exact h2, (But.refl _ w).of_grown h3 (fun x e hx => e), h5⟩
theorem own_some {w : World} {B n : Nat} {a : Option Addr} {c : Nat} {zs : List Int} (ho : w.ownsRow B 5 1 (.slice a n c) n (zs.map (Value.int .u8))) (hn : 0 < n) : ∃ g, a = some ⟨g, 0, none⟩ ∧ Own w g n c zs := by
 rcases ho.2 with ⟨_, h2⟩ | ⟨g, cap, cur, h1, _⟩
 ·omega
 ·simp at h1
  obtain ⟨rfl, rfl⟩ := h1
  exact ⟨g, rfl, Own.of ho⟩
end Go.Proofs.YtldlejpacgphmaaGreat
namespace Go.Proofs.YtldlejpacgphmaaGreat
open Go.RowKit Go.Deep
set_option maxRecDepth 100000 in
set_option maxHeartbeats 4000000 in
theorem begun_short {w : World} (a : Option Addr) (L hcap : Nat) (H : List Int) (frI blI rI : Int) (hL : L ≤ 140737488351232) (hbad : openBad L) (hnil : a = none → hcap = 0) (hR : Rd w.heap.size w a L H) :
  Calls Tryz.prog 10 #[.agg #[.slice a L hcap, .int .i64 frI, .int .i64 blI, .int .i64 rI]] w fun e w' => e = .returned (.tuple #[.pointer none, .bool true]) ∧ Below w.heap.size w w' := by
 obtain ⟨PO, hPO⟩ : ∃ PO : Ending → World → Prop, PO = fun e w' => e = .returned (.tuple #[.pointer none, .bool true]) ∧ Below w.heap.size w w' := ⟨_, rfl⟩
 rw [← hPO]
 obtain ⟨pk, hpk⟩ : ∃ pk, pk = w.heap.size := ⟨_, rfl⟩
 obtain ⟨w0, hw0⟩ : ∃ w0, w0 = w.alloc (.cells #[.slice a L hcap, .int .i64 frI, .int .i64 blI, .int .i64 rI] 24) := ⟨_, rfl⟩
 have b0 : Below w.heap.size w w0 := by rw [hw0]; exact (Below.refl _ _).alloc (Nat.le_refl _) _
 have z0 : w0.heap.size = w.heap.size + 1 := by rw [hw0]; simp
 have hpl : pk < w0.heap.size := by omega
 have c0 : w0.cell? ⟨pk, 0, none⟩ = some (.slice a L hcap) := by rw [hw0, hpk]; exact cell_new rfl 0 _ rfl
 have HCp := hid (CopyBytes_any a L hcap H w0 hL hnil ((hR.below b0).mono b0.size))
 have HNm := hid (num_any 21)
 have HW0 := hid hw0
 have HPK := hid hpk
 have HC0 := hid c0
 have HF0 : Hid (∀ w', Below w0.heap.size w0 w' → PO (.returned (.tuple #[.pointer none, .bool true])) w'.drew) := fun w' hb => by
  rw [hPO]
  exact ⟨rfl, (b0.trans (hb.mono b0.size)).drew⟩
 have HOb : Hid (∀ (g c : Nat) (w' : World), _) := fun g c w' => Open_bad (some ⟨g, 0, none⟩) L c w' hbad
 have HBad := hid hbad
 have HLL := hid hL
 clear hbad hnil hR hPO hw0 hpk z0 b0
 go_enter Tryz.func10, Tryz.ntmps10
 go_wp2_with fail
 rw [← HW0.out, ← HPK.out]
 refine Calls.mono HCp.out ?_
 rintro e w1 ⟨g1, cp1, rfl, hg1, o1, b1⟩
 have HFin := hid (HF0.out w1 b1)
 have d0 := (b1.cell (p := ⟨pk, 0, none⟩) hpl).trans HC0.out
 have HO1 := hid (HOb.out g1 cp1 w1)
 clear HCp HF0 HOb HC0 hg1 o1 b1 HW0 HPK c0
 go_wp2_with fail
 refine Calls.mono HO1.out ?_
 rintro e w9 ⟨rfl, hw9⟩
 rw [hw9]
 clear hw9 HO1
 go_wp2_with fail
 refine Calls.mono (HNm.out w1) ?_
 rintro e w9 ⟨rfl, hw9⟩
 rw [hw9]
 clear hw9 HNm
 by_cases h1 : L = 0
 ·subst h1
  clear HBad HLL
  go_wp2_with fail
  refine wp_region_held_drew (S := fun w' => w'.cell? ⟨pk, 0, none⟩ = some (.slice a 0 hcap)) (by kernel_rfl) d0 (fun hSS => ?_)
  apply tk 0 (some 27) (.fieldAddr 24 (.tmp 1) 0) 0 none rfl (by kernel_rfl) (fun _ _ _ h => h) (by rfl) hSS
  ·(intro a h; (try dsimp only at h); (try go_split_ands); go_simp; try with_reducible rfl)
  apply tk 1 (some 28) (.load 22 (.tmp 27)) 22 none rfl (by kernel_rfl) (fun _ _ _ h => h) (by rfl) hSS
  ·(intro a h; (try dsimp only at h); (try go_split_ands); go_simp; try with_reducible rfl)
  apply tk 2 (some 29) (.call { callee := .builtin .len, args := #[.tmp 28], argTypes := #[22] }) 3 none rfl (by kernel_rfl) (fun _ _ _ h => h) (by rfl) hSS
  ·(intro a h; (try dsimp only at h); (try go_split_ands); go_simp; try with_reducible rfl)
  apply tk 3 (some 30) (.binOp .eql 3 (.tmp 29) (.const (.int .i64 0)) 3) 4 none rfl (by kernel_rfl) (fun _ _ _ h => h) (by rfl) hSS
  ·(intro a h; (try dsimp only at h); (try go_split_ands); go_simp; try with_reducible rfl)
  try simp only [Act.put, List.setIfInBounds_toArray, List.set_cons_zero, List.set_cons_succ]
  apply tk 4 (some 31) (.move (.tmp 30)) 4 none rfl (by kernel_rfl) (fun _ _ _ h => h) (by rfl) hSS
  ·(intro a h; (try dsimp only at h); (try go_split_ands); go_simp; try with_reducible rfl)
  refine sk 5 (some 32) (.fieldAddr 24 (.tmp 1) 0) 0 (some (4, false)) rfl (by kernel_rfl) (fun _ _ _ h => h) (by rfl) hSS ?_
  refine sk 6 (some 33) (.load 22 (.tmp 32)) 22 (some (4, false)) rfl (by kernel_rfl) (fun _ _ _ h => h) (by rfl) hSS ?_
  refine sk 7 (some 34) (.call { callee := .builtin .len, args := #[.tmp 33], argTypes := #[22] }) 3 (some (4, false)) rfl (by kernel_rfl) (fun _ _ _ h => h) (by rfl) hSS ?_
  try simp only [Act.put, List.setIfInBounds_toArray, List.set_cons_zero, List.set_cons_succ]
  refine sk 8 (some 35) (.binOp .rem 3 (.tmp 34) (.const (.int .i64 512)) 3) 3 (some (4, false)) rfl (by kernel_rfl) (fun _ _ _ h => h) (by rfl) hSS ?_
  refine sk 9 (some 36) (.binOp .neq 3 (.tmp 35) (.const (.int .i64 0)) 3) 4 (some (4, false)) rfl (by kernel_rfl) (fun _ _ _ h => h) (by rfl) hSS ?_
  apply tk 10 (some 37) (.pick (.tmp 31) (.const (.bool true)) (.tmp 36)) 4 none rfl (by kernel_rfl) (fun _ _ _ h => h) (by rfl) hSS
  ·(intro a h; (try dsimp only at h); (try go_split_ands); go_simp; try with_reducible rfl)
  apply tk 11 (some 38) (.move (.tmp 37)) 4 none rfl (by kernel_rfl) (fun _ _ _ h => h) (by rfl) hSS
  ·(intro a h; (try dsimp only at h); (try go_split_ands); go_simp; try with_reducible rfl)
  try simp only [Act.put, List.setIfInBounds_toArray, List.set_cons_zero, List.set_cons_succ]
  refine sk 12 (some 39) (.fieldAddr 24 (.tmp 1) 0) 0 (some (11, false)) rfl (by kernel_rfl) (fun _ _ _ h => h) (by rfl) hSS ?_
  refine sk 13 (some 40) (.load 22 (.tmp 39)) 22 (some (11, false)) rfl (by kernel_rfl) (fun _ _ _ h => h) (by rfl) hSS ?_
  refine sk 14 (some 41) (.call { callee := .builtin .len, args := #[.tmp 40], argTypes := #[22] }) 3 (some (11, false)) rfl (by kernel_rfl) (fun _ _ _ h => h) (by rfl) hSS ?_
  refine sk 15 (some 42) (.binOp .gtr 3 (.tmp 41) (.const (.int .i64 268435456)) 3) 4 (some (11, false)) rfl (by kernel_rfl) (fun _ _ _ h => h) (by rfl) hSS ?_
  try simp only [Act.put, List.setIfInBounds_toArray, List.set_cons_zero, List.set_cons_succ]
  apply tk 16 (some 43) (.pick (.tmp 38) (.const (.bool true)) (.tmp 42)) 4 none rfl (by kernel_rfl) (fun _ _ _ h => h) (by rfl) hSS
  ·(intro a h; (try dsimp only at h); (try go_split_ands); go_simp; try with_reducible rfl)
  apply tk 17 (some 2) (.assign (.const (.pointer none))) 27 none rfl (by kernel_rfl) (fun _ _ _ h => h) (by rfl) hSS
  ·(intro a h; (try dsimp only at h); (try go_split_ands); go_simp; try with_reducible rfl)
  apply tk 18 (some 3) (.assign (.tmp 43)) 4 none rfl (by kernel_rfl) (fun _ _ _ h => h) (by rfl) hSS
  ·(intro a h; (try dsimp only at h); (try go_split_ands); go_simp; try with_reducible rfl)
  try simp only [Act.put, List.setIfInBounds_toArray, List.set_cons_zero, List.set_cons_succ]
  refine wpAnyH_done (by kernel_rfl) ?_ _
  clear hSS d0
  go_wp2
  exact HFin.out
 by_cases h2 : L % 512 = 0
 ·have h0 : ¬ ((L : Int) = 0) := by omega
  have h0b : ((L : Int) == 0) = false := by simpa using h0
  have h0c : (L == 0) = false := by simpa using h1
  have hgt : 268435456 < (L : Int) := by have := HBad.out; unfold openBad at this; omega
  have t1 : (L : Int).tmod 512 = 0 := by rw [Int.tmod_eq_emod_of_nonneg (by omega)]; omega
  have t2 : (L : Int) % 512 = 0 := by omega
  have hlw : (L : Int) ≤ 140737488351232 := by have := HLL.out; omega
  clear HBad HLL h2
  go_wp2_with fail
  refine wp_region_held_drew (S := fun w' => w'.cell? ⟨pk, 0, none⟩ = some (.slice a L hcap)) (by kernel_rfl) d0 (fun hSS => ?_)
  apply tk 0 (some 27) (.fieldAddr 24 (.tmp 1) 0) 0 none rfl (by kernel_rfl) (fun _ _ _ h => h) (by rfl) hSS
  ·(intro a h; (try dsimp only at h); (try go_split_ands); go_simp; try with_reducible rfl)
  apply tk 1 (some 28) (.load 22 (.tmp 27)) 22 none rfl (by kernel_rfl) (fun _ _ _ h => h) (by rfl) hSS
  ·(intro a h; (try dsimp only at h); (try go_split_ands); go_simp; try with_reducible rfl)
  try simp only [Act.put, List.setIfInBounds_toArray, List.set_cons_zero, List.set_cons_succ]
  apply tk 2 (some 29) (.call { callee := .builtin .len, args := #[.tmp 28], argTypes := #[22] }) 3 none rfl (by kernel_rfl) (fun _ _ _ h => h) (by rfl) hSS
  ·(intro a h; (try dsimp only at h); (try go_split_ands); go_simp; try with_reducible rfl)
  apply tk 3 (some 30) (.binOp .eql 3 (.tmp 29) (.const (.int .i64 0)) 3) 4 none rfl (by kernel_rfl) (fun _ _ _ h => h) (by rfl) hSS
  ·(intro a h; (try dsimp only at h); (try go_split_ands); go_simp; try with_reducible rfl)
  apply tk 4 (some 31) (.move (.tmp 30)) 4 none rfl (by kernel_rfl) (fun _ _ _ h => h) (by rfl) hSS
  ·(intro a h; (try dsimp only at h); (try go_split_ands); go_simp; try with_reducible rfl)
  apply tk 5 (some 32) (.fieldAddr 24 (.tmp 1) 0) 0 (some (4, false)) rfl (by kernel_rfl) (fun _ _ _ h => h) (by rfl) hSS
  ·(intro a h; (try dsimp only at h); (try go_split_ands); go_simp; try with_reducible rfl)
  try simp only [Act.put, List.setIfInBounds_toArray, List.set_cons_zero, List.set_cons_succ]
  apply tk 6 (some 33) (.load 22 (.tmp 32)) 22 (some (4, false)) rfl (by kernel_rfl) (fun _ _ _ h => h) (by rfl) hSS
  ·(intro a h; (try dsimp only at h); (try go_split_ands); go_simp; try with_reducible rfl)
  apply tk 7 (some 34) (.call { callee := .builtin .len, args := #[.tmp 33], argTypes := #[22] }) 3 (some (4, false)) rfl (by kernel_rfl) (fun _ _ _ h => h) (by rfl) hSS
  ·(intro a h; (try dsimp only at h); (try go_split_ands); go_simp; try with_reducible rfl)
  apply tk 8 (some 35) (.binOp .rem 3 (.tmp 34) (.const (.int .i64 512)) 3) 3 (some (4, false)) rfl (by kernel_rfl) (fun _ _ _ h => h) (by rfl) hSS
  ·(intro a h; (try dsimp only at h); (try go_split_ands); go_simp; try with_reducible rfl)
  apply tk 9 (some 36) (.binOp .neq 3 (.tmp 35) (.const (.int .i64 0)) 3) 4 (some (4, false)) rfl (by kernel_rfl) (fun _ _ _ h => h) (by rfl) hSS
  ·(intro a h; (try dsimp only at h); (try go_split_ands); go_simp; try with_reducible rfl)
  try simp only [Act.put, List.setIfInBounds_toArray, List.set_cons_zero, List.set_cons_succ]
  apply tk 10 (some 37) (.pick (.tmp 31) (.const (.bool true)) (.tmp 36)) 4 none rfl (by kernel_rfl) (fun _ _ _ h => h) (by rfl) hSS
  ·(intro a h; (try dsimp only at h); (try go_split_ands); go_simp; try with_reducible rfl)
  apply tk 11 (some 38) (.move (.tmp 37)) 4 none rfl (by kernel_rfl) (fun _ _ _ h => h) (by rfl) hSS
  ·(intro a h; (try dsimp only at h); (try go_split_ands); go_simp; try with_reducible rfl)
  apply tk 12 (some 39) (.fieldAddr 24 (.tmp 1) 0) 0 (some (11, false)) rfl (by kernel_rfl) (fun _ _ _ h => h) (by rfl) hSS
  ·(intro a h; (try dsimp only at h); (try go_split_ands); go_simp; try with_reducible rfl)
  apply tk 13 (some 40) (.load 22 (.tmp 39)) 22 (some (11, false)) rfl (by kernel_rfl) (fun _ _ _ h => h) (by rfl) hSS
  ·(intro a h; (try dsimp only at h); (try go_split_ands); go_simp; try with_reducible rfl)
  try simp only [Act.put, List.setIfInBounds_toArray, List.set_cons_zero, List.set_cons_succ]
  apply tk 14 (some 41) (.call { callee := .builtin .len, args := #[.tmp 40], argTypes := #[22] }) 3 (some (11, false)) rfl (by kernel_rfl) (fun _ _ _ h => h) (by rfl) hSS
  ·(intro a h; (try dsimp only at h); (try go_split_ands); go_simp; try with_reducible rfl)
  apply tk 15 (some 42) (.binOp .gtr 3 (.tmp 41) (.const (.int .i64 268435456)) 3) 4 (some (11, false)) rfl (by kernel_rfl) (fun _ _ _ h => h) (by rfl) hSS
  ·(intro a h; (try dsimp only at h); (try go_split_ands); go_simp; try with_reducible rfl)
  apply tk 16 (some 43) (.pick (.tmp 38) (.const (.bool true)) (.tmp 42)) 4 none rfl (by kernel_rfl) (fun _ _ _ h => h) (by rfl) hSS
  ·(intro a h; (try dsimp only at h); (try go_split_ands); go_simp; try with_reducible rfl)
  apply tk 17 (some 2) (.assign (.const (.pointer none))) 27 none rfl (by kernel_rfl) (fun _ _ _ h => h) (by rfl) hSS
  ·(intro a h; (try dsimp only at h); (try go_split_ands); go_simp; try with_reducible rfl)
  try simp only [Act.put, List.setIfInBounds_toArray, List.set_cons_zero, List.set_cons_succ]
  apply tk 18 (some 3) (.assign (.tmp 43)) 4 none rfl (by kernel_rfl) (fun _ _ _ h => h) (by rfl) hSS
  ·(intro a h; (try dsimp only at h); (try go_split_ands); go_simp; try with_reducible rfl)
  try simp only [Act.put, List.setIfInBounds_toArray, List.set_cons_zero, List.set_cons_succ]
  refine wpAnyH_done (by kernel_rfl) ?_ _
  clear hSS d0
  go_wp2
  exact HFin.out
 ·have h0 : ¬ ((L : Int) = 0) := by omega
  have h0b : ((L : Int) == 0) = false := by simpa using h0
  have h0c : (L == 0) = false := by simpa using h1
  obtain ⟨r, hr⟩ : ∃ r : Nat, r = L % 512 := ⟨_, rfl⟩
  have t1 : (L : Int).tmod 512 = (r : Int) := by rw [Int.tmod_eq_emod_of_nonneg (by omega)]; omega
  have t2 : (L : Int) % 512 = (r : Int) := by omega
  have t3 : IntKind.i64.wrap (r : Int) = (r : Int) := by rw [IntKind.wrap_i64]; omega
  have t4 : ¬ ((r : Int) = 0) := by omega
  have t5 : ¬ (r = 0) := by omega
  have t6 : ((r : Int) != 0) = true := by simpa using t4
  have t7 : (r != 0) = true := by simpa using t5
  have hlw : (L : Int) ≤ 140737488351232 := by have := HLL.out; omega
  clear HBad HLL h2 hr
  go_wp2_with fail
  refine wp_region_held_drew (S := fun w' => w'.cell? ⟨pk, 0, none⟩ = some (.slice a L hcap)) (by kernel_rfl) d0 (fun hSS => ?_)
  apply tk 0 (some 27) (.fieldAddr 24 (.tmp 1) 0) 0 none rfl (by kernel_rfl) (fun _ _ _ h => h) (by rfl) hSS
  ·(intro a h; (try dsimp only at h); (try go_split_ands); go_simp; try with_reducible rfl)
  apply tk 1 (some 28) (.load 22 (.tmp 27)) 22 none rfl (by kernel_rfl) (fun _ _ _ h => h) (by rfl) hSS
  ·(intro a h; (try dsimp only at h); (try go_split_ands); go_simp; try with_reducible rfl)
  apply tk 2 (some 29) (.call { callee := .builtin .len, args := #[.tmp 28], argTypes := #[22] }) 3 none rfl (by kernel_rfl) (fun _ _ _ h => h) (by rfl) hSS
  ·(intro a h; (try dsimp only at h); (try go_split_ands); go_simp; try with_reducible rfl)
  apply tk 3 (some 30) (.binOp .eql 3 (.tmp 29) (.const (.int .i64 0)) 3) 4 none rfl (by kernel_rfl) (fun _ _ _ h => h) (by rfl) hSS
  ·(intro a h; (try dsimp only at h); (try go_split_ands); go_simp; try with_reducible rfl)
  try simp only [Act.put, List.setIfInBounds_toArray, List.set_cons_zero, List.set_cons_succ]
  apply tk 4 (some 31) (.move (.tmp 30)) 4 none rfl (by kernel_rfl) (fun _ _ _ h => h) (by rfl) hSS
  ·(intro a h; (try dsimp only at h); (try go_split_ands); go_simp; try with_reducible rfl)
  apply tk 5 (some 32) (.fieldAddr 24 (.tmp 1) 0) 0 (some (4, false)) rfl (by kernel_rfl) (fun _ _ _ h => h) (by rfl) hSS
  ·(intro a h; (try dsimp only at h); (try go_split_ands); go_simp; try with_reducible rfl)
  apply tk 6 (some 33) (.load 22 (.tmp 32)) 22 (some (4, false)) rfl (by kernel_rfl) (fun _ _ _ h => h) (by rfl) hSS
  ·(intro a h; (try dsimp only at h); (try go_split_ands); go_simp; try with_reducible rfl)
  apply tk 7 (some 34) (.call { callee := .builtin .len, args := #[.tmp 33], argTypes := #[22] }) 3 (some (4, false)) rfl (by kernel_rfl) (fun _ _ _ h => h) (by rfl) hSS
  ·(intro a h; (try dsimp only at h); (try go_split_ands); go_simp; try with_reducible rfl)
  try simp only [Act.put, List.setIfInBounds_toArray, List.set_cons_zero, List.set_cons_succ]
  apply tk 8 (some 35) (.binOp .rem 3 (.tmp 34) (.const (.int .i64 512)) 3) 3 (some (4, false)) rfl (by kernel_rfl) (fun _ _ _ h => h) (by rfl) hSS
  ·(intro a h; (try dsimp only at h); (try go_split_ands); go_simp; try with_reducible rfl)
  apply tk 9 (some 36) (.binOp .neq 3 (.tmp 35) (.const (.int .i64 0)) 3) 4 (some (4, false)) rfl (by kernel_rfl) (fun _ _ _ h => h) (by rfl) hSS
  ·(intro a h; (try dsimp only at h); (try go_split_ands); go_simp; try with_reducible rfl)
  apply tk 10 (some 37) (.pick (.tmp 31) (.const (.bool true)) (.tmp 36)) 4 none rfl (by kernel_rfl) (fun _ _ _ h => h) (by rfl) hSS
  ·(intro a h; (try dsimp only at h); (try go_split_ands); go_simp; try with_reducible rfl)
  apply tk 11 (some 38) (.move (.tmp 37)) 4 none rfl (by kernel_rfl) (fun _ _ _ h => h) (by rfl) hSS
  ·(intro a h; (try dsimp only at h); (try go_split_ands); go_simp; try with_reducible rfl)
  try simp only [Act.put, List.setIfInBounds_toArray, List.set_cons_zero, List.set_cons_succ]
  refine sk 12 (some 39) (.fieldAddr 24 (.tmp 1) 0) 0 (some (11, false)) rfl (by kernel_rfl) (fun _ _ _ h => h) (by rfl) hSS ?_
  refine sk 13 (some 40) (.load 22 (.tmp 39)) 22 (some (11, false)) rfl (by kernel_rfl) (fun _ _ _ h => h) (by rfl) hSS ?_
  refine sk 14 (some 41) (.call { callee := .builtin .len, args := #[.tmp 40], argTypes := #[22] }) 3 (some (11, false)) rfl (by kernel_rfl) (fun _ _ _ h => h) (by rfl) hSS ?_
  refine sk 15 (some 42) (.binOp .gtr 3 (.tmp 41) (.const (.int .i64 268435456)) 3) 4 (some (11, false)) rfl (by kernel_rfl) (fun _ _ _ h => h) (by rfl) hSS ?_
  try simp only [Act.put, List.setIfInBounds_toArray, List.set_cons_zero, List.set_cons_succ]
  apply tk 16 (some 43) (.pick (.tmp 38) (.const (.bool true)) (.tmp 42)) 4 none rfl (by kernel_rfl) (fun _ _ _ h => h) (by rfl) hSS
  ·(intro a h; (try dsimp only at h); (try go_split_ands); go_simp; try with_reducible rfl)
  apply tk 17 (some 2) (.assign (.const (.pointer none))) 27 none rfl (by kernel_rfl) (fun _ _ _ h => h) (by rfl) hSS
  ·(intro a h; (try dsimp only at h); (try go_split_ands); go_simp; try with_reducible rfl)
  apply tk 18 (some 3) (.assign (.tmp 43)) 4 none rfl (by kernel_rfl) (fun _ _ _ h => h) (by rfl) hSS
  ·(intro a h; (try dsimp only at h); (try go_split_ands); go_simp; try with_reducible rfl)
  try simp only [Act.put, List.setIfInBounds_toArray, List.set_cons_zero, List.set_cons_succ]
  refine wpAnyH_done (by kernel_rfl) ?_ _
  clear hSS d0
  go_wp2
  exact HFin.out
set_option maxRecDepth 100000 in
set_option maxHeartbeats 4000000 in
theorem begun_off {w : World} (a : Option Addr) (hcap : Nat) (H : List Int) (nb : Nat) (frI blI rI : Int) (n1 : 1 ≤ nb) (hnb : nb ≤ 524288) (hwz : placeC nb frI blI ≠ 0) (hnil : a = none → hcap = 0) (hR : Rd w.heap.size w a (512 * nb) H) :
  Calls Tryz.prog 10 #[.agg #[.slice a (512 * nb) hcap, .int .i64 frI, .int .i64 blI, .int .i64 rI]] w fun e w' => e = .returned (.tuple #[.pointer none, .bool true]) ∧ Below w.heap.size w w' := by
 obtain ⟨PO, hPO⟩ : ∃ PO : Ending → World → Prop, PO = fun e w' => e = .returned (.tuple #[.pointer none, .bool true]) ∧ Below w.heap.size w w' := ⟨_, rfl⟩
 rw [← hPO]
 obtain ⟨L, hLe⟩ : ∃ L, L = 512 * nb := ⟨_, rfl⟩
 obtain ⟨want, hwant⟩ : ∃ want, want = placeC nb frI blI := ⟨_, rfl⟩
 obtain ⟨pk, hpk⟩ : ∃ pk, pk = w.heap.size := ⟨_, rfl⟩
 obtain ⟨w0, hw0⟩ : ∃ w0, w0 = w.alloc (.cells #[.slice a L hcap, .int .i64 frI, .int .i64 blI, .int .i64 rI] 24) := ⟨_, rfl⟩
 have b0 : Below w.heap.size w w0 := by rw [hw0]; exact (Below.refl _ _).alloc (Nat.le_refl _) _
 have z0 : w0.heap.size = w.heap.size + 1 := by rw [hw0]; simp
 have hpl : pk < w0.heap.size := by omega
 have c0 : w0.cell? ⟨pk, 0, none⟩ = some (.slice a L hcap) := by rw [hw0, hpk]; exact cell_new rfl 0 _ rfl
 have c1 : w0.cell? ⟨pk, 1, none⟩ = some (.int .i64 frI) := by rw [hw0, hpk]; exact cell_new rfl 1 _ rfl
 have c2 : w0.cell? ⟨pk, 2, none⟩ = some (.int .i64 blI) := by rw [hw0, hpk]; exact cell_new rfl 2 _ rfl
 have c3 : w0.cell? ⟨pk, 3, none⟩ = some (.int .i64 rI) := by rw [hw0, hpk]; exact cell_new rfl 3 _ rfl
 have HCell : Hid (∀ w', Below w0.heap.size w0 w' → w'.cell? ⟨pk, 0, none⟩ = some (.slice a L hcap) ∧ w'.cell? ⟨pk, 1, none⟩ = some (.int .i64 frI) ∧ w'.cell? ⟨pk, 2, none⟩ = some (.int .i64 blI) ∧ w'.cell? ⟨pk, 3, none⟩ = some (.int .i64 rI)) := fun w' hb => ⟨(hb.cell (p := ⟨pk, 0, none⟩) hpl).trans c0, (hb.cell (p := ⟨pk, 1, none⟩) hpl).trans c1, (hb.cell (p := ⟨pk, 2, none⟩) hpl).trans c2, (hb.cell (p := ⟨pk, 3, none⟩) hpl).trans c3⟩
 have HF0 : Hid (∀ w', Below w0.heap.size w0 w' → PO (.returned (.tuple #[.pointer none, .bool true])) w') := fun w' hb => by
  rw [hPO]
  exact ⟨rfl, b0.trans (hb.mono b0.size)⟩
 have hRL : Rd w.heap.size w a L H := by rw [hLe]; exact hR
 have HCp := hid (CopyBytes_any a L hcap H w0 (by omega) hnil ((hRL.below b0).mono b0.size))
 have hisb := hR.2.1
 have HOd : Hid (∀ (w1 : World) (g1 cp1 : Nat), Own w1 g1 L cp1 H → Calls Tryz.prog 21 #[.slice (some ⟨g1, 0, none⟩) L cp1] w1 fun e w' => ∃ p, e = .returned (.tuple #[.pointer (some ⟨p, 0, none⟩), .int .i64 0]) ∧ w1.heap.size ≤ p ∧ Dk (fun x => w1.heap.size ≤ x) w' p H [] (-1) false nb ∧ Below w1.heap.size w1 w') := fun w1 g1 cp1 ho => by
  rw [hLe] at ho ⊢
  exact Open_ok ⟨g1, 0, none⟩ nb cp1 H w1 n1 hnb (ho.rd hisb)
 have HNm := hid num_any
 have HLow := hid (low_any rI)
 have HPl := hid (refPlaced_any nb hnb frI blI)
 rw [← hwant] at HPl
 have HFm : Hid (∀ (w1 w2 w3 : World) (p c room : Nat), Below w0.heap.size w0 w1 → Below w1.heap.size w1 w2 → Below w2.heap.size w2 w3 → Dk (fun x => w1.heap.size ≤ x) w2 p H [] (-1) false nb → Cst (fun k => w2.heap.size ≤ k) w3 c p room 0 0 [] → Calls Tryz.prog 29 #[.pointer (some ⟨c, 0, none⟩), .int .i64 frI, .int .i64 blI] w3 fun e w4 => e = .returned (.int .i64 want) ∧ Below w0.heap.size w0 w4 ∧
   Calls Tryz.prog 27 #[.pointer (some ⟨c, 0, none⟩), .int .i64 frI, .int .i64 blI] w4 fun e w5 => e = .returned (.tuple #[.pointer none, .int .i64 want]) ∧ Below w0.heap.size w0 w5) := fun w1 w2 w3 p c room b1 b2 b3 hD hCs => by
  have s1 := b1.size
  have s2 := b2.size
  have s3 := b3.size
  have hq := Cq.new hD hCs b3 s2
  have B3 : Below w0.heap.size w0 w3 := (b1.trans (b2.mono s1)).trans (b3.mono (by omega))
  refine Calls.mono (Format_any hq frI blI (by simp only [List.length_nil]; omega)) ?_
  rintro e w4 ⟨code, d', rfl, ⟨Z', q1, q2⟩, b4, hcase⟩
  have hlc : layC ⟨H, [], -1, false⟩ nb frI blI = want := by
   unfold layC
   rw [if_neg (by simp), hwant]
  rw [hlc] at hcase
  rcases hcase with ⟨_, k2, k3⟩ | ⟨k1, _⟩
  ·subst k3 k2
   have B4 : Below w0.heap.size w0 w4 := ((But.of_below B3 (X := fun k => w0.heap.size ≤ k)).comp b4 (fun k hk q => by omega)).below (Nat.le_refl _) (fun k hk q => by omega)
   have s4 := b4.size
   refine ⟨rfl, B4, Calls.mono (Open_q q1 frI blI (by simp only [List.length_nil]; omega) rfl rfl) ?_⟩
   rintro e w5 ⟨jv, code, d5, rfl, k4, k5, _, _, _, _, k6⟩
   have k7 := k5 hwz
   have k8 : jv = none := k4.2 (by rw [k7]; exact hwz)
   subst k8
   rw [k7, ← hwant]
   refine ⟨rfl, ((But.of_below B4 (X := fun k => w0.heap.size ≤ k)).comp k6 (fun k hk q => ?_)).below (Nat.le_refl _) (fun k hk q => by omega)⟩
   rcases Nat.lt_or_ge k w3.heap.size with hk' | hk'
   ·have := (q2 k hk' q).1
    omega
   ·omega
  ·exact absurd (hwant.symm.trans k1) hwz
 have hLn : L ≤ 268435456 := by omega
 have hq1 : (L : Int).tdiv 512 = (nb : Int) := by rw [Int.tdiv_eq_ediv_of_nonneg (by omega)]; omega
 have hq2 : (L : Int) / 512 = (nb : Int) := by omega
 have hwn : IntKind.i64.wrap (nb : Int) = (nb : Int) := by rw [IntKind.wrap_i64]; omega
 have hwz' : ¬ (want = 0) := by rw [hwant]; exact hwz
 have hwb : (want != 0) = true := by simpa using hwz'
 rw [← hLe]
 have HW0 := hid hw0
 have HPK := hid hpk
 clear hR hRL hPO hw0 hpk z0 b0 hisb c0 c1 c2 c3 hLe n1 hnil hnb hwant hwz
 go_enter Tryz.func10, Tryz.ntmps10
 go_wp2_with fail
 rw [← HW0.out, ← HPK.out]
 refine Calls.mono HCp.out ?_
 rintro e w1 ⟨g1, cp1, rfl, hg1, o1, b1⟩
 have HO1 := hid (HOd.out w1 g1 cp1 o1)
 have B1 := hid b1
 have hs1 := b1.size
 clear HCp HOd o1 b1 HW0 HPK hg1
 go_wp2_with fail
 refine Calls.mono HO1.out ?_
 rintro e w2 ⟨p, rfl, hp, dk, b2⟩
 have B2 := hid b2
 have DK := hid dk
 have hs2 := b2.size
 obtain ⟨d0, d1, d2, d3⟩ := HCell.out w2 (B1.out.trans (b2.mono hs1))
 clear HO1 dk b2 hp
 go_wp2_with fail
 refine Calls.mono (HNm.out 0 w2) ?_
 rintro e w9 ⟨rfl, hw9⟩
 rw [hw9]
 clear hw9
 go_wp2_with fail
 refine Calls.mono (HLow.out w2) ?_
 rintro e w9 ⟨y, rfl, hy, hw9, hye⟩
 clear hye
 rw [hw9]
 clear hw9
 obtain ⟨r0, hr0⟩ : ∃ r0 : Nat, r0 = y % 4096 := ⟨_, rfl⟩
 have ht1 : (y : Int).tmod 4096 = (r0 : Int) := by rw [Int.tmod_eq_emod_of_nonneg (by omega)]; omega
 have ht2 : (y : Int) % 4096 = (r0 : Int) := by omega
 have hr1 : r0 < 4096 := by omega
 have hw3 : IntKind.i64.wrap (r0 : Int) = (r0 : Int) := by rw [IntKind.wrap_i64]; omega
 have hw4 : IntKind.i64.wrap (1 + (r0 : Int)) = 1 + (r0 : Int) := by rw [IntKind.wrap_i64]; omega
 obtain ⟨room, hroom⟩ : ∃ room : Nat, room = 1 + r0 := ⟨_, rfl⟩
 have hrm : 1 + (r0 : Int) = (room : Int) := by omega
 have HNw2 := hid (CNew_ok (w := w2) p room (by omega) (by omega))
 clear hr0 hroom HLow
 go_wp2_with fail
 refine Calls.mono HNw2.out ?_
 rintro e w3 ⟨c, rfl, hc3, cs, b3⟩
 have B03 : Below w0.heap.size w0 w3 := (B1.out.trans (B2.out.mono hs1)).trans (b3.mono (by omega))
 obtain ⟨e0, e1, e2, _⟩ := HCell.out w3 B03
 have HFo := hid (HFm.out w1 w2 w3 p c room B1.out B2.out b3 DK.out cs)
 clear HNw2 cs b3 B03 HFm DK B2 B1 d0 d1 d2 d3 ht1 ht2 hr1 hw3 hw4 hrm hy hc3
 go_wp2_with fail
 refine Calls.mono (HNm.out 0 w3) ?_
 rintro e w9 ⟨rfl, hw9⟩
 rw [hw9]
 clear hw9
 go_wp2_with fail
 refine Calls.mono (HPl.out w3) ?_
 rintro e w9 ⟨rfl, hw9⟩
 rw [hw9]
 clear hw9 HPl
 go_wp2_with fail
 refine Calls.mono HFo.out ?_
 rintro e w4 ⟨rfl, bb4, hO⟩
 have HO := hid hO
 obtain ⟨m0, m1, m2, _⟩ := HCell.out w4 bb4
 clear hO HFo e0 e1 e2 bb4
 go_wp2_with fail
 refine Calls.mono (HNm.out want w4) ?_
 rintro e w9 ⟨rfl, hw9⟩
 rw [hw9]
 clear hw9
 go_wp2_with fail
 refine Calls.mono HO.out ?_
 rintro e w5 ⟨rfl, bb5⟩
 have HFin := hid (HF0.out w5 bb5)
 clear HO m0 m1 m2 bb5 HF0 HCell
 go_wp2_with fail
 refine Calls.mono (HNm.out want w5) ?_
 rintro e w9 ⟨rfl, hw9⟩
 rw [hw9]
 clear hw9
 go_wp2_with fail
 exact HFin.out
end Go.Proofs.YtldlejpacgphmaaGreat
namespace Go.Proofs.YtldlejpacgphmaaGreat
open Go.RowKit Go.Deep
theorem WD.log {W : Nat → Prop} {w : World} {wb room nb fr bl K lasted : Nat} {H : List Int} {Us : List (List Pm)} (h : WD W w wb room nb fr bl K lasted H Us) : nb ≤ 524288 ∧ 1 ≤ nb ∧ Us.length ≤ 1099511627776 ∧ ∃ g ta tc, ∀ w', Below w.heap.size w w' → w'.cell? ⟨wb, 3, none⟩ = some (.pointer (some ⟨g, 0, none⟩)) ∧ w'.cell? ⟨wb, 5, none⟩ = some (.int .i64 (lasted : Int)) ∧ w'.cell? ⟨g, 3, none⟩ = some (.slice ta Us.length tc) ∧ (Calls Tryz.prog 14 #[.pointer (some ⟨g, 0, none⟩)] w' fun e w'' => e = .returned (.int .i64 (nb : Int)) ∧ w'' = w') ∧ (∀ at_ : Int, Calls Tryz.prog 15 #[.pointer (some ⟨g, 0, none⟩), .int .i64 at_] w' fun e w'' => e = .returned (.int .i64 (homeC nb fr bl at_)) ∧ Below w'.heap.size w' w'') ∧ ∀ x, x < nb → Calls Tryz.prog 17 #[.pointer (some ⟨g, 0, none⟩), .int .i64 (x : Int), .int .i64 (Us.length : Int)] w' fun e w'' => ∃ g' cp, e = .returned (.slice (some ⟨g', 0, none⟩) 512 cp) ∧ Own w'' g' 512 cp (contT (imgB H) (plainT Us) Us.length x) ∧ Below w'.heap.size w' w'' := by
 obtain ⟨Z, p, c, j, g, tried, tl, td, hb, hc, ta, tc, vs, Ls, n1, cs, d, s, h, hOn, hW⟩ := h
 refine ⟨h.nb, h.jq.fits.2.1, (hOn.us h.lo h.fit h.nb).2, g, ta, tc, fun w' hb' => ?_⟩
 have h' := h.below hb'
 refine ⟨h'.wd.cell 3, h'.wd.cell 5, h'.lg.lg.c3, refDisk_any h'.lg.lg h.nb, fun at_ => refAt_any h'.lg.lg h.nb h.fit at_, fun x hx => ?_⟩
 refine Calls.mono (refBehind_any h'.lg h.nb x hx Us.length (Nat.le_refl _) (hOn.us h.lo h.fit h.nb).2) ?_
 rintro e w'' ⟨g', cp, rfl, _, q2, q3⟩
 exact ⟨g', cp, rfl, q2, q3⟩
end Go.Proofs.YtldlejpacgphmaaGreat
namespace Go.Proofs.YtldlejpacgphmaaGreat
open Go.RowKit Go.Deep
theorem OpenP.cutOn {Z : Nat → Prop} {w : World} {c p room nb K f b : Nat} {d : Pd} {lo : Nat} {home : Nat → List Int} {Ts : List Tn} {I : List Int} {e : Ending} {w' : World} (H : OpenP Z w c p room nb K ⟨I, [], -1, false⟩ (f : Int) (b : Int) e w') (h : Cut d nb f b lo home Ts) (hlo : 16 ≤ b) (hfit : f + b ≤ nb) (hnb : nb ≤ 524288) (hI : ∀ x, x < nb → d.poss x (imgB I x)) (hf : (⟨I, [], -1, false⟩ : Pd).Fits nb) :
  But Z w w' ∧ ∃ j s n Z' d', e = .returned (.tuple #[.pointer (some ⟨j, 0, none⟩), .int .i64 0]) ∧ lo ≤ n ∧ n ≤ Ts.length ∧ Gr Z Z' w ∧ d'.fu = -1 ∧ Jq Z' w' j c p room nb K f b d' s ∧ On d' s nb f b n home (Ts.take n) := by
 obtain ⟨l, q, h1, h2, n, h3, h4, h5, h6⟩ := h.open hlo hfit hnb hI hf
 obtain ⟨b1, jv, code, rfl, k⟩ := H
 have hlc : layC ⟨I, [], -1, false⟩ nb (f : Int) (b : Int) = 0 := by
  unfold layC
  rw [if_neg (by simp)]
  exact placeC_ok hlo hfit hnb
 refine ⟨b1, ?_⟩
 rcases k with ⟨k1, _⟩ | ⟨_, f', b', ef, eb, _, _, k⟩
 ·exact absurd hlc k1
 ·have ef' : f' = f := by omega
  have eb' : b' = b := by omega
  subst ef' eb'
  rcases k with ⟨_, _, k | ⟨l', q', k1, k2⟩, _⟩ | ⟨l', q', k1, k2, k3, Z', k4, k5⟩
  ·rw [h1] at k; cases k
  ·rw [h1] at k1
   cases k1
   exact absurd h2 k2
  ·rw [h1] at k1
   cases k1
   obtain ⟨f1, _, f3⟩ := Pd.runs_free (d := ⟨I, [], -1, false⟩) rfl rfl (settleCmds nb f' b' (openS nb f' b' ⟨I, [], -1, false⟩ l q))
   rcases k5 with ⟨k6, _, _⟩ | ⟨k6, j, k7, k8, k9⟩
   ·exact absurd (k3.trans f1) k6
   ·subst k6 k7
    exact ⟨j, _, n, Z', _, rfl, h3, h4, k4, f3, k9, h5 f1⟩
end Go.Proofs.YtldlejpacgphmaaGreat
