import Derived.Test.YtldlejpacgphmaaGreatG47
namespace Go.Proofs.YtldlejpacgphmaaGreat
open Go.RowKit
/-- what Open answers -/
def openBad (n : Nat) : Prop := n = 0 ∨ n % 512 ≠ 0 ∨ 268435456 < n
theorem Open_bad (a : Option Addr) (n c : Nat) (w : World) (hn : openBad n) : Calls Tryz.prog 21 #[.slice a n c] w fun e w' => e = .returned (.tuple #[.pointer none, .int .i64 21]) ∧ w' = w := by
  have e0 : ((n : Int)).tmod 512 = ((n % 512 : Nat) : Int) := by rw [Int.tmod_eq_emod_of_nonneg (by omega)]; omega
  unfold openBad at hn
  go_enter Tryz.func21, Tryz.ntmps21
  by_cases h0 : n = 0
  · subst h0
    go_wp2
    go_ret2
    exact ⟨rfl, rfl⟩
  · have h0' : ¬ (n : Int) = 0 := by omega
    by_cases h1 : n % 512 = 0
    · have h2 : (268435456 : Int) < (n : Int) := by omega
      rw [h1] at e0
      go_wp2
      go_ret2
      exact ⟨rfl, rfl⟩
    · generalize n % 512 = r at *
      have h1' : ¬ (r : Int) = 0 := by omega
      go_wp2
      go_ret2
      exact ⟨rfl, rfl⟩

/-- a write with any arguments, the power on for good -/
theorem Cq.writeAny {Z : Nat → Prop} {w : World} {c p room nb K : Nat} {d : Pd} (h : Cq Z w c p room nb K d) (hl : d.puts.length ≤ 1073741823) (hon : d.off = false) (hfu : d.fu = -1) (x : Int) (ad : Option Addr) (n cp : Nat) (zs : List Int) (hR : RdN Z w ad n zs) :
    Calls Tryz.prog 25 #[.pointer (some ⟨c, 0, none⟩), .int .i64 x, .slice ad n cp] w fun e w' => ∃ code d', e = .returned (.int .i64 code) ∧ d'.off = false ∧ d'.fu = -1 ∧ d'.puts.length ≤ d.puts.length + 1 ∧ (∃ Z', Cq Z' w' c p room nb K d' ∧ Gr Z Z' w) ∧ But Z w w' := by
  by_cases hz : (0 ≤ x ∧ x < nb) ∧ n = 512
  · obtain ⟨⟨h0, h1⟩, rfl⟩ := hz
    obtain ⟨y, rfl⟩ : ∃ y : Nat, x = (y : Int) := ⟨x.toNat, by omega⟩
    refine Calls.mono (h.write hl y (by omega) ad cp zs hR) ?_
    rintro e w' ⟨rfl, hq, hb⟩
    have e1 : d.write y zs = (0, ⟨d.img, d.puts ++ [(y, zs)], burnF d.fu, false⟩) := by unfold Pd.write; rw [if_pos ⟨hon, by rw [hfu]; decide⟩]
    rw [e1] at hq ⊢
    exact ⟨_, _, rfl, rfl, by rw [hfu]; rfl, by simp, hq, hb⟩
  · obtain ⟨X, Y, hi, mi, l, h1, h2, h3, h4, h5, h6, h7⟩ := h
    have hR' : RdN X w ad n zs := hR.mono (fun k _ q => h2 k q)
    have e1 : writeC d.off d.fu nb x n ≠ 0 := by
      unfold writeC
      rw [hon, if_neg (by simp)]
      split
      · decide
      · split
        · decide
        · omega
    have e2 : writeF d.off d.fu nb x n = d.fu := by unfold writeF; rw [if_neg (by rintro ⟨_, q1, q2⟩; omega)]
    have e3 : writeO d.off d.fu nb x n = d.off := by unfold writeO; rw [if_neg (by rintro ⟨_, q1, q2⟩; omega)]
    have H := CWrite_bad h1 hl x ad n cp zs hR' e1
    rw [e2, e3] at H
    refine Calls.mono H ?_
    rintro e w' ⟨rfl, ⟨X', Y', q1, q2⟩, b⟩
    exact ⟨_, d, rfl, hon, hfu, by omega, Cq.mk' (d := d) q1 q2 h2 h3 h5 h6 h7, b.mono (fun k _ q => q.elim (h2 k) (h3 k))⟩

/-- what Open leaves, the power on for good -/
def OpenFree (Z : Nat → Prop) (w : World) (c p room nb K M : Nat) (fr bl : Int) (e : Ending) (w' : World) : Prop :=
  ∃ jv code d', e = .returned (.tuple #[.pointer jv, .int .i64 code]) ∧ (jv = none ↔ code ≠ 0) ∧ (placeC nb fr bl ≠ 0 → code = placeC nb fr bl) ∧ d'.off = false ∧ d'.fu = -1 ∧ d'.puts.length ≤ M ∧ (∃ Z', Cq Z' w' c p room nb K d' ∧ Gr Z Z' w) ∧ But Z w w'
theorem Open_q {Z : Nat → Prop} {w : World} {c p room nb K : Nat} {d : Pd} (h : Cq Z w c p room nb K d) (fr bl : Int) (hl : d.puts.length + nb + nb + 8 ≤ 1073741823) (hon : d.off = false) (hfu : d.fu = -1) :
    Calls Tryz.prog 27 #[.pointer (some ⟨c, 0, none⟩), .int .i64 fr, .int .i64 bl] w (OpenFree Z w c p room nb K (d.puts.length + nb + nb + 8) fr bl) := by
  have hlc : layC d nb fr bl = placeC nb fr bl := by unfold layC; rw [hon, if_neg (by decide)]
  refine Calls.mono (Open_any h fr bl hl) ?_
  rintro e w' ⟨b1, jv, code, rfl, k⟩
  rw [hlc] at k
  rcases k with ⟨k1, k2, k3, k4⟩ | ⟨k1, f, b, ef, eb, hb1, hb2, k⟩
  · exact ⟨jv, code, d, rfl, ⟨fun _ => by rw [k2]; exact k1, fun _ => k3⟩, fun _ => k2, hon, hfu, by omega, k4, b1⟩
  · rcases k with ⟨k2, k3, _, k4⟩ | ⟨l, q, k2, k3, k4, Z', k5, k6⟩
    · exact ⟨jv, code, d, rfl, ⟨fun _ => by rw [k2]; decide, fun _ => k3⟩, fun q => absurd k1 q, hon, hfu, by omega, k4, b1⟩
    · obtain ⟨f1, f2, f3⟩ := Pd.runs_free hon hfu (settleCmds nb f b (openS nb f b d l q))
      have hp := d.runs_puts (settleCmds nb f b (openS nb f b d l q))
      have hs := length_settleCmds nb f b (openS nb f b d l q)
      rcases k6 with ⟨k7, _⟩ | ⟨k7, j, k8, _, k9⟩
      · exact absurd (k4.trans f1) k7
      · exact ⟨jv, code, _, rfl, ⟨fun q => (by rw [k8] at q; cases q), fun q => absurd k7 q⟩, fun q => absurd k1 q, f2, f3, by omega, ⟨Z', k9.toCq, k5⟩, b1⟩

/-- blocks, one behind the other -/
def catZ (f : Nat → List Int) : Nat → List Int
  | 0 => []
  | i + 1 => catZ f i ++ f i
theorem length_catZ {f : Nat → List Int} : ∀ {i : Nat}, (∀ x, x < i → (f x).length = 512) → (catZ f i).length = 512 * i
  | 0, _ => rfl
  | i + 1, h => by
    rw [catZ, List.length_append, length_catZ (fun x hx => h x (by omega)), h i (by omega)]
    omega
theorem isB_catZ {f : Nat → List Int} : ∀ {i : Nat}, (∀ x, x < i → Pl.isB (f x)) → Pl.isB (catZ f i)
  | 0, _ => Pl.isB_nil
  | i + 1, h => by
    intro z hz
    rw [catZ] at hz
    rcases List.mem_append.1 hz with hz | hz
    · exact isB_catZ (fun x hx => h x (by omega)) z hz
    · exact h i (by omega) z hz
theorem imgB_catZ {f : Nat → List Int} : ∀ {i : Nat}, (∀ x, x < i → (f x).length = 512) → ∀ x, x < i → imgB (catZ f i) x = f x
  | 0, _, x, hx => absurd hx (Nat.not_lt_zero _)
  | i + 1, h, x, hx => by
    have hl := length_catZ (f := f) (i := i) (fun x hx => h x (by omega))
    unfold imgB
    rw [catZ]
    by_cases hxi : x < i
    · have ih := imgB_catZ (fun x hx => h x (by omega)) x hxi
      unfold imgB at ih
      rw [List.drop_append_of_le_length (by omega), List.take_append_of_le_length (by rw [List.length_drop]; omega)]
      exact ih
    · have hxe : x = i := by omega
      subst hxe
      rw [← hl, List.drop_left, List.take_of_length_le (by rw [h x (by omega)]; omega)]
theorem read_cat {d : Pd} {nb : Nat} (hf : d.Fits nb) (hr : ∀ x, x < nb → (d.read x).length = 512) : d.read = imgB (catZ d.read nb) := by
  funext x
  by_cases hx : x < nb
  · exact (imgB_catZ hr x hx).symm
  · have e1 : imgB (catZ d.read nb) x = [] := by
      unfold imgB
      rw [List.drop_of_length_le (by rw [length_catZ hr]; omega), List.take_nil]
    rw [e1]
    rcases seen_poss d.img d.puts x with q | q
    · show seenZ d.img d.puts x = []
      rw [q]
      unfold imgB
      rw [List.drop_of_length_le (by rw [hf.1]; omega), List.take_nil]
    · exact absurd (hf.2.2 _ q).1 hx

theorem Wb.set2 {w : World} {wb p c : Nat} {jv : Value} {g : Nat} {rm lasted : Int} {off trying : Bool} {tried tl td : Value} (h : Wb w wb p c jv g rm lasted off trying tried tl td) (jv' : Value) : Wb (w.setCell ⟨wb, 2, none⟩ jv') wb p c jv' g rm lasted off trying tried tl td := by
  refine ⟨?_⟩
  have h1 := h.blk
  simp only [World.setCell, Array.getElem?_modify]
  rw [h1]
  simp
/-- bytes that are read behind bytes of one's own: where they lie -/
theorem grow_at {w : World} {B n : Nat} {a : Option Addr} {c : Nat} {zs : List Int} (ho : w.ownsRow B 5 1 (.slice a n c) n (zs.map (Value.int .u8))) {b off m cp : Nat} {body : List Int} (hl : body.length = m) (hc : ∀ t, t < m → w.cell? ⟨b, off + t, none⟩ = some (.int .u8 (body.getD t 0))) (hm : m ≤ 1048576) (hn : n ≤ 1073741823) (hw : B ≤ w.heap.size) :
    ∃ a' c' w', (Builtin.append_ #[22, 22] 22 #[.slice a n c, .slice (some ⟨b, off, none⟩) m cp]).run Tryz.prog w = .ok (.slice a' (n + m) c') w' ∧ w'.ownsRow B 5 1 (.slice a' (n + m) c') (n + m) ((zs ++ body).map (Value.int .u8)) ∧ But (fun k => (Value.slice a n c).ownBlock = some k) w w' ∧ ((Value.slice a' (n + m) c').ownBlock = (Value.slice a n c).ownBlock ∨ (Value.slice a' (n + m) c').ownBlock = some w.heap.size) := by
  obtain ⟨i0, hi, hz0, hz1, hz2⟩ := info_parts info5
  obtain ⟨v', w', hr, h2, h3, _, h5⟩ := run_append_own_at (P := Tryz.prog) w B 22 22 5 i0 (.int .u8 0) 1 1 Tryz.underlying22 hi hz0 hz1 hz2 rfl (by decide) (.slice a n c) n (zs.map (Value.int .u8)) ho ⟨b, off, none⟩ m cp (body.map (Value.int .u8)) (by simp [hl]) (fun j u hu => by
      rw [Addr.add_lit]
      have hj : j < body.length := by have := (List.getElem?_eq_some_iff.1 hu).1; simpa using this
      rw [hc j (by omega)]
      simp [hj] at hu
      rw [← hu]
      simp [hj]) (fun u hu => by obtain ⟨z, _, rfl⟩ := List.mem_map.1 hu; rfl) (by unfold maxLen; omega) (by omega) hw
  obtain ⟨a', c', rfl, _⟩ := owns_slice h2
  exact ⟨a', c', w', hr, by rw [List.map_append]; exact h2, (But.refl _ w).of_grown h3 (fun x e hx => e), h5⟩
/-- bytes of one's own that are some -/
theorem own_some {w : World} {B n : Nat} {a : Option Addr} {c : Nat} {zs : List Int} (ho : w.ownsRow B 5 1 (.slice a n c) n (zs.map (Value.int .u8))) (hn : 0 < n) : ∃ g, a = some ⟨g, 0, none⟩ ∧ Own w g n c zs := by
  rcases ho.2 with ⟨_, h2⟩ | ⟨g, cap, cur, h1, _⟩
  · omega
  · simp at h1
    obtain ⟨rfl, rfl⟩ := h1
    exact ⟨g, rfl, Own.of ho⟩

end Go.Proofs.YtldlejpacgphmaaGreat
namespace Go.Proofs.YtldlejpacgphmaaGreat
open Go.RowKit

/-- the document's log and the world, laid -/
def logW (w : World) (nb fr bl hb hc : Nat) : World := w.alloc (.cells #[.slice (some ⟨hb, 0, none⟩) (512 * nb) hc, .int .i64 (fr : Int), .int .i64 (bl : Int), .slice none 0 0] 48)
def wldW (w : World) (g p c room : Nat) : World := w.alloc (.cells #[.pointer (some ⟨p, 0, none⟩), .pointer (some ⟨c, 0, none⟩), .pointer none, .pointer (some ⟨g, 0, none⟩), .int .i64 (room : Int), .int .i64 0, .bool false, .bool false, .slice none 0 0, .slice none 0 0, .slice none 0 0] 45)
/-- behind Format: Open, opened, the world as it is gone on with -/
def TailP (B : Nat) (w7 : World) (c p room nb fr bl K hb hc : Nat) (Hm : List Int) : Prop :=
  Calls Tryz.prog 27 #[.pointer (some ⟨c, 0, none⟩), .int .i64 (fr : Int), .int .i64 (bl : Int)] (wldW (logW w7 nb fr bl hb hc) w7.heap.size p c room) fun e w10 => ∃ j, e = .returned (.tuple #[.pointer (some ⟨j, 0, none⟩), .int .i64 0]) ∧ Below B w7 w10 ∧
    Calls Tryz.prog 30 #[.pointer (some ⟨w7.heap.size + 1, 0, none⟩), .pointer (some ⟨j, 0, none⟩)] w10 fun e w11 => ∃ g', e = .returned (.tuple #[.pointer (some ⟨g', 0, none⟩), .bool true]) ∧ Below B w7 w11 ∧ w11.cell? ⟨w7.heap.size + 1, 2, none⟩ = some (.pointer none) ∧ w11.frozen? ⟨w7.heap.size + 1, 2, none⟩ = false ∧ w7.heap.size + 1 < w11.heap.size ∧
      ∃ W, WD W (w11.setCell ⟨w7.heap.size + 1, 2, none⟩ (.pointer (some ⟨j, 0, none⟩))) (w7.heap.size + 1) room nb fr bl (K + nb) 0 Hm [] ∧ ∀ k, W k → B ≤ k
theorem but_low {B : Nat} {w w' : World} (h : Below B w w') : But (fun k => B ≤ k) w w' := ⟨h.os, h.tape, h.output, h.size, fun k _ q => h.block k (by omega)⟩
theorem tail_places {Z7 : Nat → Prop} {B : Nat} {w7 : World} {c p room nb fr bl K hb hc : Nat} {Hm : List Int} {d7 : Pd} {s7 : Js} (hq7 : Cq Z7 w7 c p room nb K d7) (hZ : ∀ k, Z7 k → B ≤ k ∧ k < w7.heap.size) (hBw : B ≤ w7.heap.size) (hon : On d7 s7 nb fr bl 0 (imgB Hm) []) (hfu : d7.fu = -1) (hown : Own w7 hb (512 * nb) hc Hm) (hisb : Pl.isB Hm) (nZ : ¬ Z7 hb) (r1 : 1 ≤ room) (r2 : room ≤ 4096) (hlo : 16 ≤ bl) (hfit : fr + bl ≤ nb) (hK : K + nb < 4611686018427387904) :
    TailP B w7 c p room nb fr bl K hb hc Hm := by
  unfold TailP
  have hnb := hq7.fits.2.2
  obtain ⟨w8, hw8⟩ : ∃ w8, w8 = logW w7 nb fr bl hb hc := ⟨_, rfl⟩
  obtain ⟨g, hg⟩ : ∃ g, g = w7.heap.size := ⟨_, rfl⟩
  obtain ⟨wb, hwb⟩ : ∃ wb, wb = w7.heap.size + 1 := ⟨_, rfl⟩
  have b8 : Below w7.heap.size w7 w8 := by rw [hw8]; exact (Below.refl _ _).alloc (Nat.le_refl _) _
  have z8 : w8.heap.size = w7.heap.size + 1 := by rw [hw8]; simp [logW]
  have hlg8 : Lg w8 g (some ⟨hb, 0, none⟩) nb hc fr bl none 0 0 := ⟨by rw [hw8, hg]; exact Array.getElem?_push_size⟩
  rw [← hw8, ← hwb, ← hg]
  obtain ⟨w9, hw9⟩ : ∃ w9, w9 = wldW w8 g p c room := ⟨_, rfl⟩
  have b9 : Below w8.heap.size w8 w9 := by rw [hw9]; exact (Below.refl _ _).alloc (Nat.le_refl _) _
  have z9 : w9.heap.size = w7.heap.size + 2 := by rw [hw9]; simp [wldW, z8]
  have hwb9 : Wb w9 wb p c (.pointer none) g (room : Int) ((0 : Nat) : Int) false false (.slice none 0 0) (.slice none 0 0) (.slice none 0 0) := ⟨by rw [hw9, hwb, ← z8]; exact Array.getElem?_push_size⟩
  rw [← hw9]
  have B79 : Below w7.heap.size w7 w9 := b8.trans (b9.mono b8.size)
  have hlb := hown.lt
  have hTB : ∀ k, ¬ TB (.slice none 0 0) (.slice none 0 0) [] k := fun k q => by
    rcases q with q | q | ⟨l, hl, _⟩
    · cases q
    · cases q
    · cases hl
  have hL9 : LgW (fun k => Z7 k ∨ k = wb ∨ TB (.slice none 0 0) (.slice none 0 0) [] k) w9 g hb hc nb fr bl Hm none 0 [] [] := by
    refine ⟨hlg8.keep (b9.block _ (by omega)), by omega, fun q => ?_, hown.keep (B79.block hb hlb), hisb, ⟨fun q => ?_, by omega, by intro q; cases q⟩, World.ownsRow_nil _ _ _ _, (fun k e => by cases e), fun i ps hi => by simp at hi⟩
    · rcases q with q | q | q
      · have := (hZ _ q).2; omega
      · omega
      · exact hTB _ q
    · rcases q with q | q | q
      · exact nZ q
      · omega
      · exact hTB _ q
  have hq9 := hq7.below B79
  have hpl := hon.puts hlo hfit hnb
  refine Calls.mono (Open_any hq9 (fr : Int) (bl : Int) (by omega)) ?_
  intro e w10 hO
  obtain ⟨b10, j, Z10, d10, s10, rfl, hj, g10, fu10, J10, on10⟩ := OpenP.anew hO hon hfu hq9.fits.1 hlo hfit hnb
  have hs10 := b10.size
  have BB10 : Below B w7 w10 := ((But.of_below B79 (X := fun k => B ≤ k)).comp b10 (fun k _ q => (hZ k q).1)).below hBw (fun k hk q => by omega)
  refine ⟨j, rfl, BB10, ?_⟩
  have nwb7 : ¬ Z7 wb := fun q => by have := (hZ _ q).2; omega
  have nwb10 : ¬ (Z10 wb ∧ wb < w10.heap.size) := fun q => nwb7 (g10 wb (by omega) q.1)
  have hW10 := hwb9.keep (b10.block wb (by omega) nwb7)
  have hL10 := hL9.but b10 (fun k _ q => .inl q) (fun k => (Z10 k ∧ k < w10.heap.size) ∨ k = wb ∨ TB (.slice none 0 0) (.slice none 0 0) [] k) (fun k hk q => q.elim (fun q => .inl (g10 k hk q.1)) .inr)
  have on10' : On d10 s10 nb fr bl 0 (imgB Hm) (plainT (([] : List (List Pm)).take 0)) := on10
  refine Calls.mono (opened_any hW10 hL10 J10.cut on10' (Nat.le_refl _) (Int.le_refl _) (fun k _ q => .inl q) hlo hfit (by simp) hK) ?_
  rintro e w11 ⟨g', ta', tc', vs', Z11, rfl, hg', _, J11, z11, g11, b11⟩
  have hs11 := b11.size
  have BB11 : Below B w7 w11 := ((but_low BB10).comp b11 (fun k _ q => by
    rcases Nat.lt_or_ge k w9.heap.size with hk | hk
    · exact (hZ k (g10 k hk q.1)).1
    · omega)).below hBw (fun k hk q => by omega)
  have hW11 := hW10.keep (b11.block wb (by omega) nwb10)
  have nwb11 : ¬ Z11 wb := fun q => nwb10 (g11 wb (by omega) q)
  refine ⟨g', rfl, BB11, hW11.cell 2, hW11.frozen 2, by omega, ?_⟩
  have hL11 := hL10.but b11 (fun k _ q => .inl q) (fun k => Z11 k ∨ k = wb ∨ TB (.slice none 0 0) (.slice none 0 0) [] k) (fun k hk q => q.elim (fun q => .inl (g11 k hk q)) .inr)
  obtain ⟨w12, hw12⟩ : ∃ w12, w12 = w11.setCell ⟨wb, 2, none⟩ (.pointer (some ⟨j, 0, none⟩)) := ⟨_, rfl⟩
  have hW12 : Wb w12 wb p c (.pointer (some ⟨j, 0, none⟩)) g (room : Int) ((0 : Nat) : Int) false false (.slice none 0 0) (.slice none 0 0) (.slice none 0 0) := by rw [hw12]; exact hW11.set2 _
  have b12 : But (fun k => k = wb) w11 w12 := by rw [hw12]; exact (But.refl (fun k => k = wb) w11).setCell rfl _
  rw [← hw12]
  have hL12 := hL11.but b12 (fun k _ q => .inr (.inl q)) (fun k => Z11 k ∨ k = wb ∨ TB (.slice none 0 0) (.slice none 0 0) [] k) (fun k _ q => q)
  have J12 : Jq Z11 w12 j c p room nb (K + nb) fr bl d10 s10 := J11.keep (fun x h1 h2 => b12.block x h2 (fun e => nwb11 (e ▸ h1))) b12.size
  have hs12 := b12.size
  have htr : Tr w12 (.slice none 0 0) [] [] := ⟨World.ownsRow_nil _ _ _ _, fun i l hi => by simp at hi, fun i l hi => by simp at hi, fun i j a b hi => by simp at hi, fun i l hi => by simp at hi, fun k e => by cases e⟩
  refine ⟨_, ⟨_, p, c, j, g, _, _, _, hb, hc, none, 0, [], [], 0, [], d10, s10, ⟨hW12, hL12, J12, fu10, htr, World.ownsRow_nil _ _ _ _, by omega, by simp, nwb11, fun k q => absurd q (hTB k), hTB _, (fun k e => by cases e), fun k q => Nat.lt_of_lt_of_le (z11 k q) hs12, hlo, hfit, r1, r2⟩, on10, rfl⟩, fun k q => ?_⟩
  rcases q with (q | q | q) | q | q
  · rcases Nat.lt_or_ge k w10.heap.size with hk | hk
    · have q2 := g11 k hk q
      rcases Nat.lt_or_ge k w9.heap.size with hk' | hk'
      · exact (hZ k (g10 k hk' q2.1)).1
      · omega
    · omega
  · omega
  · exact absurd q (hTB k)
  · omega
  · cases q
/-- FORMAT over any disk that is read block by block -/
theorem Format_places {Z : Nat → Prop} {B : Nat} {w : World} {c p room nb K : Nat} {d : Pd} {hb hc : Nat} (hq : Cq Z w c p room nb K d) (hpl : d.puts.length + nb + nb + 8 ≤ 1073741823) (hon : d.off = false) (hfu : d.fu = -1) (hZ : ∀ k, Z k → B ≤ k ∧ k < w.heap.size) (hBw : B ≤ w.heap.size) (hown : Own w hb (512 * nb) hc (catZ d.read nb)) (nZ : ¬ Z hb) (r1 : 1 ≤ room) (r2 : room ≤ 4096) (hK : K + nb < 4611686018427387904) (fr bl : Int) :
    Calls Tryz.prog 29 #[.pointer (some ⟨c, 0, none⟩), .int .i64 fr, .int .i64 bl] w fun e w' => e = .returned (.int .i64 (placeC nb fr bl)) ∧ Below B w w' ∧ (placeC nb fr bl = 0 → ∃ f b : Nat, fr = f ∧ bl = b ∧ TailP B w' c p room nb f b K hb hc (catZ d.read nb)) := by
  have hft := hq.fits
  have hrl : ∀ x, x < nb → (d.read x).length = 512 ∧ Pl.isB (d.read x) := fun x hx => Pd.read_len hq x hx
  have hlc : layC d nb fr bl = placeC nb fr bl := by unfold layC; rw [hon, if_neg (by decide)]
  refine Calls.mono (Format_any hq fr bl hpl) ?_
  rintro e w7 ⟨code, d', rfl, ⟨Z', q1, q2⟩, b7, hcase⟩
  have BB : Below B w w7 := (But.mono b7 (Y := fun k => B ≤ k) (fun k _ q => (hZ k q).1)).below (by omega) (fun k hk q => by omega)
  rw [hlc] at hcase
  rcases hcase with ⟨k1, k2, rfl⟩ | ⟨k1, f, b, rfl, rfl, hlo, hfit, hrun⟩
  · exact ⟨by rw [k2], BB, fun q => absurd q k1⟩
  · obtain ⟨f1, _, f3⟩ := Pd.runs_free hon hfu (formatCmds f b)
    have hn := format_on hlo hfit hft.1 hon f1
    rw [hrun] at f1 f3 hn
    simp only at f1 f3 hn
    subst f1
    rw [k1]
    refine ⟨rfl, BB, fun _ => ⟨f, b, rfl, rfl, ?_⟩⟩
    rw [read_cat hft.1 (fun x hx => (hrl x hx).1)] at hn
    have hs7 := b7.size
    refine tail_places (Z7 := fun k => Z' k ∧ k < w7.heap.size) q1.cut (fun k q => ⟨?_, q.2⟩) (by omega) hn f3 (hown.keep (b7.block hb hown.lt nZ)) (isB_catZ (fun x hx => (hrl x hx).2)) (fun q => nZ (q2 hb hown.lt q.1)) r1 r2 hlo hfit hK
    rcases Nat.lt_or_ge k w.heap.size with hk | hk
    · exact (hZ k (q2 k hk q.1)).1
    · omega

end Go.Proofs.YtldlejpacgphmaaGreat
