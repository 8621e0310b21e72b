/-
  stream: contentOf.
-/
import Derived.Test.YtahaehjmnafhbaaCt1
namespace Go.Proofs.Ytahaehjmnafhbaa
open Go.RowKit

theorem txG_bd {s : St} (hB : Pl.isB s.1) : (txG pt s).2.1.length ≤ s.1.length ∧ Pl.isB (txG pt s).2.1 ∧ Pl.isB (txG pt s).1 ∧ (txG pt s).1.length ≤ s.1.length := by
  have a := nbG_bd (m := 1) hB (by decide)
  have b := isB_pt a.2.2.2 (nbG pt s 1).1
  have c := (pt_len (s := (nbG pt s 1).2) (m := (nbG pt s 1).1)).2
  have d : (pt (nbG pt s 1).2 (nbG pt s 1).1).1.length ≤ (nbG pt s 1).2.1.length := by
    unfold pt
    split
    · simp
    · simp
      omega
  have e : txG pt s = pt (nbG pt s 1).2 (nbG pt s 1).1 := rfl
  rw [e]
  exact ⟨by omega, b.2, b.1, by omega⟩

set_option maxRecDepth 100000 in
set_option maxHeartbeats 2000000 in
theorem content_any {w : World} {a : Option Addr} {n c : Nat} {zs : List Int} (hv : RdC w.heap.size w (.slice a n c) zs) (hz : zs.length ≤ 16777216) : Calls Try.prog 18 #[.slice a n c] w (ConP zs w) := by
  have hB : Pl.isB ((zs, false) : St).1 := hv.1
  obtain ⟨s, hs⟩ : ∃ s : St, s = (zs, false) := ⟨_, rfl⟩
  rw [← hs] at hB
  have hs1 : s.1.length = zs.length := by rw [hs]
  have d1 := txG_bd hB
  have d2 := nbG_bd (m := 4) (s := h1 pt s) d1.2.1 (by decide)
  have d3 := txG_bd (s := h2 pt s) d2.2.2.2
  have d4 := nbG_bd (m := 4) (s := h3 pt s) d3.2.1 (by decide)
  have d5 := nbG_bd (m := 4) (s := h4 pt s) d4.2.2.2 (by decide)
  have k1 : (h1 pt s).1.length ≤ 16777216 := by have := d1.1; show (txG pt s).2.1.length ≤ _; omega
  have k2 : (h2 pt s).1.length ≤ 16777216 := by have := d2.2.2.1; show (nbG pt (h1 pt s) 4).2.1.length ≤ _; omega
  have k3 : (h3 pt s).1.length ≤ 16777216 := by have := d3.1; show (txG pt (h2 pt s)).2.1.length ≤ _; omega
  have k4 : (h4 pt s).1.length ≤ 16777216 := by have := d4.2.2.1; show (nbG pt (h3 pt s) 4).2.1.length ≤ _; omega
  have k5 : (hdS pt s).1.length ≤ 16777216 := by have := d5.2.2.1; show (nbG pt (h4 pt s) 4).2.1.length ≤ _; omega
  have ksz : 0 ≤ (hdG pt s).sum ∧ (hdG pt s).sum < 4294967296 := ⟨d4.1, d4.2.1⟩
  have kct : 0 ≤ (hdG pt s).count ∧ (hdG pt s).count < 4294967296 := ⟨d5.1, d5.2.1⟩
  have kcn : (((hdG pt s).count.toNat : Nat) : Int) = (hdG pt s).count := by omega
  have hcon : conP zs = if (hdS pt s).2 || !hmy (hdG pt s) then none
      else (runsP (hdG pt s).size (!decide ((hdG pt s).since = [])) (hdG pt s).count.toNat 0 0 (hdS pt s)).bind fun b => if b.2.1 = [] then some (hdG pt s, b.1) else none := by rw [hs]; rfl
  refine content_walk a n c (strOfNums (hdG pt s).name) (strOfNums (hdG pt s).since) (hdG pt s).size (hdG pt s).sum (hdG pt s).count.toNat w.heap.size (hdS pt s).2 (hmy (hdG pt s)) w (ConP zs w) (by rw [IntKind.wrap_u32]; omega) (by omega) ?_
  obtain ⟨wA, hwA⟩ : ∃ wA, wA = w.alloc (.cells #[.string ⟨#[]⟩, .int .i64 0, .string ⟨#[]⟩, .int .u32 0, .slice none 0 0] 39) := ⟨_, rfl⟩
  obtain ⟨wB, hwB⟩ : ∃ wB, wB = wA.alloc (.cells #[.slice a n c, .bool false] 73) := ⟨_, rfl⟩
  have bA : Below w.heap.size w wA := by rw [hwA]; exact (Below.refl _ _).alloc (Nat.le_refl _) _
  have zA : wA.heap.size = w.heap.size + 1 := by rw [hwA]; simp
  have bB : Below wA.heap.size wA wB := by rw [hwB]; exact (Below.refl _ _).alloc (Nat.le_refl _) _
  have zB : wB.heap.size = w.heap.size + 2 := by rw [hwB]; simp [zA]
  have hAB : Below w.heap.size w wB := bA.trans (bB.mono (by omega))
  have hz0 : wB.heap[w.heap.size]? = some (.cells #[.string ⟨#[]⟩, .int .i64 0, .string ⟨#[]⟩, .int .u32 0, .slice none 0 0] 39 (0, 0)) := by
    rw [bB.block w.heap.size (by omega), hwA]
    exact Array.getElem?_push_size
  have hT : TkS 73 wB (w.heap.size + 1) s := by
    refine ⟨.slice a n c, ?_, ?_⟩
    · unfold Tkr
      rw [hwB, ← zA, hs]
      exact Array.getElem?_push_size
    · rw [hs]
      exact (hv.but (But.of_below (X := fun _ => False) hAB) (Nat.le_refl _) (fun _ _ q => q)).mono (by omega)
  refine ⟨wA, wB, w.heap.size + 1, w.heap.size, hwA, hwB, rfl, rfl, Calls.mono (text_any (by omega) hT) ?_⟩
  rintro e w1 ⟨rfl, T1, b1⟩
  have T1 : TkS 73 w1 (w.heap.size + 1) (h1 pt s) := T1
  refine ⟨rfl, Calls.mono (number_any 4 (.inr rfl) k1 T1) ?_⟩
  rintro e w2 ⟨rfl, T2, b2⟩
  have T2 : TkS 73 w2 (w.heap.size + 1) (h2 pt s) := T2
  refine ⟨rfl, Calls.mono (text_any k2 T2) ?_⟩
  rintro e w3 ⟨rfl, T3, b3⟩
  have T3 : TkS 73 w3 (w.heap.size + 1) (h3 pt s) := T3
  refine ⟨rfl, Calls.mono (number_any 4 (.inr rfl) k3 T3) ?_⟩
  rintro e w4 ⟨rfl, T4, b4⟩
  have T4 : TkS 73 w4 (w.heap.size + 1) (h4 pt s) := T4
  have bB4 : But (fun x => x = w.heap.size + 1) wB w4 := ((b1.trans b2).trans b3).trans b4
  have z4 := bB4.size
  obtain ⟨w5, hw5⟩ : ∃ w5, w5 = w4.alloc (.cells #[.string (strOfNums (hdG pt s).name), .int .i64 (hdG pt s).size, .string (strOfNums (hdG pt s).since), .int .u32 (hdG pt s).sum, .slice none 0 0] 39) := ⟨_, rfl⟩
  have b5 : Below w4.heap.size w4 w5 := by rw [hw5]; exact (Below.refl _ _).alloc (Nat.le_refl _) _
  have z5 : w5.heap.size = w4.heap.size + 1 := by rw [hw5]; simp
  have T5 : TkS 73 w5 (w.heap.size + 1) (h4 pt s) := T4.but (But.of_below (X := fun _ => False) b5) (fun _ _ q => q)
  have C5 : Cnb w5 w4.heap.size (strOfNums (hdG pt s).name) (strOfNums (hdG pt s).since) (hdG pt s).size (hdG pt s).sum (.slice none 0 0) := by
    unfold Cnb
    rw [hw5]
    exact Array.getElem?_push_size
  refine ⟨rfl, w5, w4.heap.size, hw5, rfl, Calls.mono (number_any 4 (.inr rfl) k4 T5) ?_⟩
  rintro e w6 ⟨rfl, T6, b6⟩
  have T6 : TkS 73 w6 (w.heap.size + 1) (hdS pt s) := T6
  have bB6 : But (fun x => x = w.heap.size + 1) wB w6 := (bB4.trans (But.of_below b5)).trans b6
  have hB6 : Below w.heap.size w w6 := hAB.trans (bB6.below (by omega) (fun x hx => by omega))
  have C6 : Cnb w6 w4.heap.size (strOfNums (hdG pt s).name) (strOfNums (hdG pt s).since) (hdG pt s).size (hdG pt s).sum (.slice none 0 0) := C5.keep (b6.block _ (by omega) (by omega))
  have hz6 := (bB6.block w.heap.size (by omega) (by omega)).trans hz0
  have FAIL : conP zs = none → ∀ u, Below w.heap.size w u → ConP zs w (.returned (.tuple #[.agg #[.string ⟨#[]⟩, .int .i64 0, .string ⟨#[]⟩, .int .u32 0, .slice none 0 0], .bool false])) u := fun q u hu => ⟨hu, .inl ⟨q, _, _, _, _, _, _, _, rfl⟩⟩
  have S5 : ∀ u A B C D E, Below w.heap.size w u → Below w.heap.size w (set5 u w.heap.size A B C D E) := fun u A B C D E hu => hu.trans ((set5_but u w.heap.size A B C D E).below hu.size (fun x hx => by omega))
  refine ⟨by rw [kcn]; rfl, (by obtain ⟨_, q, _⟩ := T6; exact q.c1), C6.cells, hz6, fun q => FAIL (by rw [hcon, if_pos (by rw [q]; rfl)]) _ (S5 _ _ _ _ _ _ hB6), fun q => ?_⟩
  refine Calls.mono (headMay_any (hdG pt s) none 0 0 d1.2.2.1 d3.2.2.1 (by have := d1.2.2.2; show (txG pt s).1.length ≤ _; omega) (by have := d3.2.2.2; show (txG pt (h2 pt s)).1.length ≤ _; omega) w6) ?_
  rintro e w7 ⟨rfl, b7⟩
  have hB7 : Below w.heap.size w w7 := hB6.trans (b7.mono (by have := bB6.size; omega))
  have z6 := bB6.size
  have hz7 := (b7.block w.heap.size (by omega)).trans hz6
  refine ⟨rfl, hz7, fun q2 => FAIL (by rw [hcon, if_pos (by rw [q2]; simp)]) _ (S5 _ _ _ _ _ _ hB7), fun q2 => ?_⟩
  have hcon2 : conP zs = (runsP (hdG pt s).size (!decide ((hdG pt s).since = [])) (hdG pt s).count.toNat 0 0 (hdS pt s)).bind fun b => if b.2.1 = [] then some (hdG pt s, b.1) else none := by rw [hcon, if_neg (by rw [q, q2]; decide)]
  clear hcon
  obtain ⟨w8, hw8⟩ : ∃ w8, w8 = w7.alloc (.cells #[.int .i64 0, .int .i64 0] 76) := ⟨_, rfl⟩
  have b8 : Below w7.heap.size w7 w8 := by rw [hw8]; exact (Below.refl _ _).alloc (Nat.le_refl _) _
  have z8 : w8.heap.size = w7.heap.size + 1 := by rw [hw8]; simp
  have z7 := b7.size
  have z56 := b6.size
  have hcb : w4.heap.size < w6.heap.size := C6.lt
  refine ⟨w8, w7.heap.size, hw8, rfl, fun i wt => Lip w w.heap.size (w.heap.size + 1) w.heap.size w4.heap.size w7.heap.size (hdG pt s) (hdG pt s).count.toNat (hdS pt s) i wt, ?_, ?_, ?_⟩
  · refine ⟨⟨[], 0, 0, hdS pt s, .slice none 0 0, [], rfl, (T6.but (But.of_below (X := fun _ => False) b7) (fun _ _ q => q)).but (But.of_below (X := fun _ => False) b8) (fun _ _ q => q), q, Nat.le_refl _, ?_, (C6.keep (b7.block _ hcb)).keep (b8.block _ (by omega)), ⟨rfl, .inl ⟨rfl, rfl⟩⟩, ⟨rfl, fun j v r h1 _ => by simp at h1⟩, (fun g hg => by cases hg), ?_⟩, (b8.block _ (by omega)).trans hz7, hB7.trans (b8.mono (by have := hB7.size; omega)), by omega⟩
    · unfold Edg
      rw [hw8]
      exact Array.getElem?_push_size
    · rw [Nat.sub_zero]
      cases runsP (hdG pt s).size (!decide ((hdG pt s).since = [])) (hdG pt s).count.toNat 0 0 (hdS pt s) with
      | none => rfl
      | some b => simp
  · intro i wt hi hL
    exact hL.step hi k5 rfl rfl rfl (by omega) (by omega) (ConP zs w) (fun qn u hu => FAIL (by rw [hcon2, qn]; rfl) u hu)
  · rintro wt ⟨⟨l, k, t, s', rv, vals, hl, hT8, hs2, hsl, hE, hC, hrow, hV, hne, hrun⟩, hzb, hbl, hsz⟩
    obtain ⟨ra, rc, rfl⟩ := row_slice hrow
    obtain ⟨v, hTk, hR⟩ := hT8
    obtain ⟨a9, c9, rfl, _, _⟩ := hR.rd
    have hrun2 : runsP (hdG pt s).size (!decide ((hdG pt s).since = [])) (hdG pt s).count.toNat 0 0 (hdS pt s) = some (l, s') := by
      rw [hrun, Nat.sub_self]
      simp [runsP]
    rw [hrun2] at hcon2
    simp only [Option.bind_some] at hcon2
    have hrow2 : ∀ A B C D E, (set5 wt w.heap.size A B C D E).drew.ownsRow w.heap.size 58 1 (.slice ra (hdG pt s).count.toNat rc) (hdG pt s).count.toNat vals := fun A B C D E => row_keep hrow (fun g hg => (set5_but wt w.heap.size A B C D E).block g (row_lt hrow hg).2 (hne g hg).2.2.2)
    refine ⟨ra, rc, a9, s'.1.length, c9, hC.cells, hTk.c0, fun u hu => ⟨(hC.keep (hu.block _ hC.lt (by omega))).cells, ?_⟩, hzb, S5 _ _ _ _ _ _ hbl |>.drew, ?_⟩
    · rw [← hTk.c0]
      exact hu.cell (p := ⟨w.heap.size + 1, 0, none⟩) hTk.lt (by show ¬ w.heap.size + 1 = w.heap.size; omega)
    · by_cases q9 : s'.1 = []
      · right
        have e9 : decide (s'.1.length = 0) = true := by rw [q9]; rfl
        rw [e9]
        rw [if_pos q9] at hcon2
        refine ⟨hdG pt s, l, ra, rc, vals, hcon2, by rw [hl], ?_, hV⟩
        rw [hl]
        exact hrow2 _ _ _ _ _
      · left
        have e9 : decide (s'.1.length = 0) = false := by
          rw [decide_eq_false_iff_not]
          intro z
          exact q9 (List.length_eq_zero_iff.1 z)
        rw [e9]
        rw [if_neg q9] at hcon2
        exact ⟨hcon2, _, _, _, _, _, _, _, rfl⟩

end Go.Proofs.Ytahaehjmnafhbaa
