/-
  The document's disk: Open.
-/
import Derived.Test.YteokekllbpkemaaRf5
namespace Go.Proofs.Yteokekllbpkemaa
open Go.RowKit

theorem refOpen_bad (a : Option Addr) (n c : Nat) (w : World) (hn : openBad n) (hm : n ≤ 4611686018427387904) : Calls Try.prog 28 #[.slice a n c] w fun e w' => e = .returned (.tuple #[.pointer none, .int .i64 21]) ∧ w' = w := by
  have e0 : ((n : Int)).tmod 512 = ((n % 512 : Nat) : Int) := by rw [Int.tmod_eq_emod_of_nonneg (by omega)]; omega
  have e1 : ((n : Int)).tdiv 512 = ((n / 512 : Nat) : Int) := by rw [Int.tdiv_eq_ediv_of_nonneg (by omega)]; omega
  unfold openBad at hn
  go_enter Try.func28, Try.ntmps28
  by_cases h0 : n = 0
  · subst h0
    go_wp2
    go_ret2
    exact ⟨rfl, rfl⟩
  · have h0' : ¬ (n : Int) = 0 := by omega
    by_cases h1 : n % 512 = 0
    · have h2 : (524288 : Int) < ((n / 512 : Nat) : Int) := by omega
      have h3 : ((n / 512 : Nat) : Int) ≤ 9007199254740992 := by omega
      rw [h1] at e0
      generalize n / 512 = d at *
      go_wp2
      go_ret2
      exact ⟨rfl, rfl⟩
    · generalize n % 512 = r at *
      have h1' : ¬ (r : Int) = 0 := by omega
      go_wp2
      go_ret2
      exact ⟨rfl, rfl⟩

set_option maxRecDepth 100000 in
set_option maxHeartbeats 4000000 in
theorem refOpen_ok (b o nb c : Nat) (zs : List Int) (w : World) (lo : 1 ≤ nb) (hi : nb ≤ 524288) (hcap : 512 * nb ≤ c) (hR : Rd w.heap.size w (some ⟨b, o, none⟩) (512 * nb) zs) : Calls Try.prog 28 #[.slice (some ⟨b, o, none⟩) (512 * nb) c] w fun e w' => ∃ r, e = .returned (.tuple #[.pointer (some ⟨r, 0, none⟩), .int .i64 0]) ∧ w.heap.size ≤ r ∧ Rk (fun x => w.heap.size ≤ x) w' r zs [] (-1) false nb ∧ Below w.heap.size w w' := by
  obtain ⟨wr0, hwr⟩ : ∃ wr0, wr0 = w.alloc (.cells #[.slice none 0 0, .slice none 0 0, .bool false, .int .i64 (-1)] 83) := ⟨_, rfl⟩
  have b0 : Below w.heap.size w wr0 := by rw [hwr]; exact (Below.refl _ _).alloc (Nat.le_refl _) _
  have hb0 : Rfb wr0 w.heap.size (.slice none 0 0) (.slice none 0 0) false (-1) := by
    unfold Rfb
    rw [hwr]
    show (w.heap.push _)[w.heap.size]? = _
    simp
  have e0 : ((512 * nb : Nat) : Int).tmod 512 = 0 := by rw [Int.tmod_eq_emod_of_nonneg (by omega)]; omega
  have e1 : ((512 * nb : Nat) : Int).tdiv 512 = (nb : Int) := by rw [Int.tdiv_eq_ediv_of_nonneg (by omega)]; omega
  have n0 : ¬ ((512 * nb : Nat) : Int) = 0 := by omega
  have n2 : ¬ ((524288 : Int) < (nb : Int)) := by omega
  obtain ⟨i9, hi9, hz9, hs9, hb9⟩ := info_parts info9
  have Hb0 := hid b0
  have HR0 := hid hb0
  have hzl := hR.1
  have hzb := hR.2.1
  obtain ⟨b', o', eb, hblt, hcs⟩ := hR.2.2.resolve_left (by omega)
  obtain ⟨rfl, rfl⟩ : b = b' ∧ o = o' := by cases eb; exact ⟨rfl, rfl⟩
  have HC := hid hcs
  clear b0 hb0 hR eb hcs
  generalize hM : 512 * nb = M at *
  go_enter Try.func28, Try.ntmps28
  go_wp2_with fail
  rw [← hwr]
  clear hwr e0 e1 n0 n2
  go_loopw [5] (fun i wt => ∃ (k : Nat) (lv : Value), k ≤ nb ∧ i = .int .i64 ((512 * k : Nat) : Int) ∧ Rfb wt w.heap.size lv (.slice none 0 0) false (-1) ∧ wt.ownsRow w.heap.size 9 1 lv k (lcs zs k) ∧ Below w.heap.size w wt) (fun i _ => M - (intOf i).toNat)
  case atStart => exact ⟨0, .slice none 0 0, Nat.zero_le _, rfl, HR0.out, World.ownsRow_nil _ _ _ _, Hb0.out⟩
  case round =>
    clear HR0 Hb0
    obtain ⟨k, lv, hk, rfl, hR, hO, hbt⟩ := hrel
    by_cases hkn : k < nb
    · obtain ⟨aO, cO, rfl, _⟩ := owns_slice hO
      have q0 := hR.cell 0
      simp only [List.getElem?_toArray, List.getElem?_cons_zero] at q0
      have hrl := hR.lt
      have hne : ∀ x, (Value.slice aO k cO).ownBlock = some x → x ≠ w.heap.size := fun x e e2 => by
        obtain ⟨c2, h2⟩ := row_kind hO e
        have hr : wr.heap[w.heap.size]? = _ := hR
        rw [e2, hr] at h2
        cases h2
      have hsub : Rd wr.heap.size wr (some ⟨b, o + 512 * k, none⟩) 512 (blkZ zs k) := by
        refine ⟨length_blkZ (by omega) hkn, isB_blkZ hzb k, .inr ⟨b, o + 512 * k, rfl, Nat.lt_of_lt_of_le hblt hbt.size, fun t ht => ?_⟩⟩
        rw [Nat.add_assoc, (hbt.cell (p := ⟨b, o + (512 * k + t), none⟩) hblt).trans (HC.out (512 * k + t) (by omega))]
        rw [List.getD_eq_getElem?_getD, List.getD_eq_getElem?_getD, get_blkZ, if_pos ht]
      have hst : lcs zs (k + 1) = lcs zs k ++ [.string (strOfNums (blkZ zs k))] := by simp [lcs, List.range_succ]
      have cv0 := conv_str (w := wr) hsub (c - 512 * k)
      have cv1 := conv_str (w := wr.drew) hsub (c - 512 * k)
      have hkM : 512 * k + 512 ≤ M := by omega
      have Hst := hid hst
      clear hst hsub
      generalize strOfNums (blkZ zs k) = S at *
      obtain ⟨t, ht⟩ : ∃ t, t = 512 * k := ⟨_, rfl⟩
      rw [← ht] at cv0 cv1 hkM ⊢
      have Ht := hid ht
      clear ht
      obtain ⟨P, hP⟩ : ∃ P, P = t + 512 := ⟨_, rfl⟩
      have ew : IntKind.i64.wrap ((t : Int) + 512) = (P : Int) := by rw [IntKind.wrap_i64]; omega
      have eP : P - t = 512 := by omega
      have hPc : P ≤ c := by omega
      have hPc' : (P : Int) ≤ (c : Int) := by omega
      have htP : t ≤ P := by omega
      have hct : ¬ c = t := by omega
      clear hP
      have hlt : (t : Int) < (M : Int) := by omega
      have HOa := hid (owns_below hO ((Below.refl _ _).alloc (Nat.le_refl _) (.cells #[.string S] 9)))
      have ka0 : (wr.alloc (.cells #[.string S] 9)).cell? ⟨w.heap.size, 0, none⟩ = some (.slice aO k cO) := (World.cell?_alloc_past _ _ _ hrl).trans q0
      have HR := hid hR
      have Hbt := hid hbt
      have Hne := hid hne
      have hws : w.heap.size ≤ wr.heap.size := hbt.size
      clear hO hbt hR hne
      go_wp2_with fail
      go_region_law (first
        | (refine step_append_lies _ (by rfl) _ _ _ (by rfl) w.heap.size 9 i9 (.string ⟨#[]⟩) 1 16 Try.underlying80 hi9 hz9 hs9 hb9 rfl (by decide) _ k (lcs zs k) (by rfl) (by exact HOa.out) ⟨wr.heap.size, 0, none⟩ 1 1 [.string S] (by rfl) (by rfl) (by exact newsV1 wr _ _ rfl) (by intro u hu; simp at hu; subst hu; rfl) (by decide) (by unfold maxLen; omega) (by omega) (by simp; omega) (wr.heap.size + 1) (by simp) ?_; intro g4 cap4 w6 ho4 hg4 hlie4 _; have bb := HR.out.of_block (w' := w6) ((hg4.block w.heap.size (by simp; omega) (fun e => Hne.out _ e.symm rfl)).trans (Below.heap_alloc _ _ _ hrl)); have c0' := bb.cell 0; have f0' := bb.frozen 0; simp only [List.getElem?_toArray, List.getElem?_cons_zero] at c0'; have Ho4 := hid ho4; have Hg4 : Hid ((wr.alloc (.cells #[.string S] 9)).drew.grownBy w6 (Value.slice aO k cO).ownBlock) := hg4; have L4 : Hid ((Value.slice aO k cO).ownBlock = some g4 ∨ g4 = wr.heap.size + 1) := hlie4; have Hbb := hid bb; clear ho4 hg4 hlie4 bb))
      all_goals
        have ht := Ht.out
        have hg4n : g4 ≠ w.heap.size := fun e => by
          rcases L4.out with q | q
          · exact Hne.out g4 q e
          · omega
        have HO4 := hid (owns_setCell Ho4.out (p := ⟨w.heap.size, 0, none⟩) (fun e => by simp [Value.ownBlock] at e; exact hg4n e) (.slice (some ⟨g4, 0, none⟩) (k + 1) cap4))
        have HB4 := hid ((((Hbt.out.alloc hws (.cells #[.string S] 9)).drew).grown Hg4.out (by simp; omega) (fun x e => (World.ownsRow.lt HOa.out x e).1)).setCell (p := ⟨w.heap.size, 0, none⟩) (Nat.le_refl _) (.slice (some ⟨g4, 0, none⟩) (k + 1) cap4))
        clear c0' f0' q0 ka0 cv0 cv1 ew ht
        go_wp2_with fail
        go_roundw
        case rel =>
          refine ⟨k + 1, .slice (some ⟨g4, 0, none⟩) (k + 1) cap4, by omega, ?_, ?_, ?_, HB4.out⟩
          · have := Ht.out
            go_num
          · unfold Rfb; simpa using Hbb.out.set 0 (.slice (some ⟨g4, 0, none⟩) (k + 1) cap4)
          · rw [Hst.out]; exact HO4.out
        case measure => simp [intOf]; omega
    · obtain rfl : k = nb := by omega
      have HO := hid hO
      have HR := hid hR
      have Hbt := hid hbt
      clear hO hR hbt
      rw [hM]
      go_wp2
      go_ret2
      have ho := HO.out
      have ho0 : wr.ownsRow 0 9 1 lv k (lcs zs k) := ⟨ho.1, ho.2.imp id (fun ⟨g, cap, cur, h1, h2, h3⟩ => ⟨g, cap, cur, h1, Nat.zero_le _, h3⟩)⟩
      exact ⟨w.heap.size, rfl, Nat.le_refl _, ⟨lv, .slice none 0 0, HR.out, ho0, ⟨rfl, .inl ⟨rfl, rfl⟩⟩, by omega, lo, hi, (fun q hq => by cases hq), Nat.le_refl _, (fun x e => (World.ownsRow.lt ho x e).1), (fun x e => by cases e), by omega⟩, Hbt.out⟩

end Go.Proofs.Yteokekllbpkemaa
