/-
  The Shelf: write: the steps on its state.
-/
import Derived.Test.YtoifmiloaefanaaSw1
namespace Go.Proofs.Ytoifmiloaefanaa
open Go.RowKit

section
variable {κ : Nat → Nat} {B s : Nat} {mk tot : Int} {fv hv kv wv : Value} {frs xs ys : List Value} {ls R : List (Value × List Tk)} {lo : Nat} {Q : List (Nat × List Tk)} {w : World}
/-- blocks that are written for the first time -/
theorem Wst.other7 (h : Wst κ B s mk tot fv hv kv wv frs ls xs ys R lo Q w) {w' : World} (b : But (fun g => κ g = 7) w w') : Wst κ B s mk tot fv hv kv wv frs ls xs ys R lo Q w' ∧ Frw κ κ w w' := by
  have z := b.size
  have o : ∀ t, t ≠ 7 → ∀ g, κ g = t → ¬ κ g = 7 := fun t ht g e q => by omega
  exact ⟨⟨(b.block s h.lt (o 1 (by decide) s h.ks)).trans h.sb, h.ks, h.fr.keep2 b (o 2 (by decide)) (fun _ _ e => e), h.kr.keep2 b (o 4 (by decide)) (fun _ _ e => e), h.wr.keep2 b (o 5 (by decide)) (fun _ _ e => e), fun i hlo hi => (h.ll i hlo hi).keep2 b (o _ (by omega)) (fun _ _ e => e), fun p hp => (h.rl p hp).keep2 b (o 6 (by decide)) (fun _ _ e => e), fun p hp => blQ (h.qb p hp) b (o 6 (by decide)) (fun _ _ e => e), fun g hg => ⟨(h.cut g hg).1, by have := (h.cut g hg).2; omega⟩, by have := h.bw; omega⟩, ⟨b.mono (fun g _ e => by omega), fun _ _ e => e⟩⟩
theorem Wst.retagQ (h : Wst κ B s mk tot fv hv kv wv frs ls xs ys R lo Q w) (q t : Nat) (hq : κ q = 0 ∧ w.heap.size ≤ q ∨ κ q = 7) {w' : World} (hb : Below w.heap.size w w') (hql : q < w'.heap.size) : Wst (fun g => if g = q then t else κ g) B s mk tot fv hv kv wv frs ls xs ys R lo Q w' ∧ Frw κ (fun g => if g = q then t else κ g) w w' := by
  have b : But (fun _ => False) w w' := But.of_below hb
  have z := hb.size
  have he : ∀ u, u ≠ 7 → u ≠ 0 → ∀ g, g < w.heap.size → κ g = u → (if g = q then t else κ g) = u := fun u h7 h0 g hg e => by
    by_cases p : g = q
    · subst p; omega
    · rw [if_neg p, e]
  refine ⟨⟨(hb.block s h.lt).trans h.sb, he 1 (by decide) (by decide) s h.lt h.ks, h.fr.keep2 b (fun _ _ => id) (he 2 (by decide) (by decide)), h.kr.keep2 b (fun _ _ => id) (he 4 (by decide) (by decide)), h.wr.keep2 b (fun _ _ => id) (he 5 (by decide) (by decide)), fun i hlo hi => (h.ll i hlo hi).keep2 b (fun _ _ => id) (he _ (by omega) (by omega)), fun p hp => (h.rl p hp).keep2 b (fun _ _ => id) (he 6 (by decide) (by decide)), fun p hp => blQ (h.qb p hp) b (fun _ _ => id) (he 6 (by decide) (by decide)), fun g hg => ?_, by have := h.bw; omega⟩, ⟨But.of_below hb, fun g hg hk => ?_⟩⟩
  · by_cases p : g = q
    · subst p
      rcases hq with hq | hq
      · exact ⟨by have := h.bw; omega, hql⟩
      · have := h.cut g (by rw [hq]; decide); exact ⟨this.1, hql⟩
    · simp only [p] at hg
      have := h.cut g hg
      exact ⟨this.1, by omega⟩
  · by_cases p : g = q
    · subst p
      rcases hq with hq | hq
      · omega
      · rw [hq]; decide
    · simpa [p] using hk
/-- what was written stays -/
theorem Wst.seal (h : Wst κ B s mk tot fv hv kv wv frs ls xs ys R lo Q w) {q : Nat} {W : List Tk} (hq : κ q = 7) (hB : BlT w q W) : ∃ κ', Wst κ' B s mk tot fv hv kv wv frs ls xs ys R lo (Q ++ [(q, W)]) w ∧ Frw κ κ' w w := by
  obtain ⟨h1, h2⟩ := h.retagQ q 6 (.inr hq) (Below.refl _ _) hB.lt
  refine ⟨_, ⟨h1.sb, h1.ks, h1.fr, h1.kr, h1.wr, h1.ll, h1.rl, fun p hp => ?_, h1.cut, h1.bw⟩, h2⟩
  rcases List.mem_append.1 hp with hp | hp
  · exact h1.qb p hp
  · simp at hp
    subst hp
    exact ⟨hB, by simp⟩
/-- a list is written over -/
theorem Wst.overL (h : Wst κ B s mk tot fv hv kv wv frs ls xs ys R lo Q w) (i : Nat) (hlo : lo ≤ i) (hi : i < ls.length) {q : Nat} {W : List Tk} (hq : κ q = 7) (hB : BlT w q W) (hn : ls[i].2.length ≤ W.length) :
    ∃ w', (Builtin.copy_ #[23, 23] 3 #[ls[i].1, .slice (some ⟨q, 0, none⟩) W.length W.length]).run Try.prog w = .ok (.int .i64 (ls[i].2.length : Int)) w' ∧ Wst κ B s mk tot fv hv kv wv frs (ls.set i (ls[i].1, W.take ls[i].2.length)) xs ys R lo Q w' ∧ Frw κ κ w w' ∧ BlT w' q W := by
  have hL := h.ll i hlo hi
  obtain ⟨w', hr, hO, b, hB'⟩ := over_list hL.own hB hn (fun g hg e => by have := hL.tag g hg; rw [e, hq] at this; omega)
  have hX : ∀ g, (ls[i].1).ownBlock = some g → κ g = 10 + i := hL.tag
  have o : ∀ t, t ≠ 10 + i → ∀ g, κ g = t → ¬ (ls[i].1).ownBlock = some g := fun t ht g e q => by have := hX g q; omega
  have z := b.size
  refine ⟨w', hr, ⟨(b.block s h.lt (o 1 (by omega) s h.ks)).trans h.sb, h.ks, h.fr.keep2 b (o 2 (by omega)) (fun _ _ e => e), h.kr.keep2 b (o 4 (by omega)) (fun _ _ e => e), h.wr.keep2 b (o 5 (by omega)) (fun _ _ e => e), fun j hlo' hj => ?_, fun p hp => (h.rl p hp).keep2 b (o 6 (by omega)) (fun _ _ e => e), fun p hp => blQ (h.qb p hp) b (o 6 (by omega)) (fun _ _ e => e), fun g hg => ⟨(h.cut g hg).1, by have := (h.cut g hg).2; omega⟩, by have := h.bw; omega⟩, ⟨b.mono (fun g _ e => by rw [hX g e]; omega), fun _ _ e => e⟩, hB'⟩
  rw [List.length_set] at hj
  by_cases e : j = i
  · subst e
    simp only [List.getElem_set_self]
    exact ⟨hO, hX⟩
  · rw [List.getElem_set_ne (by omega)]
    exact (h.ll j hlo' hj).keep2 b (o _ (by omega)) (fun _ _ e => e)
/-- a row's element is stored -/
theorem OwS.set {B : Nat} {w : World} {g m c : Nat} {xs : List Value} (h : OwS B w (.slice (some ⟨g, 0, none⟩) m c) xs) (hm : m = xs.length) (r : Nat) (u : Value) : OwS B (w.setCell ⟨g, r, none⟩ u) (.slice (some ⟨g, 0, none⟩) m c) (xs.set r u) := by
  subst hm
  rcases h.2 with ⟨e, _⟩ | ⟨g', cap, cur, e, hb, hh, hc1, hc2, hc3, hc4⟩
  · cases e
  · simp at e
    obtain ⟨rfl, rfl⟩ := e
    unfold OwS
    rw [List.length_set]
    refine ⟨by simp, .inr ⟨g, c, cur.setIfInBounds r u, rfl, hb, ?_, hc1, hc2, by simp [hc3], ?_⟩⟩
    · simp only [World.setCell, Array.getElem?_modify]
      rw [hh]
      simp
    · simp only [Array.toList_setIfInBounds, Nat.mul_one] at *
      rw [List.take_set, hc4]
/-- a list is grown, and hangs anew in the row -/
theorem Wst.growL (h : Wst κ B s mk tot fv hv kv wv frs ls xs ys R lo Q w) (i : Nat) (hlo : lo = i) (hi : i < ls.length) {q n : Nat} {W : List Tk} {a : Option Addr} {c : Nat} (hls : ls[i] = (.slice a n c, W.take n)) (hQ : (q, W) ∈ Q) (hn : n ≤ W.length) (hW : W.length ≤ 2000000) {ka : Option Addr} {km kc r : Nat} (hk : kv = .slice ka km kc) (hkm : km = xs.length) (hr : r < xs.length) :
    ∃ kg v' w1, ka = some ⟨kg, 0, none⟩ ∧ (Builtin.append_ #[23, 23] 23 #[.slice a n c, .slice (some ⟨q, n * 4, none⟩) (W.length - n) (W.length - n)]).run Try.prog w = .ok v' w1 ∧ (∃ a' c', v' = .slice a' W.length c') ∧ (w1.cell? ⟨kg, r, none⟩ = some xs[r] ∧ w1.frozen? ⟨kg, r, none⟩ = false) ∧ But (fun g => κ g = 10 + i) w w1 ∧
      ∃ κ', Wst κ' B s mk tot fv hv kv wv frs ls (xs.set r v') ys (R ++ [(.slice a n c, W.take n), (v', W)]) (i + 1) Q (w1.setCell ⟨kg, r, none⟩ v') ∧ Frw κ κ' w (w1.setCell ⟨kg, r, none⟩ v') := by
  have hL := h.ll i (by omega) hi
  rw [hls] at hL
  obtain ⟨hBq, hκq⟩ := h.qb _ hQ
  obtain ⟨v', w1, hrun, hO', hrd, b, hown⟩ := grow_list hL.own hBq hn hW h.bw
  have hX : ∀ g, (Value.slice a n c).ownBlock = some g → κ g = 10 + i := hL.tag
  have o : ∀ t, t ≠ 10 + i → ∀ g, κ g = t → ¬ (Value.slice a n c).ownBlock = some g := fun t ht g e q => by have := hX g q; omega
  have z := b.size
  have kr1 := h.kr.keep2 (κ' := κ) b (o 4 (by omega)) (fun _ _ e => e)
  have krO := kr1.own
  rw [hk] at krO
  obtain ⟨kg, rfl, hkg, ec, ef⟩ := krO.at hkm r hr
  obtain ⟨a', c', hv'⟩ := hO'.form
  have htk : κ kg = 4 := kr1.tag kg (by rw [hk]; rfl)
  refine ⟨kg, v', w1, rfl, hrun, ⟨a', c', hv'⟩, ⟨ec, ef⟩, b.mono (fun g _ e => hX g e), ?_⟩
  obtain ⟨w2, hw2⟩ : ∃ w2, w2 = w1.setCell ⟨kg, r, none⟩ v' := ⟨_, rfl⟩
  rw [← hw2]
  have z2 : w2.heap.size = w1.heap.size := by rw [hw2]; simp [World.setCell]
  have b2 : But (fun g => κ g = 4 ∨ κ g = 10 + i) w w2 := by
    rw [hw2]
    exact (b.mono (fun g _ e => .inr (hX g e))).setCell (p := ⟨kg, r, none⟩) (.inl htk) _
  have b12 : But (fun g => g = kg) w1 w2 := by rw [hw2]; exact set_but _ _ _ _ rfl
  have hnv : ∀ g, v'.ownBlock = some g → g ≠ kg := fun g hg e => by
    obtain ⟨cur, hc⟩ := (own_blk hO' hg).2.2
    obtain ⟨cur2, hc2⟩ := (own_blk krO (g := kg) rfl).2.2
    rw [e, hc2] at hc
    simp at hc
  have hva : ∀ g, (Value.slice a n c).ownBlock = some g → g ≠ kg := fun g hg e => by have := hX g hg; rw [e, htk] at this; omega
  have hav : ∀ g, (Value.slice a n c).ownBlock = some g → g < w.heap.size := fun g hg => (own_blk hL.own hg).2.1
  obtain ⟨κ', hκ⟩ : ∃ κ' : Nat → Nat, κ' = retag (retag κ (.slice a n c) 6) v' 6 := ⟨_, rfl⟩
  have he : ∀ t, t ≠ 10 + i → t ≠ 0 → ∀ g, g < w.heap.size → κ g = t → κ' g = t := fun t ht ht0 g hg e => by
    rw [hκ]
    by_cases q1 : v'.ownBlock = some g
    · exfalso
      rcases hown with e1 | ⟨g', e1, hl⟩
      · rw [e1] at q1
        have := hX g q1
        omega
      · rw [e1] at q1
        simp at q1
        omega
    · rw [retag_not q1]
      by_cases q2 : (Value.slice a n c).ownBlock = some g
      · have := hX g q2; omega
      · rw [retag_not q2, e]
  have o2 : ∀ t, t ≠ 4 → t ≠ 10 + i → ∀ g, κ g = t → ¬ (κ g = 4 ∨ κ g = 10 + i) := fun t h4 hi g e q => by omega
  have hO2 : OwT B w2 v' W := own_keep hO' fun g hg => b12.block g (own_blk hO' hg).2.1 (hnv g hg)
  refine ⟨κ', ⟨?_, he 1 (by omega) (by decide) s h.lt h.ks, h.fr.keep2 b2 (o2 2 (by decide) (by omega)) (he 2 (by omega) (by decide)), ⟨?_, fun g hg => ?_⟩, h.wr.keep2 b2 (o2 5 (by decide) (by omega)) (he 5 (by omega) (by decide)), fun j hj hj' => (h.ll j (by omega) hj').keep2 b2 (o2 _ (by omega) (by omega)) (he _ (by omega) (by omega)), fun p hp => ?_, fun p hp => blQ (h.qb p hp) b2 (o2 6 (by decide) (by omega)) (he 6 (by omega) (by decide)), fun g hg => ?_, by have := h.bw; omega⟩, ⟨b2.mono (fun g _ e => by omega), fun g hg hk => ?_⟩⟩
  · rw [b2.block s h.lt (o2 1 (by decide) (by omega) s h.ks)]
    exact h.sb
  · rw [hw2, hk]
    exact krO.set hkm r v'
  · rw [hk] at hg
    simp [Value.ownBlock] at hg
    subst hg
    have hkl : kg < w.heap.size := (own_blk h.kr.own (g := kg) (by rw [hk]; rfl)).2.1
    exact he 4 (by omega) (by decide) kg hkl htk
  · rcases List.mem_append.1 hp with hp | hp
    · exact (h.rl p hp).keep2 b2 (o2 6 (by decide) (by omega)) (he 6 (by omega) (by decide))
    · simp at hp
      have hl2 : (W.take n).length = n := by rw [List.length_take, Nat.min_eq_left hn]
      rcases hp with rfl | rfl
      · show Rl κ' w2 (.slice a n c) (W.take n)
        refine ⟨a, c, by rw [hl2], by rw [hl2]; have h9 : (W.take n).length ≤ c := owT_cap hL.own hl2.symm; omega, by omega, ?_, ?_⟩
        · by_cases h0 : 0 < (W.take n).length
          · obtain ⟨g, rfl, _⟩ := hL.own.some h0
            refine .inr ⟨g, rfl, ?_⟩
            rw [hκ]
            by_cases q1 : v'.ownBlock = some g
            · rw [retag_at q1]
            · rw [retag_not q1, retag_at rfl]
          · exact .inl (List.eq_nil_of_length_eq_zero (by omega))
        · refine (hrd a c rfl).but b12 ?_
          by_cases h0 : 0 < (W.take n).length
          · obtain ⟨g, rfl, _⟩ := hL.own.some h0
            exact .inr ⟨g, rfl, hva g rfl⟩
          · exact .inl (List.eq_nil_of_length_eq_zero (by omega))
      · exact Rl.of (L := W) hO2 (fun g hg => by rw [hκ]; exact retag_at hg) (by omega)
  · rw [hκ] at hg
    by_cases q1 : v'.ownBlock = some g
    · exact ⟨(own_blk hO2 q1).1, (own_blk hO2 q1).2.1⟩
    · rw [retag_not q1] at hg
      by_cases q2 : (Value.slice a n c).ownBlock = some g
      · exact ⟨(own_blk hL.own q2).1, by have := hav g q2; omega⟩
      · rw [retag_not q2] at hg
        have := h.cut g hg
        exact ⟨this.1, by omega⟩
  · rw [hκ] at hk
    by_cases q2 : (Value.slice a n c).ownBlock = some g
    · rw [hX g q2]; omega
    by_cases q1 : v'.ownBlock = some g
    · rcases hown with e1 | ⟨g', e1, hl⟩
      · exact absurd (e1 ▸ q1) q2
      · rw [e1] at q1
        simp at q1
        omega
    · rw [retag_not q1, retag_not q2] at hk
      exact hk
end

end Go.Proofs.Ytoifmiloaefanaa
