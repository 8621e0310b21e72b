/-
  DiskOwns: a desk, the book and the ledger side by side: the desk's tags are 1 to 4, the book's 10, the ledger's 20 and more.
-/
import Derived.Test.YteokekllbpkemaaLg4
namespace Go.Proofs.Yteokekllbpkemaa
open Go.RowKit

theorem Bok.cut {B : Nat} {X : Nat → Prop} {w : World} {b cnt tot nK : Nat} (h : Bok B X w b cnt tot nK) : Bok B (fun x => X x ∧ x < w.heap.size) w b cnt tot nK := by
  obtain ⟨R, fr, he, ma, ke, wa, n, fv, hv, ms, kv, wv, K, Z, h⟩ := h
  refine ⟨R, fr, he, ma, ke, wa, n, fv, hv, ms, kv, wv, K, Z, ⟨h.hn, h.hml, h.hms, h.hZ, h.bk, h.fs, h.hd, fun x hx => ⟨h.xx x hx, ?_⟩⟩⟩
  rcases hx with q | q | q | q | q | q | q | ⟨j, hj, q⟩
  · rw [q]; exact h.bk.blk.lt
  · exact (World.ownsRow.lt h.bk.oF x q).2
  · exact (World.ownsRow.lt h.bk.oH x q).2
  · exact (World.ownsRow.lt h.bk.oM x q).2
  · exact (World.ownsRow.lt h.bk.rK.own x q).2
  · exact (World.ownsRow.lt h.bk.rW.own x q).2
  · exact (h.bk.rT x q).lt
  · exact (h.fs.own hj q).1.lt
theorem Bok.total {B : Nat} {X : Nat → Prop} {w : World} {b cnt tot nK : Nat} (h : Bok B X w b cnt tot nK) : w.cell? ⟨b, 1, none⟩ = some (.int .i64 (tot : Int)) ∧ b < w.heap.size := by
  obtain ⟨R, fr, he, ma, ke, wa, n, fv, hv, ms, kv, wv, K, Z, h⟩ := h
  have := h.bk.blk.cell 1
  simp only [List.getElem?_toArray, List.getElem?_cons_succ, List.getElem?_cons_zero] at this
  exact ⟨this, h.bk.blk.lt⟩
theorem Ldg.total {κ : Nat → Nat} {w : World} {q cnt tot nK : Nat} (h : Ldg κ w q cnt tot nK) : w.cell? ⟨q, 1, none⟩ = some (.int .i64 (tot : Int)) ∧ q < w.heap.size := by
  obtain ⟨n, fr, wa, ke, ma, fv, hv, kv, ms, Z, K, h1, h2, h3, h4⟩ := h
  have := h2.blk.cell 1
  simp only [List.getElem?_toArray, List.getElem?_cons_succ, List.getElem?_cons_zero] at this
  exact ⟨this, h2.blk.lt⟩
/-- Own of the ledger's, of a list that is nobody's -/
theorem LOwn_any {κ : Nat → Nat} {w : World} {q cnt tot nK g : Nat} {zs : List Int} (h : Ldg κ w q cnt tot nK) (hB : Blk .i64 3 w g zs) (hg : κ g < 20) (hzl : zs.length ≤ 16777216) (hnK : nK ≤ 67108864) (hc : cnt ≤ 16777210) (ht : tot ≤ 16777216) :
    Calls Try.prog 17 #[.pointer (some ⟨q, 0, none⟩), .slice (some ⟨g, 0, none⟩) zs.length zs.length] w fun e w' => e = .returned (.tuple #[]) ∧ ∃ κ' cnt' nK', cnt' ≤ cnt + 4 ∧ nK' ≤ nK + 6 ∧ Ldg κ' w' q cnt' (tot + zs.length) nK' ∧ But (fun y => y = g ∨ 20 ≤ κ y) w w' ∧ (∀ y, y < w.heap.size → y ≠ g → κ y < 20 → κ' y = κ y) := by
  obtain ⟨n, fr, wa, ke, ma, fv, hv, kv, ms, Z, K, h1, h2, h3, h4, h5⟩ := h
  obtain ⟨κ1, k1, k2, k3⟩ : ∃ κ1 : Nat → Nat, (∀ y, y < w.heap.size → y ≠ g → κ1 y = κ y) ∧ κ1 g = 26 + n ∧ ∀ y, w.heap.size ≤ y → 20 ≤ κ1 y := by
    refine ⟨fun y => if y = g then 26 + n else if y < w.heap.size then κ y else 40, fun y hy hn => ?_, if_pos rfl, fun y hy => ?_⟩
    · show (if y = g then 26 + n else if y < w.heap.size then κ y else 40) = κ y
      rw [if_neg hn, if_pos hy]
    · show 20 ≤ (if y = g then 26 + n else if y < w.heap.size then κ y else 40)
      rw [if_neg (by have := hB.lt; omega), if_neg (by omega)]
      omega
  have kp : Kt κ (fun _ => False) w w := Kt.below (Below.refl _ _)
  have hk : ∀ y, y < w.heap.size → 20 ≤ κ y → κ1 y = κ y := fun y hy hge => k1 y hy (fun e => by rw [e] at hge; omega)
  refine (LOwn_cut h1 (h2.keep (κ' := κ1) kp (fun _ _ q => q) hk) (h3.keep (κ' := κ1) kp (fun q => q) (fun y hy e => (hk y hy (by omega)).trans e)) h4 h5 hB k2 hzl hnK hc ht k3).mono ?_
  rintro e w' ⟨rfl, κ', cnt', nK', c1, c2, hL, hF⟩
  refine ⟨rfl, κ', cnt', nK', c1, c2, hL, hF.but.mono (fun y hy e => ?_), fun y hy hn hlt => ?_⟩
  · by_cases e2 : y = g
    · exact .inl e2
    · rw [k1 y hy e2] at e; exact .inr e
  · rw [hF.lo y hy (by rw [k1 y hy hn]; exact hlt), k1 y hy hn]

/-- the three of them -/
structure St (W : World) (κ : Nat → Nat) (w : World) (x b q m cb tb kb cl tl kl : Nat) : Prop where
  bel : Below W.heap.size W w
  k0 : ∀ y, y < W.heap.size → κ y = 0
  dsk : Dsk 0 κ w x m
  bok : Bok W.heap.size (fun y => κ y = 10) w b cb tb kb
  ldg : Ldg κ w q cl tl kl
/-- blocks of no tag, and new ones, may have been turned -/
theorem St.keep {W : World} {κ κ' : Nat → Nat} {w w' : World} {x b q m cb tb kb cl tl kl : Nat} (h : St W κ w x b q m cb tb kb cl tl kl) (hb : But (fun y => κ y = 0 ∧ W.heap.size ≤ y) w w') (hκ : ∀ y, y < w.heap.size → κ y ≠ 0 → κ' y = κ y) (h0 : ∀ y, y < W.heap.size → κ' y = 0) : St W κ' w' x b q m cb tb kb cl tl kl := by
  have hs := h.bel.size
  refine ⟨h.bel.trans (hb.below hs (fun y hy e => by omega)), h0, h.dsk.keep (Nat.le_refl _) (fun y hy ht => hb.block y hy (fun e => by unfold tg at ht; omega)) (fun y hy ht => hκ y hy (by unfold tg at ht; omega)), ?_, h.ldg.keep (T := fun s => s = 0) (Kt.of_but hb (fun y _ e => e.1)) (fun t ht => by omega) (fun y hy ht => hκ y hy (by omega))⟩
  have h1 := h.bok.cut.but hb (fun y hy e1 e2 => by omega)
  exact h1.mono (fun y e => by rw [hκ y e.2 (by omega)]; exact e.1)
theorem St.below {W : World} {κ : Nat → Nat} {w w' : World} {x b q m cb tb kb cl tl kl : Nat} (h : St W κ w x b q m cb tb kb cl tl kl) (hb : Below w.heap.size w w') : St W (fun y => if y < w.heap.size then κ y else 0) w' x b q m cb tb kb cl tl kl :=
  h.keep (But.of_below hb) (fun y hy _ => if_pos hy) (fun y hy => by
    show (if y < w.heap.size then κ y else 0) = 0
    split
    · exact h.k0 y hy
    · rfl)
theorem St.act {W : World} {κ : Nat → Nat} {w : World} {x b q m cb tb kb cl tl kl : Nat} (h : St W κ w x b q m cb tb kb cl tl kl) (hm : m ≤ 134217727) {d : ActD} (hd : d.ok W.heap.size w) :
    Calls Try.prog 12 #[.pointer (some ⟨x, 0, none⟩), d.val] w fun e w' => ∃ lv κ', e = .returned (.tuple #[.bool true, lv]) ∧ Hands κ' W.heap.size w' lv ∧ St W κ' w' x b q (m + 1) cb tb kb cl tl kl := by
  have hs := h.bel.size
  refine (act_any h.dsk hm d.wh d.kd d.at_ d.fi hd.1 (hd.2.mono (fun y hy => ?_))).mono ?_
  · refine Classical.byContradiction (fun hc => ?_)
    have := h.k0 y (by omega)
    unfold tg at hy
    omega
  · rintro e w' ⟨lv, κ', rfl, ⟨al, zs, c, rfl, hh⟩, hD, hk, hb⟩
    refine ⟨_, κ', rfl, ⟨al, zs, c, rfl, hh.imp id (fun ⟨g, e, hg, r⟩ => ⟨g, e, Nat.le_trans hs hg, r⟩)⟩, h.bel.trans (hb.below hs (fun y hy ht => by have := h.k0 y hy; unfold tg at ht; omega)), fun y hy => (hk y (by omega)).trans (h.k0 y hy), hD, ?_, h.ldg.keep (T := fun s => tg 0 s) (Kt.of_but hb (fun y _ e => e)) (fun t ht q => by unfold tg at q; omega) (fun y hy _ => hk y hy)⟩
    have h1 := h.bok.cut.but hb (fun y hy e1 e2 => by unfold tg at e2; omega)
    exact h1.mono (fun y e => by rw [hk y e.2]; exact e.1)
theorem St.ownB {W : World} {κ : Nat → Nat} {w : World} {x b q m cb tb kb cl tl kl : Nat} (h : St W κ w x b q m cb tb kb cl tl kl) {al : Option Addr} {zs : List Int} {c : Nat} (hh : (al = none ∧ c = 0 ∧ zs = []) ∨ ∃ g, al = some ⟨g, 0, none⟩ ∧ W.heap.size ≤ g ∧ κ g = 0 ∧ Own w g zs.length c zs ∧ Pl.isB zs ∧ zs.length ≤ 268435456) (mark : Int) (hkb : kb ≤ 67108864) (hcb : cb ≤ 8388608) (htb : tb ≤ 300000000) (m0 : 0 ≤ mark) (m1 : mark ≤ 268435456) :
    Calls Try.prog 13 #[.pointer (some ⟨b, 0, none⟩), .slice al zs.length c, .int .i64 mark] w fun e w' => e = .returned (.tuple #[]) ∧ ∃ κ' kb', kb' ≤ kb + 15 ∧ St W κ' w' x b q m (cb + 1) (tb + zs.length) kb' cl tl kl := by
  have hs := h.bel.size
  have hz : Pl.isB zs ∧ zs.length ≤ 268435456 := by
    rcases hh with ⟨_, _, rfl⟩ | ⟨g, _, _, _, _, h5⟩
    · exact ⟨Pl.isB_nil, by simp⟩
    · exact h5
  have ho : ∀ y, (Value.slice al zs.length c).ownBlock = some y → κ y = 0 ∧ W.heap.size ≤ y := fun y e => by
    rcases hh with ⟨rfl, _, _⟩ | ⟨g, rfl, h2, h3, _⟩
    · cases e
    · cases e; exact ⟨h3, h2⟩
  refine (Own_any W.heap.size (fun y => κ y = 10) w b cb tb kb al c zs mark hs hkb hcb (by omega) hz.2 m0 m1 h.bok hz.1 (hh.imp (fun ⟨h1, h2, h3⟩ => ⟨h1, h3, h2⟩) (fun ⟨g, h1, h2, h3, h4, _⟩ => ⟨g, h1, h4, by omega, h2⟩))).mono ?_
  rintro e w' ⟨rfl, kb', hk', hB, hb⟩
  obtain ⟨κ', k1, k2, k3⟩ : ∃ κ' : Nat → Nat, (∀ y, y < w.heap.size → (Value.slice al zs.length c).ownBlock ≠ some y → κ' y = κ y) ∧ (∀ y, (Value.slice al zs.length c).ownBlock = some y → κ' y = 10) ∧ ∀ y, w.heap.size ≤ y → κ' y = 10 := by
    refine ⟨fun y => if y < w.heap.size ∧ (Value.slice al zs.length c).ownBlock ≠ some y then κ y else 10, fun y hy hn => if_pos ⟨hy, hn⟩, fun y e => if_neg (fun q => q.2 e), fun y hy => if_neg (fun q => by omega)⟩
  have kk : ∀ y, y < w.heap.size → κ y ≠ 0 → κ' y = κ y := fun y hy hn => k1 y hy (fun e => hn (ho y e).1)
  refine ⟨rfl, κ', kb', hk', h.bel.trans (hb.below hs (fun y hy e => ?_)), fun y hy => ?_, h.dsk.keep (Nat.le_refl _) (fun y hy ht => hb.block y hy (fun e => ?_)) (fun y hy ht => kk y hy (by unfold tg at ht; omega)), hB.mono (fun y e => ?_), h.ldg.keep (T := fun s => s = 10 ∨ s = 0) (Kt.of_but hb (fun y _ e => e.imp id (fun e => (ho y e).1))) (fun t ht => by omega) (fun y hy ht => kk y hy (by omega))⟩
  · have := h.k0 y hy
    rcases e with e | e
    · omega
    · have := ho y e; omega
  · rw [k1 y (by omega) (fun e => by have := ho y e; omega)]; exact h.k0 y hy
  · unfold tg at ht
    rcases e with e | e
    · omega
    · have := ho y e; omega
  · rcases e with e | e | e
    · by_cases hy : y < w.heap.size
      · show κ' y = 10
        rw [kk y hy (by omega)]; exact e
      · exact k3 y (by omega)
    · exact k2 y e
    · exact k3 y e
theorem St.ownL {W : World} {κ : Nat → Nat} {w : World} {x b q m cb tb kb cl tl kl : Nat} (h : St W κ w x b q m cb tb kb cl tl kl) {g : Nat} {zs : List Int} (hB : Blk .i64 3 w g zs) (hg : κ g = 0) (hW : W.heap.size ≤ g) (hzl : zs.length ≤ 16777216) (hkl : kl ≤ 67108864) (hcl : cl ≤ 16777210) (htl : tl ≤ 16777216) :
    Calls Try.prog 17 #[.pointer (some ⟨q, 0, none⟩), .slice (some ⟨g, 0, none⟩) zs.length zs.length] w fun e w' => e = .returned (.tuple #[]) ∧ ∃ κ' cl' kl', cl' ≤ cl + 4 ∧ kl' ≤ kl + 6 ∧ St W κ' w' x b q m cb tb kb cl' (tl + zs.length) kl' := by
  have hs := h.bel.size
  refine (LOwn_any h.ldg hB (by omega) hzl hkl hcl htl).mono ?_
  rintro e w' ⟨rfl, κ', cl', kl', c1, c2, hL, hb, hk⟩
  have kk : ∀ y, y < w.heap.size → κ y ≠ 0 → κ y < 20 → κ' y = κ y := fun y hy hn hlt => hk y hy (fun e => hn (by rw [e]; exact hg)) hlt
  refine ⟨rfl, κ', cl', kl', c1, c2, h.bel.trans (hb.below hs (fun y hy e => ?_)), fun y hy => ?_, h.dsk.keep (Nat.le_refl _) (fun y hy ht => hb.block y hy (fun e => ?_)) (fun y hy ht => kk y hy (by unfold tg at ht; omega) (by unfold tg at ht; omega)), ?_, hL⟩
  · have := h.k0 y hy
    omega
  · rw [hk y (by omega) (by omega) (by have := h.k0 y hy; omega)]; exact h.k0 y hy
  · unfold tg at ht
    rcases e with e | e
    · rw [e] at ht; omega
    · omega
  · have h1 := h.bok.cut.but hb (fun y hy e1 e2 => by
      rcases e2 with e2 | e2
      · rw [e2] at e1; omega
      · omega)
    exact h1.mono (fun y e => by rw [kk y e.2 (by omega) (by omega)]; exact e.1)
theorem St.holdsB {W : World} {κ : Nat → Nat} {w : World} {x b q m cb tb kb cl tl kl : Nat} (h : St W κ w x b q m cb tb kb cl tl kl) (hkb : kb ≤ 134217728) :
    Calls Try.prog 19 #[.pointer (some ⟨b, 0, none⟩)] w fun e w' => e = .returned (.bool true) ∧ ∃ κ', St W κ' w' x b q m cb tb kb cl tl kl := by
  have hs := h.bel.size
  refine (Holds_any W.heap.size (fun y => κ y = 10) w b cb tb kb hkb h.bok).mono ?_
  rintro e w' ⟨rfl, hB, hb⟩
  exact ⟨rfl, κ, h.bel.trans (hb.below hs (fun y hy e => by have := h.k0 y hy; omega)), h.k0, h.dsk.keep (Nat.le_refl _) (fun y hy ht => hb.block y hy (fun e => by unfold tg at ht; omega)) (fun _ _ _ => rfl), hB, h.ldg.keep (T := fun s => s = 10) (Kt.of_but hb (fun y _ e => e)) (fun t ht => by omega) (fun _ _ _ => rfl)⟩
theorem St.holdsL {W : World} {κ : Nat → Nat} {w : World} {x b q m cb tb kb cl tl kl : Nat} (h : St W κ w x b q m cb tb kb cl tl kl) (hkl : kl ≤ 134217728) :
    Calls Try.prog 18 #[.pointer (some ⟨q, 0, none⟩)] w fun e w' => e = .returned (.bool true) ∧ ∃ κ', St W κ' w' x b q m cb tb kb cl tl kl := by
  refine (h.ldg.holds hkl).mono ?_
  rintro e w' ⟨rfl, hb⟩
  exact ⟨rfl, _, h.below hb⟩

end Go.Proofs.Yteokekllbpkemaa
