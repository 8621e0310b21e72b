import Derived.Test.YtldlejpacgphmaaGreatG47
namespace Go.Proofs.YtldlejpacgphmaaGreat
open Go.RowKit
/-- a place's block -/
structure Pk (w : World) (pk : Nat) (a b c d : Value) : Prop where
  blk : w.heap[pk]? = some (.cells #[a, b, c, d] 24 (0, 0))
theorem Pk.cell {w : World} {pk : Nat} {a b c d : Value} (h : Pk w pk a b c d) (t : Nat) : w.cell? ⟨pk, t, none⟩ = #[a, b, c, d][t]? := by simp [World.cell?, h.blk]
theorem Pk.frozen {w : World} {pk : Nat} {a b c d : Value} (h : Pk w pk a b c d) (t : Nat) : w.frozen? ⟨pk, t, none⟩ = false := by simp [World.frozen?, h.blk]
theorem Pk.keep {w w' : World} {pk : Nat} {a b c d : Value} (h : Pk w pk a b c d) (hk : w'.heap[pk]? = w.heap[pk]?) : Pk w' pk a b c d := ⟨hk.trans h.blk⟩
theorem Pk.lt {w : World} {pk : Nat} {a b c d : Value} (h : Pk w pk a b c d) : pk < w.heap.size := (Array.getElem?_eq_some_iff.1 h.blk).1
theorem Pk.set {w : World} {pk : Nat} {a b c d : Value} (h : Pk w pk a b c d) (t : Nat) (v : Value) : (w.setCell ⟨pk, t, none⟩ v).heap[pk]? = some (.cells (#[a, b, c, d].setIfInBounds t v) 24 (0, 0)) := by
  have h1 := h.blk
  simp only [World.setCell, Array.getElem?_modify]
  rw [h1]
  simp
/-- a round: one block more is refused, as many as may be are taken -/
theorem room_round {W : Nat → Prop} {w5 w8 wt : World} {B5 wb room nb fr bl i a mo g : Nat} {H : List Int} {Us : List (List Pm)} {fa : Option Addr} {fc : Nat} {qs : List Pm} (hWD : WD W w8 wb room nb fr bl 0 0 H Us) (hUs : Us.length = i) (hi : i < 1000) (hB5 : B5 = w5.heap.size) (hWB : ∀ k, W k → B5 ≤ k) (h58 : Below B5 w5 w8) (hnbv : nb = fr + 2 * bl + 8) (hmo : mo = bl / 2 - 4) (hlo : 16 ≤ bl) (hblh : bl ≤ 79) (hk3 : ∀ w', Below w8.heap.size w8 w' → w'.cell? ⟨wb, 3, none⟩ = some (.pointer (some ⟨g, 0, none⟩)))
    (hDk : ∀ w', Below w8.heap.size w8 w' → Calls Tryz.prog 14 #[.pointer (some ⟨g, 0, none⟩)] w' fun e w'' => e = .returned (.int .i64 (nb : Int)) ∧ w'' = w') (hP : Pq w8.heap.size w8 wt fr bl a fa fc qs) (hql : qs.length = mo) :
    Calls Tryz.prog 33 #[.slice fa mo fc] wt.drew fun e wA => ∃ gq cq, e = .returned (.slice (some ⟨gq, 0, none⟩) mo cq) ∧ wA.cell? ⟨wb, 3, none⟩ = some (.pointer (some ⟨g, 0, none⟩)) ∧ (Calls Tryz.prog 14 #[.pointer (some ⟨g, 0, none⟩)] wA fun e w'' => e = .returned (.int .i64 (nb : Int)) ∧ w'' = wA) ∧
      ∀ wC g7, wA.heap.size ≤ g7 → Blk .u8 5 wC g7 (blkZ 7) → Below wA.heap.size wA wC → wC.cell? ⟨wb, 3, none⟩ = some (.pointer (some ⟨g, 0, none⟩)) ∧ (∃ xs, (wC.alloc (.cells #[.int .i64 ((nb - 1 : Nat) : Int), .slice (some ⟨g7, 0, none⟩) 512 512] 68)).ownsRow 0 68 2 (.slice (some ⟨gq, 0, none⟩) mo cq) mo xs ∧
        ∀ g4 cap4 w6, w6.ownsRow 0 68 2 (.slice (some ⟨g4, 0, none⟩) (mo + 1) cap4) (mo + 1) (xs ++ [.int .i64 ((nb - 1 : Nat) : Int), .slice (some ⟨g7, 0, none⟩) 512 512]) → (wC.alloc (.cells #[.int .i64 ((nb - 1 : Nat) : Int), .slice (some ⟨g7, 0, none⟩) 512 512] 68)).grownBy w6 (Value.slice (some ⟨gq, 0, none⟩) mo cq).ownBlock → ((Value.slice (some ⟨gq, 0, none⟩) mo cq).ownBlock = some g4 ∨ g4 = wC.heap.size + 1) →
          w6.cell? ⟨wb, 3, none⟩ = some (.pointer (some ⟨g, 0, none⟩)) ∧ Calls Tryz.prog 11 #[.pointer (some ⟨wb, 0, none⟩), .agg #[.int .i64 1, .int .i64 0, .slice (some ⟨g4, 0, none⟩) (mo + 1) cap4, .int .u64 0, .int .i64 (-1), .int .i64 0]] w6 fun e w7 => e = .returned (.bool true) ∧ Calls Tryz.prog 11 #[.pointer (some ⟨wb, 0, none⟩), .agg #[.int .i64 1, .int .i64 0, .slice fa mo fc, .int .u64 0, .int .i64 (-1), .int .i64 0]] w7 fun e w9 => e = .returned (.bool true) ∧ ∃ g' ta tc, w9.cell? ⟨wb, 3, none⟩ = some (.pointer (some ⟨g', 0, none⟩)) ∧ w9.cell? ⟨g', 3, none⟩ = some (.slice ta (i + 1) tc) ∧ ∀ mask, Calls Tryz.prog 31 #[.pointer (some ⟨wb, 0, none⟩), .int .u64 mask] w9 fun e wZ => e = .returned (.bool true) ∧ ∃ W' Us', WD W' wZ wb room nb fr bl 0 0 H Us' ∧ Us'.length = i + 1 ∧ (∀ k, W' k → B5 ≤ k) ∧ Below B5 w5 wZ) := by
  have hnb9 : nb ≤ 524288 := by
    obtain ⟨Z, p, c, j, g, tried, tl, td, hb', hc, ta, tc, vs, Ls, n1, cs, d, s, h, _⟩ := hWD
    exact h.nb
  have hbt := hP.bt
  have hst := hbt.size
  have h5s := h58.size
  have hnW : ∀ k, w8.heap.size ≤ k → ¬ W k := fun k hk q => by have := hWD.lt q; omega
  have hWDt := hWD.below hbt
  have hcp := CopyPuts_any (Y := W) wt.drew fa fc qs ((hP.rd hnW).low (Below.refl _ _).drew) (by omega) (fun p hp => by
    obtain ⟨_, q2, _, b, q4, _⟩ := hP.el p hp
    exact ⟨by omega, fun e => by rw [q4] at e; cases e⟩)
  rw [hql] at hcp
  refine Calls.mono hcp ?_
  rintro e wA ⟨gq, cq, qs2, rfl, hs2, hgq, hrd2, hcap2, bA, hrow2, hne2⟩
  have hgq' : wt.heap.size ≤ gq := hgq
  have bA' : Below wt.heap.size wt wA := (Below.refl wt.heap.size wt).drew.trans bA
  have b8A : Below w8.heap.size w8 wA := hbt.trans (bA'.mono hst)
  have hsA := bA'.size
  refine ⟨gq, cq, rfl, hk3 wA b8A, hDk wA b8A, fun wC g7 hg7 k7 b7 => ?_⟩
  have hb7 := length_blkZ 7
  have hi7 := isB_blkZ 7
  generalize blkZ 7 = z7 at k7 hb7 hi7
  have b8C : Below w8.heap.size w8 wC := b8A.trans (b7.mono (by omega))
  have hsC := b7.size
  have hgqA := (World.ownsRow.lt hrow2 gq rfl).2
  have hq2l : qs2.length = mo := by have := congrArg List.length hs2; simp at this; omega
  have hr0 : wC.ownsRow 0 68 2 (.slice (some ⟨gq, 0, none⟩) mo cq) mo (pmCells qs2) := by
    obtain ⟨x1, x2⟩ := owns_below hrow2 b7
    refine ⟨x1, x2.imp id ?_⟩
    rintro ⟨g', cap, cur, y1, _, y3⟩
    exact ⟨g', cap, cur, y1, Nat.zero_le _, y3⟩
  refine ⟨hk3 wC b8C, pmCells qs2, owns_below hr0 ((Below.refl wC.heap.size wC).alloc (Nat.le_refl _) _), fun g4 cap4 w6 ho4 hg4 hlie4 => ?_⟩
  have hg7l := k7.lt
  have bt6 : But (fun k => k = gq) wC w6 := ((But.refl (fun k => k = gq) wC).alloc _).of_grown hg4 (fun x e _ => by
    have e2 : gq = x := by injection e
    exact e2.symm)
  have hg4o : g4 = gq ∨ g4 = wC.heap.size + 1 := hlie4.imp (fun e => by
    have e2 : gq = g4 := by injection e
    exact e2.symm) id
  have b86 : Below w8.heap.size w8 w6 := ((But.of_below b8C (X := fun k => w8.heap.size ≤ k)).comp bt6 (fun k hk q => by omega)).below (Nat.le_refl _) (fun k hk q => by omega)
  refine ⟨hk3 w6 b86, ?_⟩
  -- one more
  obtain ⟨ms, hms⟩ : ∃ ms : List Pm, ms = qs2 ++ [⟨((nb - 1 : Nat) : Int), some ⟨g7, 0, none⟩, 512, z7⟩] := ⟨_, rfl⟩
  have hml : ms.length = mo + 1 := by rw [hms, List.length_append, hq2l]; rfl
  have hrow6 : w6.ownsRow 0 68 2 (.slice (some ⟨g4, 0, none⟩) ms.length cap4) ms.length (pmCells ms) := by
    rw [hml, hms, pmCells_snoc]
    simp only [hb7]
    exact ho4
  have k76 : Blk .u8 5 w6 g7 (z7) := k7.of_block (bt6.block g7 hg7l (by omega))
  have hrdm : RdP W w6 (some ⟨g4, 0, none⟩) ms := by
    refine ⟨fun p hp => ?_, .inr ⟨g4, 0, rfl, (World.ownsRow.lt hrow6 g4 rfl).2, hnW g4 (by omega), fun t q hq => ?_⟩⟩
    · rw [hms] at hp
      rcases List.mem_append.1 hp with hp | hp
      · obtain ⟨y1, y2, y3⟩ := hrd2.1 p hp
        obtain ⟨b, hb, hbn⟩ := hne2 p hp
        refine ⟨y1, y2, ?_⟩
        rcases y3 with y3 | ⟨b', o', z1, z2, z3, z4⟩
        · exact .inl y3
        · rw [hb] at z1
          simp only [Option.some.injEq, Addr.mk.injEq] at z1
          obtain ⟨rfl, rfl, _⟩ := z1
          have hbC : b < wC.heap.size := by omega
          refine .inr ⟨b, 0, hb, by have := bt6.size; omega, hnW b (by have : ¬ b < wt.heap.size := z3; omega), fun t ht => ?_⟩
          rw [bt6.cell (p := ⟨b, 0 + t, none⟩) hbC hbn, b7.cell (p := ⟨b, 0 + t, none⟩) z2]
          exact z4 t ht
      · simp only [List.mem_singleton] at hp
        subst hp
        show RdN W w6 (some ⟨g7, 0, none⟩) (z7).length (z7)
        exact RdN.of_blk k76 hi7 (hnW g7 (by omega))
    · have hc := World.ownsRow.cells hrow6 (g := g4) rfl
      obtain ⟨x0, x1⟩ := pmCells_get ms t q hq
      have y0 := hc _ _ x0
      have y1 := hc _ _ x1
      rw [Addr.add_lit] at y0 y1
      exact ⟨y0, y1⟩
  have hWD6 := hWD.below b86
  have ha1 : a ≤ nb - 1 := cntH_eq hnbv (m := mo) (by omega) hlo (by rw [← hP.cnt]; exact hql)
  have hover : fitsC nb fr bl Us.length ms ≠ 0 := by
    refine hP.over ha1 (by omega) ⟨_, ?_, rfl⟩
    rw [hms, List.map_append]
    have e : ∀ l : List Pm, l.map Pm.at_ = (l.map Pm.say).map Prod.fst := fun l => by rw [List.map_map]; rfl
    rw [e qs2, hs2, ← e]
    rfl
  have h1 := act_append hWD6 0 0 0 (some ⟨g4, 0, none⟩) cap4 ms hrdm (by omega) (fun p hp => by
    rw [hms] at hp
    rcases List.mem_append.1 hp with hp | hp
    · have hm : p.say ∈ qs.map Pm.say := by rw [← hs2]; exact List.mem_map_of_mem hp
      obtain ⟨pp, hpm, he⟩ := List.mem_map.1 hm
      have h2 : pp.data = p.data := congrArg Prod.snd he
      have := (hP.el pp hpm).2.1
      exact ⟨by rw [← h2]; omega, hcap2 p hp⟩
    · simp only [List.mem_singleton] at hp
      subst hp
      exact ⟨by show (z7).length ≤ 16777216; omega, by simp⟩)
  rw [hml] at h1
  refine Calls.mono h1 ?_
  rintro e w7 ⟨rfl, b67, W7, Us7, hWD7, hW7, hcase⟩
  have hU7 : Us7 = Us := by
    rcases hcase with ⟨hz, _⟩ | ⟨_, hz⟩
    · exact absurd hz hover
    · exact hz
  subst hU7
  -- as many as may be
  have s6 := bt6.size
  have s7 := b67.size
  have hP7 : RdP W7 w7 fa qs := by
    have bC6 : But W wt w7 := (((But.of_below bA' (X := W)).comp (But.of_below b7 (X := fun _ => False)) (fun _ _ q => q.elim)).comp bt6 (fun k hk q => by omega)).comp b67 (fun k _ q => q)
    exact (hP.rd hnW).but bC6 (fun _ _ q => q) _ (fun k hk q => hW7 k (by omega) q)
  have hfit7 : fitsC nb fr bl Us7.length qs = 0 := hP.fits (nb := nb) (by omega) (by omega) (by omega)
  have h2 := act_append hWD7 0 0 0 fa fc qs hP7 (by omega) (fun p hp => by
    obtain ⟨_, q2, _, b, q4, _⟩ := hP.el p hp
    exact ⟨by omega, fun e => by rw [q4] at e; cases e⟩)
  rw [hql] at h2
  refine ⟨rfl, Calls.mono h2 ?_⟩
  rintro e w9 ⟨rfl, b79, W9, Us9, hWD9, hW9, hcase9⟩
  have s9 := b79.size
  obtain ⟨qs9, rfl, _⟩ : ∃ qs9, Us9 = Us7 ++ [qs9] ∧ qs9.map Pm.say = qs.map Pm.say := by
    rcases hcase9 with ⟨_, hz⟩ | ⟨hz, _⟩
    · exact hz
    · exact absurd hfit7 hz
  obtain ⟨_, _, j, g', ta, tc, _, _, k3, c3, _⟩ := hWD9.looks (by omega)
  have hl9 : (Us7 ++ [qs9]).length = i + 1 := by rw [List.length_append, hUs]; rfl
  rw [hl9] at c3
  have hB7 : ∀ k, W7 k → B5 ≤ k := fun k q => by
    rcases Nat.lt_or_ge k w6.heap.size with hk | hk
    · exact hWB k (hW7 k hk q)
    · omega
  have hB9 : ∀ k, W9 k → B5 ≤ k := fun k q => by
    rcases Nat.lt_or_ge k w7.heap.size with hk | hk
    · exact hB7 k (hW9 k hk q)
    · omega
  refine ⟨rfl, g', ta, tc, k3, c3, fun mask => Calls.mono (hWD9.probes mask) ?_⟩
  rintro e wZ ⟨rfl, bZ⟩
  refine ⟨rfl, W9, _, hWD9.below bZ, hl9, hB9, ?_⟩
  rw [hB5] at h58
  have c1 : But (fun k => B5 ≤ k) w5 w8 := But.of_below h58
  have c2 := c1.comp (But.of_below b86 (X := fun _ => False)) (fun _ _ q => q.elim)
  have c3' := c2.comp b67 (fun k _ q => hWB k q)
  have c4 := c3'.comp b79 (fun k _ q => hB7 k q)
  have c5 := c4.comp (But.of_below bZ (X := fun _ => False)) (fun _ _ q => q.elim)
  exact c5.below (by omega) (fun k hk q => by omega)
set_option maxRecDepth 100000 in
set_option maxHeartbeats 8000000 in
theorem room_law (ha : Option Addr) (hn hcp : Nat) (frI blI rmI times mask : Int) (w : World) : Calls Tryz.prog 5 #[.agg #[.slice ha hn hcp, .int .i64 frI, .int .i64 blI, .int .i64 rmI], .int .i64 times, .int .u64 mask] w fun e w' => e = .returned (.bool true) ∧ Below w.heap.size w w' := by
  obtain ⟨i68, hi68, hz68, hs68, hb68⟩ := info_parts info68
  obtain ⟨pk, hpk⟩ : ∃ pk, pk = w.heap.size := ⟨_, rfl⟩
  obtain ⟨w0, hw0⟩ : ∃ w0, w0 = w.alloc (.cells #[.slice ha hn hcp, .int .i64 frI, .int .i64 blI, .int .i64 rmI] 24) := ⟨_, rfl⟩
  have b0 : Below w.heap.size w w0 := by rw [hw0]; exact (Below.refl _ _).alloc (Nat.le_refl _) _
  have P0 : Pk w0 pk (.slice ha hn hcp) (.int .i64 frI) (.int .i64 blI) (.int .i64 rmI) := ⟨by rw [hw0, hpk]; exact Array.getElem?_push_size⟩
  have HW0 := hid hw0
  have HPK := hid hpk
  have HB0 := hid b0
  have hp0 := P0.lt
  have HP0 := hid P0
  have HLow := hid low_any
  have HBlk := hid Block_any
  have HNm := hid (num_any 0)
  clear hw0 hpk b0 P0
  go_enter Tryz.func5, Tryz.ntmps5
  go_wp2_with fail
  rw [← HW0.out, ← HPK.out]
  refine Calls.mono (lives_any w0) ?_
  rintro e w1 ⟨rfl, b1⟩
  have P1 := HP0.out.keep (b1.block pk hp0)
  have c1 : w1.cell? ⟨pk, 1, none⟩ = some (.int .i64 frI) := P1.cell 1
  have c2 : w1.cell? ⟨pk, 2, none⟩ = some (.int .i64 blI) := P1.cell 2
  have f2 := P1.frozen 2
  have HP1 := hid P1
  have HB1 := hid b1
  clear P1 b1 HP0 HW0
  go_wp2_with fail
  refine Calls.mono (HLow.out blI w1) ?_
  rintro e w9 ⟨y1, rfl, hy1, hw9, hye⟩
  clear hye
  rw [hw9]
  clear hw9
  obtain ⟨r1, hr1⟩ : ∃ r1 : Nat, r1 = y1 % 64 := ⟨_, rfl⟩
  have tA1 : (y1 : Int).tmod 64 = (r1 : Int) := by rw [Int.tmod_eq_emod_of_nonneg (by omega)]; omega
  have tA2 : (y1 : Int) % 64 = (r1 : Int) := by omega
  have wA1 : IntKind.i64.wrap (r1 : Int) = (r1 : Int) := by rw [IntKind.wrap_i64]; omega
  obtain ⟨bl, hbl⟩ : ∃ bl : Nat, bl = 16 + r1 := ⟨_, rfl⟩
  have aA1 : 16 + (r1 : Int) = (bl : Int) := by omega
  have wA2 : IntKind.i64.wrap (bl : Int) = (bl : Int) := by rw [IntKind.wrap_i64]; omega
  have hlo : 16 ≤ bl := by omega
  have hhi : bl ≤ 79 := by omega
  have HBL := hid (And.intro hlo hhi)
  obtain ⟨w2, hw2⟩ : ∃ w2, w2 = w1.setCell ⟨pk, 2, none⟩ (.int .i64 (bl : Int)) := ⟨_, rfl⟩
  have P2 : Pk w2 pk (.slice ha hn hcp) (.int .i64 frI) (.int .i64 (bl : Int)) (.int .i64 rmI) := ⟨by rw [hw2, HP1.out.set]; rfl⟩
  have HW2 := hid hw2
  clear hr1 hbl hlo hhi hy1 hw2
  go_wp2_with fail
  rw [← HW2.out]
  refine Calls.mono (HLow.out frI w2) ?_
  rintro e w9 ⟨y2, rfl, hy2, hw9, hye⟩
  clear hye
  rw [hw9]
  clear hw9 c1 c2 f2 tA1 tA2 wA1 aA1 wA2
  have c1 : w2.cell? ⟨pk, 1, none⟩ = some (.int .i64 frI) := P2.cell 1
  have c2 : w2.cell? ⟨pk, 2, none⟩ = some (.int .i64 (bl : Int)) := P2.cell 2
  have f1 := P2.frozen 1
  obtain ⟨fr, hfr⟩ : ∃ fr : Nat, fr = y2 % 40 := ⟨_, rfl⟩
  have tA1 : (y2 : Int).tmod 40 = (fr : Int) := by rw [Int.tmod_eq_emod_of_nonneg (by omega)]; omega
  have tA2 : (y2 : Int) % 40 = (fr : Int) := by omega
  have hfr2 : fr < 40 := by omega
  have wA1 : IntKind.i64.wrap (fr : Int) = (fr : Int) := by rw [IntKind.wrap_i64]; omega
  have HFR := hid hfr2
  obtain ⟨w3, hw3⟩ : ∃ w3, w3 = w2.setCell ⟨pk, 1, none⟩ (.int .i64 (fr : Int)) := ⟨_, rfl⟩
  have P3 : Pk w3 pk (.slice ha hn hcp) (.int .i64 (fr : Int)) (.int .i64 (bl : Int)) (.int .i64 rmI) := ⟨by rw [hw3, P2.set]; rfl⟩
  obtain ⟨b2, hb2⟩ : ∃ b2 : Nat, b2 = 2 * bl := ⟨_, rfl⟩
  obtain ⟨s1, hs1⟩ : ∃ s1 : Nat, s1 = fr + b2 := ⟨_, rfl⟩
  obtain ⟨nb, hnb⟩ : ∃ nb : Nat, nb = s1 + 8 := ⟨_, rfl⟩
  obtain ⟨L, hL⟩ : ∃ L : Nat, L = nb * 512 := ⟨_, rfl⟩
  have hbl9 := HBL.out
  have A1 : 2 * (bl : Int) = (b2 : Int) := by omega
  have A2 : (fr : Int) + (b2 : Int) = (s1 : Int) := by omega
  have A3 : (s1 : Int) + 8 = (nb : Int) := by omega
  have A4 : (nb : Int) * 512 = (L : Int) := by omega
  have W1 : IntKind.i64.wrap (b2 : Int) = (b2 : Int) := by rw [IntKind.wrap_i64]; omega
  have W2 : IntKind.i64.wrap (s1 : Int) = (s1 : Int) := by rw [IntKind.wrap_i64]; omega
  have W3 : IntKind.i64.wrap (nb : Int) = (nb : Int) := by rw [IntKind.wrap_i64]; omega
  have W4 : IntKind.i64.wrap (L : Int) = (L : Int) := by rw [IntKind.wrap_i64]; omega
  have hmk := make_u8 L (by omega) w3
  obtain ⟨w4, hw4⟩ : ∃ w4, w4 = w3.alloc (.cells ((zeros L).map (Value.int .u8)).toArray 5) := ⟨_, rfl⟩
  rw [← hw4] at hmk
  obtain ⟨hk, hhk⟩ : ∃ hk, hk = w3.heap.size := ⟨_, rfl⟩
  rw [← hhk] at hmk
  have hmk3 := hmk
  rw [hw3] at hmk3
  clear hmk
  have P4 : Pk w4 pk (.slice ha hn hcp) (.int .i64 (fr : Int)) (.int .i64 (bl : Int)) (.int .i64 rmI) := P3.keep (by rw [hw4]; exact Below.heap_alloc _ _ _ P3.lt)
  obtain ⟨w5, hw5⟩ : ∃ w5, w5 = w4.setCell ⟨pk, 0, none⟩ (.slice (some ⟨hk, 0, none⟩) L L) := ⟨_, rfl⟩
  have P5 : Pk w5 pk (.slice (some ⟨hk, 0, none⟩) L L) (.int .i64 (fr : Int)) (.int .i64 (bl : Int)) (.int .i64 rmI) := ⟨by rw [hw5, P4.set]; rfl⟩
  have q0 : w4.cell? ⟨pk, 0, none⟩ = some (.slice ha hn hcp) := P4.cell 0
  have q0f := P4.frozen 0
  have q1 : w4.cell? ⟨pk, 1, none⟩ = some (.int .i64 (fr : Int)) := P4.cell 1
  have q2 : w4.cell? ⟨pk, 2, none⟩ = some (.int .i64 (bl : Int)) := P4.cell 2
  have q3 : w4.cell? ⟨pk, 3, none⟩ = some (.int .i64 rmI) := P4.cell 3
  have HNB : Hid (nb = fr + 2 * bl + 8 ∧ L = 512 * nb) := ⟨by omega, by omega⟩
  have hkp : hk ≠ pk := by have := P3.lt; omega
  have hblk5 : Blk .u8 5 w5 hk (zeros L) := by
    have h4 : Blk .u8 5 w4 hk (zeros L) := by rw [hw4, hhk]; exact Array.getElem?_push_size
    rw [hw5]
    exact h4.of_block (Below.heap_setCell _ _ _ _ hkp)
  have HBg : Hid (Calls Tryz.prog 10 #[.agg #[.slice (some ⟨hk, 0, none⟩) L L, .int .i64 (fr : Int), .int .i64 (bl : Int), .int .i64 rmI]] w5 fun e w' => ∃ wb room W, e = .returned (.tuple #[.pointer (some ⟨wb, 0, none⟩), .bool true]) ∧ WD W w' wb room nb fr bl 0 0 (zeros L) [] ∧ (∀ k, W k → w5.heap.size ≤ k) ∧ Below w5.heap.size w5 w') := by
    rw [HNB.out.2]
    rw [HNB.out.2] at hblk5
    exact begun_ok (some ⟨hk, 0, none⟩) (512 * nb) (zeros (512 * nb)) nb fr bl rmI (by omega) (by omega) (by omega) (by omega) (by simp) ⟨length_zeros _, isB_zeros _, .inr ⟨hk, 0, rfl, hblk5.lt, fun t ht => by rw [Nat.zero_add]; exact hblk5.cell t (by rw [length_zeros]; exact ht)⟩⟩
  have HB5 : Hid (Below w.heap.size w w5) := by
    have hpw := HPK.out
    have e1 : But (fun k => k = pk) w0 w5 := by
      rw [hw5, hw4, hw3, HW2.out]
      exact ((((But.of_below HB1.out (X := fun k => k = pk)).setCell rfl _).setCell rfl _).alloc _).setCell rfl _
    exact ((But.of_below HB0.out (X := fun k => w.heap.size ≤ k)).comp e1 (fun k hk q => by omega)).below (Nat.le_refl _) (fun k hk q => by omega)
  have HP5 := hid P5
  have HW3 := hid hw3
  have HW5 := hid hw5
  clear hfr hb2 hs1 hnb hL hw3 hw4 hw5 hhk P2 P3 P4 P5 hblk5 hkp hfr2 hbl9 hy2 HB1 HB0 HP1
  go_wp2_with fail
  rw [← HW5.out]
  refine Calls.mono HBg.out ?_
  rintro e w6 ⟨wb, room, W0, rfl, hWD0, hWB0, b6⟩
  have d2 : w6.cell? ⟨pk, 2, none⟩ = some (.int .i64 (bl : Int)) := (HP5.out.keep (b6.block pk HP5.out.lt)).cell 2
  have HK6 := hid (And.intro hWD0 (And.intro hWB0 b6))
  obtain ⟨mo, hmo⟩ : ∃ mo : Nat, mo = bl / 2 - 4 := ⟨_, rfl⟩
  have HMo : Hid (Calls Tryz.prog 18 #[.int .i64 (bl : Int)] w6 fun e w' => e = .returned (.tuple #[.int .i64 (mo : Int), .int .i64 0]) ∧ Below w6.heap.size w6 w') := by
    have hb9 := HBL.out
    have h := jMost_any (bl : Int) w6
    have e1 : mostC (bl : Int) = 0 := by unfold mostC; rw [if_neg (by omega)]
    have e2 : (if (bl : Int) < 16 ∨ 524288 < (bl : Int) then 0 else (bl : Int) / 2 - 4) = (mo : Int) := by rw [if_neg (by omega)]; omega
    rw [e1, e2] at h
    exact h
  have HMV := hid hmo
  clear hWD0 hWB0 b6 hmo HBg hmk3 q0 q0f q1 q2 q3 c1 c2 f1 tA1 tA2 wA1 A1 A2 A3 A4 W1 W2 W3 W4 HW2 HW3 HW5
  go_wp2_with fail
  refine Calls.mono HMo.out ?_
  rintro e w7 ⟨rfl, b7⟩
  obtain ⟨B5, hB5⟩ : ∃ B5, B5 = w5.heap.size := ⟨_, rfl⟩
  have HB := hid hB5
  have H7 : Hid (WD W0 w7 wb room nb fr bl 0 0 (zeros L) [] ∧ (∀ k, W0 k → B5 ≤ k) ∧ Below B5 w5 w7) := by
    rw [hB5]
    exact ⟨HK6.out.1.below b7, HK6.out.2.1, HK6.out.2.2.trans (b7.mono HK6.out.2.2.size)⟩
  clear b7 HMo HK6 d2 hB5
  go_wp2_with fail
  refine Calls.mono (HNm.out w7) ?_
  rintro e w9 ⟨rfl, hw9⟩
  rw [hw9]
  clear hw9
  obtain ⟨y0, hy0⟩ : ∃ y0 : Nat, (y0 : Int) = times % 9223372036854775808 := ⟨(times % 9223372036854775808).toNat, by omega⟩
  obtain ⟨r12, hr12⟩ : ∃ r12 : Nat, r12 = y0 % 12 := ⟨_, rfl⟩
  have hy0l : (y0 : Int) ≤ 9223372036854775807 := by omega
  have tB1 : (y0 : Int).tmod 12 = (r12 : Int) := by rw [Int.tmod_eq_emod_of_nonneg (by omega)]; omega
  have tB2 : (y0 : Int) % 12 = (r12 : Int) := by omega
  obtain ⟨R, hR⟩ : ∃ R : Nat, R = 1 + r12 := ⟨_, rfl⟩
  have tB3 : 1 + (r12 : Int) = (R : Int) := by omega
  have wB1 : IntKind.i64.wrap (r12 : Int) = (r12 : Int) := by rw [IntKind.wrap_i64]; omega
  have wB2 : IntKind.i64.wrap (R : Int) = (R : Int) := by rw [IntKind.wrap_i64]; omega
  have HR12 : Hid (R ≤ 12) := by show R ≤ 12; omega
  have HY0 := hid hy0
  clear hy0 hr12 hR hy0l
  go_wp2_with fail
  go_loopw [11] (fun iv wr => ∃ (i : Nat) (W : Nat → Prop) (Us : List (List Pm)), i ≤ R ∧ iv = .int .i64 (i : Int) ∧ WD W wr wb room nb fr bl 0 0 (zeros L) Us ∧ Us.length = i ∧ (∀ k, W k → B5 ≤ k) ∧ Below B5 w5 wr) (fun iv _ => R - (intOf iv).toNat)
  case atStart => exact ⟨0, W0, [], Nat.zero_le _, rfl, H7.out.1, rfl, H7.out.2.1, H7.out.2.2⟩
  case round =>
    clear H7
    obtain ⟨i, W, Us, hiR, rfl, hWD, hUl, hWB, hb5⟩ := hrel
    obtain ⟨w8, hw8⟩ : ∃ w8, w8 = wr := ⟨_, rfl⟩
    subst hw8
    obtain ⟨hnb9, hwlt, j, g, ta, tc, hgl, k2, k3, c3, hDk, hAt, hHo⟩ := hWD.looks (by have := HNB.out; have := HBL.out; have := HFR.out; omega)
    have HWD := hid (And.intro hWD (And.intro hUl (And.intro hWB hb5)))
    have HDk := hid hDk
    have HAt := hid hAt
    have HHo0 := hid hHo
    clear hWD hUl hWB hb5 hDk hAt hHo
    go_wp2_with fail
    refine Calls.mono (HLow.out times w8) ?_
    rintro e w9 ⟨y, rfl, hy, hw9, hye⟩
    rw [hw9]
    have hyy : y = y0 := by have := HY0.out; omega
    subst hyy
    clear hw9 hye
    by_cases hi : i < R
    · have hi' : (i : Int) < (R : Int) := by omega
      go_wp2_with fail
      go_loopw [12, 13] (fun ov av wt => ∃ (a : Nat) (fa : Option Addr) (fc : Nat) (qs : List Pm), a ≤ nb ∧ av = .int .i64 (a : Int) ∧ ov = .slice fa qs.length fc ∧ qs.length ≤ mo ∧ Pq w8.heap.size w8 wt fr bl a fa fc qs) (fun _ av _ => nb - (intOf av).toNat)
      case atStart => exact ⟨0, none, 0, [], Nat.zero_le _, rfl, rfl, Nat.zero_le _, ⟨World.ownsRow_nil _ _ _ _, by simp [cntH], by simp, (fun p hp => by cases hp), Below.refl _ _⟩⟩
      case round =>
        obtain ⟨a, fa, fc, qs, han, rfl, rfl, hqm, hP⟩ := hrel
        have m3 := (hP.bt.cell (p := ⟨wb, 3, none⟩) hwlt).trans k3
        have hst := hP.bt.size
        by_cases hq : qs.length < mo
        · have hq' : (qs.length : Int) < (mo : Int) := by omega
          have ha1 : a < nb - 1 := cntH_lt (m := mo) HNB.out.1 (by have := HMV.out; omega) han (by rw [← hP.cnt]; exact hq)
          have HA := hid (HAt.out wr (a : Int) hP.bt)
          have HP := hid hP
          rcases homeC_cases nb fr bl (a : Int) with hh | hh
          · have hl : fr ≤ a ∧ a < fr + bl := by
              unfold homeC at hh
              split at hh
              · omega
              · cases hh
            rw [hh] at HA
            clear hP hh
            obtain ⟨qn, hqn⟩ : ∃ qn, qn = qs.length := ⟨_, rfl⟩
            rw [← hqn] at hq' hq hqm ⊢
            have HQN := hid hqn
            clear hqn
            go_wp2_with fail
            refine Calls.mono HA.out ?_
            rintro e w2 ⟨rfl, b2⟩
            have FIN := hid ((HP.out.low b2 hst).skip hl)
            clear b2 HA HP hl
            go_wp2_with fail
            go_roundw
            case rel => exact ⟨a + 1, fa, fc, qs, by omega, by go_num, by rw [← HQN.out], by have := HQN.out; omega, FIN.out⟩
            case measure => simp [intOf]; omega
          · have hl : ¬ (fr ≤ a ∧ a < fr + bl) := fun q => by
              unfold homeC at hh
              rw [if_pos (by omega)] at hh
              cases hh
            rw [hh] at HA
            clear hP hh
            obtain ⟨qn, hqn⟩ : ∃ qn, qn = qs.length := ⟨_, rfl⟩
            rw [← hqn] at hq' hq hqm ⊢
            have HQN := hid hqn
            clear hqn
            go_wp2_with fail
            refine Calls.mono HA.out ?_
            rintro e w2 ⟨rfl, b2⟩
            have HP2 := hid (HP.out.low b2 hst)
            have hs2 := b2.size
            have hmo9 : mo ≤ 40 := by have := HMV.out; have := HBL.out; omega
            clear b2 HA HP
            go_wp2_with fail
            refine Calls.mono (HBlk.out _ w2) ?_
            rintro e w3 ⟨g1, rfl, hg1, k1, b3⟩
            have hs3 := b3.size
            have HRow := hid (owns_below (owns_below HP2.out.row b3) ((Below.refl w3.heap.size w3).alloc (Nat.le_refl _) (.cells #[.int .i64 (a : Int), .slice (some ⟨g1, 0, none⟩) 512 512] 68)))
            rw [← HQN.out] at HRow
            have HK3 := hid (And.intro hg1 (And.intro k1 b3))
            clear hg1 k1 b3
            go_wp2_with (at_builtin; go_loud (refine wpList_append_lies _ rfl _ _ _ rfl w8.heap.size 68 i68 (.agg #[.int .i64 0, .slice none 0 0]) 2 32 Tryz.underlying30 hi68 hz68 hs68 hb68 rfl (by decide) _ qn _ rfl (by exact HRow.out) ⟨w3.heap.size, 0, none⟩ 1 1 [.int .i64 (a : Int), .slice (some ⟨g1, 0, none⟩) 512 512] rfl rfl (by exact news2 w3 _ _ _) (by intro u hu; simp at hu; rcases hu with rfl | rfl <;> rfl) (by decide) (by unfold maxLen; omega) (by omega) (by simp; omega) (w3.heap.size + 1) (by simp) ?_; intro g4 cap4 w6 ho4 hg4 hlie4 _; have HO4 := hid (And.intro ho4 (And.intro hg4 hlie4)); clear ho4 hg4 hlie4))
            have FIN : Hid (∃ qs', qs'.length = qn + 1 ∧ Pq w8.heap.size w8 w6 fr bl (a + 1) (some ⟨g4, 0, none⟩) cap4 qs') := by
              obtain ⟨o1, o2, o3⟩ := HO4.out
              rw [HQN.out] at o1 o2 o3
              exact ⟨_, by simp [HQN.out], HP2.out.next rfl hl (length_blkZ _) (isB_blkZ _) HK3.out.2.2 HK3.out.1 HK3.out.2.1 o1 o2 o3⟩
            obtain ⟨qs', hql', hPF⟩ := FIN.out
            have FIN2 := hid (And.intro hql' hPF)
            clear HO4 HRow HP2 HK3 FIN hql' hPF hl
            go_roundw
            case rel => exact ⟨a + 1, some ⟨g4, 0, none⟩, cap4, qs', by omega, by go_num, by rw [FIN2.out.1], by have := FIN2.out.1; omega, FIN2.out.2⟩
            case measure => simp [intOf]; omega
        · have hqe : qs.length = mo := by omega
          have hq' : ¬ (mo : Int) < (mo : Int) := by omega
          rw [hqe]
          obtain ⟨nb1, hnb1⟩ : ∃ nb1 : Nat, nb1 = nb - 1 := ⟨_, rfl⟩
          have hnbv := HNB.out
          have hbl9 := HBL.out
          have A5 : (nb : Int) - 1 = (nb1 : Int) := by omega
          have W5 : IntKind.i64.wrap (nb1 : Int) = (nb1 : Int) := by rw [IntKind.wrap_i64]; omega
          have HM := hid (room_round HWD.out.1 HWD.out.2.1 (by have := HR12.out; omega) HB.out HWD.out.2.2.1 HWD.out.2.2.2 HNB.out.1 HMV.out hbl9.1 hbl9.2 (fun w' hb => (hb.cell (p := ⟨wb, 3, none⟩) hwlt).trans k3) HDk.out hP hqe)
          rw [← hnb1] at HM
          have hmo9 : mo ≤ 40 := by have := HMV.out; omega
          clear hP hnb1 hqe hqm hq HWD HAt HDk HHo0 HNB HBL hnbv hbl9 han k2 k3 c3
          go_wp2_with fail
          refine wp_region_noPanic ?_
          refine wp_region_held_drew (S := fun w' => w'.cell? ⟨wb, 3, none⟩ = some (.pointer (some ⟨g, 0, none⟩))) (by kernel_rfl) m3 (fun hSS => ?_)
          refine wpAnyH_take (i := 0) (oi := ({ dst := some 91, op := Op.move (Operand.tmp 12), type := 30, pos := _, after := _, guard := none } : Oper)) (v := ?_) rfl (by kernel_rfl) (by kernel_rfl) (by kernel_rfl) (fun _ _ _ h => h) (Or.inl ⟨by rfl, ?_⟩) hSS ?_
          rotate_left
          · intro w9 hSw
            (try dsimp only at hSw)
            (try go_split_ands)
            first | (go_simp; done) | (go_simp; with_reducible rfl)
          try simp only [Act.put, List.setIfInBounds_toArray, List.set_cons_zero, List.set_cons_succ]
          refine wpAnyH_take (i := 2) (oi := ({ dst := some 93, op := Op.move (Operand.tmp 7), type := 27, pos := _, after := _, guard := none } : Oper)) (v := ?_) rfl (by kernel_rfl) (by kernel_rfl) (by kernel_rfl) (fun _ _ _ h => h) (Or.inl ⟨by rfl, ?_⟩) hSS ?_
          rotate_left
          · intro w9 hSw
            (try dsimp only at hSw)
            (try go_split_ands)
            first | (go_simp; done) | (go_simp; with_reducible rfl)
          try simp only [Act.put, List.setIfInBounds_toArray, List.set_cons_zero, List.set_cons_succ]
          refine wpAnyH_take (i := 3) (oi := ({ dst := some 94, op := Op.nilCheck (Operand.tmp 93), type := 0, pos := _, after := _, guard := none } : Oper)) (v := ?_) rfl (by kernel_rfl) (by kernel_rfl) (by kernel_rfl) (fun _ _ _ h => h) (Or.inl ⟨by rfl, ?_⟩) hSS ?_
          rotate_left
          · intro w9 hSw
            (try dsimp only at hSw)
            (try go_split_ands)
            first | (go_simp; done) | (go_simp; with_reducible rfl)
          try simp only [Act.put, List.setIfInBounds_toArray, List.set_cons_zero, List.set_cons_succ]
          refine wpAnyH_take (i := 4) (oi := ({ dst := some 95, op := Op.fieldAddr 45 (Operand.tmp 94) 3, type := 0, pos := _, after := _, guard := none } : Oper)) (v := ?_) rfl (by kernel_rfl) (by kernel_rfl) (by kernel_rfl) (fun _ _ _ h => h) (Or.inl ⟨by rfl, ?_⟩) hSS ?_
          rotate_left
          · intro w9 hSw
            (try dsimp only at hSw)
            (try go_split_ands)
            first | (go_simp; done) | (go_simp; with_reducible rfl)
          try simp only [Act.put, List.setIfInBounds_toArray, List.set_cons_zero, List.set_cons_succ]
          refine wpAnyH_take (i := 5) (oi := ({ dst := some 96, op := Op.load 40 (Operand.tmp 95), type := 40, pos := _, after := _, guard := none } : Oper)) (v := ?_) rfl (by kernel_rfl) (by kernel_rfl) (by kernel_rfl) (fun _ _ _ h => h) (Or.inl ⟨by rfl, ?_⟩) hSS ?_
          rotate_left
          · intro w9 hSw
            (try dsimp only at hSw)
            (try go_split_ands)
            first | (go_simp; done) | (go_simp; with_reducible rfl)
          try simp only [Act.put, List.setIfInBounds_toArray, List.set_cons_zero, List.set_cons_succ]
          refine wpAnyH_ready (rs := [1]) (by kernel_rfl) (by simp) (AllReadyH.cons (o := ({ dst := some 92, op := Op.call { callee := Callee.value (Operand.func 33), args := #[Operand.tmp 91], argTypes := #[30] }, type := 30, pos := _, after := _, guard := none } : Oper)) rfl (fun K9 hK9 => ?_) AllReadyH.nil)
          go_simp
          go_at_call 33
          refine Calls.mono HM.out ?_
          rintro e wA ⟨gq, cq, rfl, a3, hA⟩
          have HA := hid hA
          clear hA HM
          refine hK9.out _ _ a3 (fun hSS => ?_)
          clear hK9 K9
          try simp only [Act.put, List.setIfInBounds_toArray, List.set_cons_zero, List.set_cons_succ]
          refine wpAnyH_ready (rs := [6]) (by kernel_rfl) (by simp) (AllReadyH.cons (o := ({ dst := some 97, op := Op.call { callee := Callee.value (Operand.func 14), args := #[Operand.tmp 96], argTypes := #[40] }, type := 3, pos := _, after := _, guard := none } : Oper)) rfl (fun K9 hK9 => ?_) AllReadyH.nil)
          go_simp
          go_at_call 14
          refine Calls.mono HA.out.1 ?_
          rintro e wB ⟨rfl, hwB⟩
          rw [hwB]
          clear hwB
          refine hK9.out _ _ hSS (fun hSS => ?_)
          clear hK9 K9
          try simp only [Act.put, List.setIfInBounds_toArray, List.set_cons_zero, List.set_cons_succ]
          refine wpAnyH_take (i := 7) (oi := ({ dst := some 98, op := Op.binOp BinOp.sub 3 (Operand.tmp 97) (Operand.const (Value.int IntKind.i64 1)) 3, type := 3, pos := _, after := _, guard := none } : Oper)) (v := ?_) rfl (by kernel_rfl) (by kernel_rfl) (by kernel_rfl) (fun _ _ _ h => h) (Or.inl ⟨by rfl, ?_⟩) hSS ?_
          rotate_left
          · intro w9 hSw
            (try dsimp only at hSw)
            (try go_split_ands)
            first | (go_simp; done) | (go_simp; with_reducible rfl)
          try simp only [Act.put, List.setIfInBounds_toArray, List.set_cons_zero, List.set_cons_succ]
          refine wpAnyH_ready (rs := [8]) (by kernel_rfl) (by simp) (AllReadyH.cons (o := ({ dst := some 99, op := Op.call { callee := Callee.value (Operand.func 32), args := #[Operand.const (Value.int IntKind.i64 7)], argTypes := #[3] }, type := 22, pos := _, after := _, guard := none } : Oper)) rfl (fun K9 hK9 => ?_) AllReadyH.nil)
          go_simp
          go_at_call 32
          refine Calls.mono (HBlk.out 7 wA) ?_
          rintro e wC ⟨g7, rfl, hg7, k7, b7⟩
          obtain ⟨c3', xs7, hrow7, hn7⟩ := HA.out.2 wC g7 hg7 k7 b7
          have HR7 := hid hrow7
          have HN7 := hid hn7
          have hwlC : wb < wC.heap.size := (by have h9 := World.block_lt_of_cell? wC ⟨wb, 3, none⟩ c3'; exact h9)
          clear hrow7 hn7 HA hg7 k7 b7
          refine hK9.out _ _ c3' (fun hSS => ?_)
          clear hK9 K9
          try simp only [Act.put, List.setIfInBounds_toArray, List.set_cons_zero, List.set_cons_succ]
          refine wpAnyH_take (i := 9) (oi := ({ dst := some 100, op := Op.build 68 #[(0, Operand.tmp 98), (1, Operand.tmp 99)], type := 68, pos := _, after := _, guard := none } : Oper)) (v := ?_) rfl (by kernel_rfl) (by kernel_rfl) (by kernel_rfl) (fun _ _ _ h => h) (Or.inl ⟨by rfl, ?_⟩) hSS ?_
          rotate_left
          · intro w9 hSw
            (try dsimp only at hSw)
            (try go_split_ands)
            first | (go_simp; done) | (go_simp; with_reducible rfl)
          try simp only [Act.put, List.setIfInBounds_toArray, List.set_cons_zero, List.set_cons_succ]
          refine wpAnyH_ready (rs := [10]) (by kernel_rfl) (by simp) (AllReadyH.cons (o := ({ dst := some 101, op := Op.buildSlice 30 1 #[(0, Operand.tmp 100)], type := 30, pos := _, after := _, guard := none } : Oper)) rfl (fun K9 hK9 => ?_) AllReadyH.nil)
          go_simp
          refine hK9.out _ _ ((World.cell?_alloc_past _ _ _ hwlC).trans c3') (fun hSS => ?_)
          clear hK9 K9
          try simp only [Act.put, List.setIfInBounds_toArray, List.set_cons_zero, List.set_cons_succ]
          refine wpAnyH_ready (rs := [11]) (by kernel_rfl) (by simp) (AllReadyH.cons (o := ({ dst := some 102, op := Op.call { callee := Callee.builtin Builtin.append, args := #[Operand.tmp 92, Operand.tmp 101], argTypes := #[30, 30] }, type := 30, pos := _, after := _, guard := none } : Oper)) rfl (fun K9 hK9 => ?_) AllReadyH.nil)
          refine step_append_lies _ (by rfl) _ _ _ (by rfl) 0 68 i68 (.agg #[.int .i64 0, .slice none 0 0]) 2 32 Tryz.underlying30 hi68 hz68 hs68 hb68 rfl (by decide) _ mo _ (by rfl) (by exact HR7.out) ⟨wC.heap.size, 0, none⟩ 1 1 [.int .i64 (nb1 : Int), .slice (some ⟨g7, 0, none⟩) 512 512] (by rfl) (by rfl) (by exact news2 wC _ _ _) (by intro u hu; simp at hu; rcases hu with rfl | rfl <;> rfl) (by decide) (by unfold maxLen; omega) (by omega) (by simp) (wC.heap.size + 1) (by simp) ?_
          intro g4 cap4 w6 ho4 hg4 hlie4 _
          obtain ⟨d3, hact⟩ := HN7.out g4 cap4 w6 ho4 hg4 hlie4
          have HACT := hid hact
          clear ho4 hg4 hlie4 hact HN7 HR7
          dsimp [Act.put]
          refine hK9.out _ _ d3 (fun hSS => ?_)
          clear hK9 K9
          try simp only [List.setIfInBounds_toArray, List.set_cons_zero, List.set_cons_succ]
          refine wpAnyH_take (i := 12) (oi := ({ dst := some 14, op := Op.assign (Operand.tmp 102), type := 30, pos := _, after := _, guard := none } : Oper)) (v := ?_) rfl (by kernel_rfl) (by kernel_rfl) (by kernel_rfl) (fun _ _ _ h => h) (Or.inl ⟨by rfl, ?_⟩) hSS ?_
          rotate_left
          · intro w9 hSw
            (try dsimp only at hSw)
            (try go_split_ands)
            first | (go_simp; done) | (go_simp; with_reducible rfl)
          try simp only [Act.put, List.setIfInBounds_toArray, List.set_cons_zero, List.set_cons_succ]
          refine wpAnyH_done (by kernel_rfl) (NoPanic.normal ?_) _
          go_wp2_with fail
          refine Calls.mono HACT.out ?_
          rintro e w7 ⟨rfl, h2⟩
          have HAC2 := hid h2
          clear h2 HACT
          go_wp2_with fail
          refine Calls.mono HAC2.out ?_
          rintro e w9 ⟨rfl, g', ta', tc', k3', c3', hpr⟩
          obtain ⟨i1, hi1⟩ : ∃ i1 : Nat, i1 = i + 1 := ⟨_, rfl⟩
          rw [← hi1] at c3' hpr
          have hR12 := HR12.out
          have A6 : (i : Int) + 1 = (i1 : Int) := by omega
          have W6 : IntKind.i64.wrap (i1 : Int) = (i1 : Int) := by rw [IntKind.wrap_i64]; omega
          have HPr := hid hpr
          have HI1 := hid hi1
          clear hpr HAC2 d3 hi1 hR12
          go_wp2_with fail
          refine Calls.mono (HPr.out _) ?_
          rintro e wZ ⟨rfl, hF⟩
          have FIN := hid hF
          clear hF HPr k3' c3'
          go_wp2_with fail
          go_roundw
          case rel =>
            obtain ⟨W', Us', x1, x2, x3, x4⟩ := FIN.out
            exact ⟨i1, W', Us', by have := HI1.out; omega, by first | rfl | go_num, x1, x2, x3, x4⟩
          case measure => have := HI1.out; simp [intOf]; omega
    · have hi' : ¬ (i : Int) < (R : Int) := by omega
      have HHo : Hid (Calls Tryz.prog 34 #[.pointer (some ⟨j, 0, none⟩), .pointer (some ⟨g, 0, none⟩)] w8.drew fun e wH => e = .returned (.bool true) ∧ wH.cell? ⟨wb, 2, none⟩ = some (.pointer (some ⟨j, 0, none⟩)) ∧ wH.cell? ⟨wb, 3, none⟩ = some (.pointer (some ⟨g, 0, none⟩)) ∧ Below w.heap.size w wH) := by
        refine Calls.mono (HHo0.out w8.drew (Below.refl _ _).drew) ?_
        rintro e wH ⟨rfl, x2, x3, x4⟩
        refine ⟨rfl, x2, x3, ?_⟩
        obtain ⟨_, _, hWB, hb5⟩ := HWD.out
        have hB := HB.out
        have hs5 := HB5.out.size
        rw [hB] at hb5
        have e1 : But (fun k => w.heap.size ≤ k) w w5 := But.of_below HB5.out
        have e2 := e1.comp (But.of_below hb5 (X := fun _ => False)) (fun _ _ q => q.elim)
        have e3 := e2.comp x4 (fun k _ q => by have := hWB k q; omega)
        exact e3.below (Nat.le_refl _) (fun k hk q => by omega)
      clear HAt HDk HHo0 HWD c3
      go_wp2_with fail
      refine wp_region_held_drew (S := fun w' => w'.cell? ⟨wb, 2, none⟩ = some (.pointer (some ⟨j, 0, none⟩)) ∧ w'.cell? ⟨wb, 3, none⟩ = some (.pointer (some ⟨g, 0, none⟩))) (by kernel_rfl) ⟨k2, k3⟩ (fun hSS => ?_)
      refine wpAnyH_take (i := 0) (oi := ({ dst := some 137, op := Op.move (Operand.tmp 7), type := 27, pos := _, after := _, guard := none } : Oper)) (v := ?_) rfl (by kernel_rfl) (by kernel_rfl) (by kernel_rfl) (fun _ _ _ h => h) (Or.inl ⟨by rfl, ?_⟩) hSS ?_
      rotate_left
      · intro w9 hSw
        (try dsimp only at hSw)
        (try go_split_ands)
        first | (go_simp; done) | (go_simp; with_reducible rfl)
      try simp only [Act.put, List.setIfInBounds_toArray, List.set_cons_zero, List.set_cons_succ]
      refine wpAnyH_take (i := 1) (oi := ({ dst := some 138, op := Op.nilCheck (Operand.tmp 137), type := 0, pos := _, after := _, guard := none } : Oper)) (v := ?_) rfl (by kernel_rfl) (by kernel_rfl) (by kernel_rfl) (fun _ _ _ h => h) (Or.inl ⟨by rfl, ?_⟩) hSS ?_
      rotate_left
      · intro w9 hSw
        (try dsimp only at hSw)
        (try go_split_ands)
        first | (go_simp; done) | (go_simp; with_reducible rfl)
      try simp only [Act.put, List.setIfInBounds_toArray, List.set_cons_zero, List.set_cons_succ]
      refine wpAnyH_take (i := 2) (oi := ({ dst := some 139, op := Op.fieldAddr 45 (Operand.tmp 138) 2, type := 0, pos := _, after := _, guard := none } : Oper)) (v := ?_) rfl (by kernel_rfl) (by kernel_rfl) (by kernel_rfl) (fun _ _ _ h => h) (Or.inl ⟨by rfl, ?_⟩) hSS ?_
      rotate_left
      · intro w9 hSw
        (try dsimp only at hSw)
        (try go_split_ands)
        first | (go_simp; done) | (go_simp; with_reducible rfl)
      try simp only [Act.put, List.setIfInBounds_toArray, List.set_cons_zero, List.set_cons_succ]
      refine wpAnyH_take (i := 3) (oi := ({ dst := some 140, op := Op.load 39 (Operand.tmp 139), type := 39, pos := _, after := _, guard := none } : Oper)) (v := ?_) rfl (by kernel_rfl) (by kernel_rfl) (by kernel_rfl) (fun _ _ _ h => h) (Or.inl ⟨by rfl, ?_⟩) hSS ?_
      rotate_left
      · intro w9 hSw
        (try dsimp only at hSw)
        (try go_split_ands)
        first | (go_simp; done) | (go_simp; with_reducible rfl)
      try simp only [Act.put, List.setIfInBounds_toArray, List.set_cons_zero, List.set_cons_succ]
      refine wpAnyH_take (i := 4) (oi := ({ dst := some 141, op := Op.move (Operand.tmp 7), type := 27, pos := _, after := _, guard := none } : Oper)) (v := ?_) rfl (by kernel_rfl) (by kernel_rfl) (by kernel_rfl) (fun _ _ _ h => h) (Or.inl ⟨by rfl, ?_⟩) hSS ?_
      rotate_left
      · intro w9 hSw
        (try dsimp only at hSw)
        (try go_split_ands)
        first | (go_simp; done) | (go_simp; with_reducible rfl)
      try simp only [Act.put, List.setIfInBounds_toArray, List.set_cons_zero, List.set_cons_succ]
      refine wpAnyH_take (i := 5) (oi := ({ dst := some 142, op := Op.nilCheck (Operand.tmp 141), type := 0, pos := _, after := _, guard := none } : Oper)) (v := ?_) rfl (by kernel_rfl) (by kernel_rfl) (by kernel_rfl) (fun _ _ _ h => h) (Or.inl ⟨by rfl, ?_⟩) hSS ?_
      rotate_left
      · intro w9 hSw
        (try dsimp only at hSw)
        (try go_split_ands)
        first | (go_simp; done) | (go_simp; with_reducible rfl)
      try simp only [Act.put, List.setIfInBounds_toArray, List.set_cons_zero, List.set_cons_succ]
      refine wpAnyH_take (i := 6) (oi := ({ dst := some 143, op := Op.fieldAddr 45 (Operand.tmp 142) 3, type := 0, pos := _, after := _, guard := none } : Oper)) (v := ?_) rfl (by kernel_rfl) (by kernel_rfl) (by kernel_rfl) (fun _ _ _ h => h) (Or.inl ⟨by rfl, ?_⟩) hSS ?_
      rotate_left
      · intro w9 hSw
        (try dsimp only at hSw)
        (try go_split_ands)
        first | (go_simp; done) | (go_simp; with_reducible rfl)
      try simp only [Act.put, List.setIfInBounds_toArray, List.set_cons_zero, List.set_cons_succ]
      refine wpAnyH_take (i := 7) (oi := ({ dst := some 144, op := Op.load 40 (Operand.tmp 143), type := 40, pos := _, after := _, guard := none } : Oper)) (v := ?_) rfl (by kernel_rfl) (by kernel_rfl) (by kernel_rfl) (fun _ _ _ h => h) (Or.inl ⟨by rfl, ?_⟩) hSS ?_
      rotate_left
      · intro w9 hSw
        (try dsimp only at hSw)
        (try go_split_ands)
        first | (go_simp; done) | (go_simp; with_reducible rfl)
      try simp only [Act.put, List.setIfInBounds_toArray, List.set_cons_zero, List.set_cons_succ]
      refine wpAnyH_ready (rs := [8]) (by kernel_rfl) (by simp) (AllReadyH.cons (o := ({ dst := some 145, op := Op.call { callee := Callee.value (Operand.func 34), args := #[Operand.tmp 140, Operand.tmp 144], argTypes := #[39, 40] }, type := 4, pos := _, after := _, guard := none } : Oper)) rfl (fun K9 hK9 => ?_) AllReadyH.nil)
      go_simp
      go_at_call 34
      refine Calls.mono HHo.out ?_
      rintro e wH ⟨rfl, h2, h3, hF⟩
      have FIN := hid hF
      clear hF HHo
      refine hK9.out _ _ ⟨h2, h3⟩ (fun hSS => ?_)
      clear hK9 K9
      try simp only [Act.put, List.setIfInBounds_toArray, List.set_cons_zero, List.set_cons_succ]
      refine wpAnyH_take (i := 9) (oi := ({ dst := some 6, op := Op.assign (Operand.tmp 145), type := 4, pos := _, after := _, guard := none } : Oper)) (v := ?_) rfl (by kernel_rfl) (by kernel_rfl) (by kernel_rfl) (fun _ _ _ h => h) (Or.inl ⟨by rfl, ?_⟩) hSS ?_
      rotate_left
      · intro w9 hSw
        (try dsimp only at hSw)
        (try go_split_ands)
        first | (go_simp; done) | (go_simp; with_reducible rfl)
      try simp only [Act.put, List.setIfInBounds_toArray, List.set_cons_zero, List.set_cons_succ]
      refine wpAnyH_done (by kernel_rfl) ?_ _
      go_wp2
      go_ret
      exact ⟨rfl, FIN.out⟩
end Go.Proofs.YtldlejpacgphmaaGreat
