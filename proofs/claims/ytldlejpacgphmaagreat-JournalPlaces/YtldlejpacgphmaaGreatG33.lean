import Derived.Test.YtldlejpacgphmaaGreatG32
namespace Go.Proofs.YtldlejpacgphmaaGreat
open Go.RowKit
theorem info30 : (Tryz.prog.info? 30).map (fun i => (i.zero, i.size, i.bytes)) = some (some (.slice none 0 0), 1, 24) := by kernel_rfl
/-- the log stands, whatever is done to X -/
theorem LgW.but {X Y : Nat → Prop} {w w' : World} {g hb hc nb fr bl : Nat} {H : List Int} {ta : Option Addr} {tc : Nat} {vs : List Value} {Us : List (List Pm)} (h : LgW X w g hb hc nb fr bl H ta tc vs Us) (hbt : But Y w w') (hy : ∀ k, k < w.heap.size → Y k → X k) (X' : Nat → Prop) (hx : ∀ k, k < w.heap.size → X' k → X k) : LgW X' w' g hb hc nb fr bl H ta tc vs Us where
  lg := h.lg.keep (hbt.block g h.gl (fun q => h.ng (hy g h.gl q)))
  gl := Nat.lt_of_lt_of_le h.gl hbt.size
  ng := fun q => h.ng (hx g h.gl q)
  own := h.own.keep (hbt.block hb h.own.lt (fun q => h.nh.1 (hy hb h.own.lt q)))
  isb := h.isb
  nh := ⟨fun q => h.nh.1 (hx hb h.own.lt q), h.nh.2⟩
  row := owns_keep h.row (fun k e => hbt.block k (World.ownsRow.lt h.row k e).2 (fun q => (h.nt k e).1 (hy k (World.ownsRow.lt h.row k e).2 q)))
  nt := fun k e => ⟨fun q => (h.nt k e).1 (hx k (World.ownsRow.lt h.row k e).2 q), (h.nt k e).2⟩
  txn := fun i ps hi => by
    obtain ⟨a, cp, q1, q2, q3⟩ := h.txn i ps hi
    exact ⟨a, cp, q1, q2.but hbt (fun k hk q => .inl (hy k hk q)) _ (fun k hk q => q.elim (fun q => .inl (hx k hk q)) .inr), q3⟩
theorem LgW.below {X : Nat → Prop} {w w' : World} {g hb hc nb fr bl : Nat} {H : List Int} {ta : Option Addr} {tc : Nat} {vs : List Value} {Us : List (List Pm)} (h : LgW X w g hb hc nb fr bl H ta tc vs Us) (hbt : Below w.heap.size w w') (X' : Nat → Prop) (hx : ∀ k, k < w.heap.size → X' k → X k) : LgW X' w' g hb hc nb fr bl H ta tc vs Us := h.but (But.of_below hbt (X := fun _ => False)) (fun _ _ q => q.elim) X' hx
set_option maxRecDepth 100000 in
set_option maxHeartbeats 4000000 in
theorem refAppend_any {X : Nat → Prop} {w : World} {g hb hc nb fr bl : Nat} {H : List Int} {ta : Option Addr} {tc : Nat} {vs : List Value} {Us : List (List Pm)} (h : LgW X w g hb hc nb fr bl H ta tc vs Us) (hnb : nb ≤ 524288) (hfit : fr + bl ≤ nb) (hlo : 16 ≤ bl) (hUs : Us.length ≤ 1099511627776) (a0 : Option Addr) (cp : Nat) (ps : List Pm) (hR : RdP (fun k => X k ∨ k = g ∨ (Value.slice ta Us.length tc).ownBlock = some k) w a0 ps) (hN : ps.length ≤ 1073741823) (hps : ∀ p ∈ ps, 0 ≤ p.at_ ∧ p.at_ < 524288 ∧ p.data.length = 512) (hz : fitsC nb fr bl Us.length ps = 0) :
    Calls Tryz.prog 81 #[.pointer (some ⟨g, 0, none⟩), .slice a0 ps.length cp] w fun e w' => e = .returned (.int .i64 0) ∧ ∃ ta' tc' vs', LgW (fun k => X k ∧ k < w.heap.size) w' g hb hc nb fr bl H ta' tc' vs' (Us ++ [ps]) ∧ But (fun k => k = g ∨ (Value.slice ta Us.length tc).ownBlock = some k) w w' ∧ ∀ k, (Value.slice ta' (Us ++ [ps]).length tc').ownBlock = some k → (Value.slice ta Us.length tc).ownBlock = some k ∨ w.heap.size ≤ k := by
  obtain ⟨i30, hi30, hz30, hs30, hb30⟩ := info_parts info30
  have HF := hid (refFits_any h.lg h.gl hnb hfit hlo (by omega) a0 cp ps hR hN)
  rw [hz] at HF
  have HH := hid (And.intro h (And.intro hR hps))
  have hN2 := hid hN
  have hgl := h.gl
  obtain ⟨N, hNe⟩ : ∃ N, N = Us.length := ⟨_, rfl⟩
  have c3 := h.lg.c3
  rw [← hNe] at c3 hUs
  have hown : (Value.slice ta N tc).ownBlock ≠ some g := fun e => (h.nt g (by rw [← hNe]; exact e)).2 rfl
  have HNE := hid hNe
  clear h hR hps hz hNe
  obtain ⟨M, hM⟩ : ∃ M, M = ps.length := ⟨_, rfl⟩
  rw [← hM] at HF hN ⊢
  have HM := hid hM
  clear hM
  go_enter Tryz.func81, Tryz.ntmps81
  go_wp2_with fail
  refine Calls.mono HF.out ?_
  rintro e w2 ⟨rfl, b2⟩
  have c3' := (b2.cell (p := ⟨g, 3, none⟩) hgl).trans c3
  have hgl2 : g < w2.heap.size := Nat.lt_of_lt_of_le hgl b2.size
  have HB2 := hid b2
  have hrow0 : w2.ownsRow 0 30 1 (.slice ta N tc) N vs := by rw [HNE.out]; exact owns_below HH.out.1.row b2
  have HRow := hid (owns_below hrow0 ((Below.refl w2.heap.size w2).alloc (Nat.le_refl _) (.cells #[.slice a0 M cp] 30)))
  have HL2 := hid (HH.out.1.lg.keep (b2.block g hgl))
  clear b2 HF c3 hrow0
  go_wp2_with (at_builtin; refine wpList_append_lies _ rfl _ _ _ rfl 0 30 i30 (.slice none 0 0) 1 24 Tryz.underlying46 hi30 hz30 hs30 hb30 rfl (by decide) _ N _ rfl (by exact HRow.out) ⟨w2.heap.size, 0, none⟩ 1 1 [.slice a0 M cp] rfl rfl (by exact newsI1 w2 _ _) (by intro u hu; simp at hu; subst hu; rfl) (by decide) (by unfold maxLen; omega) (by omega) (by simp) (w2.heap.size + 1) (by simp) ?_; intro g4 cap4 w6 ho4 hg4 hlie4 _; have HO4 := hid (And.intro ho4 (And.intro hg4 hlie4)); have d3 : w6.cell? ⟨g, 3, none⟩ = some (.slice ta N tc) := (World.cell?_of_block (hg4.block g (by simp; omega) (fun e => hown e.symm))).trans ((World.cell?_alloc_past _ _ _ hgl2).trans c3'); have d4 : w6.frozen? ⟨g, 3, none⟩ = false := (HL2.out.keep ((hg4.block g (by simp; omega) (fun e => hown e.symm)).trans (Below.heap_alloc _ _ _ hgl2))).frozen 3; clear ho4 hg4 hlie4)
  go_ret
  obtain ⟨ho4, hg4, hlie4⟩ := HO4.out
  obtain ⟨hL, hR, hps⟩ := HH.out
  have hN := HNE.out
  have hM := HM.out
  subst hN hM
  have bX : But (fun k => (Value.slice ta Us.length tc).ownBlock = some k) w w6 := ((But.of_below HB2.out (X := fun k => (Value.slice ta Us.length tc).ownBlock = some k)).alloc (.cells #[.slice a0 ps.length cp] 30)).of_grown hg4 (fun x e _ => e)
  have bY : But (fun k => k = g ∨ (Value.slice ta Us.length tc).ownBlock = some k) w (w6.setCell ⟨g, 3, none⟩ (.slice (some ⟨g4, 0, none⟩) (Us.length + 1) cap4)) := (bX.mono (fun k _ q => .inr q)).setCell (.inl rfl) _
  have hs2 := HB2.out.size
  have hg4o : (Value.slice ta Us.length tc).ownBlock = some g4 ∨ w.heap.size ≤ g4 := hlie4.imp id (fun e => by omega)
  refine ⟨rfl, some ⟨g4, 0, none⟩, cap4, vs ++ [.slice a0 ps.length cp], ?_, bY, fun k e => by
    have e2 : g4 = k := by injection e
    rw [← e2]; exact hg4o⟩
  have hlen : (Us ++ [ps]).length = Us.length + 1 := by simp
  have hne : g4 ≠ g := fun e => by
    subst e
    rcases hg4o with q | q
    · exact hown q
    · omega
  have hl6 := HL2.out.keep ((hg4.block g (by simp; omega) (fun e => hown e.symm)).trans (Below.heap_alloc _ _ _ hgl2))
  have hhb : ¬ (hb = g ∨ (Value.slice ta Us.length tc).ownBlock = some hb) := fun q => q.elim hL.nh.2.1 hL.nh.2.2
  have hvl : vs.length = Us.length := by have := hL.row.1; simpa using this
  have hnew : ∀ k, (k = g ∨ (some g4 : Option Nat) = some k) → k < w.heap.size → (k = g ∨ (Value.slice ta Us.length tc).ownBlock = some k) := fun k q hk => by
    rcases q with q | q
    · exact .inl q
    · injection q with q
      subst q
      rcases hg4o with r | r
      · exact .inr r
      · omega
  refine ⟨?_, Nat.lt_of_lt_of_le hgl bY.size, fun q => hL.ng q.1, hL.own.keep (bY.block hb hL.own.lt hhb), hL.isb, ⟨fun q => hL.nh.1 q.1, hL.nh.2.1, fun q => ?_⟩, ?_, fun k e => ?_, fun i qs hi => ?_⟩
  · rw [hlen]
    exact hl6.set _ _ _
  · rw [hlen] at q
    have q2 : g4 = hb := by injection q
    subst q2
    rcases hg4o with r | r
    · exact hL.nh.2.2 r
    · have := hL.own.lt
      omega
  · rw [hlen]
    exact owns_setCell ho4 (by intro e; injection e with e; exact hne e) _
  · rw [hlen] at e
    have e2 : g4 = k := by injection e
    subst e2
    refine ⟨fun q => ?_, hne⟩
    rcases hg4o with r | r
    · exact (hL.nt g4 r).1 q.1
    · omega
  · rw [hlen]
    by_cases hiN : i < Us.length
    · rw [List.getElem?_append_left hiN] at hi
      obtain ⟨a, cq, r1, r2, r3⟩ := hL.txn i qs hi
      refine ⟨a, cq, by rw [List.getElem?_append_left (by omega)]; exact r1, r2.but bY (fun k hk q => .inr q) _ (fun k hk q => ?_), r3⟩
      rcases q with q | q
      · exact .inl q.1
      · exact .inr (hnew k q hk)
    · rw [List.getElem?_append_right (by omega)] at hi
      have hi0 : i - Us.length = 0 := by
        have := (List.getElem?_eq_some_iff.1 hi).1
        simp at this
        omega
      rw [hi0] at hi
      simp at hi
      subst hi
      refine ⟨a0, cp, by rw [List.getElem?_append_right (by omega), hvl, hi0]; rfl, hR.but bY (fun k hk q => .inr q) _ (fun k hk q => ?_), hps, hN2.out⟩
      rcases q with q | q
      · exact .inl q.1
      · exact .inr (hnew k q hk)
end Go.Proofs.YtldlejpacgphmaaGreat
namespace Go.Proofs.YtldlejpacgphmaaGreat
open Go.RowKit
set_option maxHeartbeats 400000 in
theorem CopyBytes_any (a : Option Addr) (n c : Nat) (zs : List Int) (w : World) (hn : n ≤ 140737488351232) (hnil : a = none → c = 0) (hR : Rd w.heap.size w a n zs) :
    Calls Tryz.prog 22 #[.slice a n c] w fun e w' => ∃ g cap, e = .returned (.slice (some ⟨g, 0, none⟩) n cap) ∧ w.heap.size ≤ g ∧ Own w' g n cap zs ∧ Below w.heap.size w w' := by
  obtain ⟨i0, hi, hz0, hz1, hz2⟩ := info_parts info5
  have hb : Below w.heap.size w (w.alloc (.cells #[] 5)) := (Below.refl _ _).alloc (Nat.le_refl _) _
  have h0 : (w.alloc (.cells #[] 5)).ownsRow w.heap.size 5 1 (.slice (some ⟨w.heap.size, 0, none⟩) 0 0) 0 [] := World.ownsRow_lit w #[] 0 (Nat.le_refl _) (by decide) rfl
  have hR2 := hR.below hb
  have hl := hR.1
  cases a with
  | none =>
    obtain ⟨h1, h2, h3⟩ := hR
    have hn0 : n = 0 := by rcases h3 with h3 | ⟨_, _, h3, _⟩; exact h3; cases h3
    subst hn0
    obtain rfl : zs = [] := List.length_eq_zero_iff.1 h1
    obtain rfl : c = 0 := hnil rfl
    have hO : Own (w.alloc (.cells #[] 5)) w.heap.size 0 0 [] := Own.of h0
    go_enter Tryz.func22, Tryz.ntmps22
    go_wp2_with (at_builtin; refine wpList_append_own_none rfl _ _ 22 rfl w.heap.size 5 i0 1 Tryz.underlying22 hi _ 0 [] rfl h0 rfl ?_)
    go_ret
    exact ⟨_, _, rfl, Nat.le_refl _, hO, hb⟩
  | some ad =>
    have hsrc : ∀ j u, (zs.map (Value.int .u8))[j]? = some u → (w.alloc (.cells #[] 5)).cell? (ad.add j) = some u := by
      by_cases h0 : n = 0
      · intro j u h
        rw [h0] at hl
        obtain rfl : zs = [] := List.length_eq_zero_iff.1 hl
        simp at h
      · obtain ⟨ad', e, h⟩ := hR2.src (by omega)
        cases e
        exact h
    go_enter Tryz.func22, Tryz.ntmps22
    go_wp2_with (at_builtin; refine wpList_append_own _ rfl _ _ 22 rfl w.heap.size 5 i0 (.int .u8 0) 1 1 Tryz.underlying22 hi hz0 hz1 hz2 rfl (by decide) _ 0 [] rfl h0 ad n c (zs.map (Value.int .u8)) rfl (by rw [List.length_map, hl, Nat.mul_one]) hsrc (u8_one _) (by unfold maxLen; omega) (by omega) (by simp) ?_)
    intro v' w1 hown hgrow hnn
    obtain ⟨g, cap, rfl, hg, _⟩ := owns_form hown hnn
    have HO := hid (Own.of hown)
    have hb1 : Below w.heap.size w w1 := hb.grown hgrow (by simp) (fun k h => by cases h; exact Nat.le_refl _)
    clear hown hgrow hnn
    go_wp2
    go_ret
    exact ⟨g, cap, rfl, hg, HO.out, hb1⟩
/-- a put, in plain words -/
def Pm.say (p : Pm) : Int × List Int := (p.at_, p.data)
theorem say_put (ps qs : List Pm) (h : ps.map Pm.say = qs.map Pm.say) : ps.map Pm.put = qs.map Pm.put := by
  have e : ∀ ps : List Pm, ps.map Pm.put = (ps.map Pm.say).map fun x => (x.1.toNat, x.2) := fun ps => by rw [List.map_map]; rfl
  rw [e, e, h]
set_option maxRecDepth 100000 in
set_option maxHeartbeats 4000000 in
theorem CopyPuts_any {Y : Nat → Prop} (w : World) (a0 : Option Addr) (cp : Nat) (ps : List Pm) (hR : RdP Y w a0 ps) (hN : ps.length ≤ 1073741823) (hd : ∀ p ∈ ps, p.data.length ≤ 1073741823 ∧ (p.ad = none → p.cap = 0)) :
    Calls Tryz.prog 33 #[.slice a0 ps.length cp] w fun e w' => ∃ g' cp' qs, e = .returned (.slice (some ⟨g', 0, none⟩) ps.length cp') ∧ qs.map Pm.say = ps.map Pm.say ∧ w.heap.size ≤ g' ∧ RdP (fun k => k < w.heap.size) w' (some ⟨g', 0, none⟩) qs ∧ (∀ p ∈ qs, p.ad = none → p.cap = 0) ∧ Below w.heap.size w w' ∧ w'.ownsRow w.heap.size 68 2 (.slice (some ⟨g', 0, none⟩) ps.length cp') ps.length (pmCells qs) ∧ ∀ p ∈ qs, ∃ b, p.ad = some ⟨b, 0, none⟩ ∧ b ≠ g' := by
  obtain ⟨i68, hi68, hz68, hs68, hb68⟩ := info_parts info68
  have hb0 : Below w.heap.size w (w.alloc (.cells #[] 68)) := (Below.refl _ _).alloc (Nat.le_refl _) _
  have h0 : (w.alloc (.cells #[] 68)).ownsRow w.heap.size 68 2 (.slice (some ⟨w.heap.size, 0, none⟩) 0 0) 0 [] := World.ownsRow_lit w #[] 0 (Nat.le_refl _) (by decide) rfl
  have H0 := hid (And.intro h0 hb0)
  have HR := hid hR
  have HD := hid hd
  obtain ⟨N, hNe⟩ : ∃ N, N = ps.length := ⟨_, rfl⟩
  rw [← hNe] at hN ⊢
  have HN := hid hNe
  clear h0 hb0 hR hd hNe
  go_enter Tryz.func33, Tryz.ntmps33
  go_wp2
  go_loopw [3, 4] (fun ov iv wr => ∃ (q g' cp' : Nat) (qs : List Pm), q ≤ N ∧ iv = .int .i64 (q : Int) ∧ ov = .slice (some ⟨g', 0, none⟩) q cp' ∧ wr.ownsRow w.heap.size 68 2 (.slice (some ⟨g', 0, none⟩) q cp') q (pmCells qs) ∧ (qs.map Pm.say = (ps.take q).map Pm.say ∧ ∀ p ∈ qs, RdN (fun k => k < w.heap.size) wr p.ad p.data.length p.data ∧ ∃ b, p.ad = some ⟨b, 0, none⟩ ∧ b ≠ g' ∧ b < wr.heap.size) ∧ Below w.heap.size w wr) (fun _ iv _ => N - (intOf iv).toNat)
  case atStart => exact ⟨0, _, _, [], Nat.zero_le _, rfl, rfl, H0.out.1, ⟨rfl, fun p hp => by cases hp⟩, H0.out.2⟩
  case round =>
    clear H0
    obtain ⟨q, g', cp', qs, hqN, rfl, rfl, hrow, hqs, hbt⟩ := hrel
    by_cases hq : q < N
    · have hq' : (q : Int) < (N : Int) := by omega
      obtain ⟨pp, hpp⟩ : ∃ pp, ps[q]? = some pp := ⟨_, List.getElem?_eq_getElem (by have := HN.out; omega)⟩
      obtain ⟨pb, po, ha0, hpb, hcs⟩ : ∃ b off, a0 = some ⟨b, off, none⟩ ∧ b < w.heap.size ∧ ∀ (t : Nat) (p : Pm), ps[t]? = some p → w.cell? ⟨b, off + t * 2, none⟩ = some (.int .i64 p.at_) ∧ w.cell? ⟨b, off + t * 2 + 1, none⟩ = some (.slice p.ad p.data.length p.cap) := by
        rcases HR.out.2 with e | ⟨b, off, r1, r2, _, r3⟩
        · rw [e] at hpp; cases hpp
        · exact ⟨b, off, r1, r2, r3⟩
      obtain ⟨c0, c1⟩ := hcs q pp hpp
      replace c0 := (hbt.cell (p := ⟨pb, po + q * 2, none⟩) hpb).trans c0
      replace c1 := (hbt.cell (p := ⟨pb, po + q * 2 + 1, none⟩) hpb).trans c1
      have hpm := List.mem_of_getElem? hpp
      have hrd := (HR.out.1 pp hpm).rd
      obtain ⟨hdl, hdn⟩ := HD.out pp hpm
      have hdb := (HR.out.1 pp hpm).2.1
      have hsw := hbt.size
      have HCp := hid (CopyBytes_any pp.ad pp.data.length pp.cap pp.data wr.drew (by omega) hdn ((hrd.below (hbt.trans ((Below.refl wr.heap.size wr).drew.mono hsw))).mono hsw))
      obtain ⟨v, hv⟩ : ∃ v, v = pp.at_ := ⟨_, rfl⟩
      obtain ⟨ln, hln⟩ : ∃ ln, ln = pp.data.length := ⟨_, rfl⟩
      obtain ⟨ad, had⟩ : ∃ ad, ad = pp.ad := ⟨_, rfl⟩
      obtain ⟨cp1, hcp1⟩ : ∃ cp1, cp1 = pp.cap := ⟨_, rfl⟩
      obtain ⟨zs, hzs⟩ : ∃ zs, zs = pp.data := ⟨_, rfl⟩
      rw [← hv] at c0
      rw [← hln, ← had, ← hcp1] at c1
      rw [← hln, ← had, ← hcp1, ← hzs] at HCp
      have hpbr : pb < wr.heap.size := by omega
      have HRow := hid hrow
      have HQS := hid hqs
      have HBT := hid hbt
      have hgl' := (World.ownsRow.lt hrow g' rfl)
      obtain ⟨hglo, hghi⟩ := hgl'
      have HV := hid (And.intro hv (And.intro hln (And.intro hzs (And.intro hpp hdb))))
      subst ha0
      clear hrow hqs hbt hcs hpp hpm hrd hdl hdn hdb hv hln had hcp1 hzs
      have hN2 : q + 1 ≤ 1073741823 := by omega
      go_wp2_with fail
      refine wp_region_noPanic ?_
      refine wp_region_held_drew (S := fun w' => w'.cell? ⟨pb, po + q * 2, none⟩ = some (.int .i64 v) ∧ w'.cell? ⟨pb, po + q * 2 + 1, none⟩ = some (.slice ad ln cp1)) (by kernel_rfl) ⟨c0, c1⟩ (fun hSS => ?_)
      refine wpAnyH_take (i := 0) (oi := ({ dst := some 12, op := Op.move (Operand.tmp 3), type := 30, pos := _, after := _, guard := none } : Oper)) (v := ?_) rfl (by kernel_rfl) (by kernel_rfl) (by kernel_rfl) (fun _ _ _ h => h) (Or.inl ⟨by rfl, ?_⟩) hSS ?_
      rotate_left
      · intro w9 hSw
        (try dsimp only at hSw)
        (try go_split_ands)
        first | (go_simp; done) | (go_simp; with_reducible rfl)
      try simp only [Act.put, List.setIfInBounds_toArray, List.set_cons_zero, List.set_cons_succ]
      refine wpAnyH_take (i := 1) (oi := ({ dst := some 13, op := Op.move (Operand.tmp 0), type := 30, pos := _, after := _, guard := none } : Oper)) (v := ?_) rfl (by kernel_rfl) (by kernel_rfl) (by kernel_rfl) (fun _ _ _ h => h) (Or.inl ⟨by rfl, ?_⟩) hSS ?_
      rotate_left
      · intro w9 hSw
        (try dsimp only at hSw)
        (try go_split_ands)
        first | (go_simp; done) | (go_simp; with_reducible rfl)
      try simp only [Act.put, List.setIfInBounds_toArray, List.set_cons_zero, List.set_cons_succ]
      refine wpAnyH_take (i := 2) (oi := ({ dst := some 14, op := Op.move (Operand.tmp 4), type := 3, pos := _, after := _, guard := none } : Oper)) (v := ?_) rfl (by kernel_rfl) (by kernel_rfl) (by kernel_rfl) (fun _ _ _ h => h) (Or.inl ⟨by rfl, ?_⟩) hSS ?_
      rotate_left
      · intro w9 hSw
        (try dsimp only at hSw)
        (try go_split_ands)
        first | (go_simp; done) | (go_simp; with_reducible rfl)
      try simp only [Act.put, List.setIfInBounds_toArray, List.set_cons_zero, List.set_cons_succ]
      refine wpAnyH_take (i := 3) (oi := ({ dst := some 15, op := Op.indexAddr 30 (Operand.tmp 13) (Operand.tmp 14), type := 0, pos := _, after := _, guard := none } : Oper)) (v := ?_) rfl (by kernel_rfl) (by kernel_rfl) (by kernel_rfl) (fun _ _ _ h => h) (Or.inl ⟨by rfl, ?_⟩) hSS ?_
      rotate_left
      · intro w9 hSw
        (try dsimp only at hSw)
        (try go_split_ands)
        first | (go_simp; done) | (go_simp; with_reducible rfl)
      try simp only [Act.put, List.setIfInBounds_toArray, List.set_cons_zero, List.set_cons_succ]
      refine wpAnyH_take (i := 4) (oi := ({ dst := some 16, op := Op.fieldAddr 68 (Operand.tmp 15) 0, type := 0, pos := _, after := _, guard := none } : Oper)) (v := ?_) rfl (by kernel_rfl) (by kernel_rfl) (by kernel_rfl) (fun _ _ _ h => h) (Or.inl ⟨by rfl, ?_⟩) hSS ?_
      rotate_left
      · intro w9 hSw
        (try dsimp only at hSw)
        (try go_split_ands)
        first | (go_simp; done) | (go_simp; with_reducible rfl)
      try simp only [Act.put, List.setIfInBounds_toArray, List.set_cons_zero, List.set_cons_succ]
      refine wpAnyH_take (i := 5) (oi := ({ dst := some 17, op := Op.load 3 (Operand.tmp 16), type := 3, pos := _, after := _, guard := none } : Oper)) (v := ?_) rfl (by kernel_rfl) (by kernel_rfl) (by kernel_rfl) (fun _ _ _ h => h) (Or.inl ⟨by rfl, ?_⟩) hSS ?_
      rotate_left
      · intro w9 hSw
        (try dsimp only at hSw)
        (try go_split_ands)
        first | (go_simp; done) | (go_simp; with_reducible rfl)
      try simp only [Act.put, List.setIfInBounds_toArray, List.set_cons_zero, List.set_cons_succ]
      refine wpAnyH_take (i := 6) (oi := ({ dst := some 18, op := Op.move (Operand.tmp 0), type := 30, pos := _, after := _, guard := none } : Oper)) (v := ?_) rfl (by kernel_rfl) (by kernel_rfl) (by kernel_rfl) (fun _ _ _ h => h) (Or.inl ⟨by rfl, ?_⟩) hSS ?_
      rotate_left
      · intro w9 hSw
        (try dsimp only at hSw)
        (try go_split_ands)
        first | (go_simp; done) | (go_simp; with_reducible rfl)
      try simp only [Act.put, List.setIfInBounds_toArray, List.set_cons_zero, List.set_cons_succ]
      refine wpAnyH_take (i := 7) (oi := ({ dst := some 19, op := Op.move (Operand.tmp 4), type := 3, pos := _, after := _, guard := none } : Oper)) (v := ?_) rfl (by kernel_rfl) (by kernel_rfl) (by kernel_rfl) (fun _ _ _ h => h) (Or.inl ⟨by rfl, ?_⟩) hSS ?_
      rotate_left
      · intro w9 hSw
        (try dsimp only at hSw)
        (try go_split_ands)
        first | (go_simp; done) | (go_simp; with_reducible rfl)
      try simp only [Act.put, List.setIfInBounds_toArray, List.set_cons_zero, List.set_cons_succ]
      refine wpAnyH_take (i := 8) (oi := ({ dst := some 20, op := Op.indexAddr 30 (Operand.tmp 18) (Operand.tmp 19), type := 0, pos := _, after := _, guard := none } : Oper)) (v := ?_) rfl (by kernel_rfl) (by kernel_rfl) (by kernel_rfl) (fun _ _ _ h => h) (Or.inl ⟨by rfl, ?_⟩) hSS ?_
      rotate_left
      · intro w9 hSw
        (try dsimp only at hSw)
        (try go_split_ands)
        first | (go_simp; done) | (go_simp; with_reducible rfl)
      try simp only [Act.put, List.setIfInBounds_toArray, List.set_cons_zero, List.set_cons_succ]
      refine wpAnyH_take (i := 9) (oi := ({ dst := some 21, op := Op.fieldAddr 68 (Operand.tmp 20) 1, type := 0, pos := _, after := _, guard := none } : Oper)) (v := ?_) rfl (by kernel_rfl) (by kernel_rfl) (by kernel_rfl) (fun _ _ _ h => h) (Or.inl ⟨by rfl, ?_⟩) hSS ?_
      rotate_left
      · intro w9 hSw
        (try dsimp only at hSw)
        (try go_split_ands)
        first | (go_simp; done) | (go_simp; with_reducible rfl)
      try simp only [Act.put, List.setIfInBounds_toArray, List.set_cons_zero, List.set_cons_succ]
      refine wpAnyH_take (i := 10) (oi := ({ dst := some 22, op := Op.load 22 (Operand.tmp 21), type := 22, pos := _, after := _, guard := none } : Oper)) (v := ?_) rfl (by kernel_rfl) (by kernel_rfl) (by kernel_rfl) (fun _ _ _ h => h) (Or.inl ⟨by rfl, ?_⟩) hSS ?_
      rotate_left
      · intro w9 hSw
        (try dsimp only at hSw)
        (try go_split_ands)
        first | (go_simp; done) | (go_simp; with_reducible rfl)
      try simp only [Act.put, List.setIfInBounds_toArray, List.set_cons_zero, List.set_cons_succ]
      refine wpAnyH_ready (rs := [11]) (by kernel_rfl) (by simp) (AllReadyH.cons (o := ({ dst := some 23, op := Op.call { callee := Callee.value (Operand.func 22), args := #[Operand.tmp 22], argTypes := #[22] }, type := 22, pos := _, after := _, guard := none } : Oper)) rfl (fun K9 hK9 => ?_) AllReadyH.nil)
      go_simp
      go_at_call 22
      refine Calls.mono HCp.out ?_
      rintro e w2 ⟨g2, cap2, rfl, hg2, ho2, b2⟩
      have hg2lo : wr.heap.size ≤ g2 := hg2
      have B2 := hid b2
      have O2 := hid ho2
      have e0 := (b2.cell (p := ⟨pb, po + q * 2, none⟩) hpbr).trans c0
      have e1 := (b2.cell (p := ⟨pb, po + q * 2 + 1, none⟩) hpbr).trans c1
      have hg2l := ho2.lt
      have hsz2 := b2.size
      have hpb2 : pb < w2.heap.size := Nat.lt_of_lt_of_le hpbr hsz2
      have HRow2 := hid (owns_below HRow.out ((Below.refl wr.heap.size wr).drew.trans (b2.trans ((Below.refl _ _).alloc hsz2 (.cells #[.int .i64 v, .slice (some ⟨g2, 0, none⟩) ln cap2] 68)))))
      clear ho2 b2 HCp HRow hg2
      refine hK9.out _ _ ⟨e0, e1⟩ (fun hSS => ?_)
      clear hK9 K9
      try simp only [Act.put, List.setIfInBounds_toArray, List.set_cons_zero, List.set_cons_succ]
      refine wpAnyH_take (i := 12) (oi := ({ dst := some 24, op := Op.build 68 #[(0, Operand.tmp 17), (1, Operand.tmp 23)], type := 68, pos := _, after := _, guard := none } : Oper)) (v := ?_) rfl (by kernel_rfl) (by kernel_rfl) (by kernel_rfl) (fun _ _ _ h => h) (Or.inl ⟨by rfl, ?_⟩) hSS ?_
      rotate_left
      · intro w9 hSw
        (try dsimp only at hSw)
        (try go_split_ands)
        first | (go_simp; done) | (go_simp; with_reducible rfl)
      try simp only [Act.put, List.setIfInBounds_toArray, List.set_cons_zero, List.set_cons_succ]
      refine wpAnyH_ready (rs := [13]) (by kernel_rfl) (by simp) (AllReadyH.cons (i := 13) rfl (fun K9 hK9 => ?_) AllReadyH.nil)
      go_simp
      refine hK9.out _ _ ⟨(World.cell?_alloc_past _ _ _ hpb2).trans e0, (World.cell?_alloc_past _ _ _ hpb2).trans e1⟩ (fun hSS2 => ?_)
      clear hK9 K9 hSS
      refine wpAnyH_ready (rs := [14]) (by kernel_rfl) (by simp) (AllReadyH.cons (i := 14) rfl (fun K9 hK9 => ?_) AllReadyH.nil)
      refine step_append_lies _ (by rfl) _ _ _ (by rfl) w.heap.size 68 i68 (.agg #[.int .i64 0, .slice none 0 0]) 2 32 Tryz.underlying30 hi68 hz68 hs68 hb68 rfl (by decide) _ q _ (by rfl) (by exact HRow2.out) ⟨w2.heap.size, 0, none⟩ 1 1 [.int .i64 v, .slice (some ⟨g2, 0, none⟩) ln cap2] (by rfl) (by rfl) (by exact news2 w2 _ _ _) (by intro u hu; simp at hu; rcases hu with rfl | rfl <;> rfl) (by decide) (by unfold maxLen; omega) (by omega) (by simp; omega) (w2.heap.size + 1) (by simp) ?_
      intro g4 cap4 w6 ho4 hg4 hlie4 _
      have hg5 : (w2.alloc (.cells #[.int .i64 v, .slice (some ⟨g2, 0, none⟩) ln cap2] 68)).grownBy w6 (some g') := hg4
      have hlie5 : g' = g4 ∨ g4 = w2.heap.size + 1 := by
        rcases hlie4 with r | r
        · exact .inl (by injection r)
        · exact .inr r
      have hpg : pb ≠ g' := by omega
      have q0 : w6.cell? ⟨pb, po + q * 2, none⟩ = some (.int .i64 v) := (World.cell?_of_block (hg5.block pb (by simp; omega) (fun e => hpg (by injection e)))).trans ((World.cell?_alloc_past _ _ _ hpb2).trans e0)
      have q1 : w6.cell? ⟨pb, po + q * 2 + 1, none⟩ = some (.slice ad ln cp1) := (World.cell?_of_block (hg5.block pb (by simp; omega) (fun e => hpg (by injection e)))).trans ((World.cell?_alloc_past _ _ _ hpb2).trans e1)
      have FIN0 := hid (And.intro ho4 (And.intro hg5 hlie5))
      clear ho4 hg4 hg5 hlie4 hlie5
      dsimp [Act.put]
      refine hK9.out _ _ ⟨q0, q1⟩ (fun hSS3 => ?_)
      clear hK9 K9 hSS2
      refine wpAnyH_take (i := 15) (v := ?v15) rfl (by kernel_rfl) (by kernel_rfl) (by kernel_rfl) (fun _ _ _ h => h) (Or.inl ⟨by rfl, ?hy15⟩) hSS3 ?_
      case hy15 => (intro w9 hSw; (try dsimp only at hSw); go_simp; try with_reducible rfl)
      dsimp [Act.put]
      refine wpAnyH_done (by kernel_rfl) (NoPanic.normal ?_) _
      obtain ⟨hv, hln, hzs, hpp, hdb⟩ := HV.out
      have hg2s : wr.heap.size ≤ g2 := by have := hg2lo; omega
      have hbw : Below w.heap.size w w2 := HBT.out.trans ((Below.refl wr.heap.size wr).drew.mono hsw |>.trans (B2.out.mono hsw))
      have bX : But (fun x => x = g') w2 w6 := ((But.refl (fun x => x = g') w2).alloc (.cells #[.int .i64 v, .slice (some ⟨g2, 0, none⟩) ln cap2] 68)).of_grown FIN0.out.2.1 (fun x e _ => by injection e with e; exact e.symm)
      have hbw6 : Below w.heap.size w w6 := ((But.of_below hbw (X := fun x => w.heap.size ≤ x)).trans (bX.mono (fun x _ e => by rw [e]; exact hglo))).below (Nat.le_refl _) (fun k hk r => by omega)
      have FIN : Hid (w6.ownsRow w.heap.size 68 2 (.slice (some ⟨g4, 0, none⟩) (q + 1) cap4) (q + 1) (pmCells (qs ++ [⟨v, some ⟨g2, 0, none⟩, cap2, zs⟩])) ∧ ((qs ++ [(⟨v, some ⟨g2, 0, none⟩, cap2, zs⟩ : Pm)]).map Pm.say = (ps.take (q + 1)).map Pm.say ∧ ∀ p ∈ qs ++ [(⟨v, some ⟨g2, 0, none⟩, cap2, zs⟩ : Pm)], RdN (fun k => k < w.heap.size) w6 p.ad p.data.length p.data ∧ ∃ b, p.ad = some ⟨b, 0, none⟩ ∧ b ≠ g4 ∧ b < w6.heap.size) ∧ Below w.heap.size w w6) := by
        refine ⟨?_, ⟨?_, fun p hp => ?_⟩, hbw6⟩
        · rw [pmCells_snoc]
          simp only
          rw [← hzs] at hln
          rw [← hln]
          exact FIN0.out.1
        · rw [List.map_append, HQS.out.1, List.take_add_one, hpp, List.map_append]
          show _ ++ [(v, zs)] = _ ++ [(pp.at_, pp.data)]
          rw [hv, hzs]
        · rcases List.mem_append.1 hp with hp | hp
          · obtain ⟨r1, b, r2, r3, r4⟩ := HQS.out.2 p hp
            have hb2 : But (fun x => x = g') wr w6 := ((But.of_below ((Below.refl wr.heap.size wr).drew.trans B2.out)).trans bX)
            refine ⟨?_, b, r2, ?_, Nat.lt_of_lt_of_le r4 hb2.size⟩
            · obtain ⟨s1, s2, s3⟩ := r1
              refine ⟨s1, s2, ?_⟩
              rcases s3 with s3 | ⟨b', off, s4, s5, s6, s7⟩
              · exact .inl s3
              · rw [r2] at s4
                injection s4 with s4
                injection s4 with s8 s9
                subst s8
                exact .inr ⟨b, off, by rw [r2, s9], Nat.lt_of_lt_of_le s5 hb2.size, s6, fun t ht => (hb2.cell (p := ⟨b, off + t, none⟩) s5 r3).trans (s7 t ht)⟩
            · rcases FIN0.out.2.2 with e4 | e4
              · rw [← e4]; exact r3
              · omega
          · simp only [List.mem_singleton] at hp
            subst hp
            have hne : g2 ≠ g' := by omega
            refine ⟨?_, g2, rfl, ?_, Nat.lt_of_lt_of_le hg2l bX.size⟩
            · have := (O2.out.keep (bX.block g2 hg2l hne)).rdn (X := fun k => k < w.heap.size) (zs := zs) (by rw [hzs]; exact hdb) (by omega)
              simp only
              rw [← hzs] at hln
              rw [← hln]
              exact this
            · rcases FIN0.out.2.2 with e4 | e4
              · omega
              · omega
      clear hv hln hzs hpp hdb hbw bX hbw6 FIN0 HRow2 HBT HQS HV B2 O2 hSS3 q0 q1 e0 e1 c0 c1
      go_wp2_with fail
      go_roundw
      case rel => exact ⟨q + 1, g4, cap4, _, by omega, by go_num, rfl, FIN.out.1, FIN.out.2.1, FIN.out.2.2⟩
      case measure => simp [intOf]; omega
    · have hq' : ¬ (q : Int) < (N : Int) := by omega
      have hqe : q = N := by omega
      subst hqe
      have hglt := World.ownsRow.lt hrow g' rfl
      have FIN : Hid (qs.map Pm.say = ps.map Pm.say ∧ w.heap.size ≤ g' ∧ RdP (fun k => k < w.heap.size) wr (some ⟨g', 0, none⟩) qs ∧ (∀ p ∈ qs, p.ad = none → p.cap = 0) ∧ Below w.heap.size w wr ∧ wr.ownsRow w.heap.size 68 2 (.slice (some ⟨g', 0, none⟩) q cp') q (pmCells qs) ∧ ∀ p ∈ qs, ∃ b, p.ad = some ⟨b, 0, none⟩ ∧ b ≠ g') := by
        refine ⟨by rw [hqs.1, List.take_of_length_le (by rw [← HN.out]; exact Nat.le_refl _)], hglt.1, ⟨fun p hp => (hqs.2 p hp).1, .inr ⟨g', 0, rfl, hglt.2, by omega, fun t p hp => ?_⟩⟩, (fun p hp e => by obtain ⟨_, b, r, _⟩ := hqs.2 p hp; rw [e] at r; cases r), hbt, hrow, fun p hp => by obtain ⟨_, b, r, r', _⟩ := hqs.2 p hp; exact ⟨b, r, r'⟩⟩
        have hc := World.ownsRow.cells hrow (g := g') rfl
        obtain ⟨r1, r2⟩ := pmCells_get qs t p hp
        have s1 := hc _ _ r1
        have s2 := hc _ _ r2
        rw [Addr.add_lit] at s1 s2
        exact ⟨s1, s2⟩
      clear hrow hqs hbt
      go_wp2
      go_ret
      exact ⟨g', cp', rfl, qs, FIN.out⟩
end Go.Proofs.YtldlejpacgphmaaGreat
