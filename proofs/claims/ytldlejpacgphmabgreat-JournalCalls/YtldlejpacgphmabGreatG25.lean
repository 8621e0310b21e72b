import Derived.Test.YtldlejpacgphmabGreatG24
import Derived.Test.YtldlejpacgphmabGreatG22
namespace Go.Proofs.YtldlejpacgphmabGreat
open Go.RowKit
set_option maxHeartbeats 400000 in
theorem CopyBytes_any (a : Option Addr) (n c : Nat) (zs : List Int) (w : World) (hn : n ≤ 140737488351232) (hnil : a = none → c = 0) (hR : Rd w.heap.size w a n zs) :
  Calls Tryz.prog 39 #[.slice a n c] w fun e w' => ∃ g cap, e = .returned (.slice (some ⟨g, 0, none⟩) n cap) ∧ w.heap.size ≤ g ∧ Own w' g n cap zs ∧ Below w.heap.size w w' := by
 obtain ⟨i0, hi, hz0, hz1, hz2⟩ := info_parts info5
 have hb : Below w.heap.size w (w.alloc (.cells #[] 5)) := (Below.refl _ _).alloc (Nat.le_refl _) _
 have h0 : (w.alloc (.cells #[] 5)).ownsRow w.heap.size 5 1 (.slice (some ⟨w.heap.size, 0, none⟩) 0 0) 0 [] := World.ownsRow_lit w #[] 0 (Nat.le_refl _) (by decide) rfl
 have hR2 := hR.below hb
 have hl := hR.1
 cases a with
 | none =>
  obtain ⟨h1, h2, h3⟩ := hR
  have hn0 : n = 0 := by rcases h3 with h3 | ⟨_, _, h3, _⟩; exact h3; cases h3
  subst hn0
  obtain rfl : zs = [] := List.length_eq_zero_iff.1 h1
  obtain rfl : c = 0 := hnil rfl
  have hO : Own (w.alloc (.cells #[] 5)) w.heap.size 0 0 [] := Own.of h0
  go_enter Tryz.func39, Tryz.ntmps39
  go_wp2_with (at_builtin; refine wpList_append_own_none rfl _ _ 22 rfl w.heap.size 5 i0 1 Tryz.underlying22 hi _ 0 [] rfl h0 rfl ?_)
  go_ret
  exact ⟨_, _, rfl, Nat.le_refl _, hO, hb⟩
 | some ad =>
  have hsrc : ∀ j u, (zs.map (Value.int .u8))[j]? = some u → (w.alloc (.cells #[] 5)).cell? (ad.add j) = some u := by
   by_cases h0 : n = 0
   ·intro j u h
    rw [h0] at hl
    obtain rfl : zs = [] := List.length_eq_zero_iff.1 hl
    simp at h
   ·obtain ⟨ad', e, h⟩ := hR2.src (by omega)
    cases e
    exact h
  go_enter Tryz.func39, Tryz.ntmps39
  go_wp2_with (at_builtin; refine wpList_append_own _ rfl _ _ 22 rfl w.heap.size 5 i0 (.int .u8 0) 1 1 Tryz.underlying22 hi hz0 hz1 hz2 rfl (by decide) _ 0 [] rfl h0 ad n c (zs.map (Value.int .u8)) rfl (by rw [List.length_map, hl, Nat.mul_one]) hsrc (u8_one _) (by unfold maxLen; omega) (by omega) (by simp) ?_)
  intro v' w1 hown hgrow hnn
  obtain ⟨g, cap, rfl, hg, _⟩ := owns_form hown hnn
  have HO := hid (Own.of hown)
  have hb1 : Below w.heap.size w w1 := hb.grown hgrow (by simp) (fun k h => by cases h; exact Nat.le_refl _)
  clear hown hgrow hnn
  go_wp2
  go_ret
  exact ⟨g, cap, rfl, hg, HO.out, hb1⟩
def Pm.say (p : Pm) : Int × List Int := (p.at_, p.data)
theorem say_put (ps qs : List Pm) (h : ps.map Pm.say = qs.map Pm.say) : ps.map Pm.put = qs.map Pm.put := by
 have e : ∀ ps : List Pm, ps.map Pm.put = (ps.map Pm.say).map fun x => (x.1.toNat, x.2) := fun ps => by rw [List.map_map]; rfl
 rw [e, e, h]
set_option maxRecDepth 100000 in
set_option maxHeartbeats 4000000 in
theorem CopyPuts_any {Y : Nat → Prop} (w : World) (a0 : Option Addr) (cp : Nat) (ps : List Pm) (hR : RdP Y w a0 ps) (hN : ps.length ≤ 1073741823) (hd : ∀ p ∈ ps, p.data.length ≤ 1073741823 ∧ (p.ad = none → p.cap = 0)) :
  Calls Tryz.prog 105 #[.slice a0 ps.length cp] w fun e w' => ∃ g' cp' qs, e = .returned (.slice (some ⟨g', 0, none⟩) ps.length cp') ∧ qs.map Pm.say = ps.map Pm.say ∧ w.heap.size ≤ g' ∧ RdP (fun k => k < w.heap.size) w' (some ⟨g', 0, none⟩) qs ∧ (∀ p ∈ qs, p.ad = none → p.cap = 0) ∧ Below w.heap.size w w' ∧ w'.ownsRow w.heap.size 97 2 (.slice (some ⟨g', 0, none⟩) ps.length cp') ps.length (pmCells qs) ∧ ∀ p ∈ qs, ∃ b, p.ad = some ⟨b, 0, none⟩ ∧ b ≠ g' := by
 obtain ⟨i68, hi68, hz68, hs68, hb68⟩ := info_parts info68
 have hb0 : Below w.heap.size w (w.alloc (.cells #[] 97)) := (Below.refl _ _).alloc (Nat.le_refl _) _
 have h0 : (w.alloc (.cells #[] 97)).ownsRow w.heap.size 97 2 (.slice (some ⟨w.heap.size, 0, none⟩) 0 0) 0 [] := World.ownsRow_lit w #[] 0 (Nat.le_refl _) (by decide) rfl
 have H0 := hid (And.intro h0 hb0)
 have HR := hid hR
 have HD := hid hd
 obtain ⟨N, hNe⟩ : ∃ N, N = ps.length := ⟨_, rfl⟩
 rw [← hNe] at hN ⊢
 have HN := hid hNe
 clear h0 hb0 hR hd hNe
 go_enter Tryz.func105, Tryz.ntmps105
 go_wp2
 go_loopw [3, 4] (fun ov iv wr => ∃ (q g' cp' : Nat) (qs : List Pm), q ≤ N ∧ iv = .int .i64 (q : Int) ∧ ov = .slice (some ⟨g', 0, none⟩) q cp' ∧ wr.ownsRow w.heap.size 97 2 (.slice (some ⟨g', 0, none⟩) q cp') q (pmCells qs) ∧ (qs.map Pm.say = (ps.take q).map Pm.say ∧ ∀ p ∈ qs, RdN (fun k => k < w.heap.size) wr p.ad p.data.length p.data ∧ ∃ b, p.ad = some ⟨b, 0, none⟩ ∧ b ≠ g' ∧ b < wr.heap.size) ∧ Below w.heap.size w wr) (fun _ iv _ => N - (intOf iv).toNat)
 case atStart => exact ⟨0, _, _, [], Nat.zero_le _, rfl, rfl, H0.out.1, ⟨rfl, fun p hp => by cases hp⟩, H0.out.2⟩
 case round =>
  clear H0
  obtain ⟨q, g', cp', qs, hqN, rfl, rfl, hrow, hqs, hbt⟩ := hrel
  by_cases hq : q < N
  ·have hq' : (q : Int) < (N : Int) := by omega
   obtain ⟨pp, hpp⟩ : ∃ pp, ps[q]? = some pp := ⟨_, List.getElem?_eq_getElem (by have := HN.out; omega)⟩
   obtain ⟨pb, po, ha0, hpb, hcs⟩ : ∃ b off, a0 = some ⟨b, off, none⟩ ∧ b < w.heap.size ∧ ∀ (t : Nat) (p : Pm), ps[t]? = some p → w.cell? ⟨b, off + t * 2, none⟩ = some (.int .i64 p.at_) ∧ w.cell? ⟨b, off + t * 2 + 1, none⟩ = some (.slice p.ad p.data.length p.cap) := by
    rcases HR.out.2 with e | ⟨b, off, r1, r2, _, r3⟩
    ·rw [e] at hpp; cases hpp
    ·exact ⟨b, off, r1, r2, r3⟩
   obtain ⟨c0, c1⟩ := hcs q pp hpp
   replace c0 := (hbt.cell (p := ⟨pb, po + q * 2, none⟩) hpb).trans c0
   replace c1 := (hbt.cell (p := ⟨pb, po + q * 2 + 1, none⟩) hpb).trans c1
   have hpm := List.mem_of_getElem? hpp
   have hrd := (HR.out.1 pp hpm).rd
   obtain ⟨hdl, hdn⟩ := HD.out pp hpm
   have hdb := (HR.out.1 pp hpm).2.1
   have hsw := hbt.size
   have HCp := hid (CopyBytes_any pp.ad pp.data.length pp.cap pp.data wr.drew (by omega) hdn ((hrd.below (hbt.trans ((Below.refl wr.heap.size wr).drew.mono hsw))).mono hsw))
   obtain ⟨v, hv⟩ : ∃ v, v = pp.at_ := ⟨_, rfl⟩
   obtain ⟨ln, hln⟩ : ∃ ln, ln = pp.data.length := ⟨_, rfl⟩
   obtain ⟨ad, had⟩ : ∃ ad, ad = pp.ad := ⟨_, rfl⟩
   obtain ⟨cp1, hcp1⟩ : ∃ cp1, cp1 = pp.cap := ⟨_, rfl⟩
   obtain ⟨zs, hzs⟩ : ∃ zs, zs = pp.data := ⟨_, rfl⟩
   rw [← hv] at c0
   rw [← hln, ← had, ← hcp1] at c1
   rw [← hln, ← had, ← hcp1, ← hzs] at HCp
   have hpbr : pb < wr.heap.size := by omega
   have HRow := hid hrow
   have HQS := hid hqs
   have HBT := hid hbt
   have hgl' := (World.ownsRow.lt hrow g' rfl)
   obtain ⟨hglo, hghi⟩ := hgl'
   have HV := hid (And.intro hv (And.intro hln (And.intro hzs (And.intro hpp hdb))))
   subst ha0
   clear hrow hqs hbt hcs hpp hpm hrd hdl hdn hdb hv hln had hcp1 hzs
   have hN2 : q + 1 ≤ 1073741823 := by omega
   go_wp2_with fail
   refine wp_region_noPanic ?_
   refine wp_region_held_drew (S := fun w' => w'.cell? ⟨pb, po + q * 2, none⟩ = some (.int .i64 v) ∧ w'.cell? ⟨pb, po + q * 2 + 1, none⟩ = some (.slice ad ln cp1)) (by kernel_rfl) ⟨c0, c1⟩ (fun hSS => ?_)
   refine tk 0 (some 12) (.move (.tmp 3)) 35 none hSS ?_
   refine tk 1 (some 13) (.move (.tmp 0)) 35 none hSS ?_
   refine tk 2 (some 14) (.move (.tmp 4)) 3 none hSS ?_
   refine tk 3 (some 15) (.indexAddr 35 (.tmp 13) (.tmp 14)) 0 none hSS ?_
   try simp only [Act.put, zA, zB, zC]
   refine tk 4 (some 16) (.fieldAddr 97 (.tmp 15) 0) 0 none hSS ?_
   refine tk 5 (some 17) (.load 3 (.tmp 16)) 3 none hSS ?_
   refine tk 6 (some 18) (.move (.tmp 0)) 35 none hSS ?_
   refine tk 7 (some 19) (.move (.tmp 4)) 3 none hSS ?_
   try simp only [Act.put, zA, zB, zC]
   refine tk 8 (some 20) (.indexAddr 35 (.tmp 18) (.tmp 19)) 0 none hSS ?_
   refine tk 9 (some 21) (.fieldAddr 97 (.tmp 20) 1) 0 none hSS ?_
   refine tk 10 (some 22) (.load 22 (.tmp 21)) 22 none hSS ?_
   try simp only [Act.put, zA, zB, zC]
   refine wpAnyH_ready (rs := [11]) (by kernel_rfl) (by simp) (AllReadyH.cons (o := ({ dst := some 23, op := Op.call { callee := Callee.value (Operand.func 39), args := #[Operand.tmp 22], argTypes := #[22] }, type := 22, pos := _, after := _, guard := none } : Oper)) rfl (fun K9 hK9 => ?_) AllReadyH.nil)
   go_simp
   go_at_call 39
   refine Calls.mono HCp.out ?_
   rintro e w2 ⟨g2, cap2, rfl, hg2, ho2, b2⟩
   have hg2lo : wr.heap.size ≤ g2 := hg2
   have B2 := hid b2
   have O2 := hid ho2
   have e0 := (b2.cell (p := ⟨pb, po + q * 2, none⟩) hpbr).trans c0
   have e1 := (b2.cell (p := ⟨pb, po + q * 2 + 1, none⟩) hpbr).trans c1
   have hg2l := ho2.lt
   have hsz2 := b2.size
   have hpb2 : pb < w2.heap.size := Nat.lt_of_lt_of_le hpbr hsz2
   have HRow2 := hid (owns_below HRow.out ((Below.refl wr.heap.size wr).drew.trans (b2.trans ((Below.refl _ _).alloc hsz2 (.cells #[.int .i64 v, .slice (some ⟨g2, 0, none⟩) ln cap2] 97)))))
   clear ho2 b2 HCp HRow hg2
   refine hK9.out _ _ ⟨e0, e1⟩ (fun hSS => ?_)
   clear hK9 K9
   try simp only [Act.put, zA, zB, zC]
   refine tk 12 (some 24) (.build 97 #[(0, .tmp 17), (1, .tmp 23)]) 97 none hSS ?_
   try simp only [Act.put, zA, zB, zC]
   refine wpAnyH_ready (rs := [13]) (by kernel_rfl) (by simp) (AllReadyH.cons (i := 13) rfl (fun K9 hK9 => ?_) AllReadyH.nil)
   go_simp
   refine hK9.out _ _ ⟨(World.cell?_alloc_past _ _ _ hpb2).trans e0, (World.cell?_alloc_past _ _ _ hpb2).trans e1⟩ (fun hSS2 => ?_)
   clear hK9 K9 hSS
   refine wpAnyH_ready (rs := [14]) (by kernel_rfl) (by simp) (AllReadyH.cons (i := 14) rfl (fun K9 hK9 => ?_) AllReadyH.nil)
   refine step_append_lies _ (by rfl) _ _ _ (by rfl) w.heap.size 97 i68 (.agg #[.int .i64 0, .slice none 0 0]) 2 32 Tryz.underlying35 hi68 hz68 hs68 hb68 rfl (by decide) _ q _ (by rfl) (by exact HRow2.out) ⟨w2.heap.size, 0, none⟩ 1 1 [.int .i64 v, .slice (some ⟨g2, 0, none⟩) ln cap2] (by rfl) (by rfl) (by exact news2 w2 _ _ _) (by intro u hu; simp at hu; rcases hu with rfl | rfl <;> rfl) (by decide) (by unfold maxLen; omega) (by omega) (by simp; omega) (w2.heap.size + 1) (by simp) ?_
   intro g4 cap4 w6 ho4 hg4 hlie4 _
   have hg5 : (w2.alloc (.cells #[.int .i64 v, .slice (some ⟨g2, 0, none⟩) ln cap2] 97)).grownBy w6 (some g') := hg4
   have hlie5 : g' = g4 ∨ g4 = w2.heap.size + 1 := by
    rcases hlie4 with r | r
    ·exact .inl (by injection r)
    ·exact .inr r
   have hpg : pb ≠ g' := by omega
   have q0 : w6.cell? ⟨pb, po + q * 2, none⟩ = some (.int .i64 v) := (World.cell?_of_block (hg5.block pb (by simp; omega) (fun e => hpg (by injection e)))).trans ((World.cell?_alloc_past _ _ _ hpb2).trans e0)
   have q1 : w6.cell? ⟨pb, po + q * 2 + 1, none⟩ = some (.slice ad ln cp1) := (World.cell?_of_block (hg5.block pb (by simp; omega) (fun e => hpg (by injection e)))).trans ((World.cell?_alloc_past _ _ _ hpb2).trans e1)
   have FIN0 := hid (And.intro ho4 (And.intro hg5 hlie5))
   clear ho4 hg4 hg5 hlie4 hlie5
   dsimp [Act.put]
   refine hK9.out _ _ ⟨q0, q1⟩ (fun hSS3 => ?_)
   clear hK9 K9 hSS2
   refine wpAnyH_take (i := 15) (v := ?v15) rfl (by kernel_rfl) (by kernel_rfl) (by kernel_rfl) (fun _ _ _ h => h) (Or.inl ⟨by rfl, ?hy15⟩) hSS3 ?_
   case hy15 => (intro w9 hSw; (try dsimp only at hSw); go_simp; try with_reducible rfl)
   dsimp [Act.put]
   refine wpAnyH_done (by kernel_rfl) (NoPanic.normal ?_) _
   obtain ⟨hv, hln, hzs, hpp, hdb⟩ := HV.out
   have hg2s : wr.heap.size ≤ g2 := by have := hg2lo; omega
   have hbw : Below w.heap.size w w2 := HBT.out.trans ((Below.refl wr.heap.size wr).drew.mono hsw |>.trans (B2.out.mono hsw))
   have bX : But (fun x => x = g') w2 w6 := ((But.refl (fun x => x = g') w2).alloc (.cells #[.int .i64 v, .slice (some ⟨g2, 0, none⟩) ln cap2] 97)).of_grown FIN0.out.2.1 (fun x e _ => by injection e with e; exact e.symm)
   have hbw6 : Below w.heap.size w w6 := ((But.of_below hbw (X := fun x => w.heap.size ≤ x)).trans (bX.mono (fun x _ e => by rw [e]; exact hglo))).below (Nat.le_refl _) (fun k hk r => by omega)
   have FIN : Hid (w6.ownsRow w.heap.size 97 2 (.slice (some ⟨g4, 0, none⟩) (q + 1) cap4) (q + 1) (pmCells (qs ++ [⟨v, some ⟨g2, 0, none⟩, cap2, zs⟩])) ∧ ((qs ++ [(⟨v, some ⟨g2, 0, none⟩, cap2, zs⟩ : Pm)]).map Pm.say = (ps.take (q + 1)).map Pm.say ∧ ∀ p ∈ qs ++ [(⟨v, some ⟨g2, 0, none⟩, cap2, zs⟩ : Pm)], RdN (fun k => k < w.heap.size) w6 p.ad p.data.length p.data ∧ ∃ b, p.ad = some ⟨b, 0, none⟩ ∧ b ≠ g4 ∧ b < w6.heap.size) ∧ Below w.heap.size w w6) := by
    refine ⟨?_, ⟨?_, fun p hp => ?_⟩, hbw6⟩
    ·rw [pmCells_snoc]
     simp only
     rw [← hzs] at hln
     rw [← hln]
     exact FIN0.out.1
    ·rw [List.map_append, HQS.out.1, List.take_add_one, hpp, List.map_append]
     show _ ++ [(v, zs)] = _ ++ [(pp.at_, pp.data)]
     rw [hv, hzs]
    ·rcases List.mem_append.1 hp with hp | hp
     ·obtain ⟨r1, b, r2, r3, r4⟩ := HQS.out.2 p hp
      have hb2 : But (fun x => x = g') wr w6 := ((But.of_below ((Below.refl wr.heap.size wr).drew.trans B2.out)).trans bX)
      refine ⟨?_, b, r2, ?_, Nat.lt_of_lt_of_le r4 hb2.size⟩
      ·obtain ⟨s1, s2, s3⟩ := r1
       refine ⟨s1, s2, ?_⟩
       rcases s3 with s3 | ⟨b', off, s4, s5, s6, s7⟩
       ·exact .inl s3
       ·rw [r2] at s4
        injection s4 with s4
        injection s4 with s8 s9
        subst s8
        exact .inr ⟨b, off, by rw [r2, s9], Nat.lt_of_lt_of_le s5 hb2.size, s6, fun t ht => (hb2.cell (p := ⟨b, off + t, none⟩) s5 r3).trans (s7 t ht)⟩
      ·rcases FIN0.out.2.2 with e4 | e4
       ·rw [← e4]; exact r3
       ·omega
     ·simp only [List.mem_singleton] at hp
      subst hp
      have hne : g2 ≠ g' := by omega
      refine ⟨?_, g2, rfl, ?_, Nat.lt_of_lt_of_le hg2l bX.size⟩
      ·have := (O2.out.keep (bX.block g2 hg2l hne)).rdn (X := fun k => k < w.heap.size) (zs := zs) (by rw [hzs]; exact hdb) (by omega)
       simp only
       rw [← hzs] at hln
       rw [← hln]
       exact this
      ·rcases FIN0.out.2.2 with e4 | e4
       ·omega
       ·omega
   clear hv hln hzs hpp hdb hbw bX hbw6 FIN0 HRow2 HBT HQS HV B2 O2 hSS3 q0 q1 e0 e1 c0 c1
   go_wp2_with fail
   go_roundw
   case rel => exact ⟨q + 1, g4, cap4, _, by omega, by go_num, rfl, FIN.out.1, FIN.out.2.1, FIN.out.2.2⟩
   case measure => simp [intOf]; omega
  ·have hq' : ¬ (q : Int) < (N : Int) := by omega
   have hqe : q = N := by omega
   subst hqe
   have hglt := World.ownsRow.lt hrow g' rfl
   have FIN : Hid (qs.map Pm.say = ps.map Pm.say ∧ w.heap.size ≤ g' ∧ RdP (fun k => k < w.heap.size) wr (some ⟨g', 0, none⟩) qs ∧ (∀ p ∈ qs, p.ad = none → p.cap = 0) ∧ Below w.heap.size w wr ∧ wr.ownsRow w.heap.size 97 2 (.slice (some ⟨g', 0, none⟩) q cp') q (pmCells qs) ∧ ∀ p ∈ qs, ∃ b, p.ad = some ⟨b, 0, none⟩ ∧ b ≠ g') := by
    refine ⟨by rw [hqs.1, List.take_of_length_le (by rw [← HN.out]; exact Nat.le_refl _)], hglt.1, ⟨fun p hp => (hqs.2 p hp).1, .inr ⟨g', 0, rfl, hglt.2, by omega, fun t p hp => ?_⟩⟩, (fun p hp e => by obtain ⟨_, b, r, _⟩ := hqs.2 p hp; rw [e] at r; cases r), hbt, hrow, fun p hp => by obtain ⟨_, b, r, r', _⟩ := hqs.2 p hp; exact ⟨b, r, r'⟩⟩
    have hc := World.ownsRow.cells hrow (g := g') rfl
    obtain ⟨r1, r2⟩ := pmCells_get qs t p hp
    have s1 := hc _ _ r1
    have s2 := hc _ _ r2
    rw [Addr.add_lit] at s1 s2
    exact ⟨s1, s2⟩
   clear hrow hqs hbt
   go_wp2
   go_ret
   exact ⟨g', cp', rfl, qs, FIN.out⟩
open Go.RowKit
theorem Jq.monoK {Z : Nat → Prop} {w : World} {j c p room nb K K' fr bl : Nat} {d : Pd} {s : Js} (h : Jq Z w j c p room nb K fr bl d s) (hK : K ≤ K') : Jq Z w j c p room nb K' fr bl d s := by
 obtain ⟨Zc, m, n, D, a, h⟩ := h
 exact ⟨Zc, m, n, D, a, ⟨h.cq.mono (fun _ q => q) hK, h.jb, h.mp, h.am, h.dat, h.non, h.nj, h.nm, h.zj, h.zm, h.sub, h.sz⟩⟩
set_option maxRecDepth 100000 in
set_option maxHeartbeats 4000000 in
theorem holds_any {Z X : Nat → Prop} {w : World} {j c p room nb K fr bl : Nat} {d : Pd} {s : Js} {g hb hc : Nat} {H : List Int} {ta : Option Addr} {tc : Nat} {vs : List Value} {Us : List (List Pm)} {lo : Nat} (hJ : Jq Z w j c p room nb K fr bl d s) (hOn : On d s nb fr bl lo (imgB H) (plainT Us)) (hL : LgW X w g hb hc nb fr bl H ta tc vs Us) (hX : ∀ k, k < w.heap.size → Z k → X k) (hlo : 16 ≤ bl) (hfit : fr + bl ≤ nb) (hK : K + nb < 4611686018427387904) :
  Calls Tryz.prog 22 #[.pointer (some ⟨j, 0, none⟩), .pointer (some ⟨g, 0, none⟩)] w fun e w' => e = .returned (.bool true) ∧ (∃ Z', Jq Z' w' j c p room nb (K + nb) fr bl d s ∧ Gr Z Z' w) ∧ But Z w w' := by
 have hnb := hJ.fits.2.2
 have hpl := hOn.puts hlo hfit hnb
 have hj := hOn.jn hlo hfit hnb
 have hUl : (plainT Us).length = Us.length := by simp [plainT]
 have hUs : Us.length ≤ 1099511627776 := by have := hj.seq; have := hOn.sq; omega
 have HOn := hid hOn
 have hon := hOn.on
 have HL : Hid (∀ w', But Z w w' → LgW X w' g hb hc nb fr bl H ta tc vs Us) := fun w' hb' => hL.but hb' hX X (fun _ _ q => q)
 have HRd : Hid (∀ (Z' : Nat → Prop) (w' : World) (x : Nat), x < nb → homeC nb fr bl (x : Int) = 0 → Jq Z' w' j c p room nb (K + x) fr bl d s → Gr Z Z' w → But Z w w' → Calls Tryz.prog 13 #[.pointer (some ⟨j, 0, none⟩), .int .i64 (x : Int)] w' fun e w'' => ∃ g cp, e = .returned (.tuple #[.slice (some ⟨g, 0, none⟩) 512 cp, .int .i64 0]) ∧ (Own w'' g 512 cp (contT (imgB H) (plainT Us) Us.length x) ∧ Pl.isB (contT (imgB H) (plainT Us) Us.length x)) ∧ (∃ Z'', Jq Z'' w'' j c p room nb (K + (x + 1)) fr bl d s ∧ Gr Z Z'' w) ∧ But Z w w'') := fun Z' w' x hx hh hJ' hg hb' => by
  have hhb : HomeB nb fr bl x := by
   refine ⟨hx, fun q => ?_⟩
   unfold homeC at hh
   rw [if_pos (by omega)] at hh
   cases hh
  refine Calls.mono (Read_home hJ' hfit hon (by omega) (by omega) x hx hh) ?_
  rintro e w'' ⟨g2, cp2, rfl, _, o2, i2, ⟨Z'', j2, gr2, _⟩, b2⟩
  have e2 := HOn.out.read hhb
  rw [hUl] at e2
  rw [e2] at o2 i2
  exact ⟨g2, cp2, rfl, ⟨o2, i2⟩, ⟨Z'', j2, hg.trans gr2 hb'.size⟩, hb'.comp b2 (fun k hk q => hg k hk q)⟩
 have HJ := hid hJ
 clear hJ hOn hL hj hpl hon hX
 go_enter Tryz.func22, Tryz.ntmps22
 go_wp2_with fail
 go_loopw [5] (fun iv wr => ∃ x : Nat, x ≤ nb ∧ iv = .int .i64 (x : Int) ∧ (∃ Z', Jq Z' wr j c p room nb (K + x) fr bl d s ∧ Gr Z Z' w) ∧ But Z w wr) (fun iv _ => nb - (intOf iv).toNat)
 case atStart => exact ⟨0, Nat.zero_le _, rfl, ⟨Z, HJ.out, Gr.refl _ _⟩, But.refl _ _⟩
 case round =>
  clear HJ
  obtain ⟨x, hx, rfl, hjq, hbt⟩ := hrel
  have HB := hid (And.intro hjq hbt)
  have hL1 := HL.out wr hbt
  have HD := hid (refDisk_any hL1.lg hnb)
  have HA := hid (refAt_any hL1.lg hnb hfit (x : Int))
  clear hjq hbt hL1
  go_wp2_with fail
  refine Calls.mono HD.out ?_
  rintro e w1 ⟨rfl, hw1⟩
  rw [hw1]
  clear hw1 HD
  by_cases hxn : x < nb
  ·have hx' : (x : Int) < (nb : Int) := by omega
   rcases homeC_cases nb fr bl (x : Int) with hh | hh
   ·rw [hh] at HA
    go_wp2_with fail
    refine Calls.mono HA.out ?_
    rintro e w2 ⟨rfl, b2⟩
    have FIN : Hid ((∃ Z', Jq Z' w2 j c p room nb (K + (x + 1)) fr bl d s ∧ Gr Z Z' w) ∧ But Z w w2) := by
     obtain ⟨⟨Z', q1, q2⟩, q3⟩ := HB.out
     exact ⟨⟨Z', (q1.below b2).monoK (by omega), q2⟩, q3.comp (But.of_below b2 (X := fun _ => False)) (fun _ _ q => q.elim)⟩
    clear b2 HB HA hh
    go_wp2
    refine ⟨⟨x + 1, by omega, by go_num, FIN.out.1, FIN.out.2⟩, ?_⟩
    simp [intOf]
    omega
   ·rw [hh] at HA
    have HH := hid hh
    clear hh
    go_wp2_with fail
    refine Calls.mono HA.out ?_
    rintro e w2 ⟨rfl, b2⟩
    have HR2 : Hid (Calls Tryz.prog 13 #[.pointer (some ⟨j, 0, none⟩), .int .i64 (x : Int)] w2 fun e w'' => ∃ g cp, e = .returned (.tuple #[.slice (some ⟨g, 0, none⟩) 512 cp, .int .i64 0]) ∧ (Own w'' g 512 cp (contT (imgB H) (plainT Us) Us.length x) ∧ Pl.isB (contT (imgB H) (plainT Us) Us.length x)) ∧ (∃ Z'', Jq Z'' w'' j c p room nb (K + (x + 1)) fr bl d s ∧ Gr Z Z'' w) ∧ But Z w w'') := by
     obtain ⟨⟨Z', q1, q2⟩, q3⟩ := HB.out
     exact HRd.out Z' w2 x hxn HH.out (q1.below b2) q2 (q3.comp (But.of_below b2 (X := fun _ => False)) (fun _ _ q => q.elim))
    clear b2 HB HA
    go_wp2_with fail
    refine Calls.mono HR2.out ?_
    rintro e w3 ⟨g3, cp3, rfl, o3, j3, b3⟩
    have hL3 := HL.out w3 b3
    have HBe := hid (refBehind_any hL3 hnb x hxn Us.length (Nat.le_refl _) hUs)
    have c3 := hL3.lg.c3
    have HO3 := hid (And.intro o3 (And.intro j3 b3))
    have HNm := hid (num_any 0 w3)
    clear HR2 o3 j3 b3 hL3
    obtain ⟨N, hN⟩ : ∃ N, N = Us.length := ⟨_, rfl⟩
    rw [← hN] at c3 HBe
    have HN := hid hN
    clear hN
    go_wp2_with fail
    refine Calls.mono HNm.out ?_
    rintro e w4 ⟨rfl, hw4⟩
    rw [hw4]
    clear hw4 HNm
    go_wp2_with fail
    refine Calls.mono HBe.out ?_
    rintro e w5 ⟨g5, cp5, rfl, hg5, o5, b5⟩
    have HS : Hid (Calls Tryz.prog 48 #[.slice (some ⟨g3, 0, none⟩) 512 cp3, .slice (some ⟨g5, 0, none⟩) 512 cp5] w5 fun e w' => e = .returned (.bool true) ∧ w' = w5) := by
     obtain ⟨⟨o3, i3⟩, _, _⟩ := HO3.out
     rw [HN.out] at o5
     exact SameBytes_eq w5.heap.size _ _ 512 cp3 512 cp5 _ w5 ((o3.keep (b5.block g3 o3.lt)).rd i3) (o5.rd i3)
    have FIN : Hid ((∃ Z', Jq Z' w5 j c p room nb (K + (x + 1)) fr bl d s ∧ Gr Z Z' w) ∧ But Z w w5) := by
     obtain ⟨_, ⟨Z', q1, q2⟩, q3⟩ := HO3.out
     exact ⟨⟨Z', q1.below b5, q2⟩, q3.comp (But.of_below b5 (X := fun _ => False)) (fun _ _ q => q.elim)⟩
    clear HBe o5 b5 hg5 HO3 c3
    go_wp2_with fail
    refine Calls.mono HS.out ?_
    rintro e w6 ⟨rfl, hw6⟩
    rw [hw6]
    clear hw6 HS
    go_wp2
    refine ⟨⟨x + 1, by omega, by go_num, FIN.out.1, FIN.out.2⟩, ?_⟩
    simp [intOf]
    omega
  ·have hx' : ¬ (x : Int) < (nb : Int) := by omega
   have hxe : x = nb := by omega
   subst hxe
   clear HA
   go_wp2
   go_ret
   exact ⟨rfl, HB.out.1, HB.out.2⟩
end Go.Proofs.YtldlejpacgphmabGreat
