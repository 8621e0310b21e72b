import Derived.Test.YtldlejpacgphmabGreatG26
import Derived.Laws.OwnMore
namespace Go.Proofs.YtldlejpacgphmabGreat
open Go.RowKit Go.Deep
set_option maxRecDepth 100000 in
set_option maxHeartbeats 4000000 in
theorem wrote_any {Z Zw : Nat → Prop} {w : World} {x j c p room nb K fr bl m n : Nat} {D : DataW (Nat × Nat × Int)} {a : Nat → Option (Nat × Nat × Int)} {sv : Value} {L : Nat → Option (List Int)} {d : Pd} {s : Js} (h : Jq Z w j c p room nb K fr bl d s) (hW : Wq Zw w x j m n nb fr bl D a sv (.slice none 0 0) L) (hxm : x ≠ m) (hdm : ∀ z g cp k, a z = some (g, cp, k) → g ≠ m) (hZ : ∀ k, Zw k → ¬ Z k) (h1 : fr + bl ≤ nb) (hon : d.off = false) (hl : d.puts.length ≤ 1073741824) (hnb : nb ≤ 524288) {t st : Nat} (ht : Txb w t j (.iface 143 (.pointer (some ⟨x, 0, none⟩))) st (.pointer (some ⟨x, 0, none⟩))) (hs : Stb w st j (.pointer (some ⟨t, 0, none⟩))) (htZ : ¬ Z t ∧ t ≠ m) (hsZ : ¬ Z st ∧ st ≠ m)
  (base cnt : Nat) (f : Nat → List Int) (hcnt : 0 < cnt) (hbc : base + cnt ≤ nb) (hh : ∀ i, i < cnt → homeC nb fr bl ((base + i : Nat) : Int) = 0) (ha : Option Addr) (hc : Nat) (hS : StrL w (.slice ha cnt hc) (strsP base cnt f L)) (pa : Option Addr) (pc : Nat) (ps : List Int) (hP : IntL (fun k => Z k ∨ k = m) w pa ps) (hN : n + ps.length ≤ 1073741823) (hK : K + ps.length < 4611686018427387904) :
  Calls Tryz.prog 28 #[.pointer (some ⟨t, 0, none⟩), .slice ha cnt hc, .int .i64 (base : Int), .slice pa ps.length pc] w fun e w' => ∃ g cp, e = .returned (.tuple #[.slice (some ⟨g, 0, none⟩) cnt cp, .bool true]) ∧ w.heap.size ≤ g ∧ WroP Z Zw w x j c p room nb K fr bl m n sv L d s base cnt f ps g cp w' := by
 obtain ⟨PO, hPO⟩ : ∃ PO : Ending → World → Prop, PO = fun e w' => ∃ g cp, e = .returned (.tuple #[.slice (some ⟨g, 0, none⟩) cnt cp, .bool true]) ∧ w.heap.size ≤ g ∧ WroP Z Zw w x j c p room nb K fr bl m n sv L d s base cnt f ps g cp w' := ⟨_, rfl⟩
 rw [← hPO]
 obtain ⟨i9, hi9, hz9, hs9, hb9⟩ := info_parts info9
 obtain ⟨ha', hc', eS, hS⟩ := hS
 have eS' : ha = ha' := by injection eS
 subst eS'
 clear eS
 obtain ⟨g0, rfl, hg0, _⟩ := hS 0 _ (List.getElem?_eq_getElem (by rw [strsP_len]; exact hcnt))
 have HNews : Hid (∀ i u, ((strsP base cnt f L).map Value.string)[i]? = some u → w.cell? ((⟨g0, 0, none⟩ : Addr).add i) = some u) := fun i u hu => by
  rw [List.getElem?_map] at hu
  cases hq : (strsP base cnt f L)[i]? with
  | none => rw [hq] at hu; cases hu
  | some S =>
   rw [hq] at hu
   obtain ⟨g', e1, _, e3⟩ := hS i S hq
   cases e1
   rw [Addr.add_lit]
   simp at hu
   rw [← hu]
   simpa using e3
 have hlen : ((strsP base cnt f L).map Value.string).length = cnt * 1 := by simp [strsP_len]
 have hone : ∀ u ∈ (strsP base cnt f L).map Value.string, u.oneCell' = true := fun u hu => by
  obtain ⟨S, _, rfl⟩ := List.mem_map.1 hu
  rfl
 obtain ⟨N, hNe⟩ : ∃ N, N = ps.length := ⟨_, rfl⟩
 rw [← hNe] at hN hK ⊢
 have HN := hid hNe
 have H0 := hid (And.intro h (And.intro hW hdm))
 have HT := hid (And.intro ht hs)
 have HZ := hid hZ
 have HPk := hid hP
 have HH := hid hh
 have HP : Hid (∀ g cp w', w.heap.size ≤ g → WroP Z Zw w x j c p room nb K fr bl m n sv L d s base cnt f ps g cp w' → PO (.returned (.tuple #[.slice (some ⟨g, 0, none⟩) cnt cp, .bool true])) w') := fun g cp w' q1 q2 => by rw [hPO]; exact ⟨g, cp, rfl, q1, q2⟩
 have hml : m < w.heap.size := hW.mp.lt
 have htl := ht.lt
 have hsl := hs.lt
 clear h hW hdm ht hs hZ hP hNe hh hS hPO
 go_enter Tryz.func28, Tryz.ntmps28
 go_wp2_with (at_builtin; refine wpList_append_lies _ rfl _ _ _ rfl w.heap.size 9 i9 (.string ByteArray.empty) 1 16 Tryz.underlying70 hi9 hz9 hs9 hb9 rfl (by decide) _ 0 [] rfl (by exact ⟨rfl, .inl ⟨rfl, rfl⟩⟩) ⟨g0, 0, none⟩ cnt hc ((strsP base cnt f L).map Value.string) rfl hlen (by exact HNews.out) hone hcnt (by unfold maxLen; omega) (by omega) (Nat.le_refl _) w.heap.size rfl ?_)
 intro gR cR w1 ho1 hg1 hlie1 hl1
 have hgR : gR = w.heap.size := by
  rcases hlie1 with r | r
  ·cases r
  ·exact r
 subst hgR
 have b1 : Below w.heap.size w w1 := ((But.refl (fun _ => False) w).of_grown hg1 (fun x e _ => by cases e)).below (Nat.le_refl _) (fun _ _ q => q)
 have HI : Hid (WroP Z Zw w x j c p room nb K fr bl m n sv L d s base cnt f (ps.take 0) w.heap.size cR w1) := by
  obtain ⟨q1, q2, q3⟩ := H0.out
  refine ⟨fun k => Z k ∧ k < w.heap.size, fun k => Zw k ∧ k < w.heap.size, D, a, ho1, q2.cut.keep (fun k _ hk => b1.block k hk), q3, q1.cut.below b1, fun k _ q => q.1, fun k _ q => q.1, fun k q => ⟨Nat.lt_of_lt_of_le q.2 b1.size, fun q' => HZ.out k q.1 q'.1⟩, fun q => by omega, fun q => by omega, But.of_below b1⟩
 clear H0 HNews hlen hone ho1 hg1 hlie1 b1 HZ
 go_wp2_with fail
 go_loopw [11] (fun iv wr => ∃ q : Nat, q ≤ N ∧ iv = .int .i64 (q : Int) ∧ WroP Z Zw w x j c p room nb K fr bl m n sv L d s base cnt f (ps.take q) w.heap.size cR wr) (fun iv _ => N - (intOf iv).toNat)
 case atStart => exact ⟨0, Nat.zero_le _, rfl, HI.out⟩
 case round =>
  clear HI
  obtain ⟨q, hqN, rfl, hWr⟩ := hrel
  by_cases hq : q < N
  ·have hq' : (q : Int) < (N : Int) := by omega
   obtain ⟨v, hv⟩ : ∃ v, ps[q]? = some v := ⟨_, List.getElem?_eq_getElem (by have := HN.out; omega)⟩
   obtain ⟨pb, po, rfl, hpb, hpx, hpc⟩ := HPk.out q v hv
   obtain ⟨Z', Zw', D', a', hrow, hWq, hdm, hJ, hG, hGw, hdj, hng, hnw, hB⟩ := hWr
   have hpl : (ps.take q).length = q := by rw [List.length_take]; have := HN.out; omega
   rw [hpl] at hWq hJ
   have k1 := (hB.cell (p := ⟨pb, po + q, none⟩) hpb hpx).trans hpc
   have hidx := into_lt v hcnt
   have hie := into_eq cnt v
   have hp62 := and62_pos v
   have hsw := hB.size
   have HBk := hid (Block_any v wr)
   have hy : base + into cnt v < nb := by omega
   have HTw : Hid (∀ w2 gb, Below wr.heap.size wr w2 → wr.heap.size ≤ gb → Blk .u8 5 w2 gb (blkZ v) → Calls Tryz.prog 86 #[.pointer (some ⟨t, 0, none⟩), .int .i64 ((base + into cnt v : Nat) : Int), .slice (some ⟨gb, 0, none⟩) 512 512] w2 fun e w3 => e = .returned (.int .i64 0) ∧ WrH (fun k => Z' k ∧ k < wr.heap.size) Zw' w2 x j c p room nb (K + q) fr bl m (n + q) D' a' sv (laidP base cnt L (ps.take q)) d s (base + into cnt v) (blkZ v) w3) := fun w2 gb b2 hgb hbk => by
    have s2 := b2.size
    have ho := Own.of_blk hbk (length_blkZ v) (by unfold maxLen; omega)
    have bt : ∀ k, k < w.heap.size → ¬ Z k → k ≠ m → w2.heap[k]? = w.heap[k]? := fun k hk r1 r2 => (b2.block k (by omega)).trans (hB.block k hk (fun e => e.elim r1 r2))
    exact twrite_home (hJ.cut.below b2) (hWq.keep (fun k _ hk => b2.block k hk)) hxm hdm (by omega) (fun k _ e1 e2 => (hdj k e1).2 e2.1) h1 hon hl (by omega) hnb _ hy (HH.out _ hidx) (HT.out.1.keep (bt t htl htZ.1 htZ.2)) (HT.out.2.keep (bt st hsl hsZ.1 hsZ.2)) (fun e => htZ.1 (hG t htl e.1)) ⟨gb, 0, none⟩ 512 (blkZ v) (fun w' b' => ((ho.keep (b'.block gb ho.lt (fun e => by omega))).rdn (X := fun _ => False) (isB_blkZ v) (fun q => q)).rd)
   rw [show ((base + into cnt v : Nat) : Int) = (base : Int) + (into cnt v : Int) by omega] at HTw
   have HST := hid (And.intro hrow (And.intro hWq (And.intro hdm (And.intro hJ (And.intro hG (And.intro hGw (And.intro hdj (And.intro hng (And.intro hnw hB)))))))))
   have hgl := (World.ownsRow.lt hrow w.heap.size rfl).2
   have HV := hid hv
   clear hrow hWq hdm hJ hG hGw hdj hng hnw hB hpc hv HPk HT HP
   go_wp2_with fail
   refine Calls.mono HBk.out ?_
   rintro e w2 ⟨gb, rfl, hgb, hbk, b2⟩
   have HTw2 := hid (HTw.out w2 gb b2 hgb hbk)
   have HB2 := hid (And.intro hbk b2)
   have s2 := b2.size
   clear HBk HTw hbk b2 k1
   go_wp2_with fail
   refine Calls.mono HTw2.out ?_
   rintro e w3 ⟨rfl, hX⟩
   have KEY : Hid (w3.ownsRow w.heap.size 9 1 (.slice (some ⟨w.heap.size, 0, none⟩) cnt cR) cnt ((strsP base cnt f (laidP base cnt L (ps.take q))).map Value.string) ∧ Own w3 gb 512 512 (blkZ v) ∧ WroP Z Zw w x j c p room nb K fr bl m n sv L d s base cnt f (ps.take (q + 1)) w.heap.size cR (w3.setCell ⟨w.heap.size, into cnt v, none⟩ (.string (strOfNums (blkZ v))))) := by
    obtain ⟨hrow, hWq, hdm, hJ, hG, hGw, hdj, hng, hnw, hB⟩ := HST.out
    obtain ⟨g2, cp2, r1, r2, r3, ⟨Z3, r4, r5, r6⟩, r7⟩ := hX
    have s3 := r7.size
    have ho2 := Own.of_blk HB2.out.1 (length_blkZ v) (by unfold maxLen; omega)
    have hgl2 : w.heap.size < w2.heap.size := by omega
    have hro2 := owns_below hrow HB2.out.2
    have hro3 := owns_keep hro2 (fun k e => by
     have ek : k = w.heap.size := by injection e with e; exact e.symm
     subst ek
     exact r7.block _ hgl2 (fun e => e.elim (fun e => hng e.1) (fun e => by omega)))
    refine ⟨hro3, ho2.keep (r7.block gb ho2.lt (fun e => e.elim (fun e => by omega) (fun e => by omega))), ?_⟩
    have hps : ps.take (q + 1) = ps.take q ++ [v] := by rw [List.take_add_one, HV.out]; rfl
    have hpl1 : (ps.take (q + 1)).length = q + 1 := by rw [hps, List.length_append, hpl]; rfl
    have bs : But (fun k => k = w.heap.size) w3 (w3.setCell ⟨w.heap.size, into cnt v, none⟩ (.string (strOfNums (blkZ v)))) := (But.refl (fun k => k = w.heap.size) w3).setCell rfl _
    have hg2l : g2 < w3.heap.size := by
     obtain ⟨_, _, o, _⟩ := r2.dat (base + into cnt v) g2 cp2 0 (by simp [putX])
     exact o.lt
    have hz3 : ¬ Z3 w.heap.size := fun e => hng (r5 _ hgl2 e).1
    refine ⟨Z3, fun k => Zw' k ∨ k = g2, D'.put (.int .i64 ((base + into cnt v : Nat) : Int)) (.held (g2, cp2, 0)), putX a' (base + into cnt v) (g2, cp2, 0), ?_, ?_, r3, ?_, ?_, ?_, ?_, hz3, ?_, ?_⟩
    ·rw [hps, laidP_snoc, strsP_put, List.map_set]
     exact (World.ownsRow.stored hro3 (into cnt v) (.string (strOfNums (blkZ v)))).1
    ·rw [hpl1, hps, laidP_snoc]
     exact r2.but bs (fun k _ e e2 => by
      subst e2
      exact e.elim hnw (fun e => by omega))
    ·rw [hpl1]
     exact r4.but bs (fun k _ e e2 => hz3 (e2 ▸ e))
    ·exact fun k hk e => hG k hk (r5 k (by omega) e).1
    ·intro k hk e
     rcases e with e | e
     ·exact hGw k hk e
     ·omega
    ·intro k e
     simp only [World.size_setCell]
     rcases e with e | e
     ·have h5 := hdj k e
      exact ⟨by omega, fun e2 => h5.2 (r5 k (by omega) e2).1⟩
     ·subst e
      exact ⟨hg2l, r6⟩
    ·exact fun e => e.elim hnw (fun e => by omega)
    ·exact ((hB.comp (But.of_below HB2.out.2 (X := fun _ => False)) (fun _ _ q => q.elim)).comp r7 (fun k hk e => e.elim (fun e => .inl (hG k hk e.1)) .inr)).comp bs (fun k hk e => by omega)
   have hcv := conv_str (KEY.out.2.1.rdn (X := fun _ => False) (isB_blkZ v) (fun q => q)).rd 512
   have hcell := World.ownsRow.cellAt KEY.out.1 (into cnt v) (by simp; exact hidx)
   have hfz := World.ownsRow.frozenAt KEY.out.1 (into cnt v)
   have hcell' : ∃ S, w3.cell? ⟨w.heap.size, into cnt v, none⟩ = some (.string S) := ⟨_, by rw [hcell, List.getElem?_map, List.getElem?_eq_getElem (by rw [strsP_len]; exact hidx)]; rfl⟩
   obtain ⟨S0, hS0⟩ := hcell'
   have FIN := hid KEY.out.2.2
   clear hcell
   clear KEY hX HTw2 HST HB2
   go_wp2_with fail
   go_roundw
   case rel => exact ⟨q + 1, by omega, by go_num, FIN.out⟩
   case measure => simp [intOf]; omega
  ·have hqe : q = N := by omega
   have hq' : ¬ (q : Int) < (N : Int) := by omega
   subst hqe
   rw [List.take_of_length_le (by rw [← HN.out]; exact Nat.le_refl _)] at hWr
   have FIN := hid (HP.out w.heap.size cR wr (Nat.le_refl _) hWr)
   clear hWr HP HPk HT
   go_wp2
   exact FIN.out
open Go.RowKit Go.Deep
theorem homeKeys_succ (nb : Nat) (L : Nat → Option (List Int)) : homeKeys (nb + 1) L = homeKeys nb L ++ (if (L nb).isSome then [nb] else []) := by
 unfold homeKeys
 rw [List.range_succ, List.filter_append]
 congr 1
 by_cases h : (L nb).isSome = true <;> simp [h]
def putsL (nb : Nat) (L : Nat → Option (List Int)) : List (Nat × List Int) := (homeKeys nb L).map (fun y => (y, (L y).getD []))
theorem ahead_putsL (nb : Nat) (L : Nat → Option (List Int)) (x : Nat) : aheadP (fun _ => none) (putsL nb L) x = if x < nb then L x else none := by
 induction nb with
 | zero => simp [putsL, homeKeys, aheadP]
 | succ nb ih =>
  unfold putsL at ih ⊢
  rw [homeKeys_succ, List.map_append]
  cases hL : L nb with
  | none =>
   simp only [Option.isSome_none, Bool.false_eq_true, if_false, List.map_nil, List.append_nil]
   rw [ih]
   by_cases h : x < nb
   ·rw [if_pos h, if_pos (by omega)]
   ·rw [if_neg h]
    by_cases h2 : x = nb
    ·rw [if_pos (by omega), h2, hL]
    ·rw [if_neg (by omega)]
  | some zs =>
   simp only [Option.isSome_some, if_true, List.map_cons, List.map_nil, hL, Option.getD_some]
   rw [aheadP_snoc]
   simp only
   by_cases h2 : x = nb
   ·rw [if_pos h2, if_pos (by omega), h2, hL]
   ·rw [if_neg h2, ih]
    by_cases h : x < nb
    ·rw [if_pos h, if_pos (by omega)]
    ·rw [if_neg h, if_neg (by omega)]
theorem contT_putsL (home : Nat → List Int) (Ts : List Tn) (nb : Nat) (L : Nat → Option (List Int)) {x : Nat} (hx : x < nb) : contT home (Ts ++ [putsL nb L]) (Ts ++ [putsL nb L]).length x = (L x).getD (contT home Ts Ts.length x) := by
 unfold contT
 rw [List.take_of_length_le (Nat.le_refl _), List.take_of_length_le (Nat.le_refl _), ← after_append]
 show (aheadP (fun _ => none) ([putsL nb L] : List Tn).flatten x).getD (after home Ts x) = _
 rw [show ([putsL nb L] : List Tn).flatten = putsL nb L by simp, ahead_putsL, if_pos hx]
theorem standP_le (ps : List Pm) : (standP ps).length ≤ ps.length := by
 suffices H : ∀ (ps S : List Pm), (ps.foldl standStep S).length ≤ S.length + ps.length by
  have := H ps []
  simpa [standP] using this
 intro ps
 induction ps with
 | nil => intro S; simp
 | cons p ps ih =>
  intro S
  have h1 := ih (standStep S p)
  have h2 : (standStep S p).length ≤ S.length + 1 := by
   unfold standStep
   split <;> simp
  simp only [List.foldl_cons, List.length_cons]
  omega
theorem CmP.on {Z Zw : Nat → Prop} {w : World} {j c p room nb K fr bl lo : Nat} {d : Pd} {s : Js} {L : Nat → Option (List Int)} {t st : Nat} {e : Ending} {w' : World} {home : Nat → List Int} {Ts : List Tn} (H : CmP Z Zw w j c p room nb K fr bl d s L t st e w') (h : Jq Z w j c p room nb K fr bl d s) (ho : On d s nb fr bl lo home Ts) (hfu : d.fu = -1) (hlo : 16 ≤ bl) (hfit : fr + bl ≤ nb) (hnb : nb ≤ 524288) (hsq : Ts.length < 1099511627776) (hk : (homeKeys nb L).length ≤ bl / 2 - 4) (hh : ∀ y, y ∈ homeKeys nb L → homeC nb fr bl (y : Int) = 0) (hZt : ¬ Z t) (hZs : ¬ Z st) :
  e = .returned (.int .i64 0) ∧ Stb w' st j (.pointer none) ∧ But (fun k => Z k ∨ k = st ∨ k = t) w w' ∧ ∃ Z' d' s' Ts', Jq Z' w' j c p room nb K fr bl d' s' ∧ Gr Z Z' w ∧ d'.fu = -1 ∧ On d' s' nb fr bl lo home Ts' ∧ Ts'.length ≤ Ts.length + 1 ∧ ∀ x, x < nb → contT home Ts' Ts'.length x = (L x).getD (contT home Ts Ts.length x) := by
 obtain ⟨w3, q1, q2, q3, q4⟩ := H
 have hsl := q2.lt
 rcases q4 with ⟨k1, rfl, rfl⟩ | ⟨k1, qs, k2, k3, k4⟩
 ·refine ⟨rfl, q2, q3.mono (fun _ _ q => .inr q), fun k => Z k ∧ k < w.heap.size, d, s, Ts, h.cut.but q3 (fun k _ e1 e2 => e2.elim (fun q => hZs (q ▸ e1.1)) (fun q => hZt (q ▸ e1.1))), fun k _ q => q.1, hfu, ho, by omega, fun x hx => ?_⟩
  have : L x = none := by
   cases hL : L x with
   | none => rfl
   | some zs =>
    have : x ∈ homeKeys nb L := mem_homeKeys.2 ⟨hx, by rw [hL]; rfl⟩
    rw [k1] at this
    cases this
  rw [this]
  rfl
 ·have hql : qs.length = (homeKeys nb L).length := by
   have := congrArg List.length k2
   simpa using this
  have hput : qs.map Pm.put = putsL nb L := by
   have : qs.map Pm.put = (qs.map Pm.say).map fun x => (x.1.toNat, x.2) := by rw [List.map_map]; rfl
   rw [this, k2, List.map_map]
   unfold putsL
   refine List.map_congr_left (fun y _ => ?_)
   simp
  have hpc : putsC nb fr bl qs = 0 := putsC_zero (fun p hp => by
   have hm : p.say ∈ qs.map Pm.say := List.mem_map_of_mem hp
   rw [k2] at hm
   obtain ⟨y, hy, e1⟩ := List.mem_map.1 hm
   obtain ⟨_, _, _, _, _, e5⟩ := k3 p hp
   have e2 : p.at_ = (y : Int) := congrArg Prod.fst e1.symm
   unfold putC
   rw [e2, hh y hy, e5]
   simp)
  have hst := standP_le qs
  have hap : appC nb fr bl d s qs = 0 := by
   unfold appC
   rw [ho.on, hpc, if_neg (by decide), if_neg (by simp), if_neg (by omega), if_neg (by have := ho.sq; omega)]
  have hA := ho.append h.fits.1 hlo hfit hnb (fun p hp => by obtain ⟨_, _, _, _, e4, _⟩ := k3 p hp; exact e4) hap
  obtain ⟨f1, _, f3⟩ := Pd.runs_free ho.on hfu (wlCmds nb fr bl s (appRecs qs))
  obtain ⟨r1, ⟨Z', s', r2, r3, r4⟩, r5⟩ := k4.1 hap
  rw [f1] at r1
  have hon := hA.1 f1
  rw [hput, ← r3 f1] at hon
  refine ⟨r1, q2.keep (r5.block st hsl (fun e => hZs e.1)), (q3.mono (fun _ _ q => .inr q)).comp r5 (fun k _ q => .inl q.1), Z', _, s', Ts ++ [putsL nb L], r2, fun k hk q => (r4 k (Nat.lt_of_lt_of_le hk q3.size) q).1, f3, hon, by simp, fun x hx => contT_putsL home Ts nb L hx⟩
open Go.RowKit Go.Deep
theorem laidP_none (base cnt : Nat) (hc : 0 < cnt) (ps : List Int) (L : Nat → Option (List Int)) (y : Nat) (hy : y < base ∨ base + cnt ≤ y) (h : L y = none) : laidP base cnt L ps y = none := by
 induction ps generalizing L with
 | nil => exact h
 | cons v ps ih =>
  refine ih (putL L (base + into cnt v) (blkZ v)) ?_
  have hi := into_lt v hc
  unfold putL
  rw [if_neg (by omega)]
  exact h
theorem homeKeys_few (base cnt : Nat) (L : Nat → Option (List Int)) (h : ∀ y, (y < base ∨ base + cnt ≤ y) → L y = none) (nb : Nat) : (homeKeys nb L).length ≤ min nb (base + cnt) - base := by
 induction nb with
 | zero => simp [homeKeys]
 | succ nb ih =>
  rw [homeKeys_succ, List.length_append]
  cases hL : L nb with
  | none =>
   simp
   omega
  | some zs =>
   have hin : ¬ (nb < base ∨ base + cnt ≤ nb) := fun q => by
    rw [h nb q] at hL
    cases hL
   simp
   omega
theorem homeKeys_laidP (base cnt : Nat) (hc : 0 < cnt) (ps : List Int) (nb : Nat) : (homeKeys nb (laidP base cnt (fun _ => none) ps)).length ≤ cnt ∧ ∀ y, y ∈ homeKeys nb (laidP base cnt (fun _ => none) ps) → base ≤ y ∧ y < base + cnt := by
 have h0 : ∀ y, (y < base ∨ base + cnt ≤ y) → laidP base cnt (fun _ => none) ps y = none := fun y hy => laidP_none base cnt hc ps _ y hy rfl
 refine ⟨Nat.le_trans (homeKeys_few base cnt _ h0 nb) (by omega), fun y hy => ?_⟩
 obtain ⟨_, h2⟩ := mem_homeKeys.1 hy
 rcases Classical.em (y < base ∨ base + cnt ≤ y) with q | q
 ·rw [h0 y q] at h2
  cases h2
 ·omega
theorem homeC_ok {nb fr bl y : Nat} (h1 : fr + bl ≤ y) (h2 : y < nb) : homeC nb fr bl (y : Int) = 0 := by
 unfold homeC
 rw [if_neg]
 omega
open Go.RowKit Go.Deep
theorem reads_store {Z : Nat → Prop} {w : World} {j c p room nb K fr bl : Nat} {d : Pd} {s : Js} (h : Jq Z w j c p room nb K fr bl d s) (h1 : fr + bl ≤ nb) (hon : d.off = false) (hl : d.puts.length ≤ 1073741824) (hnb : nb ≤ 524288) {st : Nat} {tv : Value} (hs : Stb w st j tv) (hZs : ¬ Z st) (base n : Nat) (hb : fr + bl ≤ base) (hn : base + n ≤ nb) (hK : K + n < 4611686018427387904) :
  Calls Tryz.prog 26 #[.pointer (some ⟨st, 0, none⟩), .pointer none, .int .i64 (base : Int), .int .i64 (n : Int)] w (RdsP Z w j c p room nb K fr bl d s n (fun i => jread d s (base + i))) :=
 reads_around h st base n _ (by omega) (fun q Z' wr hq hJ _ hB => sread_home hJ h1 hon hl (by omega) (base + q) (by omega) (homeC_ok (by omega) (by omega)) (hs.keep (hB.block st hs.lt hZs)))
theorem reads_txn {Z Zw : Nat → Prop} {w : World} {x j c p room nb K fr bl m n0 : Nat} {D : DataW (Nat × Nat × Int)} {a : Nat → Option (Nat × Nat × Int)} {sv mv : Value} {L : Nat → Option (List Int)} {d : Pd} {s : Js} (h : Jq Z w j c p room nb K fr bl d s) (hW : Wq Zw w x j m n0 nb fr bl D a sv mv L) (hdj : ∀ k, Zw k → ¬ Z k) (h1 : fr + bl ≤ nb) (hon : d.off = false) (hl : d.puts.length ≤ 1073741824) (hnb : nb ≤ 524288) {t st : Nat} (ht : Txb w t j (.iface 143 (.pointer (some ⟨x, 0, none⟩))) st (.pointer (some ⟨x, 0, none⟩))) (hs : Stb w st j (.pointer (some ⟨t, 0, none⟩))) (hZt : ¬ Z t) (hZs : ¬ Z st) (base n : Nat) (hb : fr + bl ≤ base) (hn : base + n ≤ nb) (hK : K + n < 4611686018427387904) :
  Calls Tryz.prog 26 #[.pointer (some ⟨st, 0, none⟩), .pointer (some ⟨t, 0, none⟩), .int .i64 (base : Int), .int .i64 (n : Int)] w (RdsP Z w j c p room nb K fr bl d s n (fun i => (L (base + i)).getD (jread d s (base + i)))) :=
 reads_through h st t base n _ (by omega) (fun q Z' wr hq hJ hG hB => tread_home hJ (hW.but hB (fun k _ e => hdj k e)) h1 hon hl (by omega) hnb (base + q) (by omega) (homeC_ok (by omega) (by omega)) (ht.keep (hB.block t ht.lt hZt)) (hs.keep (hB.block st hs.lt hZs)))
open Go.RowKit Go.Deep
def grow (Y : Nat → Prop) (w w' : World) (k : Nat) : Prop := (Y k ∧ k < w.heap.size) ∨ (w.heap.size ≤ k ∧ k < w'.heap.size)
theorem grow.gr (Y : Nat → Prop) (w w' : World) : Gr Y (grow Y w w') w := fun k hk q => by
 rcases q with q | q
 ·exact q.1
 ·omega
def StA (Y : Nat → Prop) (w : World) (j c p st nb K fr bl : Nat) (d : Pd) (s : Js) : Prop :=
 ∃ Z, Jq Z w j c p 4 nb K fr bl d s ∧ (∀ k, Z k → Y k) ∧ Stb w st j (.pointer none) ∧ ¬ Z st ∧ Y st
def StT (Y : Nat → Prop) (w : World) (j c p st nb K fr bl : Nat) (d : Pd) (s : Js) (t x m n : Nat) (L : Nat → Option (List Int)) : Prop :=
 ∃ Z Zw D a, Jq Z w j c p 4 nb K fr bl d s ∧ Wq Zw w x j m n nb fr bl D a (.slice none 0 0) (.slice none 0 0) L ∧ Txb w t j (.iface 143 (.pointer (some ⟨x, 0, none⟩))) st (.pointer (some ⟨x, 0, none⟩)) ∧ Stb w st j (.pointer (some ⟨t, 0, none⟩)) ∧ (∀ k, Z k → Y k) ∧ (∀ k, Zw k → Y k ∧ ¬ Z k) ∧ (∀ z g cp k, a z = some (g, cp, k) → g ≠ m) ∧ (x ≠ m ∧ st ≠ t) ∧ (¬ Z t ∧ ¬ Zw t ∧ Y t) ∧ (¬ Z st ∧ ¬ Zw st ∧ Y st)
theorem StA.begin {Y : Nat → Prop} {w : World} {j c p st nb K fr bl : Nat} {d : Pd} {s : Js} (h : StA Y w j c p st nb K fr bl d s) (hon : d.off = false) :
  Calls Tryz.prog 27 #[.pointer (some ⟨st, 0, none⟩)] w fun e w' => ∃ t x m, e = .returned (.tuple #[.pointer (some ⟨t, 0, none⟩), .int .i64 0]) ∧ StT (grow Y w w') w' j c p st nb K fr bl d s t x m 0 (fun _ => none) ∧ But Y w w' := by
 obtain ⟨Z, h1, h2, h3, h4, h5⟩ := h
 refine Calls.mono (begin_any h1 hon h3) ?_
 rintro e w' ⟨t, x, m, rfl, ⟨q1, q2, q3, q4, q5, q6⟩, r1, r2, r3, r4⟩
 have hsl := h3.lt
 have hs := r4.size
 refine ⟨t, x, m, rfl, ⟨fun k => Z k ∧ k < w.heap.size, fun k => k = x ∨ k = m, _, _, h1.cut.but r4 (fun k _ e1 e2 => h4 (e2 ▸ e1.1)), r3, r1, r2, fun k q => .inl ⟨h2 k q.1, q.2⟩, fun k q => ⟨.inr (by omega), fun e => by omega⟩, (fun z g cp k e => by cases e), ⟨?_, by omega⟩, ⟨fun e => by omega, fun e => by omega, .inr (by omega)⟩, ⟨fun e => h4 e.1, fun e => by omega, .inl ⟨h5, hsl⟩⟩⟩, r4.mono (fun k _ e => e ▸ h5)⟩
 intro e
 have hb := r3.blk
 obtain ⟨es, ck, hm, _⟩ := r3.mp
 rw [e, hm] at hb
 cases hb
theorem StT.abort {Y : Nat → Prop} {w : World} {j c p st nb K fr bl : Nat} {d : Pd} {s : Js} {t x m n : Nat} {L : Nat → Option (List Int)} (h : StT Y w j c p st nb K fr bl d s t x m n L) (hon : d.off = false) :
  Calls Tryz.prog 30 #[.pointer (some ⟨t, 0, none⟩)] w fun e w' => e = .returned (.int .i64 0) ∧ StA (grow Y w w') w' j c p st nb K fr bl d s ∧ But Y w w' := by
 obtain ⟨Z, Zw, D, a, h1, h2, h3, h4, h5, h6, h7, h8, h9, h10⟩ := h
 refine Calls.mono (abort_any h1 hon h3 h4 h8.2) ?_
 rintro e w' ⟨rfl, r1, r2, r3⟩
 have hsl := h4.lt
 refine ⟨rfl, ⟨fun k => Z k ∧ k < w.heap.size, h1.cut.but r3 (fun k _ e1 e2 => e2.elim (fun q => h10.1 (q ▸ e1.1)) (fun q => h9.1 (q ▸ e1.1))), fun k q => .inl ⟨h5 k q.1, q.2⟩, r2, fun e => h10.1 e.1, .inl ⟨h10.2.2, hsl⟩⟩, r3.mono (fun k _ e => e.elim (fun q => q ▸ h10.2.2) (fun q => q ▸ h9.2.2))⟩
open Go.RowKit Go.Deep
def growZ (Y Z : Nat → Prop) (w w' : World) (k : Nat) : Prop := (Y k ∧ k < w.heap.size) ∨ (Z k ∧ w.heap.size ≤ k ∧ k < w'.heap.size)
theorem growZ.gr (Y Z : Nat → Prop) (w w' : World) : Gr Y (growZ Y Z w w') w := fun k hk q => by
 rcases q with q | q
 ·exact q.1
 ·omega
theorem growZ.of {Y Z Z' : Nat → Prop} {w w' : World} (hz : ∀ k, Z k → Y k) (hg : Gr Z Z' w) {k : Nat} (hk : Z' k) (hl : k < w'.heap.size) : growZ Y Z' w w' k := by
 rcases Nat.lt_or_ge k w.heap.size with q | q
 ·exact .inl ⟨hz k (hg k q hk), q⟩
 ·exact .inr ⟨hk, q, hl⟩
theorem StA.reads {Y : Nat → Prop} {w : World} {j c p st nb K fr bl : Nat} {d : Pd} {s : Js} (h : StA Y w j c p st nb K fr bl d s) (h1 : fr + bl ≤ nb) (hon : d.off = false) (hl : d.puts.length ≤ 1073741824) (hnb : nb ≤ 524288) (base n : Nat) (hb : fr + bl ≤ base) (hn : base + n ≤ nb) (hK : K + n < 4611686018427387904) :
  Calls Tryz.prog 26 #[.pointer (some ⟨st, 0, none⟩), .pointer none, .int .i64 (base : Int), .int .i64 (n : Int)] w fun e w' => ∃ lv Y', e = .returned (.tuple #[lv, .bool true]) ∧ w'.ownsRow w.heap.size 9 1 lv n ((List.range n).map (fun q => .string (strOfNums (jread d s (base + q))))) ∧ StA Y' w' j c p st nb (K + n) fr bl d s ∧ (∀ g, lv.ownBlock = some g → ¬ Y' g) ∧ (∀ k, Y' k → k < w'.heap.size) ∧ Gr Y Y' w ∧ But Y w w' := by
 obtain ⟨Z, q1, q2, q3, q4, q5⟩ := h
 refine Calls.mono (reads_store q1 h1 hon hl hnb q3 q4 base n hb hn hK) ?_
 rintro e w' ⟨lv, Z', rfl, r1, r2, r3, r4, r5⟩
 have hs := r5.size
 refine ⟨lv, growZ Y Z' w w', rfl, r1, ⟨fun k => Z' k ∧ k < w'.heap.size, r3.cut, fun k e => growZ.of q2 r4 e.1 e.2, q3.keep (r5.block st q3.lt q4), fun e => q4 (r4 st q3.lt e.1), .inl ⟨q5, q3.lt⟩⟩, fun g e q => ?_, fun k q => by rcases q with q | q <;> omega, growZ.gr _ _ _ _, r5.mono (fun k _ e => q2 k e)⟩
 rcases q with q | q
 ·have := (World.ownsRow.lt r1 g e).1
  omega
 ·exact r2 g e q.1
theorem StT.reads {Y : Nat → Prop} {w : World} {j c p st nb K fr bl : Nat} {d : Pd} {s : Js} {t x m n0 : Nat} {L : Nat → Option (List Int)} (h : StT Y w j c p st nb K fr bl d s t x m n0 L) (h1 : fr + bl ≤ nb) (hon : d.off = false) (hl : d.puts.length ≤ 1073741824) (hnb : nb ≤ 524288) (tv : Value) (f : Nat → List Int) (base n : Nat) (hb : fr + bl ≤ base) (hn : base + n ≤ nb) (hK : K + n < 4611686018427387904) (hc : (tv = .pointer none ∧ f = fun i => jread d s (base + i)) ∨ (tv = .pointer (some ⟨t, 0, none⟩) ∧ f = fun i => (L (base + i)).getD (jread d s (base + i)))) :
  Calls Tryz.prog 26 #[.pointer (some ⟨st, 0, none⟩), tv, .int .i64 (base : Int), .int .i64 (n : Int)] w fun e w' => ∃ lv Y', e = .returned (.tuple #[lv, .bool true]) ∧ w'.ownsRow w.heap.size 9 1 lv n ((List.range n).map (fun q => .string (strOfNums (f q)))) ∧ StT Y' w' j c p st nb (K + n) fr bl d s t x m n0 L ∧ (∀ g, lv.ownBlock = some g → ¬ Y' g) ∧ (∀ k, Y' k → k < w'.heap.size) ∧ Gr Y Y' w ∧ But Y w w' := by
 obtain ⟨Z, Zw, D, a, q1, q2, q3, q4, q5, q6, q7, q8, q9, q10⟩ := h
 have H : Calls Tryz.prog 26 #[.pointer (some ⟨st, 0, none⟩), tv, .int .i64 (base : Int), .int .i64 (n : Int)] w (RdsP Z w j c p 4 nb K fr bl d s n f) := by
  rcases hc with ⟨rfl, rfl⟩ | ⟨rfl, rfl⟩
  ·exact reads_store q1 h1 hon hl hnb q4 q10.1 base n hb hn hK
  ·exact reads_txn q1 q2 (fun k e => (q6 k e).2) h1 hon hl hnb q3 q4 q9.1 q10.1 base n hb hn hK
 refine Calls.mono H ?_
 rintro e w' ⟨lv, Z', rfl, r1, r2, r3, r4, r5⟩
 have hs := r5.size
 refine ⟨lv, growZ Y Z' w w', rfl, r1, ⟨fun k => Z' k ∧ k < w'.heap.size, fun k => Zw k ∧ k < w.heap.size, D, a, r3.cut, q2.cut.but r5 (fun k _ e => (q6 k e.1).2), q3.keep (r5.block t q3.lt q9.1), q4.keep (r5.block st q4.lt q10.1), fun k e => growZ.of q5 r4 e.1 e.2, fun k e => ⟨.inl ⟨(q6 k e.1).1, e.2⟩, fun e2 => (q6 k e.1).2 (r4 k e.2 e2.1)⟩, q7, q8, ⟨fun e => q9.1 (r4 t q3.lt e.1), fun e => q9.2.1 e.1, .inl ⟨q9.2.2, q3.lt⟩⟩, ⟨fun e => q10.1 (r4 st q4.lt e.1), fun e => q10.2.1 e.1, .inl ⟨q10.2.2, q4.lt⟩⟩⟩, fun g e q => ?_, fun k q => by rcases q with q | q <;> omega, growZ.gr _ _ _ _, r5.mono (fun k _ e => q5 k e)⟩
 rcases q with q | q
 ·have := (World.ownsRow.lt r1 g e).1
  omega
 ·exact r2 g e q.1
theorem StT.commit {Y : Nat → Prop} {w : World} {j c p st nb K fr bl lo : Nat} {d : Pd} {s : Js} {t x m n0 : Nat} {L : Nat → Option (List Int)} {home : Nat → List Int} {Ts : List Tn} (h : StT Y w j c p st nb K fr bl d s t x m n0 L) (ho : On d s nb fr bl lo home Ts) (hfu : d.fu = -1) (hlo : 16 ≤ bl) (hfit : fr + bl ≤ nb) (hnb : nb ≤ 524288) (hsq : Ts.length < 1099511627776) (hk : (homeKeys nb L).length ≤ bl / 2 - 4) (hh : ∀ y, y ∈ homeKeys nb L → homeC nb fr bl (y : Int) = 0) :
  Calls Tryz.prog 31 #[.pointer (some ⟨t, 0, none⟩)] w fun e w' => e = .returned (.int .i64 0) ∧ ∃ Y' d' s' Ts', StA Y' w' j c p st nb K fr bl d' s' ∧ d'.fu = -1 ∧ On d' s' nb fr bl lo home Ts' ∧ Ts'.length ≤ Ts.length + 1 ∧ (∀ y, y < nb → contT home Ts' Ts'.length y = (L y).getD (contT home Ts Ts.length y)) ∧ (∀ k, Y' k → k < w'.heap.size) ∧ Gr Y Y' w ∧ But Y w w' := by
 obtain ⟨Z, Zw, D, a, q1, q2, q3, q4, q5, q6, q7, q8, q9, q10⟩ := h
 have hpl := ho.puts hlo hfit hnb
 refine Calls.mono (commit_any q1 (ho.jn hlo hfit hnb) q2 (fun k _ e => (q6 k e).2) ho.on (by omega) hnb q3 q4 q8.2 q9.1 q10.1 q9.2.1 q10.2.1) ?_
 intro e w' H
 obtain ⟨r1, r2, r3, Z', d', s', Ts', r4, r5, r6, r7, r8, r9⟩ := H.on q1 ho hfu hlo hfit hnb hsq hk hh q9.1 q10.1
 have hs := r3.size
 refine ⟨r1, growZ Y Z' w w', d', s', Ts', ⟨fun k => Z' k ∧ k < w'.heap.size, r4.cut, fun k e => growZ.of q5 r5 e.1 e.2, r2, fun e => q10.1 (r5 st q4.lt e.1), .inl ⟨q10.2.2, q4.lt⟩⟩, r6, r7, r8, r9, fun k q => by rcases q with q | q <;> omega, growZ.gr _ _ _ _, r3.mono (fun k _ e => ?_)⟩
 rcases e with e | e | e
 ·exact q5 k e
 ·exact e ▸ q10.2.2
 ·exact e ▸ q9.2.2
open Go.RowKit Go.Deep
theorem StT.wrote {Y : Nat → Prop} {w : World} {j c p st nb K fr bl : Nat} {d : Pd} {s : Js} {t x m n0 : Nat} {L : Nat → Option (List Int)} (h : StT Y w j c p st nb K fr bl d s t x m n0 L) (h1 : fr + bl ≤ nb) (hon : d.off = false) (hl : d.puts.length ≤ 1073741824) (hnb : nb ≤ 524288) (base cnt : Nat) (f : Nat → List Int) (hcnt : 0 < cnt) (hb : fr + bl ≤ base) (hbc : base + cnt ≤ nb) (ha : Option Addr) (hc : Nat) (hS : StrL w (.slice ha cnt hc) (strsP base cnt f L)) (pa : Option Addr) (pc : Nat) (ps : List Int) (hP : IntL Y w pa ps) (hN : n0 + ps.length ≤ 1073741823) (hK : K + ps.length < 4611686018427387904) :
  Calls Tryz.prog 28 #[.pointer (some ⟨t, 0, none⟩), .slice ha cnt hc, .int .i64 (base : Int), .slice pa ps.length pc] w fun e w' => ∃ g cp Y', e = .returned (.tuple #[.slice (some ⟨g, 0, none⟩) cnt cp, .bool true]) ∧ w'.ownsRow w.heap.size 9 1 (.slice (some ⟨g, 0, none⟩) cnt cp) cnt ((strsP base cnt f (laidP base cnt L ps)).map Value.string) ∧ StT Y' w' j c p st nb (K + ps.length) fr bl d s t x m (n0 + ps.length) (laidP base cnt L ps) ∧ ¬ Y' g ∧ (∀ k, Y' k → k < w'.heap.size) ∧ Gr Y Y' w ∧ But Y w w' := by
 obtain ⟨Z, Zw, D, a, q1, q2, q3, q4, q5, q6, q7, q8, q9, q10⟩ := h
 have hmY := (q6 m q2.zm).1
 have htm : t ≠ m := fun e => q9.2.1 (e ▸ q2.zm)
 have hsm : st ≠ m := fun e => q10.2.1 (e ▸ q2.zm)
 refine Calls.mono (wrote_any q1 q2 q8.1 q7 (fun k e => (q6 k e).2) h1 hon hl hnb q3 q4 ⟨q9.1, htm⟩ ⟨q10.1, hsm⟩ base cnt f hcnt hbc (fun i hi => homeC_ok (by omega) (by omega)) ha hc hS pa pc ps (fun i v hv => ?_) hN hK) ?_
 ·obtain ⟨b, off, e1, e2, e3, e4⟩ := hP i v hv
  exact ⟨b, off, e1, e2, fun e => e3 (e.elim (q5 b) (fun e => e ▸ hmY)), e4⟩
 rintro e w' ⟨g, cp, rfl, hg, Z', Zw', D', a', r1, r2, r3, r4, r5, r6, r7, r8, r9, r10⟩
 have hs := r10.size
 have htl := q3.lt
 have hsl := q4.lt
 refine ⟨g, cp, growZ Y (fun k => Z' k ∨ Zw' k) w w', rfl, r1, ⟨fun k => Z' k ∧ k < w'.heap.size, Zw', D', a', r4.cut, r2, q3.keep (r10.block t htl (fun e => e.elim q9.1 htm)), q4.keep (r10.block st hsl (fun e => e.elim q10.1 hsm)), fun k e => ?_, fun k e => ⟨?_, fun e2 => (r7 k e).2 e2.1⟩, r3, q8, ⟨fun e => q9.1 (r5 t htl e.1), fun e => q9.2.1 (r6 t htl e), .inl ⟨q9.2.2, htl⟩⟩, ⟨fun e => q10.1 (r5 st hsl e.1), fun e => q10.2.1 (r6 st hsl e), .inl ⟨q10.2.2, hsl⟩⟩⟩, fun q => ?_, fun k q => by rcases q with q | q <;> omega, growZ.gr _ _ _ _, r10.mono (fun k _ e => e.elim (q5 k) (fun e => e ▸ hmY))⟩
 ·rcases Nat.lt_or_ge k w.heap.size with q | q
  ·exact .inl ⟨q5 k (r5 k q e.1), q⟩
  ·exact .inr ⟨.inl e.1, q, e.2⟩
 ·rcases Nat.lt_or_ge k w.heap.size with q | q
  ·exact .inl ⟨(q6 k (r6 k q e)).1, q⟩
  ·exact .inr ⟨.inr e, q, (r7 k e).1⟩
 ·rcases q with q | q
  ·omega
  ·exact q.1.elim r8 r9
open Go.RowKit Go.Deep
theorem OpP.sta {w : World} {nb fr bl : Nat} {e : Ending} {w' : World} (H : OpP w nb fr bl e w') :
  ∃ ob st j c p Y d s, e = .returned (.tuple #[.pointer (some ⟨ob, 0, none⟩), .bool true]) ∧ w.heap.size ≤ ob ∧ ob < w'.heap.size ∧ w'.cell? ⟨ob, 1, none⟩ = some (.pointer (some ⟨st, 0, none⟩)) ∧ ¬ Y ob ∧ StA Y w' j c p st nb 0 fr bl d s ∧ d.fu = -1 ∧ On d s nb fr bl 0 (⟨zeros (512 * nb), [], -1, false⟩ : Pd).read [] ∧ (∀ k, Y k → w.heap.size ≤ k ∧ k < w'.heap.size) ∧ Below w.heap.size w w' := by
 obtain ⟨ob, p, st, rb, j, c, Z, d, s, lv, h1, ⟨a1, a2, a3, a4, a5, a6⟩, h3, h4, h5, h6, h7, ⟨b1, b2, _⟩, h9, _, h11⟩ := H
 refine ⟨ob, st, j, c, p, fun k => Z k ∨ k = st, d, s, h1, a1, a4, by simp [World.cell?, h3], fun q => q.elim b2 (fun q => by omega), ⟨Z, h4, fun k q => .inl q, h7, b1, .inr rfl⟩, h5, h6, fun k q => ?_, h11⟩
 rcases q with q | q
 ·exact h9 k q
 ·omega
end Go.Proofs.YtldlejpacgphmabGreat
