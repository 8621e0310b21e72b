import Derived.Test.YtldlejpacgphmaaGreatG01
import Derived.Laws.CopyRow
import Derived.Laws.Tables
import Derived.Deep.RegionHeld3
namespace Go.Proofs.YtldlejpacgphmaaGreat
open Go.RowKit
theorem take_splice {α : Type} (L cs : List α) {o n : Nat} (h : o + cs.length ≤ n) (hn : n ≤ L.length) : (L.take o ++ cs ++ L.drop (o + cs.length)).take n = splice (L.take n) o cs := by
 have hA : (L.take n).length = n := by simp; omega
 have e1 : L.take o = (L.take n).take o := by rw [List.take_take, Nat.min_eq_left (by omega)]
 have e2 : L.drop (o + cs.length) = (L.take n).drop (o + cs.length) ++ L.drop n := by
  conv => lhs; rw [← List.take_append_drop n L]
  rw [List.drop_append_of_le_length (by omega)]
 rw [e1, e2]
 have e3 : (L.take n).take o ++ cs ++ ((L.take n).drop (o + cs.length) ++ L.drop n) = splice (L.take n) o cs ++ L.drop n := by simp [splice]
 have hl := length_splice (L.take n) o cs (by omega)
 rw [e3, List.take_append_of_le_length (by omega), List.take_of_length_le (by omega)]
theorem copy_own {ty : TypeId} {w : World} {G n cap o dLen dCap : Nat} {ad : Addr} {m sCap : Nat} {zs cs : List Int} (h : Own w G n cap zs) (hl : cs.length = m) (hm : m ≤ dLen) (ho : o + m ≤ n) (hsrc : ∀ j v, (cs.map (Value.int .u8))[j]? = some v → w.cell? (ad.add j) = some v) :
  ∃ w', (Builtin.copy_ #[22, 22] ty #[.slice (some ⟨G, o, none⟩) dLen dCap, .slice (some ad) m sCap]).run Tryz.prog w = .ok (goInt m) w' ∧ Own w' G n cap (splice zs o cs) ∧ But (fun x => x = G) w w' := by
 have hzl := h.len
 rcases h with ⟨h0, h⟩
 rcases h with ⟨h1, _⟩ | ⟨g', cap', cur, h1, h2, h3, h4, h5, h6, h7⟩
 ·cases h1
 ·cases h1
  have hr := run_copy_row (P := Tryz.prog) w 22 22 ty 5 G o dLen dCap ad m sCap cur 5 (cs.map (Value.int .u8)) Tryz.underlying22 size5 h3 (by simp only [List.length_map, hl]; exact (Nat.min_eq_left hm).symm) hsrc (by simp only [List.length_map]; omega) (u8_one _)
  simp only [List.length_map, hl] at hr
  refine ⟨_, hr, ⟨?_, .inr ⟨G, cap, _, rfl, Nat.le_refl _, setRow_heap w G cur _ 5 (0, 0) h3, h4, h5, ?_, ?_⟩⟩, ⟨rfl, rfl, rfl, by simp [World.setRow], fun k _ hx => setRow_other w G k _ (by intro e; exact hx e)⟩⟩
  ·rw [List.length_map, length_splice _ _ _ (by omega)]
   omega
  ·have : cur.toList.length = cap := by simpa using h6
   simp
   omega
  ·have hc : cur.toList.length = cap := by simpa using h6
   simp only [Nat.mul_one] at h7 ⊢
   have e := take_splice cur.toList (cs.map (Value.int .u8)) (o := o) (n := n) (by simp; omega) (by omega)
   rw [List.length_map, hl, h7] at e
   rw [← splice_map]
   simpa using e
set_option maxRecDepth 100000 in
theorem lay_any {w : World} {G n cap : Nat} {zs : List Int} (h : Own w G n cap zs) (x : Nat) (ad : Addr) (sc : Nat) (cs : List Int) (hR : Rd w.heap.size w (some ad) 512 cs) (hx : x * 512 + 512 ≤ n) (hn : n ≤ 268435456) :
  Calls Tryz.prog 86 #[.slice (some ⟨G, 0, none⟩) n cap, .agg #[.int .i64 (x : Int), .slice (some ad) 512 sc]] w fun e w' => e = .returned (.tuple #[]) ∧ Own w' G n cap (splice zs (x * 512) cs) ∧ But (fun x => x = G) w w' := by
 have hcap := h.cap
 have hG := h.lt
 obtain ⟨wa, hwa⟩ : ∃ wa, wa = w.alloc (.cells #[.int .i64 (x : Int), .slice (some ad) 512 sc] 132) := ⟨_, rfl⟩
 have hb : Below w.heap.size w wa := by rw [hwa]; exact (Below.refl _ _).alloc (Nat.le_refl _) _
 have q0 : wa.cell? ⟨w.heap.size, 0, none⟩ = some (.int .i64 (x : Int)) := by rw [hwa]; exact cell_new rfl 0 _ rfl
 have q1 : wa.cell? ⟨w.heap.size, 1, none⟩ = some (.slice (some ad) 512 sc) := by rw [hwa]; exact cell_new rfl 1 _ rfl
 obtain ⟨ad', e, hsrc⟩ := (hR.below hb).src (by omega)
 cases e
 obtain ⟨w3, hrun, hO, hB⟩ := copy_own (ty := 3) (w := wa.drew) (o := x * 512) (dLen := n - x * 512) (dCap := cap - x * 512) (sCap := sc) (h.keep (w' := wa.drew) (hb.block G hG)) hR.1 (by omega) (by omega) hsrc
 have HO := hid hO
 have HB := hid (But.of_below hb |>.comp (But.refl (fun _ => False) wa).drew (fun _ _ h => h.elim) |>.comp hB (fun _ _ h => h))
 clear hsrc hR hO hB hb
 go_enter Tryz.func86, Tryz.ntmps86
 go_wp2_with fail
 rw [← hwa]
 clear hwa
 go_region
 go_end0
 exact ⟨rfl, HO.out, HB.out⟩
def atsZ (ds : List Pw) : List Int := ds.map fun d => (d.at_ : Int)
theorem fill_step {L : List Int} {k n : Nat} (h : k < L.length) (hn : L.length = n) : (L.take k ++ List.replicate (n - k) 0).set k (L.getD k 0) = L.take (k + 1) ++ List.replicate (n - (k + 1)) 0 := by
 have hk : (L.take k).length = k := by simp; omega
 have e : List.replicate (n - k) (0 : Int) = 0 :: List.replicate (n - (k + 1)) 0 := by
  rw [← List.replicate_succ]
  congr 1
  omega
 rw [List.set_append_right _ _ (by omega), hk, Nat.sub_self, e, List.set_cons_zero, take_snoc h, List.append_assoc]
 simp [List.getD_eq_getElem?_getD]
set_option maxRecDepth 100000 in
set_option maxHeartbeats 1000000 in
theorem Pending_any {X : Nat → Prop} {w : World} {p : Nat} {img : List Int} {puts : List (Nat × List Int)} {fu : Int} {off : Bool} {nb : Nat} (h : Dk X w p img puts fu off nb) (hl : puts.length ≤ 1073741824) :
  Calls Tryz.prog 51 #[.pointer (some ⟨p, 0, none⟩)] w fun e w' => ∃ g, e = .returned (.tuple #[.slice (some ⟨g, 0, none⟩) puts.length puts.length, .int .i64 0]) ∧ w.heap.size ≤ g ∧ Blk .i64 3 w' g (puts.map fun q => (q.1 : Int)) ∧ Below w.heap.size w w' := by
 obtain ⟨ds, gL, cL, pv, mp, rfl, h⟩ := h
 have hats : (ds.map Pw.put).map (fun q => (q.1 : Int)) = atsZ ds := by simp [atsZ, Pw.put]
 rw [hats]
 simp only [List.length_map] at hl ⊢
 obtain ⟨aP, cP, rfl, _⟩ := owns_slice h.row
 have q1 := h.blk.cell 1
 simp only [List.getElem?_toArray, List.getElem?_cons_succ, List.getElem?_cons_zero] at q1
 have hla : (atsZ ds).length = ds.length := by simp [atsZ]
 have HW : Hid (ds.length = 0 ∨ ∃ gP, aP = some ⟨gP, 0, none⟩ ∧ gP < w.heap.size ∧ ∀ i d, ds[i]? = some d → w.cell? ⟨gP, i * 2, none⟩ = some (.int .i64 (d.at_ : Int)) ∧ w.cell? ⟨gP, i * 2 + 1, none⟩ = some (.slice (some ⟨d.g, 0, none⟩) 512 d.c)) := by
  show _ ∨ _
  by_cases h0 : ds.length = 0
  ·exact .inl h0
  ·obtain ⟨g, e, hg, hc⟩ := wide_cell h.row (by omega)
   exact .inr ⟨g, e, hg, fun i d hi => ⟨hc _ _ (pcs_get ds i d hi).1, hc _ _ (pcs_get ds i d hi).2⟩⟩
 have hplt := h.blk.lt
 have hmk := make_i64 ds.length (by omega)
 clear h
 have hB0 : Hid (Blk .i64 3 (w.alloc (.cells ((zeros ds.length).map (Value.int .i64)).toArray 3)) w.heap.size (zeros ds.length)) := Blk.new w _
 have hb0 : Hid (Below w.heap.size w (w.alloc (.cells ((zeros ds.length).map (Value.int .i64)).toArray 3))) := (Below.refl _ _).alloc (Nat.le_refl _) _
 have q1' : (w.alloc (.cells ((zeros ds.length).map (Value.int .i64)).toArray 3)).cell? ⟨p, 1, none⟩ = some (.slice aP ds.length cP) := (World.cell?_alloc_past _ _ _ hplt).trans q1
 go_enter Tryz.func51, Tryz.ntmps51
 go_wp2_with fail
 refine (ask_none w).mono ?_
 rintro e w1 ⟨rfl, rfl⟩
 go_wp2_with fail
 generalize hwm : w1.alloc (.cells ((zeros ds.length).map (Value.int .i64)).toArray 3) = wm at *
 clear hwm hmk q1 q1'
 go_loopw [24] (fun i wt => ∃ k : Nat, k ≤ ds.length ∧ i = .int .i64 (k : Int) ∧ Blk .i64 3 wt w1.heap.size ((atsZ ds).take k ++ List.replicate (ds.length - k) 0) ∧ Below w1.heap.size w1 wt) (fun i _ => ds.length - (intOf i).toNat)
 case atStart => exact ⟨0, Nat.zero_le _, rfl, by simpa [zeros] using hB0.out, hb0.out⟩
 case round =>
  clear hB0 hb0
  obtain ⟨k, hk, rfl, hB, hbt⟩ := hrel
  by_cases hkn : k < ds.length
  ·obtain ⟨gP, rfl, hgP, hcs⟩ := HW.out.resolve_left (by omega)
   have hd := List.getElem?_eq_getElem hkn
   obtain ⟨c0, c1⟩ := hcs k _ hd
   have r0 := (hbt.cell (p := ⟨gP, k * 2, none⟩) hgP).trans c0
   have r1 := (hbt.cell (p := ⟨gP, k * 2 + 1, none⟩) hgP).trans c1
   have hgD : (atsZ ds).getD k 0 = (ds[k].at_ : Int) := by simp [atsZ, hkn]
   have hBa := hB.alloc (.cells #[.int .i64 (ds[k].at_ : Int), .slice (some ⟨ds[k].g, 0, none⟩) 512 ds[k].c] 132)
   have hlB : k < ((atsZ ds).take k ++ List.replicate (ds.length - k) 0).length := by simp; omega
   have cB := hBa.cell k hlB
   have fB := hBa.frozen k
   have hkn' : (k : Int) < (ds.length : Int) := by omega
   have HBs := hid (hBa.set k (ds[k].at_ : Int))
   have Hba := hid ((hbt.alloc hbt.size (.cells #[.int .i64 (ds[k].at_ : Int), .slice (some ⟨ds[k].g, 0, none⟩) 512 ds[k].c] 132)))
   have e0 : (wr.alloc (.cells #[.int .i64 (ds[k].at_ : Int), .slice (some ⟨ds[k].g, 0, none⟩) 512 ds[k].c] 132)).cell? ⟨wr.heap.size, 0, none⟩ = some (.int .i64 (ds[k].at_ : Int)) := cell_new rfl 0 _ rfl
   clear hcs c0 c1 hbt hB hBa hd
   go_wp2_with fail
   go_roundw
   case rel =>
    refine ⟨k + 1, by omega, by go_num, ?_, ?_⟩
    ·have := HBs.out
     have e := fill_step (L := atsZ ds) (k := k) (by omega) hla
     rw [hgD] at e
     rw [e] at this
     exact this
    ·exact Hba.out.setCell (p := ⟨w1.heap.size, k, none⟩) (Nat.le_refl _) _
   case measure => simp [intOf]; omega
  ·obtain rfl : k = ds.length := by omega
   have HB := hid hB
   have Hbt := hid hbt
   clear hB hbt
   go_wp2
   go_ret2
   refine ⟨w1.heap.size, rfl, Nat.le_refl _, ?_, Hbt.out⟩
   have := HB.out
   rw [Nat.sub_self, List.replicate_zero, List.append_nil, ← hla, List.take_length] at this
   exact this
end Go.Proofs.YtldlejpacgphmaaGreat
namespace Go.Proofs.YtldlejpacgphmaaGreat
open Go.RowKit
def leastK (ks : List Int) (i : Nat) : Int := if i = 0 then 0 else ks.getD (i - 1) 0 + 1
abbrev GoodK (n : Nat) (ks : List Int) : Prop := ∀ i, i < ks.length → leastK ks i ≤ ks.getD i 0 ∧ ks.getD i 0 < (n : Int)
def placesC (n : Nat) (ks : List Int) : Int := if GoodK n ks then 0 else 26
theorem good_lo {n : Nat} {ks : List Int} (h : GoodK n ks) : ∀ i, i < ks.length → 0 ≤ ks.getD i 0 := by
 intro i
 induction i with
 | zero => intro hi; have := (h 0 hi).1; simpa [leastK] using this
 | succ i ih =>
  intro hi
  have h1 := (h (i + 1) hi).1
  have h2 := ih (by omega)
  unfold leastK at h1
  rw [if_neg (by omega), Nat.add_sub_cancel] at h1
  omega
def layP (puts : List (Nat × List Int)) (im : List Int) (k : Int) : List Int := splice im ((puts.getD k.toNat (0, [])).1 * 512) (puts.getD k.toNat (0, [])).2
def crashZ (img : List Int) (puts : List (Nat × List Int)) (ks : List Int) : List Int := ks.foldl (layP puts) img
theorem fold_snoc {α β : Type} (f : β → α → β) (b : β) (l : List α) {k : Nat} (h : k < l.length) : (l.take (k + 1)).foldl f b = f ((l.take k).foldl f b) l[k] := by
 rw [List.take_succ_eq_append_getElem h, List.foldl_append]
 rfl
end Go.Proofs.YtldlejpacgphmaaGreat
namespace Go.Proofs.YtldlejpacgphmaaGreat
open Go.RowKit
theorem DkW.reimg {X : Nat → Prop} {w w' : World} {p : Nat} {img img' : List Int} {ds : List Pw} {fu : Int} {off : Bool} {gL cL : Nat} {pv : Value} {mp nb : Nat} (h : DkW X w p img ds fu off gL cL pv mp nb) (hO : Own w' gL (512 * nb) cL img') (hi : Pl.isB img') (hb : But (fun x => x = gL) w w') : DkW X w' p img' ds fu off gL cL pv mp nb := by
 obtain ⟨a1, a2, a3, a4⟩ := h.apart
 obtain ⟨cur, hcur⟩ := h.own.kind
 have k : ∀ g, g < w.heap.size → g ≠ gL → w'.heap[g]? = w.heap[g]? := fun g h1 h2 => hb.block g h1 h2
 refine ⟨h.blk.of_block (k p h.blk.lt (Ne.symm a1)), hO, hi, h.lo, h.hi, owns_keep h.row (fun g e => k g (World.ownsRow.lt h.row g e).2 (fun e2 => ?_)), fun d hd => ⟨(h.dat d hd).1.keep (k _ (h.dat d hd).1.lt (h.dat d hd).2.2.1), (h.dat d hd).2⟩, h.map.keep (k _ h.map.lt (fun e2 => ?_)), h.xp, h.xl, h.xm, h.xr, h.fus⟩
 ·obtain ⟨c2, hc2⟩ := row_kind h.row e
  rw [e2, hcur] at hc2
  cases hc2
 ·obtain ⟨es, ck, hc2⟩ := h.map.kind
  rw [e2, hcur] at hc2
  cases hc2
def flushZ (img : List Int) (puts : List (Nat × List Int)) : List Int := puts.foldl (fun im q => splice im (q.1 * 512) q.2) img
def flushC (off : Bool) (fu : Int) : Int := if off then 24 else burnC fu
def afterF (off : Bool) (fu : Int) : Int := if off then fu else burnF fu
def afterO (off : Bool) (fu : Int) : Bool := if off then true else burnO fu off
theorem mapL_new (w : World) : MapL (w.alloc (.map #[] 0)) w.heap.size 0 [] := by
 refine ⟨.map [], World.ownsMap_made w Tryz.prog 3 (plainElem Tryz.prog 3), fun x => .inl ⟨rfl, fun d hd => by cases hd⟩⟩
set_option maxRecDepth 100000 in
set_option maxHeartbeats 1000000 in
theorem Flush_any {X : Nat → Prop} {w : World} {p : Nat} {img : List Int} {puts : List (Nat × List Int)} {fu : Int} {off : Bool} {nb : Nat} (h : Dk X w p img puts fu off nb) (hl : puts.length ≤ 1073741824) :
  Calls Tryz.prog 106 #[.pointer (some ⟨p, 0, none⟩)] w fun e w' => e = .returned (.int .i64 (flushC off fu)) ∧ Dk (fun x => X x ∨ w.heap.size ≤ x) w' p (if flushC off fu = 0 then flushZ img puts else img) (if flushC off fu = 0 then [] else puts) (afterF off fu) (afterO off fu) nb ∧ But X w w' := by
 obtain ⟨ds, gL, cL, pv, mp, rfl, h⟩ := h
 obtain ⟨aP, cP, rfl, _⟩ := owns_slice h.row
 have hhi := h.hi
 simp only [List.length_map] at hl
 obtain ⟨w2, hw2⟩ : ∃ w2, w2 = w.alloc (.cells #[.func (.func 75) #[] #[], .func (.func 90) #[] #[]] 122) := ⟨_, rfl⟩
 have b2 : Below w.heap.size w w2 := by rw [hw2]; exact (Below.refl _ _).alloc (Nat.le_refl _) _
 have k0 : w2.cell? ⟨w.heap.size, 0, none⟩ = some (.func (.func 75) #[] #[]) := by rw [hw2]; exact cell_new rfl 0 _ rfl
 have k1 : w2.cell? ⟨w.heap.size, 1, none⟩ = some (.func (.func 90) #[] #[]) := by rw [hw2]; exact cell_new rfl 1 _ rfl
 have h2 := h.keep (w' := w2) (fun x _ hx => b2.block x hx)
 have HT : Calls Tryz.prog 90 (#[.pointer (some ⟨p, 0, none⟩)] ++ #[]) w2 fun e w' => e = .returned (.int .i64 (burnC fu)) ∧ (DkW X w' p img ds (burnF fu) (burnO fu off) gL cL (.slice aP ds.length cP) mp nb ∧ But (fun x => x = p) w2 w') := goes_any h2
 have HA := hid (ask_two (f := 90) (cap := #[]) (Q := fun e w' => e = .returned (.int .i64 (flushC off fu)) ∧ DkW X w' p img ds (afterF off fu) (afterO off fu) gL cL (.slice aP ds.length cP) mp nb ∧ But X w w') (k := w.heap.size) (.inr (.inr rfl)) h2.blk HT k0 k1
  (fun e => ⟨by rw [e]; rfl, by have := h2; subst e; exact this, But.of_below b2⟩) (fun e w' hb => ⟨by rw [e]; rfl, by have := hb.1; subst e; exact this, (But.of_below b2).comp hb.2 (fun x _ e => e ▸ h.xp)⟩))
 have hmm := @run_makeMap Tryz.prog
 clear k0 k1 b2 HT h h2
 go_enter Tryz.func106, Tryz.ntmps106
 go_wp2_with fail
 rw [← hw2]
 refine Calls.mono HA.out ?_
 rintro e w3 ⟨rfl, h3, u3⟩
 have H3 := hid h3
 have U3 := hid u3
 clear hw2 HA u3
 by_cases hz : flushC off fu = 0
 ·have Hz := hid hz
  have q1 := h3.blk.cell 1
  simp only [List.getElem?_toArray, List.getElem?_cons_succ, List.getElem?_cons_zero] at q1
  simp only [hz]
  clear h3 hz
  go_wp2_with fail
  clear q1
  go_loopw [17] (fun i wt => ∃ k : Nat, k ≤ ds.length ∧ i = .int .i64 (k : Int) ∧ DkW X wt p ((ds.take k).foldl (fun im d => splice im (d.at_ * 512) d.data) img) ds (afterF off fu) (afterO off fu) gL cL (.slice aP ds.length cP) mp nb ∧ But X w wt) (fun i _ => ds.length - (intOf i).toNat)
  case atStart => exact ⟨0, Nat.zero_le _, rfl, H3.out, U3.out⟩
  case round =>
   clear H3 U3
   obtain ⟨k, hk, rfl, hI, hu⟩ := hrel
   by_cases hkn : k < ds.length
   ·have hd : ds[k]? = some ds[k] := List.getElem?_eq_getElem hkn
    obtain ⟨gP, rfl, hgP, hpc⟩ := wide_cell hI.row (by omega)
    have r1 := hpc _ _ (pcs_get ds k _ hd).1
    have r2 := hpc _ _ (pcs_get ds k _ hd).2
    obtain ⟨wa, hwa⟩ : ∃ wa, wa = wr.alloc (.cells #[.int .i64 (ds[k].at_ : Int), .slice (some ⟨ds[k].g, 0, none⟩) 512 ds[k].c] 132) := ⟨_, rfl⟩
    have ba : Below wr.heap.size wr wa := by rw [hwa]; exact (Below.refl _ _).alloc (Nat.le_refl _) _
    have hIa := hI.keep (w' := wa.drew) (fun x _ hx => ba.block x hx)
    have e0 : wa.cell? ⟨wr.heap.size, 0, none⟩ = some (.int .i64 (ds[k].at_ : Int)) := by rw [hwa]; exact cell_new rfl 0 _ rfl
    have e1 : wa.cell? ⟨wr.heap.size, 1, none⟩ = some (.slice (some ⟨ds[k].g, 0, none⟩) 512 ds[k].c) := by rw [hwa]; exact cell_new rfl 1 _ rfl
    have q0 : wa.cell? ⟨p, 0, none⟩ = some (.slice (some ⟨gL, 0, none⟩) (512 * nb) cL) := hIa.blk.cell 0
    have hdd := hIa.dat ds[k] (List.getElem_mem hkn)
    have HL := hid (lay_any hIa.own ds[k].at_ ⟨ds[k].g, 0, none⟩ ds[k].c ds[k].data (hdd.1.rd hdd.2.1) (by have := hdd.2.2.2.2; omega) (by omega))
    have Hpl := hid (And.intro hIa.blk.lt (Ne.symm hIa.apart.1))
    have Hbl := hid (show wr.heap.size < wa.heap.size ∧ wr.heap.size ≠ gL from ⟨by rw [hwa]; simp, by have := hI.own.lt; omega⟩)
    have hkn' : (k : Int) < (ds.length : Int) := by omega
    have HS := hid (And.intro hIa (And.intro hu (And.intro ba hdd.2.1)))
    clear hI hu hpc hIa hdd ba hd
    go_wp2_with fail
    rw [← hwa]
    clear hwa
    go_region_held3 (fun w' => w'.cell? ⟨p, 0, none⟩ = some (.slice (some ⟨gL, 0, none⟩) (512 * nb) cL) ∧ w'.cell? ⟨wr.heap.size, 0, none⟩ = some (.int .i64 (ds[k].at_ : Int)) ∧ w'.cell? ⟨wr.heap.size, 1, none⟩ = some (.slice (some ⟨ds[k].g, 0, none⟩) 512 ds[k].c)) (first | (exact ⟨by assumption, by assumption, by assumption⟩) | go_keep)
     ((go_at_call 86; refine Calls.mono HL.out ?_; rintro e w6 ⟨rfl, hO6, hB6⟩; have j0 := (hB6.cell (p := ⟨p, 0, none⟩) Hpl.out.1 Hpl.out.2).trans q0; have j1 := (hB6.cell (p := ⟨wr.heap.size, 0, none⟩) Hbl.out.1 Hbl.out.2).trans e0; have j2 := (hB6.cell (p := ⟨wr.heap.size, 1, none⟩) Hbl.out.1 Hbl.out.2).trans e1; have HO6 := hid hO6; have HB6 := hid hB6; clear hO6 hB6))
    clear HL q0 e0 e1 j0 j1 j2 r1 r2
    go_wp2_with fail
    go_roundw
    case rel =>
     obtain ⟨hIa, hu, ba, hdb⟩ := HS.out
     have hst : (ds.take (k + 1)).foldl (fun im d => splice im (d.at_ * 512) d.data) img = splice ((ds.take k).foldl (fun im d => splice im (d.at_ * 512) d.data) img) (ds[k].at_ * 512) ds[k].data := fold_snoc _ _ _ hkn
     refine ⟨k + 1, by omega, by go_num, ?_, ?_⟩
     ·rw [hst]
      exact hIa.reimg HO6.out (isB_splice hIa.isb hdb _) HB6.out
     ·exact ((hu.trans (But.of_below ba)).comp (But.refl (fun _ => False) wa).drew (fun _ _ h => h.elim)).comp HB6.out (fun x _ e => e ▸ hIa.xl)
    case measure => simp [intOf]; omega
   ·obtain rfl : k = ds.length := by omega
    have HI := hid hI
    have Hu := hid hu
    have q1 := hI.blk.cell 1
    have f1 := hI.blk.frozen 1
    have hb1 : Dkb (wr.setCell ⟨p, 1, none⟩ (.slice none 0 0)) p (.slice (some ⟨gL, 0, none⟩) (512 * nb) cL) (.slice none 0 0) (.map (some mp)) (afterF off fu) (afterO off fu) := by unfold Dkb; simpa using hI.blk.set 1 (.slice none 0 0)
    have Hb1 := hid hb1
    obtain ⟨wm, hwm⟩ : ∃ wm, wm = (wr.setCell ⟨p, 1, none⟩ (.slice none 0 0)).alloc (.map #[] 0) := ⟨_, rfl⟩
    have hbm : Dkb wm p (.slice (some ⟨gL, 0, none⟩) (512 * nb) cL) (.slice none 0 0) (.map (some mp)) (afterF off fu) (afterO off fu) := by
     rw [hwm]
     exact hb1.of_block (Below.heap_alloc _ _ _ hb1.lt)
    have Hbm := hid hbm
    have q2 := hbm.cell 2
    have f2 := hbm.frozen 2
    simp only [List.getElem?_toArray, List.getElem?_cons_succ, List.getElem?_cons_zero] at q1 q2
    rw [hwm] at q2 f2
    clear hI hu hb1 hbm
    go_wp2
    go_ret
    have hz := Hz.out
    have hsz : (wr.setCell ⟨p, 1, none⟩ (.slice none 0 0)).heap.size = wr.heap.size := by simp [World.setCell]
    rw [← hwm]
    have hfl : (ds.take ds.length).foldl (fun im d => splice im (d.at_ * 512) d.data) img = flushZ img (ds.map Pw.put) := by
     rw [List.take_length]
     unfold flushZ
     rw [List.foldl_map]
     rfl
    obtain ⟨a1, _, _, _⟩ := HI.out.apart
    have km : ∀ g, g < wr.heap.size → g ≠ p → (wm.setCell ⟨p, 2, none⟩ (.map (some wr.heap.size))).heap[g]? = wr.heap[g]? := fun g h1 h2 => by
     rw [Below.heap_setCell _ _ _ _ h2, hwm, Below.heap_alloc _ _ _ (by omega), Below.heap_setCell _ _ _ _ h2]
    have hU : But X w (wm.setCell ⟨p, 2, none⟩ (.map (some wr.heap.size))) := by
     rw [hwm]
     exact ((Hu.out.setCell (p := ⟨p, 1, none⟩) HI.out.xp _).alloc _).setCell (p := ⟨p, 2, none⟩) HI.out.xp _
    have hwr : w.heap.size ≤ wr.heap.size := Hu.out.size
    have hne : wr.heap.size ≠ p := fun e => by have := HI.out.blk.lt; omega
    refine ⟨rfl, ⟨[], gL, cL, .slice none 0 0, wr.heap.size, rfl, ?_⟩, hU⟩
    refine ⟨?_, ?_, ?_, HI.out.lo, HI.out.hi, ⟨rfl, .inl ⟨rfl, rfl⟩⟩, (fun d hd => by cases hd), ?_, .inl HI.out.xp, .inl HI.out.xl, .inr hwr, (fun g e => by cases e), HI.out.fus⟩
    ·unfold Dkb; simpa using Hbm.out.set 2 (.map (some wr.heap.size))
    ·have := HI.out.own.keep (km gL HI.out.own.lt a1)
     rw [hfl] at this
     exact this
    ·have := HI.out.isb
     rw [hfl] at this
     exact this
    ·have := mapL_new (wr.setCell ⟨p, 1, none⟩ (.slice none 0 0))
     rw [← hwm, hsz] at this
     exact this.keep (Below.heap_setCell _ _ _ _ hne)
 ·clear h3
  go_wp2
  go_ret
  exact ⟨rfl, Dk.mono (X := X) ⟨ds, gL, cL, _, mp, rfl, H3.out⟩ (fun x h => .inl h), U3.out⟩
end Go.Proofs.YtldlejpacgphmaaGreat
