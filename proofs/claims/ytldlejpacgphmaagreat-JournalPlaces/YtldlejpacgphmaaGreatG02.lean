import Derived.Test.YtldlejpacgphmaaGreatG01
import Derived.Laws.CopyRow
import Derived.Laws.Tables
namespace Go.Proofs.YtldlejpacgphmaaGreat
open Go.RowKit
theorem cell_new {w : World} {vs : Array Value} {t : TypeId} {S : Nat} (hS : w.heap.size = S) (i : Nat) (v : Value) (h : vs[i]? = some v) : (w.alloc (.cells vs t)).cell? ⟨S, i, none⟩ = some v := by
  have e : (w.alloc (.cells vs t)).heap[S]? = some (.cells vs t) := by
    subst hS
    show (w.heap.push _)[w.heap.size]? = _
    simp
  simp [World.cell?, e, h]
/-- the world in which two checks are asked: what the second has caught, and the list of both -/
theorem two_ready (w : World) (v : Value) (t : TypeId) (f : Nat) {w2 : World} (e : w2 = (w.alloc (.cells #[v] t)).alloc (.cells #[.func (.func 75) #[] #[], .func (.func f) #[] #[.pointer (some ⟨w.heap.size, 0, none⟩)]] 122)) :
    Below w.heap.size w w2 ∧ w2.cell? ⟨w.heap.size, 0, none⟩ = some v ∧ w2.cell? ⟨w.heap.size + 1, 0, none⟩ = some (.func (.func 75) #[] #[]) ∧ w2.cell? ⟨w.heap.size + 1, 1, none⟩ = some (.func (.func f) #[] #[.pointer (some ⟨w.heap.size, 0, none⟩)]) := by
  subst e
  have z : (w.alloc (.cells #[v] t)).heap.size = w.heap.size + 1 := by simp
  refine ⟨((Below.refl _ _).alloc (Nat.le_refl _) _).alloc (by omega) _, ?_, cell_new z 0 _ rfl, cell_new z 1 _ rfl⟩
  rw [World.cell?_alloc_past _ _ _ (by simp)]
  exact cell_new rfl 0 _ rfl
/-- what a Read answers: the number of its error, and the bytes -/
def readR (img : List Int) (puts : List (Nat × List Int)) (off : Bool) (nb : Nat) (x : Int) : Int × List Int :=
  if off then (24, []) else if x < 0 ∨ (nb : Int) ≤ x then (22, []) else (0, seenZ img puts x.toNat)
set_option maxRecDepth 100000 in
set_option maxHeartbeats 1000000 in
theorem Read_any {X : Nat → Prop} {w : World} {p : Nat} {img : List Int} {puts : List (Nat × List Int)} {fu : Int} {off : Bool} {nb : Nat} (h : Dk X w p img puts fu off nb) (x : Int) (hl : puts.length ≤ 1073741824) :
    Calls Tryz.prog 67 #[.pointer (some ⟨p, 0, none⟩), .int .i64 x] w fun e w' => ∃ al c, e = .returned (.tuple #[.slice al (readR img puts off nb x).2.length c, .int .i64 (readR img puts off nb x).1]) ∧
      ((al = none ∧ c = 0 ∧ (readR img puts off nb x).2 = []) ∨ ∃ g, al = some ⟨g, 0, none⟩ ∧ w.heap.size ≤ g ∧ Own w' g (readR img puts off nb x).2.length c (readR img puts off nb x).2) ∧ Below w.heap.size w w' := by
  obtain ⟨ds, gL, cL, pv, mp, rfl, h⟩ := h
  have HI := hid (isThere_any x w)
  obtain ⟨w2, hw2⟩ : ∃ w2, w2 = (w.alloc (.cells #[.int .i64 x] 3)).alloc (.cells #[.func (.func 75) #[] #[], .func (.func 121) #[] #[.pointer (some ⟨w.heap.size, 0, none⟩)]] 122) := ⟨_, rfl⟩
  obtain ⟨b2, hc, k0, k1⟩ := two_ready w _ _ _ hw2
  have HT : Calls Tryz.prog 121 (#[.pointer (some ⟨p, 0, none⟩)] ++ #[.pointer (some ⟨w.heap.size, 0, none⟩)]) w2 fun e w' => e = .returned (.int .i64 (if x < 0 ∨ (nb : Int) ≤ x then 22 else 0)) ∧ Below w2.heap.size w2 w' := isThere1_any h.hi hc (h.blk.of_block (b2.block p h.blk.lt))
  have HA := hid (ask_two (f := 121) (cap := #[.pointer (some ⟨w.heap.size, 0, none⟩)]) (Q := fun e w' => e = .returned (.int .i64 (if off then 24 else if x < 0 ∨ (nb : Int) ≤ x then 22 else 0)) ∧ Below w.heap.size w w') (k := w.heap.size + 1) (.inl rfl) (h.blk.of_block (b2.block p h.blk.lt)) HT k0 k1 (fun e => ⟨by rw [e]; rfl, b2⟩) (fun e w' hb => ⟨by rw [e]; rfl, b2.trans (hb.mono b2.size)⟩))
  clear k0 k1 hc b2 HT
  go_enter Tryz.func67, Tryz.ntmps67
  go_wp2_with fail
  refine Calls.mono HI.out ?_
  rintro e w1 ⟨rfl, rfl⟩
  go_wp2_with fail
  rw [← hw2]
  refine Calls.mono HA.out ?_
  rintro e w3 ⟨rfl, hb3⟩
  have Hb3 := hid hb3
  have H3 := hid (h.keep (w' := w3) (fun x _ hx => hb3.block x hx))
  clear hw2 HA HI hb3 h
  cases off
  · by_cases hx : x < 0 ∨ (nb : Int) ≤ x
    · simp only [if_pos hx, Bool.false_eq_true, if_false]
      have hr : readR img (ds.map Pw.put) false nb x = (22, []) := by simp only [readR, if_pos hx, Bool.false_eq_true, if_false]
      clear hx
      go_wp2
      go_ret2
      rw [hr]
      exact ⟨none, 0, rfl, .inl ⟨rfl, rfl, rfl⟩, Hb3.out⟩
    · obtain ⟨y, rfl⟩ : ∃ y : Nat, x = y := ⟨x.toNat, by omega⟩
      have HSn := hid (seen_any H3.out y (by omega) (by simpa using hl))
      have hr : readR img (ds.map Pw.put) false nb (y : Int) = (0, seenZ img (ds.map Pw.put) y) := by simp only [readR, if_neg hx, Bool.false_eq_true, if_false, Int.toNat_natCast]
      simp only [if_neg hx, Bool.false_eq_true, if_false]
      clear hx
      go_wp2_with fail
      refine Calls.mono HSn.out ?_
      rintro e w4 ⟨ad, c, rfl, hR, rfl⟩
      have HCl := hid (Clone_any ad 512 c _ w4 (by omega) hR)
      have hlen := hR.1
      clear hR HSn
      generalize seenZ img (ds.map Pw.put) y = Z at *
      go_wp2_with fail
      refine Calls.mono HCl.out ?_
      rintro e w5 ⟨g, cap, rfl, hg, hO, hb5⟩
      have HO := hid hO
      have Hb5 := hid hb5
      have Hg := hid hg
      clear hO hb5 hg HCl
      go_wp2
      go_ret2
      rw [hr]
      show ∃ al c, _ = Ending.returned (.tuple #[.slice al Z.length c, .int .i64 0]) ∧ ((al = none ∧ c = 0 ∧ Z = []) ∨ ∃ g, al = some ⟨g, 0, none⟩ ∧ _ ≤ g ∧ Own _ g Z.length c Z) ∧ _
      rw [hlen]
      exact ⟨some ⟨g, 0, none⟩, cap, rfl, .inr ⟨g, rfl, Nat.le_trans Hb3.out.size Hg.out, HO.out⟩, Hb3.out.trans (Hb5.out.mono Hb3.out.size)⟩
  · simp only [if_true]
    have hr : readR img (ds.map Pw.put) true nb x = (24, []) := by simp only [readR, if_true]
    go_wp2
    go_ret2
    rw [hr]
    exact ⟨none, 0, rfl, .inl ⟨rfl, rfl, rfl⟩, Hb3.out⟩
theorem On_any {X : Nat → Prop} {w : World} {p : Nat} {img : List Int} {puts : List (Nat × List Int)} {fu : Int} {off : Bool} {nb : Nat} (h : Dk X w p img puts fu off nb) :
    Calls Tryz.prog 37 #[.pointer (some ⟨p, 0, none⟩)] w fun e w' => e = .returned (.bool (!off)) ∧ Below w.heap.size w w' := by
  obtain ⟨ds, gL, cL, pv, mp, rfl, h⟩ := h
  have b2 : Below w.heap.size w (w.alloc (.cells #[.func (.func 75) #[] #[]] 122)) := (Below.refl _ _).alloc (Nat.le_refl _) _
  have HA := hid (ask_on (k := w.heap.size) (h.blk.of_block (b2.block p h.blk.lt)) (cell_new rfl 0 _ rfl))
  have Hb := hid b2
  clear h b2
  go_enter Tryz.func37, Tryz.ntmps37
  go_wp2_with fail
  refine Calls.mono HA.out ?_
  rintro e w1 ⟨rfl, rfl⟩
  clear HA
  cases off
  · go_wp2
    go_ret
    exact ⟨rfl, Hb.out⟩
  · go_wp2
    go_ret
    exact ⟨rfl, Hb.out⟩
set_option maxRecDepth 100000 in
theorem Image_any {X : Nat → Prop} {w : World} {p : Nat} {img : List Int} {puts : List (Nat × List Int)} {fu : Int} {off : Bool} {nb : Nat} (h : Dk X w p img puts fu off nb) :
    Calls Tryz.prog 40 #[.pointer (some ⟨p, 0, none⟩)] w fun e w' => ∃ g c, e = .returned (.tuple #[.slice (some ⟨g, 0, none⟩) img.length c, .int .i64 0]) ∧ w.heap.size ≤ g ∧ Own w' g img.length c img ∧ Below w.heap.size w w' := by
  obtain ⟨ds, gL, cL, pv, mp, rfl, h⟩ := h
  have hlen := h.own.len
  have hhi := h.hi
  have HCl := hid (Clone_any ⟨gL, 0, none⟩ (512 * nb) cL img w (by omega) (h.own.rd h.isb))
  have q0 := h.blk.cell 0
  simp only [List.getElem?_toArray, List.getElem?_cons_zero] at q0
  clear h
  go_enter Tryz.func40, Tryz.ntmps40
  go_wp2_with fail
  refine (ask_none w).mono ?_
  rintro e w1 ⟨rfl, rfl⟩
  go_wp2_with fail
  refine Calls.mono HCl.out ?_
  rintro e w5 ⟨g, cap, rfl, hg, hO, hb5⟩
  have HO := hid hO
  have Hb5 := hid hb5
  have Hg := hid hg
  clear hO hb5 hg HCl q0
  go_wp2
  go_ret2
  rw [hlen]
  exact ⟨g, cap, rfl, Hg.out, HO.out, Hb5.out⟩
end Go.Proofs.YtldlejpacgphmaaGreat
namespace Go.Proofs.YtldlejpacgphmaaGreat
open Go.RowKit
theorem Own.kind {w : World} {g n c : Nat} {zs : List Int} (h : Own w g n c zs) : ∃ cur, w.heap[g]? = some (.cells cur 5 (0, 0)) := by
  rcases h.2 with ⟨h1, _⟩ | ⟨_, _, cur, h1, _, h2, _⟩
  · cases h1
  · cases h1
    exact ⟨cur, h2⟩
theorem row_kind {w : World} {base e size n : Nat} {v : Value} {xs : List Value} (h : w.ownsRow base e size v n xs) {g : Nat} (hg : v.ownBlock = some g) : ∃ cur, w.heap[g]? = some (.cells cur e (0, 0)) := by
  rcases h.2 with ⟨h1, _⟩ | ⟨_, _, cur, h1, _, h2, _⟩
  · rw [h1] at hg; cases hg
  · rw [h1] at hg; cases hg
    exact ⟨cur, h2⟩
theorem MapL.kind {w : World} {mp n : Nat} {ds : List Pw} (h : MapL w mp n ds) : ∃ es ck, w.heap[mp]? = some (.map es ck) := by
  obtain ⟨D, ⟨es, ck, h1, _⟩, _⟩ := h
  exact ⟨es, ck, h1⟩
/-- a disk's own block is none of what it leads to -/
theorem DkW.apart {X : Nat → Prop} {w : World} {p : Nat} {img : List Int} {ds : List Pw} {fu : Int} {off : Bool} {gL cL : Nat} {pv : Value} {mp nb : Nat} (h : DkW X w p img ds fu off gL cL pv mp nb) : gL ≠ p ∧ (∀ g, pv.ownBlock = some g → g ≠ p) ∧ mp ≠ p ∧ ∀ d ∈ ds, d.g ≠ p := by
  have hp : w.heap[p]? = _ := h.blk
  refine ⟨fun e => ?_, fun g hg e => ?_, fun e => ?_, fun d hd e => ?_⟩
  · obtain ⟨cur, hc⟩ := h.own.kind
    rw [e, hp] at hc
    cases hc
  · obtain ⟨cur, hc⟩ := row_kind h.row hg
    rw [e, hp] at hc
    cases hc
  · obtain ⟨es, ck, hc⟩ := h.map.kind
    rw [e, hp] at hc
    cases hc
  · obtain ⟨cur, hc⟩ := (h.dat d hd).1.kind
    rw [e, hp] at hc
    cases hc
theorem DkW.reblk {X : Nat → Prop} {w : World} {p : Nat} {img : List Int} {ds : List Pw} {fu fu' : Int} {off off' : Bool} {gL cL : Nat} {pv : Value} {mp nb : Nat} (h : DkW X w p img ds fu off gL cL pv mp nb) {t : Nat} {v : Value} (hb : Dkb (w.setCell ⟨p, t, none⟩ v) p (.slice (some ⟨gL, 0, none⟩) (512 * nb) cL) pv (.map (some mp)) fu' off') (hf : -1 ≤ fu' ∧ fu' ≤ 9223372036854775807) :
    DkW X (w.setCell ⟨p, t, none⟩ v) p img ds fu' off' gL cL pv mp nb := by
  obtain ⟨a1, a2, a3, a4⟩ := h.apart
  have k : ∀ g, g ≠ p → (w.setCell ⟨p, t, none⟩ v).heap[g]? = w.heap[g]? := fun g hg => Below.heap_setCell _ _ _ _ hg
  exact ⟨hb, h.own.keep (k _ a1), h.isb, h.lo, h.hi, owns_keep h.row (fun g e => k g (a2 g e)), fun d hd => ⟨(h.dat d hd).1.keep (k _ (a4 d hd)), (h.dat d hd).2⟩, h.map.keep (k _ a3), h.xp, h.xl, h.xm, h.xr, hf⟩
theorem DkW.setF {X : Nat → Prop} {w : World} {p : Nat} {img : List Int} {ds : List Pw} {fu : Int} {off : Bool} {gL cL : Nat} {pv : Value} {mp nb : Nat} (h : DkW X w p img ds fu off gL cL pv mp nb) (k : Int) (hk : -1 ≤ k ∧ k ≤ 9223372036854775807) : DkW X (w.setCell ⟨p, 3, none⟩ (.int .i64 k)) p img ds k off gL cL pv mp nb :=
  h.reblk (by unfold Dkb; simpa using h.blk.set 3 (.int .i64 k)) hk
theorem DkW.setO {X : Nat → Prop} {w : World} {p : Nat} {img : List Int} {ds : List Pw} {fu : Int} {off : Bool} {gL cL : Nat} {pv : Value} {mp nb : Nat} (h : DkW X w p img ds fu off gL cL pv mp nb) (b : Bool) : DkW X (w.setCell ⟨p, 4, none⟩ (.bool b)) p img ds fu b gL cL pv mp nb :=
  h.reblk (by unfold Dkb; simpa using h.blk.set 4 (.bool b)) h.fus
/-- the fuse behind one more call: does it go through, the fuse, the power -/
def burnC (fu : Int) : Int := if fu = 0 then 24 else 0
def burnF (fu : Int) : Int := if fu = -1 then -1 else if fu = 0 then 0 else fu - 1
def burnO (fu : Int) (off : Bool) : Bool := if fu = 0 then true else off
theorem goes_any {X : Nat → Prop} {w : World} {p : Nat} {img : List Int} {ds : List Pw} {fu : Int} {off : Bool} {gL cL : Nat} {pv : Value} {mp nb : Nat} (h : DkW X w p img ds fu off gL cL pv mp nb) :
    Calls Tryz.prog 90 #[.pointer (some ⟨p, 0, none⟩)] w fun e w' => e = .returned (.int .i64 (burnC fu)) ∧ (DkW X w' p img ds (burnF fu) (burnO fu off) gL cL pv mp nb ∧ But (fun x => x = p) w w') := by
  have hf := h.fus
  by_cases h1 : fu = -1
  · subst h1
    refine (goesThrough_none h.blk).mono ?_
    rintro e w' ⟨rfl, rfl⟩
    exact ⟨rfl, h, But.refl _ _⟩
  · by_cases h2 : fu = 0
    · subst h2
      refine (goesThrough_zero h.blk).mono ?_
      rintro e w' ⟨rfl, rfl⟩
      exact ⟨rfl, h.setO true, (But.refl (fun x => x = p) w).setCell (p := ⟨p, 4, none⟩) (show (fun x => x = p) p from rfl) _⟩
    · refine (goesThrough_some (by omega) hf.2 h.blk).mono ?_
      rintro e w' ⟨rfl, rfl⟩
      have e1 : burnC fu = 0 := if_neg h2
      have e2 : burnF fu = fu - 1 := by unfold burnF; rw [if_neg h1, if_neg h2]
      have e3 : burnO fu off = off := if_neg h2
      rw [e1, e2, e3]
      exact ⟨rfl, h.setF (fu - 1) (by omega), (But.refl (fun x => x = p) w).setCell (p := ⟨p, 3, none⟩) (show (fun x => x = p) p from rfl) _⟩
end Go.Proofs.YtldlejpacgphmaaGreat
namespace Go.Proofs.YtldlejpacgphmaaGreat
open Go.RowKit
theorem take_splice {α : Type} (L cs : List α) {o n : Nat} (h : o + cs.length ≤ n) (hn : n ≤ L.length) : (L.take o ++ cs ++ L.drop (o + cs.length)).take n = splice (L.take n) o cs := by
  have hA : (L.take n).length = n := by simp; omega
  have e1 : L.take o = (L.take n).take o := by rw [List.take_take, Nat.min_eq_left (by omega)]
  have e2 : L.drop (o + cs.length) = (L.take n).drop (o + cs.length) ++ L.drop n := by
    conv => lhs; rw [← List.take_append_drop n L]
    rw [List.drop_append_of_le_length (by omega)]
  rw [e1, e2]
  have e3 : (L.take n).take o ++ cs ++ ((L.take n).drop (o + cs.length) ++ L.drop n) = splice (L.take n) o cs ++ L.drop n := by simp [splice]
  have hl := length_splice (L.take n) o cs (by omega)
  rw [e3, List.take_append_of_le_length (by omega), List.take_of_length_le (by omega)]
/-- copy over bytes of one's own, from somewhere else -/
theorem copy_own {ty : TypeId} {w : World} {G n cap o dLen dCap : Nat} {ad : Addr} {m sCap : Nat} {zs cs : List Int} (h : Own w G n cap zs) (hl : cs.length = m) (hm : m ≤ dLen) (ho : o + m ≤ n) (hsrc : ∀ j v, (cs.map (Value.int .u8))[j]? = some v → w.cell? (ad.add j) = some v) :
    ∃ w', (Builtin.copy_ #[22, 22] ty #[.slice (some ⟨G, o, none⟩) dLen dCap, .slice (some ad) m sCap]).run Tryz.prog w = .ok (goInt m) w' ∧ Own w' G n cap (splice zs o cs) ∧ But (fun x => x = G) w w' := by
  have hzl := h.len
  rcases h with ⟨h0, h⟩
  rcases h with ⟨h1, _⟩ | ⟨g', cap', cur, h1, h2, h3, h4, h5, h6, h7⟩
  · cases h1
  · cases h1
    have hr := run_copy_row (P := Tryz.prog) w 22 22 ty 5 G o dLen dCap ad m sCap cur 5 (cs.map (Value.int .u8)) Tryz.underlying22 size5 h3 (by simp only [List.length_map, hl]; exact (Nat.min_eq_left hm).symm) hsrc (by simp only [List.length_map]; omega) (u8_one _)
    simp only [List.length_map, hl] at hr
    refine ⟨_, hr, ⟨?_, .inr ⟨G, cap, _, rfl, Nat.le_refl _, setRow_heap w G cur _ 5 (0, 0) h3, h4, h5, ?_, ?_⟩⟩, ⟨rfl, rfl, rfl, by simp [World.setRow], fun k _ hx => setRow_other w G k _ (by intro e; exact hx e)⟩⟩
    · rw [List.length_map, length_splice _ _ _ (by omega)]
      omega
    · have : cur.toList.length = cap := by simpa using h6
      simp
      omega
    · have hc : cur.toList.length = cap := by simpa using h6
      simp only [Nat.mul_one] at h7 ⊢
      have e := take_splice cur.toList (cs.map (Value.int .u8)) (o := o) (n := n) (by simp; omega) (by omega)
      rw [List.length_map, hl, h7] at e
      rw [← splice_map]
      simpa using e
set_option maxRecDepth 100000 in
theorem lay_any {w : World} {G n cap : Nat} {zs : List Int} (h : Own w G n cap zs) (x : Nat) (ad : Addr) (sc : Nat) (cs : List Int) (hR : Rd w.heap.size w (some ad) 512 cs) (hx : x * 512 + 512 ≤ n) (hn : n ≤ 268435456) :
    Calls Tryz.prog 86 #[.slice (some ⟨G, 0, none⟩) n cap, .agg #[.int .i64 (x : Int), .slice (some ad) 512 sc]] w fun e w' => e = .returned (.tuple #[]) ∧ Own w' G n cap (splice zs (x * 512) cs) ∧ But (fun x => x = G) w w' := by
  have hcap := h.cap
  have hG := h.lt
  obtain ⟨wa, hwa⟩ : ∃ wa, wa = w.alloc (.cells #[.int .i64 (x : Int), .slice (some ad) 512 sc] 132) := ⟨_, rfl⟩
  have hb : Below w.heap.size w wa := by rw [hwa]; exact (Below.refl _ _).alloc (Nat.le_refl _) _
  have q0 : wa.cell? ⟨w.heap.size, 0, none⟩ = some (.int .i64 (x : Int)) := by rw [hwa]; exact cell_new rfl 0 _ rfl
  have q1 : wa.cell? ⟨w.heap.size, 1, none⟩ = some (.slice (some ad) 512 sc) := by rw [hwa]; exact cell_new rfl 1 _ rfl
  obtain ⟨ad', e, hsrc⟩ := (hR.below hb).src (by omega)
  cases e
  obtain ⟨w3, hrun, hO, hB⟩ := copy_own (ty := 3) (w := wa.drew) (o := x * 512) (dLen := n - x * 512) (dCap := cap - x * 512) (sCap := sc) (h.keep (w' := wa.drew) (hb.block G hG)) hR.1 (by omega) (by omega) hsrc
  have HO := hid hO
  have HB := hid (But.of_below hb |>.comp (But.refl (fun _ => False) wa).drew (fun _ _ h => h.elim) |>.comp hB (fun _ _ h => h))
  clear hsrc hR hO hB hb
  go_enter Tryz.func86, Tryz.ntmps86
  go_wp2_with fail
  rw [← hwa]
  clear hwa
  go_region
  go_end0
  exact ⟨rfl, HO.out, HB.out⟩
/-- the numbers of the pending writes' blocks -/
def atsZ (ds : List Pw) : List Int := ds.map fun d => (d.at_ : Int)
theorem fill_step {L : List Int} {k n : Nat} (h : k < L.length) (hn : L.length = n) : (L.take k ++ List.replicate (n - k) 0).set k (L.getD k 0) = L.take (k + 1) ++ List.replicate (n - (k + 1)) 0 := by
  have hk : (L.take k).length = k := by simp; omega
  have e : List.replicate (n - k) (0 : Int) = 0 :: List.replicate (n - (k + 1)) 0 := by
    rw [← List.replicate_succ]
    congr 1
    omega
  rw [List.set_append_right _ _ (by omega), hk, Nat.sub_self, e, List.set_cons_zero, take_snoc h, List.append_assoc]
  simp [List.getD_eq_getElem?_getD]
set_option maxRecDepth 100000 in
set_option maxHeartbeats 1000000 in
theorem Pending_any {X : Nat → Prop} {w : World} {p : Nat} {img : List Int} {puts : List (Nat × List Int)} {fu : Int} {off : Bool} {nb : Nat} (h : Dk X w p img puts fu off nb) (hl : puts.length ≤ 1073741824) :
    Calls Tryz.prog 51 #[.pointer (some ⟨p, 0, none⟩)] w fun e w' => ∃ g, e = .returned (.tuple #[.slice (some ⟨g, 0, none⟩) puts.length puts.length, .int .i64 0]) ∧ w.heap.size ≤ g ∧ Blk .i64 3 w' g (puts.map fun q => (q.1 : Int)) ∧ Below w.heap.size w w' := by
  obtain ⟨ds, gL, cL, pv, mp, rfl, h⟩ := h
  have hats : (ds.map Pw.put).map (fun q => (q.1 : Int)) = atsZ ds := by simp [atsZ, Pw.put]
  rw [hats]
  simp only [List.length_map] at hl ⊢
  obtain ⟨aP, cP, rfl, _⟩ := owns_slice h.row
  have q1 := h.blk.cell 1
  simp only [List.getElem?_toArray, List.getElem?_cons_succ, List.getElem?_cons_zero] at q1
  have hla : (atsZ ds).length = ds.length := by simp [atsZ]
  have HW : Hid (ds.length = 0 ∨ ∃ gP, aP = some ⟨gP, 0, none⟩ ∧ gP < w.heap.size ∧ ∀ i d, ds[i]? = some d → w.cell? ⟨gP, i * 2, none⟩ = some (.int .i64 (d.at_ : Int)) ∧ w.cell? ⟨gP, i * 2 + 1, none⟩ = some (.slice (some ⟨d.g, 0, none⟩) 512 d.c)) := by
    show _ ∨ _
    by_cases h0 : ds.length = 0
    · exact .inl h0
    · obtain ⟨g, e, hg, hc⟩ := wide_cell h.row (by omega)
      exact .inr ⟨g, e, hg, fun i d hi => ⟨hc _ _ (pcs_get ds i d hi).1, hc _ _ (pcs_get ds i d hi).2⟩⟩
  have hplt := h.blk.lt
  have hmk := make_i64 ds.length (by omega)
  clear h
  have hB0 : Hid (Blk .i64 3 (w.alloc (.cells ((zeros ds.length).map (Value.int .i64)).toArray 3)) w.heap.size (zeros ds.length)) := Blk.new w _
  have hb0 : Hid (Below w.heap.size w (w.alloc (.cells ((zeros ds.length).map (Value.int .i64)).toArray 3))) := (Below.refl _ _).alloc (Nat.le_refl _) _
  have q1' : (w.alloc (.cells ((zeros ds.length).map (Value.int .i64)).toArray 3)).cell? ⟨p, 1, none⟩ = some (.slice aP ds.length cP) := (World.cell?_alloc_past _ _ _ hplt).trans q1
  go_enter Tryz.func51, Tryz.ntmps51
  go_wp2_with fail
  refine (ask_none w).mono ?_
  rintro e w1 ⟨rfl, rfl⟩
  go_wp2_with fail
  generalize hwm : w1.alloc (.cells ((zeros ds.length).map (Value.int .i64)).toArray 3) = wm at *
  clear hwm hmk q1 q1'
  go_loopw [24] (fun i wt => ∃ k : Nat, k ≤ ds.length ∧ i = .int .i64 (k : Int) ∧ Blk .i64 3 wt w1.heap.size ((atsZ ds).take k ++ List.replicate (ds.length - k) 0) ∧ Below w1.heap.size w1 wt) (fun i _ => ds.length - (intOf i).toNat)
  case atStart => exact ⟨0, Nat.zero_le _, rfl, by simpa [zeros] using hB0.out, hb0.out⟩
  case round =>
    clear hB0 hb0
    obtain ⟨k, hk, rfl, hB, hbt⟩ := hrel
    by_cases hkn : k < ds.length
    · obtain ⟨gP, rfl, hgP, hcs⟩ := HW.out.resolve_left (by omega)
      have hd := List.getElem?_eq_getElem hkn
      obtain ⟨c0, c1⟩ := hcs k _ hd
      have r0 := (hbt.cell (p := ⟨gP, k * 2, none⟩) hgP).trans c0
      have r1 := (hbt.cell (p := ⟨gP, k * 2 + 1, none⟩) hgP).trans c1
      have hgD : (atsZ ds).getD k 0 = (ds[k].at_ : Int) := by simp [atsZ, hkn]
      have hBa := hB.alloc (.cells #[.int .i64 (ds[k].at_ : Int), .slice (some ⟨ds[k].g, 0, none⟩) 512 ds[k].c] 132)
      have hlB : k < ((atsZ ds).take k ++ List.replicate (ds.length - k) 0).length := by simp; omega
      have cB := hBa.cell k hlB
      have fB := hBa.frozen k
      have hkn' : (k : Int) < (ds.length : Int) := by omega
      have HBs := hid (hBa.set k (ds[k].at_ : Int))
      have Hba := hid ((hbt.alloc hbt.size (.cells #[.int .i64 (ds[k].at_ : Int), .slice (some ⟨ds[k].g, 0, none⟩) 512 ds[k].c] 132)))
      have e0 : (wr.alloc (.cells #[.int .i64 (ds[k].at_ : Int), .slice (some ⟨ds[k].g, 0, none⟩) 512 ds[k].c] 132)).cell? ⟨wr.heap.size, 0, none⟩ = some (.int .i64 (ds[k].at_ : Int)) := cell_new rfl 0 _ rfl
      clear hcs c0 c1 hbt hB hBa hd
      go_wp2_with fail
      go_roundw
      case rel =>
        refine ⟨k + 1, by omega, by go_num, ?_, ?_⟩
        · have := HBs.out
          have e := fill_step (L := atsZ ds) (k := k) (by omega) hla
          rw [hgD] at e
          rw [e] at this
          exact this
        · exact Hba.out.setCell (p := ⟨w1.heap.size, k, none⟩) (Nat.le_refl _) _
      case measure => simp [intOf]; omega
    · obtain rfl : k = ds.length := by omega
      have HB := hid hB
      have Hbt := hid hbt
      clear hB hbt
      go_wp2
      go_ret2
      refine ⟨w1.heap.size, rfl, Nat.le_refl _, ?_, Hbt.out⟩
      have := HB.out
      rw [Nat.sub_self, List.replicate_zero, List.append_nil, ← hla, List.take_length] at this
      exact this
end Go.Proofs.YtldlejpacgphmaaGreat
namespace Go.Proofs.YtldlejpacgphmaaGreat
open Go.RowKit
/-- the least that the i-th place may be -/
def leastK (ks : List Int) (i : Nat) : Int := if i = 0 then 0 else ks.getD (i - 1) 0 + 1
abbrev GoodK (n : Nat) (ks : List Int) : Prop := ∀ i, i < ks.length → leastK ks i ≤ ks.getD i 0 ∧ ks.getD i 0 < (n : Int)
def placesC (n : Nat) (ks : List Int) : Int := if GoodK n ks then 0 else 26
theorem good_lo {n : Nat} {ks : List Int} (h : GoodK n ks) : ∀ i, i < ks.length → 0 ≤ ks.getD i 0 := by
  intro i
  induction i with
  | zero => intro hi; have := (h 0 hi).1; simpa [leastK] using this
  | succ i ih =>
    intro hi
    have h1 := (h (i + 1) hi).1
    have h2 := ih (by omega)
    unfold leastK at h1
    rw [if_neg (by omega), Nat.add_sub_cancel] at h1
    omega
/-- pending writes laid over an image, those of the places ks -/
def layP (puts : List (Nat × List Int)) (im : List Int) (k : Int) : List Int := splice im ((puts.getD k.toNat (0, [])).1 * 512) (puts.getD k.toNat (0, [])).2
def crashZ (img : List Int) (puts : List (Nat × List Int)) (ks : List Int) : List Int := ks.foldl (layP puts) img
theorem fold_snoc {α β : Type} (f : β → α → β) (b : β) (l : List α) {k : Nat} (h : k < l.length) : (l.take (k + 1)).foldl f b = f ((l.take k).foldl f b) l[k] := by
  rw [List.take_succ_eq_append_getElem h, List.foldl_append]
  rfl
end Go.Proofs.YtldlejpacgphmaaGreat
