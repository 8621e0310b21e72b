import Derived.Test.YthkkdmblkalknaaGreatDoorD01
import Derived.Test.YthkkdmblkalknaaGreatDoorB06
import Derived.Laws.AppendOwnNone
import Derived.Deep.AppendLies
import Derived.Deep.QuietTactic
import Derived.BigQuiet
/-
  The document's Encode; Encode whatever the list.
-/
namespace Go.Proofs.YthkkdmblkalknaaGreatDoor
open Go.RowKit

set_option maxRecDepth 100000 in
set_option maxHeartbeats 4000000 in
theorem Encode_all (x : Option Addr) (c : Nat) (os : List PO) (w : World) (hl : os.length ≤ 16777216) (hz : ckA os = 0 → (encL os).length ≤ 536870912) (hG : GT w) (hR : RdO w.heap.size w x os) :
    Calls Tryz.prog 12 #[.slice x os.length c] w fun e w' => ∃ v, e = .returned (.tuple #[v, .int .i64 (ckA os)]) ∧ Ow w.heap.size w' v (if ckA os = 0 then encL os else []) ∧ Below w.heap.size w w' := by
  by_cases h0 : ckA os = 0
  · exact Encode_any x c os w hl (hz h0) hG hR
  have H38 := hid (checkAll_any x c os w hl hG hR)
  rw [if_neg h0]
  generalize hE : ckA os = E at *
  have hq : (E != 0) = true := by simpa using h0
  clear hE hG hR hz h0
  go_enter Tryz.func12, Tryz.ntmps12
  go_wp2_with fail
  refine H38.out.mono ?_
  rintro e w1 ⟨rfl, hb⟩
  have HB := hid hb
  clear hb H38
  go_wp2
  go_ret2
  exact ⟨_, rfl, Ow.nil _ _, HB.out⟩

theorem encOr_isB {o : PO} (h : o.ck = 0) (hd : Pl.isB o.da) : Pl.isB (encO o) := by
  have hk := ck_ok (show ckO o.k o.nm o.ot o.fr o.to o.da.length = 0 from h)
  have dg : ∀ (z : Int) (n : Nat), Pl.isB (Pl.dig z n) := by
    intro z n
    induction n generalizing z with
    | zero => exact Pl.isB_nil
    | succ n ih =>
      intro y hy
      simp only [Pl.dig, List.mem_cons] at hy
      rcases hy with rfl | hy
      · omega
      · exact ih _ y hy
  have nb : ∀ s : ByteArray, Pl.isB (nums s) := by
    intro s y hy
    unfold nums at hy
    obtain ⟨b, _, rfl⟩ := List.mem_map.1 hy
    have := b.toNat_lt
    omega
  unfold encO
  refine Pl.isB_append.2 ⟨dg _ _, ?_⟩
  intro y hy
  obtain ⟨x, _, hx⟩ := List.mem_flatMap.1 hy
  unfold wordB at hx
  split at hx
  · exact Pl.isB_append.2 ⟨dg _ _, nb _⟩ y hx
  split at hx
  · exact Pl.isB_append.2 ⟨dg _ _, nb _⟩ y hx
  split at hx
  · exact dg _ _ y hx
  split at hx
  · exact dg _ _ y hx
  split at hx
  · exact hd y hx
  · cases hx
theorem encLr_isB {os : List PO} (h : ∀ o ∈ os, o.ck = 0) (hd : ∀ o ∈ os, Pl.isB o.da) : Pl.isB (encL os) := by
  intro y hy
  obtain ⟨o, ho, hy⟩ := List.mem_flatMap.1 hy
  exact encOr_isB (h o ho) (hd o ho) y hy
theorem encL_snoc (os : List PO) (o : PO) : encL (os ++ [o]) = encL os ++ encO o := by simp [encL]

/-- the answer -/
def EnA (w : World) (os : List PO) (e : Ending) (w' : World) : Prop := ∃ v, e = .returned (.tuple #[v, .int .i64 (ckA os)]) ∧ Ow w.heap.size w' v (if ckA os = 0 then encL os else []) ∧ Below w.heap.size w w'
set_option maxRecDepth 100000 in
set_option maxHeartbeats 4000000 in
theorem rEncode_any (x : Option Addr) (c : Nat) (os : List PO) (w : World) (hl : os.length ≤ 16777216) (hz : ∀ r, r ≤ os.length → (∀ o ∈ os.take r, o.ck = 0) → (encL (os.take r)).length ≤ 536870912) (hR : RdO w.heap.size w x os) (hbd : ∀ o ∈ os, Pl.isB o.da) :
    Calls Tryz.prog 52 #[.slice x os.length c] w (EnA w os) := by
  have HSTEP : Hid (∀ (wr : World) (r : Nat) (hr : r < os.length) (v : Value), Below w.heap.size w wr → Ow w.heap.size wr v (encL (os.take r)) → (∀ j (hj : j < os.length), j < r → (os[j]'hj).ck = 0) → ∃ b off a cp, x = some ⟨b, off, none⟩ ∧ OpC wr b (off + r * 6) os[r] a cp ∧
      Calls Tryz.prog 48 #[.agg #[.int .i64 os[r].k, .string os[r].nm, .string os[r].ot, .int .i64 os[r].fr, .int .i64 os[r].to, .slice a os[r].da.length cp]] wr fun e w4 => e = .returned (.int .i64 os[r].ck) ∧ OpC w4 b (off + r * 6) os[r] a cp ∧ Below w.heap.size w w4 ∧
      (os[r].ck = 0 → Calls Tryz.prog 84 #[.agg #[.int .i64 os[r].k, .string os[r].nm, .string os[r].ot, .int .i64 os[r].fr, .int .i64 os[r].to, .slice a os[r].da.length cp]] w4 fun e w5 => ∃ fa fn fc, e = .returned (.slice fa fn fc) ∧
        ∃ va n vc w', (Builtin.append_ #[23, 23] 23 #[v, .slice fa fn fc]).run Tryz.prog w5 = .ok (.slice va n vc) w' ∧ Below w.heap.size w w' ∧ Ow w.heap.size w' (.slice va n vc) (encL (os.take (r + 1))))) := by
    intro wr r hr v hb ho hall
    have hR2 := hR.below hb
    have hok := hR2.1 os[r] (List.getElem_mem hr)
    obtain ⟨b, off, rfl, hbl, hc⟩ := hR2.2.resolve_left (fun e => by rw [e] at hr; simp at hr)
    obtain ⟨a, cp, hop, hRd, ha⟩ := hc r hr
    refine ⟨b, off, a, cp, rfl, hop, (rCheck_any os[r].k os[r].nm os[r].ot os[r].fr os[r].to a os[r].da.length cp wr hok.nm hok.ot hok.f0 hok.t1).mono ?_⟩
    rintro e w4 ⟨rfl, b4⟩
    have b4' := hb.trans (b4.mono hb.size)
    refine ⟨rfl, hop.keep (b4.block b (Nat.lt_of_lt_of_le hbl hb.size)), b4', fun h0 => (rbytes_any os[r] a cp w4 h0 (((hRd.mono hb.size).below b4).mono b4.size) ha).mono ?_⟩
    rintro e w5 ⟨u, rfl, hu, b5⟩
    obtain ⟨fa, fc, rfl⟩ := hu.form
    have hdB := hbd os[r] (List.getElem_mem hr)
    obtain ⟨fa', fc', hv, _, hRu, hn⟩ := hu.rd (encOr_isB h0 hdB)
    simp only [Value.slice.injEq] at hv
    obtain ⟨rfl, _, rfl⟩ := hv
    have htk : os.take (r + 1) = os.take r ++ [os[r]] := List.take_succ_eq_append_getElem hr
    have hck : ∀ o ∈ os.take (r + 1), o.ck = 0 := by
      intro o ho'
      obtain ⟨t, ht, rfl⟩ := List.getElem_of_mem ho'
      rw [List.length_take] at ht
      rw [List.getElem_take]
      by_cases e : t = r
      · subst e; exact h0
      · exact hall t (by omega) (by omega)
    have hbig := hz (r + 1) (by omega) hck
    rw [htk, encL_snoc, List.length_append] at hbig
    have hz4 : w.heap.size ≤ w4.heap.size := b4'.size
    obtain ⟨v', w', hrun, ho', hg'⟩ := app_rd 23 ((ho.next b4).next b5) hRu hn (by omega) (by omega) (Nat.le_trans hz4 b5.size)
    obtain ⟨va, vc, rfl⟩ := ho'.form
    refine ⟨fa, _, fc, rfl, va, _, vc, w', hrun, ?_, ?_⟩
    · have b5' := b4'.trans (b5.mono hz4)
      exact b5'.trans (hg'.below b5'.size (fun g hg => ho.base g hg))
    · rw [htk, encL_snoc]
      exact ho'
  have HCA := hid (fun t ht h hn => ckA_hit (os := os) (t := t) ht h hn)
  have HAL := hid (fun h => ckA_all (os := os) h)
  generalize hPO : EnA w os = PO
  have HPO := hid hPO
  clear hPO hR hz hbd
  go_enter Tryz.func52, Tryz.ntmps52
  go_wp2_with fail
  go_loopw [4, 5] (fun v i wr => ∃ (r n : Nat) (va : Option Addr) (vc : Nat), r ≤ os.length ∧ i = .int .i64 (r : Int) ∧ v = .slice va n vc ∧ Below w.heap.size w wr ∧ Ow w.heap.size wr (.slice va n vc) (encL (os.take r)) ∧ ∀ j (hj : j < os.length), j < r → (os[j]'hj).ck = 0) (fun _ i _ => os.length - (intOf i).toNat)
  case atStart => exact ⟨0, 0, none, 0, Nat.zero_le _, rfl, rfl, Below.refl _ _, Ow.nil _ _, fun j _ hj => by omega⟩
  case round =>
    obtain ⟨r, n, va, vc, hr, rfl, rfl, hb, ho, hall⟩ := hrel
    by_cases hlt : r < os.length
    · obtain ⟨b, off, a, cp, rfl, hop, hC⟩ := HSTEP.out wr r hlt _ hb ho hall
      obtain ⟨c0, c1, c2, c3, c4, c5⟩ := hop
      have HC := hid hC
      have hr1 : (r : Int) < (os.length : Int) := by omega
      have HA0 := hid hall
      generalize hO : os[r]'hlt = o at *
      have HO := hid hO
      clear hC hb ho hall HSTEP hO
      generalize hE : o.ck = E at *
      have HE := hid hE
      clear hE
      go_wp2_with fail
      refine HC.out.mono ?_
      rintro e w4 ⟨rfl, ⟨d0, d1, d2, d3, d4, d5⟩, hb4, h84⟩
      clear c0 c1 c2 c3 c4 c5 HC
      by_cases hE0 : E = 0
      · have H84 := hid (h84 hE0)
        have HA : Hid (∀ j (hj : j < os.length), j < r + 1 → (os[j]'hj).ck = 0) := fun j hj hjr => by
          by_cases e : j = r
          · subst e
            rw [HO.out, HE.out]
            exact hE0
          · exact HA0.out j hj (by omega)
        subst hE0
        clear h84 hb4 HA0 HCA HAL
        go_wp2_with fail
        refine H84.out.mono ?_
        rintro e w5 ⟨fa, fn, fc, rfl, va', n', vc', w', hrun, hb', ho'⟩
        have HB := hid (And.intro hb' ho')
        clear H84 hb' ho' d0 d1 d2 d3 d4 d5
        go_wp2_with (at_builtin; refine Lib.wpList_append_run _ rfl _ _ _ _ rfl _ _ rfl rfl _ _ hrun ?_)
        go_roundw
        case rel => exact ⟨r + 1, n', va', vc', by omega, by go_num, rfl, HB.out.1, HB.out.2, HA.out⟩
        case measure => simp [intOf]; omega
      · have hq : (E != 0) = true := by simpa using hE0
        have HF : Hid (PO (.returned (.tuple #[.slice none 0 0, .int .i64 E])) w4) := by
          show PO _ _
          have hc := HCA.out r hlt (fun j hj => HA0.out j (by omega) hj) (by rw [HO.out, HE.out]; exact hE0)
          rw [HO.out, HE.out] at hc
          rw [← HPO.out]
          unfold EnA
          rw [hc, if_neg hE0]
          exact ⟨_, rfl, Ow.nil _ _, hb4⟩
        clear h84 hE0 hb4 HA0 HCA HAL HPO
        go_wp2
        exact HF.out
    · have e : r = os.length := by omega
      subst e
      have HF : Hid (PO (.returned (.tuple #[.slice va n vc, .int .i64 0])) wr) := by
        show PO _ _
        have h0 := HAL.out (fun j hj => hall j hj (by omega))
        rw [← HPO.out]
        unfold EnA
        rw [h0, if_pos rfl]
        rw [List.take_length] at ho
        exact ⟨_, rfl, ho, hb⟩
      clear hb hall ho HPO HSTEP HCA HAL
      go_wp2
      exact HF.out

end Go.Proofs.YthkkdmblkalknaaGreatDoor
/-
  What the Book needs of rows.
-/
namespace Go.Proofs.YthkkdmblkalknaaGreatDoor.bk
open Go.RowKit
set_option maxHeartbeats 400000 in
theorem CopyBytes_any (a : Option Addr) (n c : Nat) (zs : List Int) (w : World) (hn : n ≤ 140737488351232) (hnil : a = none → c = 0) (hR : Rd w.heap.size w a n zs) :
    Calls Tryz.prog 17 #[.slice a n c] w fun e w' => ∃ g cap, e = .returned (.slice (some ⟨g, 0, none⟩) n cap) ∧ w.heap.size ≤ g ∧ Own w' g n cap zs ∧ Below w.heap.size w w' := by
  obtain ⟨i0, hi, hz0, hz1, hz2⟩ := info_parts info5
  have hb : Below w.heap.size w (w.alloc (.cells #[] 5)) := (Below.refl _ _).alloc (Nat.le_refl _) _
  have h0 : (w.alloc (.cells #[] 5)).ownsRow w.heap.size 5 1 (.slice (some ⟨w.heap.size, 0, none⟩) 0 0) 0 [] := World.ownsRow_lit w #[] 0 (Nat.le_refl _) (by decide) rfl
  have hR2 := hR.below hb
  have hl := hR.1
  cases a with
  | none =>
    obtain ⟨h1, h2, h3⟩ := hR
    have hn0 : n = 0 := by rcases h3 with h3 | ⟨_, _, h3, _⟩; exact h3; cases h3
    subst hn0
    obtain rfl : zs = [] := List.length_eq_zero_iff.1 h1
    obtain rfl : c = 0 := hnil rfl
    have hO : Own (w.alloc (.cells #[] 5)) w.heap.size 0 0 [] := Own.of h0
    go_enter Tryz.func17, Tryz.ntmps17
    go_wp2_with (at_builtin; refine wpList_append_own_none rfl _ _ 23 rfl w.heap.size 5 i0 1 Tryz.underlying23 hi _ 0 [] rfl h0 rfl ?_)
    go_ret
    exact ⟨_, _, rfl, Nat.le_refl _, hO, hb⟩
  | some ad =>
    have hsrc : ∀ j u, (zs.map (Value.int .u8))[j]? = some u → (w.alloc (.cells #[] 5)).cell? (ad.add j) = some u := by
      by_cases h0 : n = 0
      · intro j u h
        rw [h0] at hl
        obtain rfl : zs = [] := List.length_eq_zero_iff.1 hl
        simp at h
      · obtain ⟨ad', e, h⟩ := hR2.src (by omega)
        cases e
        exact h
    go_enter Tryz.func17, Tryz.ntmps17
    go_wp2_with (at_builtin; refine wpList_append_own _ rfl _ _ 23 rfl w.heap.size 5 i0 (.int .u8 0) 1 1 Tryz.underlying23 hi hz0 hz1 hz2 rfl (by decide) _ 0 [] rfl h0 ad n c (zs.map (Value.int .u8)) rfl (by rw [List.length_map, hl, Nat.mul_one]) hsrc (u8_one _) (by unfold maxLen; omega) (by omega) (by simp) ?_)
    intro v' w1 hown hgrow hnn
    obtain ⟨g, cap, rfl, hg, _⟩ := owns_form hown hnn
    have HO := hid (Own.of hown)
    have hb1 : Below w.heap.size w w1 := hb.grown hgrow (by simp) (fun k h => by cases h; exact Nat.le_refl _)
    clear hown hgrow hnn
    go_wp2
    go_ret
    exact ⟨g, cap, rfl, hg, HO.out, hb1⟩
end Go.Proofs.YthkkdmblkalknaaGreatDoor.bk
namespace Go.Proofs.YthkkdmblkalknaaGreatDoor
open Go.RowKit Go.Proofs.YthkkdmblkalknaaGreatDoor.bk
theorem Own.rd {w : World} {g n cap : Nat} {zs : List Int} (h : Own w g n cap zs) (hb : Pl.isB zs) : Rd w.heap.size w (some ⟨g, 0, none⟩) n zs := (h.rdn (X := fun _ => False) hb (fun h => h)).rd
theorem Own.cap {w : World} {g n cap : Nat} {zs : List Int} (h : Own w g n cap zs) : n ≤ cap := by
  obtain ⟨_, _, e, _, hc⟩ := owns_form h (by intro h; cases h)
  simp at e
  omega
end Go.Proofs.YthkkdmblkalknaaGreatDoor
namespace Go.Proofs.YthkkdmblkalknaaGreatDoor.bk
open Go.RowKit
theorem owns_below {w w' : World} {base e size n : Nat} {v : Value} {xs : List Value} (h : w.ownsRow base e size v n xs) (hb : Below w.heap.size w w') : w'.ownsRow base e size v n xs := by
  obtain ⟨h1, h2⟩ := h
  refine ⟨h1, ?_⟩
  rcases h2 with h2 | ⟨g, cap, cur, hv, hg, hh, r⟩
  · exact .inl h2
  · refine .inr ⟨g, cap, cur, hv, hg, ?_, r⟩
    rw [hb.block g (Array.getElem?_eq_some_iff.1 hh).1]
    exact hh
theorem owns_slice {w : World} {base e size n : Nat} {v : Value} {xs : List Value} (h : w.ownsRow base e size v n xs) : ∃ a c, v = .slice a n c ∧ (a = none → c = 0) := by
  rcases h.2 with ⟨h1, h2⟩ | ⟨g, cap, cur, h1, _⟩
  · subst h2; exact ⟨none, 0, h1, fun _ => rfl⟩
  · exact ⟨_, cap, h1, fun h => by cases h⟩
theorem rdi_of_owns {w : World} {base n : Nat} {a : Option Addr} {c : Nat} {zs : List Int} (h : w.ownsRow base 3 1 (.slice a n c) n (zs.map (Value.int .i64))) : RdI w.heap.size w a n zs := by
  have hl : zs.length = n := by simpa using h.1
  refine ⟨hl, ?_⟩
  rcases h.2 with ⟨_, h2⟩ | ⟨g, cap, cur, h1, h2, _⟩
  · exact .inl h2
  · simp at h1
    obtain ⟨rfl, rfl⟩ := h1
    refine .inr ⟨g, 0, rfl, (World.ownsRow.lt h g rfl).2, fun t ht => ?_⟩
    rw [Nat.zero_add, World.ownsRow.cellAt h t (by omega)]
    simp [show t < zs.length by omega]
/-- a cell of a block that is none of a row's is as it was -/
theorem cell_apart {w w' : World} {row : Option Nat} (hg : w.grownBy w' row) {p : Addr} {v : Value} (hc : w.cell? p = some v) (hne : row ≠ some p.block) : w'.cell? p = some v := hg.cell hc (Ne.symm hne)
theorem own_lt {w : World} {base e size n : Nat} {v : Value} {xs : List Value} (h : w.ownsRow base e size v n xs) {k : Nat} (hk : w.heap.size ≤ k) : v.ownBlock ≠ some k := fun e => by
  have := (World.ownsRow.lt h k e).2
  omega
theorem owns_setCell {w : World} {base e size n : Nat} {v : Value} {xs : List Value} (h : w.ownsRow base e size v n xs) {p : Addr} (hp : v.ownBlock ≠ some p.block) (u : Value) : (w.setCell p u).ownsRow base e size v n xs := by
  obtain ⟨h1, h2⟩ := h
  refine ⟨h1, ?_⟩
  rcases h2 with h2 | ⟨g, cap, cur, rfl, hg, hh, r⟩
  · exact .inl h2
  · exact .inr ⟨g, cap, cur, rfl, hg, by rw [Below.heap_setCell _ _ _ _ (fun e => hp (by rw [← e]; rfl))]; exact hh, r⟩
theorem owns_keep {w w' : World} {base e size n : Nat} {v : Value} {xs : List Value} (h : w.ownsRow base e size v n xs) (hk : ∀ g, v.ownBlock = some g → w'.heap[g]? = w.heap[g]?) : w'.ownsRow base e size v n xs := by
  obtain ⟨h1, h2⟩ := h
  refine ⟨h1, ?_⟩
  rcases h2 with h2 | ⟨g, cap, cur, rfl, hg, hh, r⟩
  · exact .inl h2
  · exact .inr ⟨g, cap, cur, rfl, hg, by rw [hk g rfl]; exact hh, r⟩
end Go.Proofs.YthkkdmblkalknaaGreatDoor.bk
namespace Go.Proofs.YthkkdmblkalknaaGreatDoor
open Go.RowKit Go.Proofs.YthkkdmblkalknaaGreatDoor.bk
theorem But.of_grown {X : Nat → Prop} {a w w' : World} {row : Option Nat} (h : But X a w) (hg : w.grownBy w' row) (hr : ∀ x, row = some x → x < a.heap.size → X x) : But X a w' :=
  ⟨hg.os.trans h.os, hg.tape.trans h.tape, hg.output.trans h.output, Nat.le_trans h.size hg.size, fun k hk hx => (hg.block k (Nat.lt_of_lt_of_le hk h.size) (fun e => hx (hr k e.symm hk))).trans (h.block k hk hx)⟩
end Go.Proofs.YthkkdmblkalknaaGreatDoor
namespace Go.Proofs.YthkkdmblkalknaaGreatDoor.bk
open Go.RowKit
theorem owns_cells {w : World} {B e n c : Nat} {a : Option Addr} {xs : List Value} (h : w.ownsRow B e 1 (.slice a n c) n xs) (hn : 0 < n) : ∃ g, a = some ⟨g, 0, none⟩ ∧ B ≤ g ∧ g < w.heap.size ∧ ∀ i, i < n → w.cell? ⟨g, i, none⟩ = some (xs.getD i (.bool false)) := by
  have hl : xs.length = n := by simpa using h.1
  rcases h.2 with ⟨_, h2⟩ | ⟨g, cap, cur, h1, hB, _⟩
  · omega
  · simp at h1
    obtain ⟨rfl, rfl⟩ := h1
    refine ⟨g, rfl, hB, (World.ownsRow.lt h g rfl).2, fun i hi => ?_⟩
    rw [World.ownsRow.cellAt h i (by omega)]
    simp [show i < xs.length by omega]
end Go.Proofs.YthkkdmblkalknaaGreatDoor.bk
namespace Go.Proofs.YthkkdmblkalknaaGreatDoor
open Go.RowKit Go.Proofs.YthkkdmblkalknaaGreatDoor.bk
theorem Own.below {w w' : World} {g n cap : Nat} {zs : List Int} (h : Own w g n cap zs) (hb : Below w.heap.size w w') : Own w' g n cap zs := owns_below h hb
theorem But.step {X Y : Nat → Prop} {a w w' : World} (h : But X a w) (k : But Y w w') (hx : ∀ x, x < a.heap.size → Y x → X x) : But X a w' :=
  ⟨k.os.trans h.os, k.tape.trans h.tape, k.output.trans h.output, Nat.le_trans h.size k.size, fun x hxa hX => (k.block x (Nat.lt_of_lt_of_le hxa h.size) (fun hy => hX (hx x hxa hy))).trans (h.block x hxa hX)⟩
end Go.Proofs.YthkkdmblkalknaaGreatDoor
namespace Go.Proofs.YthkkdmblkalknaaGreatDoor.bk
open Go.RowKit
theorem infoI : (Tryz.prog.info? 3).map (fun i => (i.zero, i.size, i.bytes)) = some (some (.int .i64 0), 1, 8) := by kernel_rfl
/-- a row's cells -/
theorem row_cell {w : World} {B e n : Nat} {v : Value} {xs : List Value} (h : w.ownsRow B e 1 v n xs) {i : Nat} (hi : i < n) : ∃ g c, v = .slice (some ⟨g, 0, none⟩) n c ∧ B ≤ g ∧ g < w.heap.size ∧ w.cell? ⟨g, i, none⟩ = some (xs.getD i (.bool false)) := by
  obtain ⟨a, c, rfl, _⟩ := owns_slice h
  obtain ⟨g, rfl, h1, h2, h3⟩ := owns_cells h (by omega)
  exact ⟨g, c, rfl, h1, h2, h3 i hi⟩
/-- numbers of one's own in a block from B on -/
def OwI (B : Nat) (w : World) (o : Value) (n : Nat) (zs : List Int) : Prop := w.ownsRow B 3 1 o n (zs.map (Value.int .i64))
theorem OwI.nil (B : Nat) (w : World) : OwI B w (.slice none 0 0) 0 [] := ⟨rfl, .inl ⟨rfl, rfl⟩⟩
theorem OwI.len {B : Nat} {w : World} {o : Value} {n : Nat} {zs : List Int} (h : OwI B w o n zs) : zs.length = n := by simpa using h.1
theorem OwI.below {B : Nat} {w w' : World} {o : Value} {n : Nat} {zs : List Int} (h : OwI B w o n zs) (hb : Below w.heap.size w w') : OwI B w' o n zs := owns_below h hb
theorem OwI.alloc {B : Nat} {w : World} {o : Value} {n : Nat} {zs : List Int} (h : OwI B w o n zs) (x : Obj) : OwI B (w.alloc x) o n zs := h.below ((Below.refl _ _).alloc (Nat.le_refl _) _)
theorem OwI.rdi {B : Nat} {w : World} {a : Option Addr} {n c : Nat} {zs : List Int} (h : OwI B w (.slice a n c) n zs) : RdI w.heap.size w a n zs := by
  have hl := h.len
  by_cases h0 : n = 0
  · exact ⟨hl, .inl h0⟩
  · obtain ⟨g, e, _, hg, hc⟩ := owns_cells h (by omega)
    refine ⟨hl, .inr ⟨g, 0, e, hg, fun t ht => ?_⟩⟩
    rw [Nat.zero_add, hc t ht]
    simp [show t < zs.length by omega]
theorem OwI.src {B : Nat} {w : World} {g n cap : Nat} {zs : List Int} (h : OwI B w (.slice (some ⟨g, 0, none⟩) n cap) n zs) : ∀ j u, (zs.map (Value.int .i64))[j]? = some u → w.cell? ((⟨g, 0, none⟩ : Addr).add j) = some u := by
  intro j u hj
  have hl := h.len
  have hjl : j < zs.length := by
    have := (List.getElem?_eq_some_iff.1 hj).1
    simpa using this
  have e : (⟨g, 0, none⟩ : Addr).add j = ⟨g, j, none⟩ := by unfold Addr.add; split <;> simp_all
  rw [e, World.ownsRow.cellAt h j (by omega), ← hj]
end Go.Proofs.YthkkdmblkalknaaGreatDoor.bk
namespace Go.Proofs.YthkkdmblkalknaaGreatDoor
open Go.RowKit Go.Proofs.YthkkdmblkalknaaGreatDoor.bk
theorem Own.src {w : World} {g n cap : Nat} {zs : List Int} (h : Own w g n cap zs) : ∀ j u, (zs.map (Value.int .u8))[j]? = some u → w.cell? ((⟨g, 0, none⟩ : Addr).add j) = some u := by
  intro j u hj
  have hl := h.len
  have hjl : j < zs.length := by
    have := (List.getElem?_eq_some_iff.1 hj).1
    simpa using this
  have e : (⟨g, 0, none⟩ : Addr).add j = ⟨g, j, none⟩ := by unfold Addr.add; split <;> simp_all
  rw [e, h.cell j (by omega), ← hj]
  simp [hjl]
end Go.Proofs.YthkkdmblkalknaaGreatDoor
namespace Go.Proofs.YthkkdmblkalknaaGreatDoor
open Go.RowKit Go.Proofs.YthkkdmblkalknaaGreatDoor.bk
theorem Own.keep {w w' : World} {g n cap : Nat} {zs : List Int} (h : Own w g n cap zs) (hk : w'.heap[g]? = w.heap[g]?) : Own w' g n cap zs := owns_keep h (fun g' e => by cases e; exact hk)
end Go.Proofs.YthkkdmblkalknaaGreatDoor
/-
  Rows apart: what the Book needs.
-/
namespace Go.Proofs.YthkkdmblkalknaaGreatDoor.bk
open Go.RowKit

/-- no block is both's -/
def Dj (v u : Value) : Prop := ∀ g, v.ownBlock = some g → u.ownBlock ≠ some g
theorem dj_ne {v u : Value} (h : Dj v u) : u.ownBlock = none ∨ u.ownBlock ≠ v.ownBlock := by
  cases hv : v.ownBlock with
  | none => cases hu : u.ownBlock with
    | none => exact .inl rfl
    | some g => exact .inr (by simp)
  | some g => exact .inr (h g hv)
theorem dj_symm {v u : Value} (h : Dj v u) : Dj u v := fun g hu hv => h g hv hu
theorem dj_new {w : World} {base e size n : Nat} {v u : Value} {xs : List Value} {g m cap : Nat} (hd : Dj v u) (hu : w.ownsRow base e size u n xs) (hl : v.ownBlock = some g ∨ g = w.heap.size) : Dj (.slice (some ⟨g, 0, none⟩) m cap) u := by
  intro g' hg' hu'
  cases hg'
  rcases hl with hl | hl
  · exact hd g hl hu'
  · have := (World.ownsRow.lt hu g hu').2
    omega

end Go.Proofs.YthkkdmblkalknaaGreatDoor.bk
/-
  THE BOOK: its state. 'marked'.
-/
namespace Go.Proofs.YthkkdmblkalknaaGreatDoor.bk
open Go.RowKit

/-! ### marked -/
def mkd (mark : Int) (i : Nat) : Int := (mark + 7 * (i : Int) + 1) % 256
def markL (k : Nat) (mark : Int) : List Int := (List.range k).map fun i => mkd mark i
theorem length_markL (k : Nat) (mark : Int) : (markL k mark).length = k := by simp [markL]
theorem markL_getD {k i : Nat} (mark : Int) (h : i < k) : (markL k mark).getD i 0 = mkd mark i := by simp [markL, h]
theorem isB_markL (k : Nat) (mark : Int) : Pl.isB (markL k mark) := by
  intro z hz
  simp only [markL, List.mem_map] at hz
  obtain ⟨i, _, rfl⟩ := hz
  unfold mkd
  omega
theorem markL_set {k i : Nat} (mark : Int) (h : i < k) {ys : List Int} (hl : ys.length = k) (ht : ys.take i = (markL k mark).take i) : (ys.set i (mkd mark i)).take (i + 1) = (markL k mark).take (i + 1) :=
  take_set (by omega) (by rw [length_markL]; exact h) ht (markL_getD mark h).symm
set_option maxHeartbeats 400000 in
theorem marked_any (k : Nat) (mark : Int) (w : World) (hk : k ≤ 1073741824) (h0 : -1073741824 ≤ mark) (h1 : mark ≤ 1073741824) :
    Calls Tryz.prog 115 #[.int .i64 (k : Int), .int .i64 mark] w fun e w' => e = .returned (.slice (some ⟨w.heap.size, 0, none⟩) k k) ∧ Blk .u8 5 w' w.heap.size (markL k mark) ∧ w'.heap.size = w.heap.size + 1 ∧ Below w.heap.size w w' := by
  have hmk := make_u8 k (by omega)
  have HB0 := hid (Blk.new (k := .u8) (e := 5) w (zeros k))
  have Hb0 := hid ((Below.refl w.heap.size w).alloc (Nat.le_refl _) (.cells ((zeros k).map (Value.int .u8)).toArray 5))
  go_enter Tryz.func115, Tryz.ntmps115
  go_wp2
  go_loopw [6] (fun i wt => ∃ (j : Nat) (ys : List Int), j ≤ k ∧ i = .int .i64 (j : Int) ∧ Blk .u8 5 wt w.heap.size ys ∧ ys.length = k ∧ ys.take j = (markL k mark).take j ∧ wt.heap.size = w.heap.size + 1 ∧ Below w.heap.size w wt) (fun i _ => k - (intOf i).toNat)
  case atStart => exact ⟨0, zeros k, Nat.zero_le _, rfl, HB0.out, length_zeros k, rfl, by simp, Hb0.out⟩
  case round =>
    clear HB0 Hb0 hmk
    obtain ⟨j, ys, hj, rfl, hB, hl, ht, hs, hb⟩ := hrel
    by_cases hjk : j < k
    · have hc := hB.cell j (by omega)
      have hf := hB.frozen j
      have HB := hid (hB.set j (mkd mark j))
      have HT := hid (markL_set mark hjk hl ht)
      have Hl := hid hl
      have Hs := hid hs
      have Hb := hid (hb.setCell (p := ⟨w.heap.size, j, none⟩) (Nat.le_refl _) (.int .u8 (mkd mark j)))
      generalize ys.getD j 0 = old at *
      clear hB ht hl hs hb
      go_wp2
      go_roundw
      case rel => exact ⟨j + 1, _, by omega, by go_num, HB.out, by simpa using Hl.out, HT.out, by simpa [World.setCell] using Hs.out, Hb.out⟩
      case measure => simp [intOf]; omega
    · have e : ys = markL k mark := by
        rw [List.take_of_length_le (by omega), List.take_of_length_le (by rw [length_markL]; omega)] at ht
        exact ht
      have HB := hid (e ▸ hB)
      have Hs := hid hs
      clear hB ht hl e hs
      go_wp2
      go_ret
      exact ⟨rfl, HB.out, Hs.out, hb⟩
/-! ### lists of bytes that lie in settled blocks -/
/-- a block of bytes, none of them frozen -/
def T5 (w : World) (g : Nat) : Prop := ∃ cur, w.heap[g]? = some (.cells cur 5 (0, 0))
theorem T5.lt {w : World} {g : Nat} (h : T5 w g) : g < w.heap.size := by obtain ⟨cur, h⟩ := h; exact (Array.getElem?_eq_some_iff.1 h).1
theorem T5.blk {w : World} {g : Nat} {zs : List Int} (h : Blk .u8 5 w g zs) : T5 w g := ⟨_, h⟩
theorem T5.keep {w w' : World} {g : Nat} (h : T5 w g) (hk : w'.heap[g]? = w.heap[g]?) : T5 w' g := by obtain ⟨cur, h⟩ := h; exact ⟨cur, by rw [hk]; exact h⟩
/-- a row of another type is another block -/
theorem T5.ne_row {w : World} {g base e size n : Nat} {v : Value} {xs : List Value} (h : T5 w g) (hr : w.ownsRow base e size v n xs) (he : e ≠ 5) : v.ownBlock ≠ some g := by
  intro hv
  obtain ⟨cur, h⟩ := h
  rcases hr.2 with ⟨h1, _⟩ | ⟨g', cap, cur', h1, _, hh, _⟩
  · rw [h1] at hv; cases hv
  · rw [h1] at hv
    cases hv
    rw [h] at hh
    simp at hh
    exact he hh.2.symm
/-- the slice v holds zs, in a block of R (or it is empty) -/
def Sl (R : Nat → Prop) (w : World) (v : Value) (zs : List Int) : Prop :=
  Pl.isB zs ∧ ∃ a c, v = .slice a zs.length c ∧ (a = none → c = 0) ∧ (zs.length = 0 ∨ ∃ g, a = some ⟨g, 0, none⟩ ∧ R g ∧ ∀ t, t < zs.length → w.cell? ⟨g, t, none⟩ = some (.int .u8 (zs.getD t 0)))
theorem Sl.keep {R : Nat → Prop} {w w' : World} {v : Value} {zs : List Int} (h : Sl R w v zs) (hk : ∀ g, R g → w'.heap[g]? = w.heap[g]?) : Sl R w' v zs := by
  obtain ⟨h1, a, c, h2, h3, h4⟩ := h
  refine ⟨h1, a, c, h2, h3, ?_⟩
  rcases h4 with h4 | ⟨g, h4, h5, h6⟩
  · exact .inl h4
  · exact .inr ⟨g, h4, h5, fun t ht => (World.cell?_of_block (w := w) (hk g h5)).trans (h6 t ht)⟩
theorem Sl.mono {R R' : Nat → Prop} {w : World} {v : Value} {zs : List Int} (h : Sl R w v zs) (hr : ∀ g, R g → R' g) : Sl R' w v zs := by
  obtain ⟨h1, a, c, h2, h3, h4⟩ := h
  exact ⟨h1, a, c, h2, h3, h4.imp id fun ⟨g, q1, q2, q3⟩ => ⟨g, q1, hr g q2, q3⟩⟩
theorem Sl.rd {R : Nat → Prop} {w : World} {v : Value} {zs : List Int} (h : Sl R w v zs) (hT : ∀ g, R g → T5 w g) : ∃ a c, v = .slice a zs.length c ∧ (a = none → c = 0) ∧ Rd w.heap.size w a zs.length zs := by
  obtain ⟨h1, a, c, h2, h3, h4⟩ := h
  refine ⟨a, c, h2, h3, rfl, h1, ?_⟩
  rcases h4 with h4 | ⟨g, rfl, h5, h6⟩
  · exact .inl h4
  · exact .inr ⟨g, 0, rfl, (hT g h5).lt, fun t ht => by rw [Nat.zero_add]; exact h6 t ht⟩
theorem Sl.of_blk {R : Nat → Prop} {w : World} {g : Nat} {zs : List Int} (h : Blk .u8 5 w g zs) (hb : Pl.isB zs) (hr : R g) (c : Nat) : Sl R w (.slice (some ⟨g, 0, none⟩) zs.length c) zs :=
  ⟨hb, _, c, rfl, (fun h => by cases h), .inr ⟨g, rfl, hr, fun t ht => h.cell t ht⟩⟩
theorem Sl.of_own {R : Nat → Prop} {w : World} {g n cap : Nat} {zs : List Int} (h : Own w g n cap zs) (hb : Pl.isB zs) (hr : R g) : Sl R w (.slice (some ⟨g, 0, none⟩) n cap) zs := by
  have hl := h.len
  subst hl
  exact ⟨hb, _, cap, rfl, (fun h => by cases h), .inr ⟨g, rfl, hr, fun t ht => h.cell t ht⟩⟩
end Go.Proofs.YthkkdmblkalknaaGreatDoor.bk
namespace Go.Proofs.YthkkdmblkalknaaGreatDoor
open Go.RowKit
open Go.Proofs.YthkkdmblkalknaaGreatDoor.bk
theorem Own.t5 {w : World} {g n cap : Nat} {zs : List Int} (h : Own w g n cap zs) : T5 w g := by
  rcases h.2 with ⟨h1, _⟩ | ⟨g', cap', cur, h1, _, hh, _⟩
  · cases h1
  · simp at h1
    obtain ⟨rfl, _⟩ := h1
    exact ⟨cur, hh⟩
end Go.Proofs.YthkkdmblkalknaaGreatDoor
namespace Go.Proofs.YthkkdmblkalknaaGreatDoor.bk
open Go.RowKit
/-! ### the book's own block -/
def Bkb (w : World) (b : Nat) (cnt tot : Int) (bad : Bool) (fr he ma ke wa : Value) : Prop := w.heap[b]? = some (.cells #[.int .i64 cnt, .int .i64 tot, .bool bad, fr, he, ma, ke, wa] 56 (0, 0))
theorem Bkb.lt {w : World} {b : Nat} {cnt tot : Int} {bad : Bool} {fr he ma ke wa : Value} (h : Bkb w b cnt tot bad fr he ma ke wa) : b < w.heap.size := (Array.getElem?_eq_some_iff.1 h).1
theorem Bkb.cell {w : World} {b : Nat} {cnt tot : Int} {bad : Bool} {fr he ma ke wa : Value} (h : Bkb w b cnt tot bad fr he ma ke wa) (t : Nat) : w.cell? ⟨b, t, none⟩ = #[Value.int .i64 cnt, .int .i64 tot, .bool bad, fr, he, ma, ke, wa][t]? := by
  unfold Bkb at h
  simp [World.cell?, h]
theorem Bkb.frozen {w : World} {b : Nat} {cnt tot : Int} {bad : Bool} {fr he ma ke wa : Value} (h : Bkb w b cnt tot bad fr he ma ke wa) (t : Nat) : w.frozen? ⟨b, t, none⟩ = false := by
  unfold Bkb at h
  simp [World.frozen?, h]
theorem Bkb.of_block {w w' : World} {b : Nat} {cnt tot : Int} {bad : Bool} {fr he ma ke wa : Value} (h : Bkb w b cnt tot bad fr he ma ke wa) (hw : w'.heap[b]? = w.heap[b]?) : Bkb w' b cnt tot bad fr he ma ke wa := by unfold Bkb at *; rw [hw]; exact h
theorem Bkb.set {w : World} {b : Nat} {cnt tot : Int} {bad : Bool} {fr he ma ke wa : Value} (h : Bkb w b cnt tot bad fr he ma ke wa) (t : Nat) (v : Value) : (w.setCell ⟨b, t, none⟩ v).heap[b]? = some (.cells (#[.int .i64 cnt, .int .i64 tot, .bool bad, fr, he, ma, ke, wa].setIfInBounds t v) 56 (0, 0)) := by
  unfold Bkb at h
  simp only [World.setCell, Array.getElem?_modify]
  rw [h]
  simp
theorem Bkb.ne_row {w : World} {b : Nat} {cnt tot : Int} {bad : Bool} {fr he ma ke wa : Value} (h : Bkb w b cnt tot bad fr he ma ke wa) {base e size n : Nat} {v : Value} {xs : List Value} (hr : w.ownsRow base e size v n xs) (he' : e ≠ 56) : v.ownBlock ≠ some b := by
  intro hv
  unfold Bkb at h
  rcases hr.2 with ⟨h1, _⟩ | ⟨g', cap, cur', h1, _, hh, _⟩
  · rw [h1] at hv; cases hv
  · rw [h1] at hv
    cases hv
    rw [h] at hh
    simp at hh
    exact he' hh.2.symm
theorem Bkb.ne_t5 {w : World} {b : Nat} {cnt tot : Int} {bad : Bool} {fr he ma ke wa : Value} (h : Bkb w b cnt tot bad fr he ma ke wa) {g : Nat} (hg : T5 w g) : g ≠ b := by
  intro e
  subst e
  obtain ⟨cur, hh⟩ := hg
  unfold Bkb at h
  rw [h] at hh
  simp at hh
end Go.Proofs.YthkkdmblkalknaaGreatDoor.bk
/-
  THE BOOK: untouched, same.
-/
namespace Go.Proofs.YthkkdmblkalknaaGreatDoor.bk
open Go.RowKit

/-- a row of n slices of bytes, each with what it holds -/
structure RS (S : Nat → Prop) (B : Nat) (w : World) (row : Value) (n : Nat) (vs : List Value) (Z : Nat → List Int) : Prop where
  own : w.ownsRow B 23 1 row n vs
  sl : ∀ i, i < n → Sl S w (vs.getD i (.bool false)) (Z i)
theorem RS.keep {S : Nat → Prop} {B : Nat} {w w' : World} {row : Value} {n : Nat} {vs : List Value} {Z : Nat → List Int} (h : RS S B w row n vs Z) (ho : w'.ownsRow B 23 1 row n vs) (hk : ∀ g, S g → w'.heap[g]? = w.heap[g]?) : RS S B w' row n vs Z := ⟨ho, fun i hi => (h.sl i hi).keep hk⟩
theorem RS.but {X S : Nat → Prop} {B : Nat} {w w' : World} {row : Value} {n : Nat} {vs : List Value} {Z : Nat → List Int} (h : RS S B w row n vs Z) (hb : But X w w') (hS : ∀ g, S g → g < w.heap.size ∧ ¬ X g) (hr : ∀ g, row.ownBlock = some g → ¬ X g) : RS S B w' row n vs Z := by
  refine h.keep ?_ (fun g hg => hb.block g (hS g hg).1 (hS g hg).2)
  obtain ⟨h1, h2⟩ := h.own
  refine ⟨h1, ?_⟩
  rcases h2 with h2 | ⟨g, cap, cur, rfl, hg, hh, r⟩
  · exact .inl h2
  · exact .inr ⟨g, cap, cur, rfl, hg, by rw [hb.block g (Array.getElem?_eq_some_iff.1 hh).1 (hr g rfl)]; exact hh, r⟩
/-- the row's shape, and its cells -/
theorem RS.form {S : Nat → Prop} {B : Nat} {w : World} {row : Value} {n : Nat} {vs : List Value} {Z : Nat → List Int} (h : RS S B w row n vs Z) :
    ∃ a c, row = .slice a n c ∧ (n = 0 ∨ ∃ g, a = some ⟨g, 0, none⟩ ∧ g < w.heap.size ∧ ∀ i, i < n → w.cell? ⟨g, i, none⟩ = some (vs.getD i (.bool false))) := by
  have hl : vs.length = n := by simpa using h.own.1
  rcases h.own.2 with ⟨h1, h2⟩ | ⟨g, cap, cur, h1, _⟩
  · subst h2; exact ⟨none, 0, h1, .inl rfl⟩
  · subst h1
    refine ⟨_, cap, rfl, .inr ⟨g, rfl, (World.ownsRow.lt h.own g rfl).2, fun i hi => ?_⟩⟩
    rw [World.ownsRow.cellAt h.own i (by omega)]
    simp [show i < vs.length by omega]
set_option maxRecDepth 100000 in
set_option maxHeartbeats 2000000 in
theorem same_any (S : Nat → Prop) (B b : Nat) (cnt tot : Int) (bad : Bool) (fr he ma ke wa : Value) (n : Nat) (kv wv : List Value) (Z : Nat → List Int) (w : World) (hn : n ≤ 134217728)
    (hb : Bkb w b cnt tot bad fr he ma ke wa) (hK : RS S B w ke n kv Z) (hW : RS S B w wa n wv Z) (hT : ∀ g, S g → T5 w g) :
    Calls Tryz.prog 87 #[.pointer (some ⟨b, 0, none⟩)] w fun e w' => e = .returned (.bool true) ∧ But (fun _ => False) w w' := by
  obtain ⟨a1, c1, rfl, f1⟩ := hK.form
  obtain ⟨a2, c2, rfl, f2⟩ := hW.form
  go_enter Tryz.func87, Tryz.ntmps87
  go_wp2
  go_loopw [3] (fun i wt => ∃ k : Nat, k ≤ n ∧ i = .int .i64 (k : Int) ∧ But (fun _ => False) w wt) (fun i _ => n - (intOf i).toNat)
  case atStart => exact ⟨0, Nat.zero_le _, rfl, But.refl _ _⟩
  case round =>
    obtain ⟨k, hk, rfl, hbt⟩ := hrel
    have hb' := hb.of_block (hbt.block b hb.lt (fun h => h))
    have b6 := hb'.cell 6
    have b7 := hb'.cell 7
    simp only [List.getElem?_toArray, List.getElem?_cons_succ, List.getElem?_cons_zero] at b6 b7
    by_cases hkn : k < n
    · obtain ⟨g1, rfl, l1, q1⟩ := f1.resolve_left (by omega)
      obtain ⟨g2, rfl, l2, q2⟩ := f2.resolve_left (by omega)
      have q1' := (hbt.cell (p := ⟨g1, k, none⟩) l1 (fun h => h)).trans (q1 k hkn)
      have q2' := (hbt.cell (p := ⟨g2, k, none⟩) l2 (fun h => h)).trans (q2 k hkn)
      have hT' : ∀ g, S g → T5 wr g := fun g hg => (hT g hg).keep (hbt.block g (hT g hg).lt (fun h => h))
      have s1 := (hK.sl k hkn).keep (w' := wr) (fun g hg => hbt.block g (hT g hg).lt (fun h => h))
      have s2 := (hW.sl k hkn).keep (w' := wr) (fun g hg => hbt.block g (hT g hg).lt (fun h => h))
      obtain ⟨a3, c3, e3, _, r3⟩ := s1.rd hT'
      obtain ⟨a4, c4, e4, _, r4⟩ := s2.rd hT'
      rw [e3] at q1'
      rw [e4] at q2'
      have v3 : ∀ q, (convert 23 9 (.slice a3 (Z k).length c3)).run Tryz.prog (wr.drewN q) = .ok (.string (strOfNums (Z k))) (wr.drewN q) := fun q => conv_str (w := wr.drewN q) r3 c3
      have v4 : ∀ q, (convert 23 9 (.slice a4 (Z k).length c4)).run Tryz.prog (wr.drewN q) = .ok (.string (strOfNums (Z k))) (wr.drewN q) := fun q => conv_str (w := wr.drewN q) r4 c4
      have hk1 : (k : Int) < (n : Int) := by omega
      clear s1 s2 e3 e4 r3 r4 hT' q1 q2 hT hK hW f1 f2 hb'
      generalize strOfNums (Z k) = st at *
      generalize (Z k).length = m at *
      go_wp2_with fail
      go_quiet (fail)
      go_wp2
      go_roundw
      case rel => exact ⟨k + 1, by omega, by go_num, hbt.drewN _⟩
      case measure => simp [intOf]; omega
    · clear hK hW hT f1 f2
      go_wp2
      go_ret
      exact ⟨rfl, hbt⟩
set_option maxRecDepth 100000 in
set_option maxHeartbeats 4000000 in
theorem untouched_any (S : Nat → Prop) (B b : Nat) (cnt tot : Int) (fr he ma ke wa : Value) (n : Nat) (fv hv : List Value) (Z : Nat → List Int) (w : World) (hn : n ≤ 134217728)
    (hb : Bkb w b cnt tot false fr he ma ke wa) (hF : RS S B w fr n fv Z) (hH : RS S B w he n hv Z) (hT : ∀ g, S g → T5 w g) :
    Calls Tryz.prog 86 #[.pointer (some ⟨b, 0, none⟩)] w fun e w' => e = .returned (.tuple #[]) ∧ But (fun x => x = b) w w' ∧ Bkb w' b cnt tot false fr he ma ke wa := by
  obtain ⟨a1, c1, rfl, f1⟩ := hF.form
  obtain ⟨a2, c2, rfl, f2⟩ := hH.form
  have nS : ∀ g, S g → g ≠ b := fun g hg => hb.ne_t5 (hT g hg)
  have nF := hb.ne_row hF.own (by decide)
  have nH := hb.ne_row hH.own (by decide)
  go_enter Tryz.func86, Tryz.ntmps86
  go_wp2
  go_loopw [2] (fun i wt => ∃ k : Nat, k ≤ n ∧ i = .int .i64 (k : Int) ∧ But (fun x => x = b) w wt ∧ Bkb wt b cnt tot false (.slice a1 n c1) (.slice a2 n c2) ma ke wa) (fun i _ => n - (intOf i).toNat)
  case atStart => exact ⟨0, Nat.zero_le _, rfl, But.refl _ _, hb⟩
  case round =>
    obtain ⟨k, hk, rfl, hbt, hb'⟩ := hrel
    have b2 := hb'.cell 2
    have b3 := hb'.cell 3
    have b4 := hb'.cell 4
    have fz := hb'.frozen 2
    simp only [List.getElem?_toArray, List.getElem?_cons_succ, List.getElem?_cons_zero] at b2 b3 b4
    by_cases hkn : k < n
    · obtain ⟨g1, rfl, l1, q1⟩ := f1.resolve_left (by omega)
      obtain ⟨g2, rfl, l2, q2⟩ := f2.resolve_left (by omega)
      have q1' := (hbt.cell (p := ⟨g1, k, none⟩) l1 (fun h => nF (by rw [← h]; rfl))).trans (q1 k hkn)
      have q2' := (hbt.cell (p := ⟨g2, k, none⟩) l2 (fun h => nH (by rw [← h]; rfl))).trans (q2 k hkn)
      have hkeep : ∀ g, S g → wr.heap[g]? = w.heap[g]? := fun g hg => hbt.block g (hT g hg).lt (nS g hg)
      have hT' : ∀ g, S g → T5 wr g := fun g hg => (hT g hg).keep (hkeep g hg)
      have s1 := (hF.sl k hkn).keep (w' := wr) hkeep
      have s2 := (hH.sl k hkn).keep (w' := wr) hkeep
      obtain ⟨a3, c3, e3, _, r3⟩ := s1.rd hT'
      obtain ⟨a4, c4, e4, _, r4⟩ := s2.rd hT'
      rw [e3] at q1'
      rw [e4] at q2'
      have v3 : (convert 23 9 (.slice a3 (Z k).length c3)).run Tryz.prog wr.drew = .ok (.string (strOfNums (Z k))) wr.drew := conv_str (w := wr.drew) r3 c3
      have v4 : (convert 23 9 (.slice a4 (Z k).length c4)).run Tryz.prog wr.drew = .ok (.string (strOfNums (Z k))) wr.drew := conv_str (w := wr.drew) r4 c4
      have hk1 : (k : Int) < (n : Int) := by omega
      have Hset := hid (hb'.set 2 (.bool false))
      have Hbt := hid (hbt.setCell (p := ⟨b, 2, none⟩) rfl (.bool false))
      clear s1 s2 e3 e4 r3 r4 hT' hkeep q1 q2 hT hF hH f1 f2 hb' nS nF nH hbt
      generalize strOfNums (Z k) = st at *
      generalize (Z k).length = m at *
      go_wp2_with fail
      go_region
      all_goals go_wp2
      all_goals
        go_roundw
        case rel => exact ⟨k + 1, by omega, by go_num, Hbt.out.drew, Hset.out⟩
        case measure => simp [intOf]; omega
    · clear hF hH hT f1 f2 nS nF nH
      go_wp2
      go_end0
      exact ⟨rfl, hbt, hb'⟩
end Go.Proofs.YthkkdmblkalknaaGreatDoor.bk
