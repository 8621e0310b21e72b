import Derived.Test.YtddddfankeepkaaGreatDoorA10
/-
  draftOf: a draft of a view, its lists its own.
-/
namespace Go.Proofs.YtddddfankeepkaaGreatDoor
open Go.RowKit

set_option maxRecDepth 100000 in
set_option maxHeartbeats 1000000 in
theorem CloneN (w : World) (ad : Addr) (c : Nat) :
    Calls Tryz.prog 49 #[.slice (some ad) 0 c] w fun e w' => ∃ v, e = .returned v ∧ w'.ownsRow w.heap.size 38 7 v 0 [] ∧ Below w.heap.size w w' := by
  have hr0 : (binOp .eql 22 (.slice (some ad) 0 c) (.slice none 0 0)).run Tryz.prog w = .ok (.bool false) w := Go.Lib.run_eql_slice_nil w 22 38 (some ad) _ c 0 0 Tryz.underlying22
  have ow0 : (w.alloc (.cells #[] 38)).ownsRow w.heap.size 38 7 (.slice (some ⟨w.heap.size, 0, none⟩) 0 0) 0 [] := ⟨rfl, .inr ⟨w.heap.size, 0, #[], rfl, Nat.le_refl _, heap_new _ _, Nat.le_refl _, Nat.zero_le _, rfl, rfl⟩⟩
  have b0 : Below w.heap.size w (w.alloc (.cells #[] 38)) := below1 _ _
  obtain ⟨i0, hi, hz0, hz1, hz2⟩ := info_parts info30
  obtain ⟨v', w', hr, h2, h3, _, _⟩ := run_append_own_at (P := Tryz.prog) (w.alloc (.cells #[] 38)) w.heap.size 22 22 38 i0 _ 7 80 Tryz.underlying22 hi hz0 hz1 hz2 rfl (by decide) _ 0 [] ow0 ad 0 c [] rfl (fun j u hu => by simp at hu) (fun u hu => by cases hu) (by unfold maxLen; omega) (by omega) (by simp)
  have HO := hid h2
  have HB : Hid (Below w.heap.size w w') := b0.trans ⟨h3.os, h3.tape, h3.output, h3.size, fun k hk => h3.block k (by simp; omega) (fun e => by simp [Value.ownBlock] at e; omega)⟩
  clear ow0 b0 h2 h3 hi hz0 hz1 hz2
  go_enter Tryz.func49, Tryz.ntmps49
  go_wp2_with (at_builtin; refine Lib.wpList_append_run _ rfl _ _ _ _ rfl _ _ rfl rfl _ _ hr ?_)
  go_ret
  exact ⟨v', rfl, by simpa using HO.out, HB.out⟩
theorem CloneV_gen {B : Nat} (a : Option Addr) (c : Nat) (vs : List PV) (w : World) (hB : B ≤ w.heap.size) (hR : RdV B w a vs) (ha : a = none → c = 0) (hn : vs.length ≤ 16777216) :
    ∃ us : List Value, us.length = vs.length ∧ (∀ (j : Nat) (hj : j < vs.length) (hu : j < us.length), ∃ a' c', us[j] = .slice a' vs[j].mp.length c' ∧ RdR B w a' vs[j].mp ∧ (a' = none → c' = 0)) ∧
      Calls Tryz.prog 49 #[.slice a vs.length c] w fun e w' => ∃ v, e = .returned v ∧ w'.ownsRow w.heap.size 38 7 v vs.length (flatV vs us) ∧ Below w.heap.size w w' := by
  cases a with
  | none =>
    obtain rfl : vs = [] := by
      rcases hR with h | ⟨_, _, h, _⟩
      · exact h
      · cases h
    obtain rfl := ha rfl
    refine ⟨[], rfl, fun j hj => by simp at hj, ?_⟩
    have hr : (binOp .eql 22 (.slice none 0 0) (.slice none 0 0)).run Tryz.prog w = .ok (.bool true) w := Go.Lib.run_eql_slice_nil w 22 38 none 0 0 0 0 Tryz.underlying22
    have HO : Hid (w.ownsRow w.heap.size 38 7 (.slice none 0 0) 0 (flatV [] [])) := ⟨rfl, .inl ⟨rfl, rfl⟩⟩
    have HB := hid (Below.refl w.heap.size w)
    clear hR ha hn
    show Calls Tryz.prog 49 #[.slice none 0 0] w _
    go_enter Tryz.func49, Tryz.ntmps49
    go_wp2
    go_ret
    exact ⟨_, rfl, HO.out, HB.out⟩
  | some ad =>
    obtain ⟨b, off, sp⟩ := ad
    have hsp : vs = [] ∨ sp = none ∧ b < w.heap.size := by
      rcases hR with h | ⟨b', off', h, hlt, _⟩
      · exact .inl h
      · simp only [Option.some.injEq, Addr.mk.injEq] at h
        exact .inr ⟨h.2.2, by omega⟩
    rcases hsp with rfl | ⟨rfl, hb⟩
    · refine ⟨[], rfl, fun j hj => by simp at hj, ?_⟩
      exact CloneN w ⟨b, off, sp⟩ c
    · obtain ⟨us, h1, h2, h3, h4⟩ := hR.flat
      exact ⟨us, h1, h4, CloneV_any b off c vs us w h1 h2 h3 (.inl hb) hn⟩

theorem flatV_setU (vs : List PV) (us : List Value) (k : Nat) (hk : k < vs.length) (z : Value) (h : us.length = vs.length) : flatV vs (us.set k z) = (flatV vs us).set (k * 7 + 6) z := by
  have := flatV_set6 vs us k hk vs[k].mp z h
  rw [show setMp vs[k] vs[k].mp = vs[k] from rfl, List.set_getElem_self] at this
  exact this
theorem RdR.back {B : Nat} {w w' : World} {a : Option Addr} {rs : List Rg} (h : RdR B w' a rs) (hb : Below B w w') : RdR B w a rs := by
  rcases h with h | ⟨b, off, rfl, hlt, hc⟩
  · exact .inl h
  · exact .inr ⟨b, off, rfl, hlt, fun j hj => ⟨(hb.cell (by exact hlt)).symm.trans (hc j hj).1, (hb.cell (by exact hlt)).symm.trans (hc j hj).2⟩⟩
/-- within draftOf's loop -/
structure DfS2 (w wr : World) (P : Nat) (x : VW) (v : Value) (i : Nat) (us0 us : List Value) : Prop where
  len : us.length = x.vs.length
  len0 : us0.length = x.vs.length
  hP : w.heap.size ≤ P
  bx : VwB wr P x v
  row : wr.ownsRow w.heap.size 38 7 v x.vs.length (flatV x.vs us)
  own : ∀ (j : Nat) (hj : j < x.vs.length), j < i → OwR w.heap.size wr (us[j]'(by omega)) x.vs[j].mp
  ap : ∀ (j l : Nat) (hj : j < us.length) (hl : l < us.length) (g : Nat), j < i → l < i → us[j].ownBlock = some g → us[l].ownBlock = some g → j = l
  old : ∀ (j : Nat) (hj : j < x.vs.length), i ≤ j → us[j]'(by omega) = us0[j]'(by omega)
  bel : Below w.heap.size w wr
theorem DfS2.step {w wr w3 y : World} {P : Nat} {x : VW} {c g : Nat} {i : Nat} {us0 us : List Value} {z : Value} (h : DfS2 w wr P x (.slice (some ⟨g, 0, none⟩) x.vs.length c) i us0 us) (hi : i < x.vs.length) (hb : Below wr.heap.size wr w3) (hz : OwR wr.heap.size w3 z x.vs[i].mp) (hy : y = w3.setCell ⟨g, i * 7 + 6, none⟩ z) :
    DfS2 w y P x (.slice (some ⟨g, 0, none⟩) x.vs.length c) (i + 1) us0 (us.set i z) := by
  have hrow := own_next h.row hb
  obtain ⟨hBg, hgl, cur, hc⟩ := own_blk h.row (g := g) rfl
  have hPg : P ≠ g := fun e => by
    have := h.bx
    unfold VwB at this
    rw [e] at this
    exact absurd (row_kind hc this) (by decide)
  have hzg : z.ownBlock ≠ some g := fun e => by
    have := (own_blk hz e).1
    omega
  refine ⟨by simp [h.len], h.len0, h.hP, ?_, ?_, fun j hj hji => ?_, fun j l hj hl b hji hli h1 h2 => ?_, fun j hj hij => ?_, ?_⟩
  · rw [hy]
    exact (h.bx.keep (hb.block _ h.bx.lt)).keep (Below.heap_setCell _ _ _ _ hPg)
  · rw [hy, flatV_setU x.vs us i hi z h.len]
    exact (hrow.stored (i * 7 + 6) z).1
  · simp only [List.getElem_set]
    rw [hy]
    by_cases e : i = j
    · subst e
      rw [if_pos rfl]
      exact own_set (own_mono hz (Nat.le_trans h.bel.size (Nat.le_refl _))) (p := ⟨g, i * 7 + 6, none⟩) hzg z
    · rw [if_neg e]
      have ho := h.own j hj (by omega)
      refine own_set (own_next ho hb) (p := ⟨g, i * 7 + 6, none⟩) (fun e2 => ?_) z
      obtain ⟨_, _, c2, hc2⟩ := own_blk ho e2
      exact absurd (row_kind hc hc2) (by decide)
  · have hj' : j < us.length := by simpa using hj
    have hl' : l < us.length := by simpa using hl
    rw [List.getElem_set] at h1 h2
    by_cases e1 : i = j
    · by_cases e2 : i = l
      · omega
      · rw [if_pos e1] at h1
        rw [if_neg e2] at h2
        have a1 := (own_blk hz h1).1
        have a2 := (own_blk (h.own l (by rw [← h.len]; exact hl') (by omega)) h2).2.1
        omega
    · rw [if_neg e1] at h1
      by_cases e2 : i = l
      · rw [if_pos e2] at h2
        have a1 := (own_blk hz h2).1
        have a2 := (own_blk (h.own j (by rw [← h.len]; exact hj') (by omega)) h1).2.1
        omega
      · rw [if_neg e2] at h2
        exact h.ap j l hj' hl' b (by omega) (by omega) h1 h2
  · rw [List.getElem_set, if_neg (by omega)]
    exact h.old j hj (by omega)
  · rw [hy]
    exact (h.bel.trans (hb.mono h.bel.size)).setCell (p := ⟨g, i * 7 + 6, none⟩) hBg z
/-- what draftOf answers -/
def o00 : OW := ⟨0, ByteArray.empty, ByteArray.empty, 0, 0⟩
def DrQ (w : World) (x : VW) (e : Ending) (w' : World) : Prop := ∃ D u us, e = .returned (.pointer (some ⟨D, 0, none⟩)) ∧ DrV w.heap.size w' D x u us o00 (.slice none 0 0) 0 0 ∧ Below w.heap.size w w'

set_option maxRecDepth 100000 in
set_option maxHeartbeats 8000000 in
theorem draftOf_any (x : VW) (a : Option Addr) (c0 : Nat) (w : World) (hl : shV x.vs) (hR : RdV w.heap.size w a x.vs) (ha : a = none → c0 = 0) :
    Calls Tryz.prog 30 #[viewA x a c0] w fun e w' => DrQ w x e w' := by
  obtain ⟨P, hP⟩ : ∃ P, P = w.heap.size := ⟨_, rfl⟩
  obtain ⟨W1, hW1⟩ : ∃ W1, W1 = w.alloc (.cells #[.int .i64 x.cp, .int .i64 x.fr, .int .i64 x.nx, .slice a x.vs.length c0] 24) := ⟨_, rfl⟩
  have b1 : Below w.heap.size w W1 := by rw [hW1]; exact below1 _ _
  have hV1 : VwB W1 P x (.slice a x.vs.length c0) := by rw [hW1, hP]; exact heap_new _ _
  obtain ⟨us0, hu0, hsl, hCl0⟩ := CloneV_gen (B := w.heap.size) a c0 x.vs W1 b1.size (hR.below b1) ha hl.1
  obtain ⟨⟨p0, p1, p2, p3⟩, pf⟩ := hV1.cs
  have f3 := pf 3
  have HCl0 := hid hCl0
  have H0 : Hid (∀ w2 v, w2.ownsRow W1.heap.size 38 7 v x.vs.length (flatV x.vs us0) → Below W1.heap.size W1 w2 → w2.cell? ⟨P, 3, none⟩ = some (.slice a x.vs.length c0) ∧ w2.frozen? ⟨P, 3, none⟩ = false ∧ ∀ y, y = w2.setCell ⟨P, 3, none⟩ v → DfS2 w y P x v 0 us0 us0) := fun w2 v hr hb2 => by
    have hV2 := hV1.keep (hb2.block _ hV1.lt)
    obtain ⟨⟨_, _, _, q3⟩, qf⟩ := hV2.cs
    refine ⟨q3, qf 3, fun y hy => ⟨hu0, hu0, by omega, by rw [hy]; exact hV2.set3 v, ?_, fun j hj h => by omega, fun j l hj hl g h => by omega, fun j hj _ => rfl, ?_⟩⟩
    · rw [hy]
      have hlt : P < W1.heap.size := hV1.lt
      refine own_set (own_mono hr b1.size) (p := ⟨P, 3, none⟩) (fun e => ?_) v
      have : W1.heap.size ≤ P := (own_blk hr e).1
      omega
    · rw [hy]
      exact (b1.trans (hb2.mono b1.size)).setCell (p := ⟨P, 3, none⟩) (by rw [hP]; exact Nat.le_refl _) v
  have HSL : Hid (∀ wr, Below w.heap.size w wr → ∀ (j : Nat) (hj : j < x.vs.length) (hu : j < us0.length), ∃ a' c', us0[j] = .slice a' x.vs[j].mp.length c' ∧ RdR wr.heap.size wr a' x.vs[j].mp ∧ (a' = none → c' = 0)) := fun wr hb j hj hu => by
    obtain ⟨a', c', e, hr, hn⟩ := hsl j hj hu
    exact ⟨a', c', e, ((hr.back b1).below hb).mono hb.size, hn⟩
  have HP := hid hP
  have HLN := hid hl
  have hl2 := hl.1
  obtain ⟨n, hn⟩ : ∃ n, x.vs.length = n := ⟨_, rfl⟩
  have HN := hid hn
  rw [hn] at p3 HCl0 hl2 H0 hW1
  have HW1 := hid hW1
  have mixed : Tryz.prog.follows Departure.mixedOrders = true := by kernel_rfl
  clear hP hW1 b1 hV1 hsl hCl0 hR ha hu0 pf hl hn
  dsimp only [viewA]
  rw [HN.out]
  go_enter Tryz.func30, Tryz.ntmps30
  go_wp2_with fail
  rw [← HW1.out, ← HP.out]
  refine HCl0.out.mono ?_
  rintro e w2 ⟨v, rfl, hr2, hb2⟩
  obtain ⟨va, vc, rfl⟩ := own_any hr2
  obtain ⟨q3, qf3, hI⟩ := H0.out w2 _ hr2 hb2
  have HI := hid (hI _ rfl)
  obtain ⟨W2, hW2⟩ : ∃ W2, W2 = w2.setCell ⟨P, 3, none⟩ (.slice va n vc) := ⟨_, rfl⟩
  rw [← hW2] at HI
  have t3 : W2.cell? ⟨P, 3, none⟩ = some (.slice va n vc) := HI.out.bx.cs.1.2.2.2
  have HW2 := hid hW2
  clear hr2 hb2 hI hW2 HCl0 H0 p3
  go_wp2_with fail
  rw [← HW2.out]
  go_wp2_with fail
  go_loopw [11] (fun iv wr => ∃ i us, i ≤ n ∧ iv = .int .i64 ((i : Nat) : Int) ∧ DfS2 w wr P x (.slice va n vc) i us0 us) (fun iv _ => n - (intOf iv).toNat)
  case atStart => exact ⟨0, us0, Nat.zero_le _, rfl, HI.out⟩
  case round =>
    obtain ⟨i, us, hin, rfl, hI⟩ := hrel
    by_cases hlt : i < n
    · have hix : i < x.vs.length := by have := HN.out; omega
      obtain ⟨ma, mc, em, hRm, hnm⟩ := HSL.out wr hI.bel i hix (by have := hI.len0; omega)
      have eus : us[i]'(by have := hI.len; omega) = .slice ma x.vs[i].mp.length mc := (hI.old i hix (Nat.le_refl _)).trans em
      obtain ⟨g, c, ev⟩ : ∃ g c, (Value.slice va n vc) = .slice (some ⟨g, 0, none⟩) n c := by
        rcases own_form hI.row with ⟨e, q⟩ | ⟨g, c, e, _⟩
        · omega
        · exact ⟨g, c, by rw [e, HN.out]⟩
      simp only [Value.slice.injEq, true_and] at ev
      obtain ⟨rfl, rfl⟩ := ev
      have hI' := hI
      rw [← HN.out] at hI'
      obtain ⟨_, hgl, cur, hcur⟩ := own_blk hI'.row (g := g) rfl
      have k3 := hI.bx.cs.1.2.2.2
      have k6 : wr.cell? ⟨g, i * 7 + 6, none⟩ = some (.slice ma x.vs[i].mp.length mc) := by
        have h1 := flatV_at x.vs us hI.len i hix 6 (by omega)
        have h2 := World.ownsRow.cells hI'.row (g := g) rfl (i * 7 + 6) (.slice ma x.vs[i].mp.length mc) (by rw [h1, eus]; rfl)
        rw [Addr.add_lit] at h2
        simpa using h2
      have hm16 : x.vs[i].mp.length ≤ 16777216 := HLN.out.2 _ (List.getElem_mem hix)
      have HCl := hid (CloneR_any ma mc x.vs[i].mp wr.drew hRm hnm hm16)
      have hbx := hI.bx.lt
      have HK : Hid (∀ w3, Below wr.drew.heap.size wr.drew w3 → w3.cell? ⟨P, 3, none⟩ = some (.slice (some ⟨g, 0, none⟩) n vc) ∧ w3.cell? ⟨g, i * 7 + 6, none⟩ = some (.slice ma x.vs[i].mp.length mc)) := fun w3 hb => ⟨(hb.cell (by exact hbx)).trans k3, (hb.cell (by exact hgl)).trans k6⟩
      have HF : Hid (∀ w3 za zc, OwR wr.drew.heap.size w3 (.slice za x.vs[i].mp.length zc) x.vs[i].mp → Below wr.drew.heap.size wr.drew w3 → w3.frozen? ⟨g, i * 7 + 6, none⟩ = false ∧ w3.cell? ⟨g, i * 7 + 6, none⟩ = some (.slice ma x.vs[i].mp.length mc) ∧ Hid (∀ y, y = w3.setCell ⟨g, i * 7 + 6, none⟩ (.slice za x.vs[i].mp.length zc) → DfS2 w y P x (.slice (some ⟨g, 0, none⟩) n vc) (i + 1) us0 (us.set i (.slice za x.vs[i].mp.length zc)))) := fun w3 za zc hz hb => by
        have hg3 : w3.heap[g]? = wr.heap[g]? := hb.block g hgl
        refine ⟨?_, (HK.out w3 hb).2, hid (fun y hy => ?_)⟩
        · simp only [World.frozen?, hg3, hcur]
          simp
        · have := hI'.step hix (undrew hb) hz hy
          rw [HN.out] at this
          exact this
      generalize x.vs[i].mp = rsi at *
      have hl1 : (i : Int) < (n : Int) := by omega
      clear hI hI' hRm hnm em eus hcur hgl hm16 hbx HSL HI
      go_wp2_with fail
      refine wp_region_last (S := (fun y => y.cell? ⟨P, 3, none⟩ = some (.slice (some ⟨g, 0, none⟩) n vc) ∧ y.cell? ⟨g, i * 7 + 6, none⟩ = some (.slice ma rsi.length mc))) 12 12 (by kernel_rfl) (by kernel_rfl) (by kernel_rfl) ⟨k3, k6⟩ (fun hSS => ?_)
      refine wpAnyH_take (i := 0) (oi := ({ dst := some 14, op := Op.fieldAddr 24 (Operand.tmp 1) 3, type := 0, pos := _, after := _, guard := none } : Oper)) (v := ?_) rfl (by kernel_rfl) (by kernel_rfl) (by kernel_rfl) (fun _ _ _ h => h) (Or.inl ⟨by rfl, ?_⟩) hSS ?_
      rotate_left
      · intro w9 hSw
        (try dsimp only at hSw)
        (try go_split_ands)
        first | (go_simp; done) | (go_simp; with_reducible rfl)
      try simp only [Act.put, List.setIfInBounds_toArray, List.set_cons_zero, List.set_cons_succ]
      refine wpAnyH_take (i := 1) (oi := ({ dst := some 15, op := Op.load 22 (Operand.tmp 14), type := 22, pos := _, after := _, guard := none } : Oper)) (v := ?_) rfl (by kernel_rfl) (by kernel_rfl) (by kernel_rfl) (fun _ _ _ h => h) (Or.inl ⟨by rfl, ?_⟩) hSS ?_
      rotate_left
      · intro w9 hSw
        (try dsimp only at hSw)
        (try go_split_ands)
        first | (go_simp; done) | (go_simp; with_reducible rfl)
      try simp only [Act.put, List.setIfInBounds_toArray, List.set_cons_zero, List.set_cons_succ]
      refine wpAnyH_take (i := 2) (oi := ({ dst := some 16, op := Op.move (Operand.tmp 3), type := 3, pos := _, after := _, guard := none } : Oper)) (v := ?_) rfl (by kernel_rfl) (by kernel_rfl) (by kernel_rfl) (fun _ _ _ h => h) (Or.inl ⟨by rfl, ?_⟩) hSS ?_
      rotate_left
      · intro w9 hSw
        (try dsimp only at hSw)
        (try go_split_ands)
        first | (go_simp; done) | (go_simp; with_reducible rfl)
      try simp only [Act.put, List.setIfInBounds_toArray, List.set_cons_zero, List.set_cons_succ]
      refine wpAnyH_take (i := 3) (oi := ({ dst := some 17, op := Op.fieldAddr 24 (Operand.tmp 1) 3, type := 0, pos := _, after := _, guard := none } : Oper)) (v := ?_) rfl (by kernel_rfl) (by kernel_rfl) (by kernel_rfl) (fun _ _ _ h => h) (Or.inl ⟨by rfl, ?_⟩) hSS ?_
      rotate_left
      · intro w9 hSw
        (try dsimp only at hSw)
        (try go_split_ands)
        first | (go_simp; done) | (go_simp; with_reducible rfl)
      try simp only [Act.put, List.setIfInBounds_toArray, List.set_cons_zero, List.set_cons_succ]
      refine wpAnyH_take (i := 4) (oi := ({ dst := some 18, op := Op.load 22 (Operand.tmp 17), type := 22, pos := _, after := _, guard := none } : Oper)) (v := ?_) rfl (by kernel_rfl) (by kernel_rfl) (by kernel_rfl) (fun _ _ _ h => h) (Or.inl ⟨by rfl, ?_⟩) hSS ?_
      rotate_left
      · intro w9 hSw
        (try dsimp only at hSw)
        (try go_split_ands)
        first | (go_simp; done) | (go_simp; with_reducible rfl)
      try simp only [Act.put, List.setIfInBounds_toArray, List.set_cons_zero, List.set_cons_succ]
      refine wpAnyH_take (i := 5) (oi := ({ dst := some 19, op := Op.move (Operand.tmp 3), type := 3, pos := _, after := _, guard := none } : Oper)) (v := ?_) rfl (by kernel_rfl) (by kernel_rfl) (by kernel_rfl) (fun _ _ _ h => h) (Or.inl ⟨by rfl, ?_⟩) hSS ?_
      rotate_left
      · intro w9 hSw
        (try dsimp only at hSw)
        (try go_split_ands)
        first | (go_simp; done) | (go_simp; with_reducible rfl)
      try simp only [Act.put, List.setIfInBounds_toArray, List.set_cons_zero, List.set_cons_succ]
      refine wpAnyH_take (i := 6) (oi := ({ dst := some 20, op := Op.indexAddr 22 (Operand.tmp 18) (Operand.tmp 19), type := 0, pos := _, after := _, guard := none } : Oper)) (v := ?_) rfl (by kernel_rfl) (by kernel_rfl) (by kernel_rfl) (fun _ _ _ h => h) (Or.inl ⟨by rfl, ?_⟩) hSS ?_
      rotate_left
      · intro w9 hSw
        (try dsimp only at hSw)
        (try go_split_ands)
        first | (go_simp; done) | (go_simp; with_reducible rfl)
      try simp only [Act.put, List.setIfInBounds_toArray, List.set_cons_zero, List.set_cons_succ]
      refine wpAnyH_take (i := 7) (oi := ({ dst := some 21, op := Op.fieldAddr 38 (Operand.tmp 20) 6, type := 0, pos := _, after := _, guard := none } : Oper)) (v := ?_) rfl (by kernel_rfl) (by kernel_rfl) (by kernel_rfl) (fun _ _ _ h => h) (Or.inl ⟨by rfl, ?_⟩) hSS ?_
      rotate_left
      · intro w9 hSw
        (try dsimp only at hSw)
        (try go_split_ands)
        first | (go_simp; done) | (go_simp; with_reducible rfl)
      try simp only [Act.put, List.setIfInBounds_toArray, List.set_cons_zero, List.set_cons_succ]
      refine wpAnyH_take (i := 8) (oi := ({ dst := some 22, op := Op.load 36 (Operand.tmp 21), type := 36, pos := _, after := _, guard := none } : Oper)) (v := ?_) rfl (by kernel_rfl) (by kernel_rfl) (by kernel_rfl) (fun _ _ _ h => h) (Or.inl ⟨by rfl, ?_⟩) hSS ?_
      rotate_left
      · intro w9 hSw
        (try dsimp only at hSw)
        (try go_split_ands)
        first | (go_simp; done) | (go_simp; with_reducible rfl)
      try simp only [Act.put, List.setIfInBounds_toArray, List.set_cons_zero, List.set_cons_succ]
      refine wpAnyH_ready (rs := [9]) (by kernel_rfl) (by simp) (AllReadyH.cons (o := ({ dst := some 23, op := Op.call { callee := Callee.value (Operand.func 50), args := #[Operand.tmp 22], argTypes := #[36] }, type := 36, pos := _, after := _, guard := none } : Oper)) rfl (fun K9 hK9 => ?_) AllReadyH.nil)
      go_simp
      go_at_call 50
      refine HCl.out.mono ?_
      rintro e w3 ⟨z, rfl, hz, hb3⟩
      obtain ⟨za, zc, rfl⟩ := own_any hz
      obtain ⟨fz, k6, hnx⟩ := HF.out w3 _ _ hz hb3
      refine hK9.out _ _ (HK.out w3 hb3) (fun hSS => ?_)
      clear hK9 K9
      try simp only [Act.put, List.setIfInBounds_toArray, List.set_cons_zero, List.set_cons_succ]
      refine wpAnyH_take (i := 10) (oi := ({ dst := some 24, op := Op.indexAddr 22 (Operand.tmp 15) (Operand.tmp 16), type := 0, pos := _, after := _, guard := none } : Oper)) (v := ?_) rfl (by kernel_rfl) (by kernel_rfl) (by kernel_rfl) (fun _ _ _ h => h) (Or.inl ⟨by rfl, ?_⟩) hSS ?_
      rotate_left
      · intro w9 hSw
        (try dsimp only at hSw)
        (try go_split_ands)
        first | (go_simp; done) | (go_simp; with_reducible rfl)
      try simp only [Act.put, List.setIfInBounds_toArray, List.set_cons_zero, List.set_cons_succ]
      refine wpAnyH_take (i := 11) (oi := ({ dst := some 25, op := Op.fieldAddr 38 (Operand.tmp 24) 6, type := 0, pos := _, after := _, guard := none } : Oper)) (v := ?_) rfl (by kernel_rfl) (by kernel_rfl) (by kernel_rfl) (fun _ _ _ h => h) (Or.inl ⟨by rfl, ?_⟩) hSS ?_
      rotate_left
      · intro w9 hSw
        (try dsimp only at hSw)
        (try go_split_ands)
        first | (go_simp; done) | (go_simp; with_reducible rfl)
      try simp only [Act.put, List.setIfInBounds_toArray, List.set_cons_zero, List.set_cons_succ]
      refine wpAnyH_done (by kernel_rfl) ?_ _
      refine last_step (L := 12) (o := ({ dst := none, op := Op.store 36 (Operand.tmp 25) (Operand.tmp 23), type := 0, pos := _, after := _, guard := none } : Oper)) rfl (fun K9 hK9 => ?_)
      go_simp
      refine hK9.out _ _ ?_
      clear hK9 K9
      try simp only [Act.put, List.setIfInBounds_toArray, List.set_cons_zero, List.set_cons_succ]
      go_wp2
      go_roundw
      case rel => exact ⟨i + 1, _, by omega, by go_num, hnx.out _ rfl⟩
      case measure => simp [intOf]; omega
    · have ein : i = n := by omega
      have HD : Hid (∀ y D, D = wr.heap.size → y = wr.alloc (.cells #[.int .i64 x.cp, .int .i64 x.fr, .int .i64 x.nx, .slice va n vc, .int .i64 0, .string ByteArray.empty, .string ByteArray.empty, .int .i64 0, .int .i64 0, .slice none 0 0, .int .i64 0, .int .i64 0] 73) → DrQ w x (.returned (.pointer (some ⟨D, 0, none⟩))) y) := fun y D hD hy => by
        have b : Below wr.heap.size wr y := by rw [hy]; exact below1 _ _
        have hin2 : x.vs.length ≤ i := by have := HN.out; omega
        refine ⟨D, _, us, rfl, ⟨by rw [hy, hD]; exact heap_new _ _, ⟨hI.len, own_next hI.row b, fun j hj => own_next (hI.own j hj (by omega)) b⟩, fun j l hj hl g h1 h2 => hI.ap j l hj hl g (by have := hI.len; omega) (by have := hI.len; omega) h1 h2, by have := hI.bel.size; omega⟩, hI.bel.trans (b.mono hI.bel.size)⟩
      obtain ⟨⟨k0, k1, k2, k3⟩, _⟩ := hI.bx.cs
      have hl1 : ¬ (i : Int) < (n : Int) := by omega
      clear hI HSL HI ein
      go_wp2
      go_ret
      exact HD.out _ _ rfl rfl

end Go.Proofs.YtddddfankeepkaaGreatDoor
