/-
  The row: its lend (function 41).
-/
import Derived.Test.YteaebdonnicbkaaRow
import Derived.Test.YteaebdonnicbkaaLS
namespace Go.Proofs.Yteaebdonnicbkaa
open Go.RowKit

/-- a block of fields, known whole -/
def BlF (w : World) (g : Nat) (ys : List (Int × Int)) : Prop := w.heap[g]? = some (.cells (flat ys).toArray 38 (0, 0))
theorem BlF.lt {w : World} {g : Nat} {ys : List (Int × Int)} (h : BlF w g ys) : g < w.heap.size := (Array.getElem?_eq_some_iff.1 h).1
theorem BlF.cells {w : World} {g : Nat} {ys : List (Int × Int)} (h : BlF w g ys) (t : Nat) (ht : t < ys.length) : w.cell? ⟨g, t * 2, none⟩ = some (.int .i64 (ys.getD t (0, 0)).1) ∧ w.cell? ⟨g, t * 2 + 1, none⟩ = some (.int .i64 (ys.getD t (0, 0)).2) := by
  obtain ⟨f1, f2⟩ := flat_get ys t ht
  unfold BlF at h
  constructor
  · simp only [World.cell?, h]
    simpa using f1
  · simp only [World.cell?, h]
    simpa using f2
theorem BlF.of_block {w w' : World} {g : Nat} {ys : List (Int × Int)} (h : BlF w g ys) (hk : w'.heap[g]? = w.heap[g]?) : BlF w' g ys := hk.trans h
/-- the row's own block -/
def Rwb (w : World) (r : Nat) (bv : Value) : Prop := w.heap[r]? = some (.cells #[bv] 58 (0, 0))
theorem Rwb.lt {w : World} {r : Nat} {bv : Value} (h : Rwb w r bv) : r < w.heap.size := (Array.getElem?_eq_some_iff.1 h).1
theorem Rwb.cell {w : World} {r : Nat} {bv : Value} (h : Rwb w r bv) : w.cell? ⟨r, 0, none⟩ = some bv := by
  unfold Rwb at h
  simp [World.cell?, h]
theorem Rwb.frozen {w : World} {r : Nat} {bv : Value} (h : Rwb w r bv) (j : Nat) : w.frozen? ⟨r, j, none⟩ = false := by
  unfold Rwb at h
  simp [World.frozen?, h]
theorem Rwb.set {w : World} {r : Nat} {bv : Value} (h : Rwb w r bv) (u : Value) : Rwb (w.setCell ⟨r, 0, none⟩ u) r u := by
  unfold Rwb at *
  simp only [World.setCell, Array.getElem?_modify]
  rw [h]
  simp
theorem Rwb.of_block {w w' : World} {r : Nat} {bv : Value} (h : Rwb w r bv) (hk : w'.heap[r]? = w.heap[r]?) : Rwb w' r bv := hk.trans h
def RS1 (w : World) (r : Nat) (bv : Value) : Prop := Rwb w r bv ∧ (bv = .slice none 0 0 ∨ ∃ G M ys, bv = .slice (some ⟨G, 0, none⟩) M M ∧ r ≠ G ∧ BlF w G ys ∧ ys.length = M ∧ M ≤ 67109376)
theorem RS1.there {w : World} {r : Nat} {bv : Value} (h : RS1 w r bv) {x : Nat} (hx : XL r bv x) : x < w.heap.size := by
  obtain ⟨h1, h2⟩ := h
  rcases hx with rfl | hx
  · exact h1.lt
  · rcases h2 with rfl | ⟨G, M, ys, rfl, h3, h4, h5, h6⟩
    · cases hx
    · cases hx; exact h4.lt
theorem RS1.but {X : Nat → Prop} {w w' : World} {r : Nat} {bv : Value} (h : RS1 w r bv) (hb : But X w w') (hx : ∀ x, XL r bv x → ¬ X x) : RS1 w' r bv := by
  obtain ⟨h1, h2⟩ := h
  refine ⟨h1.of_block (hb.block r h1.lt (hx r (.inl rfl))), ?_⟩
  rcases h2 with h2 | ⟨G, M, ys, rfl, h3, h4, h5, h6⟩
  · exact .inl h2
  · exact .inr ⟨G, M, ys, rfl, h3, h4.of_block (hb.block G h4.lt (hx G (.inr rfl))), h5, h6⟩
/-- while fields are lent -/
structure RwL (w : World) (r G M m : Nat) (fs : List (Int × Int)) : Prop where
  row : Rwb w r (.slice (some ⟨G, 0, none⟩) M M)
  ne : r ≠ G
  big : 2 * m + 70 ≤ M
  small : M ≤ 67109376
  buf : ∃ ys, BlF w G ys ∧ ys.length = M ∧ ys.take (2 * m + 70) = lentF fs (m + 70)

theorem info38z : (Try.prog.info? 38).map (·.size) = some 2 := by kernel_rfl
theorem flat_take (ys : List (Int × Int)) (k : Nat) : flat (ys.take k) = (flat ys).take (k * 2) := by
  induction ys generalizing k with
  | nil => simp [flat]
  | cons f r ih =>
    cases k with
    | zero => simp [flat]
    | succ k =>
      have := ih k
      simp only [flat, List.take_succ_cons, List.flatMap_cons] at *
      rw [this, show (k + 1) * 2 = k * 2 + 2 by omega]
      rfl
theorem flat_drop (ys : List (Int × Int)) (k : Nat) : flat (ys.drop k) = (flat ys).drop (k * 2) := by
  induction ys generalizing k with
  | nil => simp [flat]
  | cons f r ih =>
    cases k with
    | zero => simp [flat]
    | succ k =>
      have := ih k
      simp only [flat, List.drop_succ_cons, List.flatMap_cons] at *
      rw [this, show (k + 1) * 2 = k * 2 + 2 by omega]
      rfl
/-- fields laid over the first ones -/
theorem flat_over (ys cs : List (Int × Int)) : splice (flat ys) 0 (flat cs) = flat (cs ++ ys.drop cs.length) := by
  unfold splice
  rw [flat_append, flat_drop, List.take_zero, List.nil_append, Nat.zero_add, length_flat]

theorem flat_zeros (n : Nat) : flat (List.replicate n ((0 : Int), (0 : Int))) = List.replicate (n * 2) (.int .i64 0) := by
  induction n with
  | zero => rfl
  | succ n ih =>
    rw [List.replicate_succ, show (n + 1) * 2 = n * 2 + 1 + 1 by omega, List.replicate_succ, List.replicate_succ, ← ih]
    simp [flat]
theorem made_flat (n : Nat) : madeCells #[.int .i64 0, .int .i64 0] (n * 2) = (flat (List.replicate n ((0 : Int), (0 : Int)))).toArray := by
  rw [flat_zeros, ← Array.toList_inj]
  apply List.ext_getElem
  · simp [madeCells]
  · intro j h1 h2
    simp only [madeCells, Array.toList_map, List.getElem_map, Array.toList_range, List.getElem_range, List.getElem_replicate]
    rcases Nat.mod_two_eq_zero_or_one j with h | h <;> simp [h]
theorem make_fields (n : Nat) (hn : n ≤ 1073741824) (u : World) : (Instr.makeSlice 35 (.int .i64 (n : Int)) (.int .i64 (n : Int))).run Try.prog u =
    .ok (.slice (some ⟨u.heap.size, 0, none⟩) n n) (u.alloc (.cells (flat (List.replicate n ((0 : Int), (0 : Int)))).toArray 38)) := by
  obtain ⟨i0, hi, hz0, hz1, hz2⟩ := info_parts info38
  have h := run_make (P := Try.prog) u 35 38 i0 (.agg #[.int .i64 0, .int .i64 0]) Try.underlying35 hi hz0 .i64 .i64 (n : Int) (n : Int) (by omega) (Int.le_refl _) (by rw [hz2]; omega) (by omega)
  have e : ((n : Int)).toNat = n := by omega
  rw [e] at h
  rw [← made_flat]
  simpa [hz1, Value.cells] using h

theorem copy_fields {ty : TypeId} {w : World} {G M dCap g n sCap : Nat} {ys cs : List (Int × Int)} (hg : BlF w G ys) (hn : (flat cs).length = Nat.min n M * 2) (hsrc : ∀ j v, (flat cs)[j]? = some v → w.cell? ((⟨g, 0, none⟩ : Addr).add j) = some v) (hfit : 0 + (flat cs).length ≤ (flat ys).length) :
    ∃ w', (Builtin.copy_ #[35, 35] ty #[.slice (some ⟨G, 0, none⟩) M dCap, .slice (some ⟨g, 0, none⟩) n sCap]).run Try.prog w = .ok (goInt (Nat.min n M)) w' ∧ BlF w' G (cs ++ ys.drop cs.length) ∧ But (fun x => x = G) w w' := by
  refine ⟨_, run_copy_wide (P := Try.prog) w 35 35 ty 38 G 0 M dCap ⟨g, 0, none⟩ n sCap 2 (flat ys).toArray 38 (flat cs) Try.underlying35 info38z hg hn hsrc (by simpa using hfit) (flat_one _), ?_, ?_⟩
  · have := setRow_heap w G (flat ys).toArray ((flat ys).toArray.toList.take 0 ++ flat cs ++ (flat ys).toArray.toList.drop (0 + (flat cs).length)).toArray 38 (0, 0) hg
    unfold BlF
    rw [this, ← flat_over]
    simp [splice]
  · exact ⟨rfl, rfl, rfl, by simp [World.setRow], fun k _ hx => setRow_other w G k _ (by intro e; exact hx e)⟩

set_option maxRecDepth 100000 in
set_option maxHeartbeats 2000000 in
theorem rlend_any (r : Nat) (bv : Value) (a : Option Addr) (m c : Nat) (fs : List (Int × Int)) (w : World) (hm : m ≤ 16777216) (hnil : a = none → c = 0) (hS : RS1 w r bv) (hR : RFN (XL r bv) w a m fs) :
    Calls Try.prog 41 #[.pointer (some ⟨r, 0, none⟩), .slice a m c] w fun e w' => ∃ G M, e = .returned (.slice (some ⟨G, 0, none⟩) m M) ∧ RwL w' r G M m fs ∧ (bv.ownBlock = some G ∨ w.heap.size ≤ G) ∧ But (XL r bv) w w' := by
  have hl := hR.1
  have H0 : Hid (OwF w.heap.size (w.alloc (.cells #[] 38)) (.slice (some ⟨w.heap.size, 0, none⟩) 0 0) 0 []) := World.ownsRow_lit w #[] 0 (Nat.le_refl _) (by decide) rfl
  have hb0 := hid (show Below w.heap.size w (w.alloc (.cells #[] 38)) from (Below.refl _ _).alloc (Nat.le_refl _) _)
  have HS := hid hS
  have HR := hid (hR.but (But.of_below hb0.out))
  clear hS hR
  go_enter Try.func41, Try.ntmps41
  go_wp2_with (at_builtin; refine wpF_any (by rfl) _ _ (by rfl) w.heap.size _ 0 [] (by rfl) (by exact H0.out) (XL r bv) a m c fs (by rfl) hnil (by exact HR.out) (by omega) (by exact hb0.out.size) ?_)
  intro o1 w1 ho1 hb1 hn1
  obtain ⟨g1, c1, rfl, hg1, _⟩ := ho1.form hn1
  have P1 := hid ho1
  have B1 := hid (hb0.out.trans hb1)
  clear ho1 hb1 hn1 H0 hb0
  go_wp2_with fail
  go_loopw [5, 6] (fun o i wt => ∃ k : Nat, k ≤ m + 70 ∧ i = .int .i64 (k : Int) ∧ OwF w.heap.size wt o (m + k) (lentF fs k) ∧ o ≠ .slice none 0 0 ∧ Below w.heap.size w wt) (fun _ i _ => m + 70 - (intOf i).toNat)
  case atStart => exact ⟨0, Nat.zero_le _, rfl, by rw [lentF_zero]; exact P1.out, (by intro h; cases h), B1.out⟩
  case round =>
    obtain ⟨k, hk, rfl, hO, hne, hbt⟩ := hrel
    clear P1 B1
    obtain ⟨g2, c2, rfl, hg2, _⟩ := hO.form hne
    by_cases hkm : k < m + 70
    · have hk1 : (k : Int) < (m : Int) + 70 := by omega
      have HO := hid hO
      have Hb := hid hbt
      clear hO hbt hne
      go_wp2_with fail
      refine (behind_any k wr (by omega) (by omega)).mono ?_
      rintro e w3 ⟨rfl, hb3⟩
      have P3 := hid ((HO.out.below hb3).alloc (.cells #[.int .i64 (-7 - (k : Int)), .int .i64 (-8)] 38))
      have B3 := hid ((Hb.out.trans (hb3.mono Hb.out.size)).alloc (Hb.out.trans (hb3.mono Hb.out.size)).size (.cells #[.int .i64 (-7 - (k : Int)), .int .i64 (-8)] 38))
      clear hb3 HO Hb
      go_wp2_with (at_builtin; refine wpF_one (by rfl) _ _ (by rfl) w.heap.size _ (m + k) (lentF fs k) (by rfl) (by exact P3.out) ⟨w3.heap.size, 0, none⟩ 1 (-7 - (k : Int)) (-8) (by rfl) (by exact news2 w3 _ _) (by omega) (by exact B3.out.size) ?_)
      intro g4 c4 w4 ho4 hb4
      have P4 := hid ho4
      have B4 := hid (B3.out.trans hb4)
      clear ho4 hb4 P3 B3
      go_wp2
      go_roundw
      case rel => exact ⟨k + 1, by omega, by go_num, by rw [lentF_succ]; exact P4.out, (by intro h; cases h), B4.out⟩
      case measure => simp [intOf]; omega
    · obtain rfl : k = m + 70 := by omega
      have hsz := hbt.size
      have HO := hid hO
      have Hb := hid hbt
      obtain ⟨hr1, hr2⟩ := HS.out
      have hr3 := hr1.of_block (hbt.block r hr1.lt)
      have hcr := hr3.cell
      have hfr := hr3.frozen 0
      have HR3 := hid hr3
      have hrlt := hr1.lt
      clear hO hbt hne hr1 hr3
      by_cases hbig : ∃ G M ys, bv = .slice (some ⟨G, 0, none⟩) M M ∧ r ≠ G ∧ BlF w G ys ∧ ys.length = M ∧ M ≤ 67109376 ∧ m + (m + 70) ≤ M
      · obtain ⟨G, M, ys, rfl, hrG, hBl, hyl, hM, hMm⟩ := hbig
        have hlt : ¬ ((M : Int) < ((m + (m + 70) : Nat) : Int)) := by omega
        have HBl := hid (hBl.of_block (Hb.out.block G hBl.lt))
        have HS2 := hid HO.out.src
        have hmin : Nat.min (m + (m + 70)) M = m + (m + 70) := Nat.min_eq_left hMm
        have N5 : Hid ((flat (lentF fs (m + 70))).length = Nat.min (m + (m + 70)) M * 2) := by show _ = _; rw [length_flat, length_lentF, hl, hmin]
        have F5 : Hid (0 + (flat (lentF fs (m + 70))).length ≤ (flat ys).length) := by show _ ≤ _; rw [length_flat, length_flat, length_lentF, hl]; omega
        obtain ⟨w5, hcp, hB5, hu5⟩ := copy_fields (ty := 3) (w := wr) (dCap := M) (sCap := c2) (by exact HBl.out) N5.out HS2.out F5.out
        rw [hmin] at hcp
        have HB5 := hid hB5
        have Hu5 := hid hu5
        have hcr5 : w5.cell? ⟨r, 0, none⟩ = some (.slice (some ⟨G, 0, none⟩) M M) := (hu5.cell (p := ⟨r, 0, none⟩) (by exact Nat.lt_of_lt_of_le hrlt hsz) (by exact hrG)).trans hcr
        have hmM : (m : Int) ≤ (M : Int) := by omega
        clear hB5 hu5
        go_wp2
        go_ret
        refine ⟨G, M, rfl, ⟨HR3.out.of_block (Hu5.out.block r (Nat.lt_of_lt_of_le hrlt hsz) hrG), hrG, by omega, hM, _, HB5.out, ?_, ?_⟩, .inl rfl, (But.of_below (X := XL r (.slice (some ⟨G, 0, none⟩) M M)) Hb.out).comp Hu5.out (fun x _ e => by subst e; exact .inr rfl)⟩
        · rw [List.length_append, List.length_drop, length_lentF, hl]; omega
        · rw [show 2 * m + 70 = (lentF fs (m + 70)).length by rw [length_lentF, hl]; omega, List.take_left]
      · obtain ⟨av, Mv, cv, rfl, hMv⟩ : ∃ av Mv cv, bv = .slice av Mv cv ∧ Mv < m + (m + 70) := by
          rcases hr2 with rfl | ⟨G, M, ys, rfl, q1, q2, q3, q4⟩
          · exact ⟨none, 0, 0, rfl, by omega⟩
          · refine ⟨some ⟨G, 0, none⟩, M, M, rfl, ?_⟩
            by_cases h : m + (m + 70) ≤ M
            · exact absurd ⟨G, M, ys, rfl, q1, q2, q3, q4, h⟩ hbig
            · omega
        have hlt : (Mv : Int) < ((m + (m + 70) : Nat) : Int) := by omega
        have hmk : ∀ u : World, (Instr.makeSlice 35 (.int .i64 ((m : Int) + ((m : Int) + 70))) (.int .i64 ((m : Int) + ((m : Int) + 70)))).run Try.prog u = .ok (.slice (some ⟨u.heap.size, 0, none⟩) (m + (m + 70)) (m + (m + 70))) (u.alloc (.cells (flat (List.replicate (m + (m + 70)) ((0 : Int), (0 : Int)))).toArray 38)) := fun u => by
          have := make_fields (m + (m + 70)) (by omega) u
          rw [show ((m : Int) + ((m : Int) + 70)) = ((m + (m + 70) : Nat) : Int) by omega]
          exact this
        clear hbig hr2
        obtain ⟨zs, hzs⟩ : ∃ zs, zs = List.replicate (m + (m + 70)) ((0 : Int), (0 : Int)) := ⟨_, rfl⟩
        rw [← hzs] at hmk
        have hzl : zs.length = m + (m + 70) := by rw [hzs]; simp
        clear hzs
        have hrw : r < wr.heap.size := Nat.lt_of_lt_of_le hrlt hsz
        have hRm : Rwb (wr.alloc (.cells (flat zs).toArray 38)) r (.slice av Mv cv) := HR3.out.of_block (Below.heap_alloc _ _ _ hrw)
        have hcm := hRm.cell
        have hfm := hRm.frozen 0
        have HRs := hid (hRm.set (.slice (some ⟨wr.heap.size, 0, none⟩) (m + (m + 70)) (m + (m + 70))))
        have hcs := HRs.out.cell
        have HBs : Hid (BlF ((wr.alloc (.cells (flat zs).toArray 38)).setCell ⟨r, 0, none⟩ (.slice (some ⟨wr.heap.size, 0, none⟩) (m + (m + 70)) (m + (m + 70)))) wr.heap.size zs) := by
          show BlF _ _ _
          refine BlF.of_block (w := wr.alloc (.cells (flat zs).toArray 38)) ?_ (Below.heap_setCell _ _ _ _ (show wr.heap.size ≠ r by omega))
          show (wr.heap.push _)[wr.heap.size]? = _
          simp
        have HOs := hid ((HO.out.alloc (.cells (flat zs).toArray 38)))
        have HO2 : Hid (OwF w.heap.size ((wr.alloc (.cells (flat zs).toArray 38)).setCell ⟨r, 0, none⟩ (.slice (some ⟨wr.heap.size, 0, none⟩) (m + (m + 70)) (m + (m + 70)))) (.slice (some ⟨g2, 0, none⟩) (m + (m + 70)) c2) (m + (m + 70)) (lentF fs (m + 70))) :=
          owns_setCell HOs.out (p := ⟨r, 0, none⟩) (fun e => by simp [Value.ownBlock] at e; omega) _
        have Hus : Hid (But (XL r (.slice av Mv cv)) w ((wr.alloc (.cells (flat zs).toArray 38)).setCell ⟨r, 0, none⟩ (.slice (some ⟨wr.heap.size, 0, none⟩) (m + (m + 70)) (m + (m + 70))))) :=
          ((But.of_below (X := XL r (.slice av Mv cv)) Hb.out).alloc _).setCell (p := ⟨r, 0, none⟩) (.inl rfl) _
        have hszs : ((wr.alloc (.cells (flat zs).toArray 38)).setCell ⟨r, 0, none⟩ (.slice (some ⟨wr.heap.size, 0, none⟩) (m + (m + 70)) (m + (m + 70)))).heap.size = wr.heap.size + 1 := by simp [World.setCell]
        generalize hws : (wr.alloc (.cells (flat zs).toArray 38)).setCell ⟨r, 0, none⟩ (.slice (some ⟨wr.heap.size, 0, none⟩) (m + (m + 70)) (m + (m + 70))) = ws at *
        have hmin : Nat.min (m + (m + 70)) (m + (m + 70)) = m + (m + 70) := Nat.min_self _
        have N5 : Hid ((flat (lentF fs (m + 70))).length = Nat.min (m + (m + 70)) (m + (m + 70)) * 2) := by show _ = _; rw [length_flat, length_lentF, hl, hmin]
        have F5 : Hid (0 + (flat (lentF fs (m + 70))).length ≤ (flat zs).length) := by show _ ≤ _; rw [length_flat, length_flat, length_lentF, hl]; omega
        obtain ⟨w5, hcp, hB5, hu5⟩ := copy_fields (ty := 3) (w := ws) (dCap := m + (m + 70)) (sCap := c2) (by exact HBs.out) N5.out HO2.out.src F5.out
        rw [hmin] at hcp
        have HB5 := hid hB5
        have Hu5 := hid hu5
        have hcr5 : w5.cell? ⟨r, 0, none⟩ = some (.slice (some ⟨wr.heap.size, 0, none⟩) (m + (m + 70)) (m + (m + 70))) := (hu5.cell (p := ⟨r, 0, none⟩) (by show r < ws.heap.size; omega) (by show r ≠ wr.heap.size; omega)).trans hcs
        have hmM : (m : Int) ≤ (m : Int) + ((m : Int) + 70) := by omega
        clear hB5 hu5 hRm
        go_wp2
        go_ret
        refine ⟨wr.heap.size, m + (m + 70), rfl, ⟨HRs.out.of_block (Hu5.out.block r (by omega) (by omega)), by omega, by omega, by omega, _, HB5.out, ?_, ?_⟩, .inr hsz, Hus.out.comp Hu5.out (fun x hx e => by subst e; omega)⟩
        · rw [List.length_append, List.length_drop, length_lentF, hl]; omega
        · rw [show 2 * m + 70 = (lentF fs (m + 70)).length by rw [length_lentF, hl]; omega, List.take_left]

end Go.Proofs.Yteaebdonnicbkaa
