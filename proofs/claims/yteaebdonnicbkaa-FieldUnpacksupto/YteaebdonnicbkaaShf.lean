/-
  The shelf that lends numbers (functions 46, 48); numbers turned round (function 29).
-/
import Derived.Test.YteaebdonnicbkaaUnR
import Derived.Test.YteaebdonnicbkaaLS
import Derived.Deep.QuietTactic
import Derived.BigQuiet
namespace Go.Proofs.Yteaebdonnicbkaa
open Go.RowKit

/-- numbers that are read, in a block outside of X -/
def RIN (X : Nat → Prop) (w : World) (a : Option Addr) (m : Nat) (ws : List Int) : Prop :=
  ws.length = m ∧ (m = 0 ∨ ∃ b off, a = some ⟨b, off, none⟩ ∧ b < w.heap.size ∧ ¬ X b ∧ ∀ t, t < m → w.cell? ⟨b, off + t, none⟩ = some (.int .i64 (ws.getD t 0)))
theorem RIN.rd {X : Nat → Prop} {w : World} {a : Option Addr} {m : Nat} {ws : List Int} (h : RIN X w a m ws) : RdI w.heap.size w a m ws := by
  obtain ⟨h1, h3⟩ := h
  refine ⟨h1, ?_⟩
  rcases h3 with h3 | ⟨b, off, h4, h5, h6, h7⟩
  · exact .inl h3
  · exact .inr ⟨b, off, h4, h5, h7⟩
theorem RIN.but {X : Nat → Prop} {w w' : World} {a : Option Addr} {m : Nat} {ws : List Int} (h : RIN X w a m ws) (hb : But X w w') : RIN X w' a m ws := by
  obtain ⟨h1, h3⟩ := h
  refine ⟨h1, ?_⟩
  rcases h3 with h3 | ⟨b, off, h4, h5, h6, h7⟩
  · exact .inl h3
  · exact .inr ⟨b, off, h4, Nat.lt_of_lt_of_le h5 hb.size, h6, fun t ht => (hb.cell (by exact h5) (by exact h6)).trans (h7 t ht)⟩
theorem RIN.mono {X Y : Nat → Prop} {w : World} {a : Option Addr} {m : Nat} {ws : List Int} (h : RIN X w a m ws) (hX : ∀ k, k < w.heap.size → Y k → X k) : RIN Y w a m ws := by
  obtain ⟨h1, h3⟩ := h
  refine ⟨h1, ?_⟩
  rcases h3 with h3 | ⟨b, off, h4, h5, h6, h7⟩
  · exact .inl h3
  · exact .inr ⟨b, off, h4, h5, fun hy => h6 (hX b h5 hy), h7⟩
theorem RIN.of_rd {B : Nat} {X : Nat → Prop} {w : World} {a : Option Addr} {m : Nat} {ws : List Int} (h : RdI B w a m ws) (hB : B ≤ w.heap.size) (hX : ∀ k, k < B → ¬ X k) : RIN X w a m ws := by
  obtain ⟨h1, h3⟩ := h
  refine ⟨h1, ?_⟩
  rcases h3 with h3 | ⟨b, off, h4, h5, h7⟩
  · exact .inl h3
  · exact .inr ⟨b, off, h4, by omega, hX b h5, h7⟩
theorem RIN.next {Y : Nat → Prop} {w w' : World} {a : Option Addr} {n : Nat} {zs : List Int} (h : RIN Y w a n zs) (hb : But Y w w') : RIN (fun x => Y x ∨ w.heap.size ≤ x) w' a n zs := by
  obtain ⟨h1, h3⟩ := h
  refine ⟨h1, ?_⟩
  rcases h3 with h3 | ⟨b, off, h4, h5, h6, h7⟩
  · exact .inl h3
  · exact .inr ⟨b, off, h4, Nat.lt_of_lt_of_le h5 hb.size, fun q => q.elim h6 (fun q => by omega), fun t ht => (hb.cell (by exact h5) (by exact h6)).trans (h7 t ht)⟩

def lentI (ws : List Int) (k : Nat) : List Int := ws ++ (List.range k).map fun i : Nat => -71 - (i : Int)
theorem lentI_zero (ws : List Int) : lentI ws 0 = ws := by simp [lentI]
theorem lentI_succ (ws : List Int) (k : Nat) : lentI ws (k + 1) = lentI ws k ++ [-71 - (k : Int)] := by simp [lentI, List.range_succ]
theorem length_lentI (ws : List Int) (k : Nat) : (lentI ws k).length = ws.length + k := by simp [lentI]
theorem lentI_lo {ws : List Int} {k i : Nat} (h : i < ws.length) : (lentI ws k).getD i 0 = ws.getD i 0 := by
  unfold lentI
  rw [List.getD_eq_getElem?_getD, List.getD_eq_getElem?_getD, List.getElem?_append_left h]
theorem lentI_hi {ws : List Int} {k i : Nat} (h2 : i < k) : (lentI ws k).getD (ws.length + i) 0 = -71 - (i : Int) := by
  unfold lentI
  rw [List.getD_eq_getElem?_getD, List.getElem?_append_right (by omega)]
  simp [h2]

def Shb (w : World) (s : Nat) (bv : Value) : Prop := w.heap[s]? = some (.cells #[bv] 70 (0, 0))
theorem Shb.lt {w : World} {s : Nat} {bv : Value} (h : Shb w s bv) : s < w.heap.size := (Array.getElem?_eq_some_iff.1 h).1
theorem Shb.cell {w : World} {s : Nat} {bv : Value} (h : Shb w s bv) : w.cell? ⟨s, 0, none⟩ = some bv := by
  unfold Shb at h
  simp [World.cell?, h]
theorem Shb.frozen {w : World} {s : Nat} {bv : Value} (h : Shb w s bv) (j : Nat) : w.frozen? ⟨s, j, none⟩ = false := by
  unfold Shb at h
  simp [World.frozen?, h]
theorem Shb.set {w : World} {s : Nat} {bv : Value} (h : Shb w s bv) (u : Value) : Shb (w.setCell ⟨s, 0, none⟩ u) s u := by
  unfold Shb at *
  simp only [World.setCell, Array.getElem?_modify]
  rw [h]
  simp
theorem Shb.of_block {w w' : World} {s : Nat} {bv : Value} (h : Shb w s bv) (hk : w'.heap[s]? = w.heap[s]?) : Shb w' s bv := hk.trans h
def SS1 (w : World) (s : Nat) (bv : Value) : Prop := Shb w s bv ∧ (bv = .slice none 0 0 ∨ ∃ G M ys, bv = .slice (some ⟨G, 0, none⟩) M M ∧ s ≠ G ∧ Blk .i64 3 w G ys ∧ ys.length = M ∧ M ≤ 67109376)
theorem SS1.there {w : World} {s : Nat} {bv : Value} (h : SS1 w s bv) {x : Nat} (hx : XL s bv x) : x < w.heap.size := by
  obtain ⟨h1, h2⟩ := h
  rcases hx with rfl | hx
  · exact h1.lt
  · rcases h2 with rfl | ⟨G, M, ys, rfl, h3, h4, h5, h6⟩
    · cases hx
    · cases hx; exact h4.lt
theorem SS1.but {X : Nat → Prop} {w w' : World} {s : Nat} {bv : Value} (h : SS1 w s bv) (hb : But X w w') (hx : ∀ x, XL s bv x → ¬ X x) : SS1 w' s bv := by
  obtain ⟨h1, h2⟩ := h
  refine ⟨h1.of_block (hb.block s h1.lt (hx s (.inl rfl))), ?_⟩
  rcases h2 with h2 | ⟨G, M, ys, rfl, h3, h4, h5, h6⟩
  · exact .inl h2
  · exact .inr ⟨G, M, ys, rfl, h3, h4.but hb (hx G (.inr rfl)), h5, h6⟩
structure ShL (w : World) (s G M m : Nat) (ws : List Int) : Prop where
  row : Shb w s (.slice (some ⟨G, 0, none⟩) M M)
  ne : s ≠ G
  big : 2 * m + 70 ≤ M
  small : M ≤ 67109376
  buf : ∃ ys, Blk .i64 3 w G ys ∧ ys.length = M ∧ ys.take (2 * m + 70) = lentI ws (m + 70)

theorem info3z : (Try.prog.info? 3).map (·.size) = some 1 := by kernel_rfl
theorem copy_ints {ty : TypeId} {w : World} {G M dCap g n sCap : Nat} {ys cs : List Int} (hg : Blk .i64 3 w G ys) (hn : cs.length = Nat.min n M) (hsrc : ∀ j v, (cs.map (Value.int .i64))[j]? = some v → w.cell? ((⟨g, 0, none⟩ : Addr).add j) = some v) (hfit : cs.length ≤ ys.length) :
    ∃ w', (Builtin.copy_ #[36, 36] ty #[.slice (some ⟨G, 0, none⟩) M dCap, .slice (some ⟨g, 0, none⟩) n sCap]).run Try.prog w = .ok (goInt (Nat.min n M)) w' ∧ Blk .i64 3 w' G (cs ++ ys.drop cs.length) ∧ But (fun x => x = G) w w' := by
  have h := run_copy_row (P := Try.prog) w 36 36 ty 3 G 0 M dCap ⟨g, 0, none⟩ n sCap (ys.map (Value.int .i64)).toArray 3 (cs.map (Value.int .i64)) Try.underlying36 info3z hg (by simpa using hn) hsrc (by simpa using hfit) (by intro u hu; simp at hu; obtain ⟨x, _, rfl⟩ := hu; rfl)
  have hl : (cs.map (Value.int .i64)).length = Nat.min n M := by simpa using hn
  rw [hl] at h
  refine ⟨_, h, ?_, ?_⟩
  · have := setRow_heap w G (ys.map (Value.int .i64)).toArray ((ys.map (Value.int .i64)).toArray.toList.take 0 ++ cs.map (Value.int .i64) ++ (ys.map (Value.int .i64)).toArray.toList.drop (0 + Nat.min n M)).toArray 3 (0, 0) hg
    unfold Blk
    rw [this, ← hn]
    simp [List.map_drop]
  · exact ⟨rfl, rfl, rfl, by simp [World.setRow], fun k _ hx => setRow_other w G k _ (by intro e; exact hx e)⟩
theorem OwI.src {B : Nat} {w : World} {g n cap : Nat} {zs : List Int} (h : OwI B w (.slice (some ⟨g, 0, none⟩) n cap) n zs) : ∀ j u, (zs.map (Value.int .i64))[j]? = some u → w.cell? ((⟨g, 0, none⟩ : Addr).add j) = some u := by
  intro j u hj
  have hl := h.len
  have hjl : j < zs.length := by
    have := (List.getElem?_eq_some_iff.1 hj).1
    simpa using this
  have e : (⟨g, 0, none⟩ : Addr).add j = ⟨g, j, none⟩ := by unfold Addr.add; split <;> simp_all
  rw [e, World.ownsRow.cellAt h j (by omega), ← hj]

set_option maxRecDepth 100000 in
set_option maxHeartbeats 2000000 in
theorem slend_any (r : Nat) (bv : Value) (a : Option Addr) (m c : Nat) (fs : List Int) (w : World) (hm : m ≤ 16777216) (hnil : a = none → c = 0) (hS : SS1 w r bv) (hR : RIN (XL r bv) w a m fs) :
    Calls Try.prog 46 #[.pointer (some ⟨r, 0, none⟩), .slice a m c] w fun e w' => ∃ G M, e = .returned (.slice (some ⟨G, 0, none⟩) m M) ∧ ShL w' r G M m fs ∧ (bv.ownBlock = some G ∨ w.heap.size ≤ G) ∧ But (XL r bv) w w' := by
  have hl := hR.1
  have HS := hid hS
  have HC := hid (CopyInts_any a m c fs w (by omega) hnil hR.rd)
  clear hS hR
  go_enter Try.func46, Try.ntmps46
  go_wp2_with fail
  refine Calls.mono HC.out ?_
  rintro e w1 ⟨g1, c1, rfl, hg1, hO1, hb1⟩
  have P1 : Hid (OwI w.heap.size w1 (.slice (some ⟨g1, 0, none⟩) m c1) m fs) := owns_base hO1 hg1
  have B1 := hid hb1
  clear hO1 hb1 HC
  go_wp2_with fail
  go_loopw [5, 6] (fun o i wt => ∃ k g cp : Nat, k ≤ m + 70 ∧ i = .int .i64 (k : Int) ∧ o = .slice (some ⟨g, 0, none⟩) (m + k) cp ∧ w.heap.size ≤ g ∧ OwI w.heap.size wt o (m + k) (lentI fs k) ∧ Below w.heap.size w wt) (fun _ i _ => m + 70 - (intOf i).toNat)
  case atStart => exact ⟨0, g1, c1, Nat.zero_le _, rfl, rfl, hg1, by rw [lentI_zero]; exact P1.out, B1.out⟩
  case round =>
    obtain ⟨k, g2, c2, hk, rfl, rfl, hg2, hO, hbt⟩ := hrel
    clear P1 B1
    by_cases hkm : k < m + 70
    · have hk1 : (k : Int) < (m : Int) + 70 := by omega
      have e1 : IntKind.i64.wrap (-71 - (k : Int)) = -71 - (k : Int) := by rw [IntKind.wrap_i64]; omega
      have P3 := hid (hO.alloc (.cells #[.int .i64 (-71 - (k : Int))] 3))
      have B3 := hid (hbt.alloc hbt.size (.cells #[.int .i64 (-71 - (k : Int))] 3))
      clear hO hbt
      go_wp2_with (at_builtin; refine wpI_one (by rfl) _ _ (by rfl) w.heap.size _ (m + k) (lentI fs k) (by rfl) (by exact P3.out) ⟨wr.heap.size, 0, none⟩ 1 (-71 - (k : Int)) (by rfl) (by exact newsI wr _) (by omega) (by exact B3.out.size) ?_)
      intro g4 c4 w4 ho4 hb4
      have P4 := hid ho4
      have hg4 : w.heap.size ≤ g4 := (World.ownsRow.lt ho4 g4 rfl).1
      have B4 := hid (B3.out.trans hb4)
      clear ho4 hb4 P3 B3
      go_wp2
      go_roundw
      case rel => exact ⟨k + 1, g4, c4, by omega, by go_num, rfl, hg4, by rw [lentI_succ]; exact P4.out, B4.out⟩
      case measure => simp [intOf]; omega
    · obtain rfl : k = m + 70 := by omega
      have hsz := hbt.size
      have HO := hid hO
      have Hb := hid hbt
      obtain ⟨hr1, hr2⟩ := HS.out
      have hr3 := hr1.of_block (hbt.block r hr1.lt)
      have hcr := hr3.cell
      have hfr := hr3.frozen 0
      have HR3 := hid hr3
      have hrlt := hr1.lt
      clear hO hbt hr1 hr3
      by_cases hbig : ∃ G M ys, bv = .slice (some ⟨G, 0, none⟩) M M ∧ r ≠ G ∧ Blk .i64 3 w G ys ∧ ys.length = M ∧ M ≤ 67109376 ∧ m + (m + 70) ≤ M
      · obtain ⟨G, M, ys, rfl, hrG, hBl, hyl, hM, hMm⟩ := hbig
        have hlt : ¬ ((M : Int) < ((m + (m + 70) : Nat) : Int)) := by omega
        have HBl := hid (hBl.of_block (Hb.out.block G hBl.lt))
        have HS2 := hid HO.out.src
        have hmin : Nat.min (m + (m + 70)) M = m + (m + 70) := Nat.min_eq_left hMm
        have N5 : Hid ((lentI fs (m + 70)).length = Nat.min (m + (m + 70)) M) := by show _ = _; rw [length_lentI, hl, hmin]
        have F5 : Hid ((lentI fs (m + 70)).length ≤ ys.length) := by show _ ≤ _; rw [length_lentI, hl]; omega
        obtain ⟨w5, hcp, hB5, hu5⟩ := copy_ints (ty := 3) (w := wr) (dCap := M) (sCap := c2) (by exact HBl.out) N5.out HS2.out F5.out
        rw [hmin] at hcp
        have HB5 := hid hB5
        have Hu5 := hid hu5
        have hcr5 : w5.cell? ⟨r, 0, none⟩ = some (.slice (some ⟨G, 0, none⟩) M M) := (hu5.cell (p := ⟨r, 0, none⟩) (by exact Nat.lt_of_lt_of_le hrlt hsz) (by exact hrG)).trans hcr
        have hmM : (m : Int) ≤ (M : Int) := by omega
        clear hB5 hu5
        go_wp2
        go_ret
        refine ⟨G, M, rfl, ⟨HR3.out.of_block (Hu5.out.block r (Nat.lt_of_lt_of_le hrlt hsz) hrG), hrG, by omega, hM, _, HB5.out, ?_, ?_⟩, .inl rfl, (But.of_below (X := XL r (.slice (some ⟨G, 0, none⟩) M M)) Hb.out).comp Hu5.out (fun x _ e => by subst e; exact .inr rfl)⟩
        · rw [List.length_append, List.length_drop, length_lentI, hl]; omega
        · rw [show 2 * m + 70 = (lentI fs (m + 70)).length by rw [length_lentI, hl]; omega, List.take_left]
      · obtain ⟨av, Mv, cv, rfl, hMv⟩ : ∃ av Mv cv, bv = .slice av Mv cv ∧ Mv < m + (m + 70) := by
          rcases hr2 with rfl | ⟨G, M, ys, rfl, q1, q2, q3, q4⟩
          · exact ⟨none, 0, 0, rfl, by omega⟩
          · refine ⟨some ⟨G, 0, none⟩, M, M, rfl, ?_⟩
            by_cases h : m + (m + 70) ≤ M
            · exact absurd ⟨G, M, ys, rfl, q1, q2, q3, q4, h⟩ hbig
            · omega
        have hlt : (Mv : Int) < ((m + (m + 70) : Nat) : Int) := by omega
        have hmk : ∀ u : World, (Instr.makeSlice 36 (.int .i64 ((m : Int) + ((m : Int) + 70))) (.int .i64 ((m : Int) + ((m : Int) + 70)))).run Try.prog u = .ok (.slice (some ⟨u.heap.size, 0, none⟩) (m + (m + 70)) (m + (m + 70))) (u.alloc (.cells ((zeros (m + (m + 70))).map (Value.int .i64)).toArray 3)) := fun u => by
          have := make_i64 (m + (m + 70)) (by omega) u
          rw [show ((m : Int) + ((m : Int) + 70)) = ((m + (m + 70) : Nat) : Int) by omega]
          exact this
        clear hbig hr2
        obtain ⟨zs, hzs⟩ : ∃ zs, zs = zeros (m + (m + 70)) := ⟨_, rfl⟩
        rw [← hzs] at hmk
        have hzl : zs.length = m + (m + 70) := by rw [hzs, length_zeros]
        clear hzs
        have hrw : r < wr.heap.size := Nat.lt_of_lt_of_le hrlt hsz
        have hRm : Shb (wr.alloc (.cells (zs.map (Value.int .i64)).toArray 3)) r (.slice av Mv cv) := HR3.out.of_block (Below.heap_alloc _ _ _ hrw)
        have hcm := hRm.cell
        have hfm := hRm.frozen 0
        have HRs := hid (hRm.set (.slice (some ⟨wr.heap.size, 0, none⟩) (m + (m + 70)) (m + (m + 70))))
        have hcs := HRs.out.cell
        have HBs : Hid (Blk .i64 3 ((wr.alloc (.cells (zs.map (Value.int .i64)).toArray 3)).setCell ⟨r, 0, none⟩ (.slice (some ⟨wr.heap.size, 0, none⟩) (m + (m + 70)) (m + (m + 70)))) wr.heap.size zs) := by
          show Blk _ _ _ _ _
          refine Blk.of_block (w := wr.alloc (.cells (zs.map (Value.int .i64)).toArray 3)) ?_ (Below.heap_setCell _ _ _ _ (show wr.heap.size ≠ r by omega))
          show (wr.heap.push _)[wr.heap.size]? = _
          simp
        have HOs := hid ((HO.out.alloc (.cells (zs.map (Value.int .i64)).toArray 3)))
        have HO2 : Hid (OwI w.heap.size ((wr.alloc (.cells (zs.map (Value.int .i64)).toArray 3)).setCell ⟨r, 0, none⟩ (.slice (some ⟨wr.heap.size, 0, none⟩) (m + (m + 70)) (m + (m + 70)))) (.slice (some ⟨g2, 0, none⟩) (m + (m + 70)) c2) (m + (m + 70)) (lentI fs (m + 70))) :=
          owns_setCell HOs.out (p := ⟨r, 0, none⟩) (fun e => by simp [Value.ownBlock] at e; omega) _
        have Hus : Hid (But (XL r (.slice av Mv cv)) w ((wr.alloc (.cells (zs.map (Value.int .i64)).toArray 3)).setCell ⟨r, 0, none⟩ (.slice (some ⟨wr.heap.size, 0, none⟩) (m + (m + 70)) (m + (m + 70))))) :=
          ((But.of_below (X := XL r (.slice av Mv cv)) Hb.out).alloc _).setCell (p := ⟨r, 0, none⟩) (.inl rfl) _
        have hszs : ((wr.alloc (.cells (zs.map (Value.int .i64)).toArray 3)).setCell ⟨r, 0, none⟩ (.slice (some ⟨wr.heap.size, 0, none⟩) (m + (m + 70)) (m + (m + 70)))).heap.size = wr.heap.size + 1 := by simp [World.setCell]
        generalize hws : (wr.alloc (.cells (zs.map (Value.int .i64)).toArray 3)).setCell ⟨r, 0, none⟩ (.slice (some ⟨wr.heap.size, 0, none⟩) (m + (m + 70)) (m + (m + 70))) = ws at *
        have hmin : Nat.min (m + (m + 70)) (m + (m + 70)) = m + (m + 70) := Nat.min_self _
        have N5 : Hid ((lentI fs (m + 70)).length = Nat.min (m + (m + 70)) (m + (m + 70))) := by show _ = _; rw [length_lentI, hl, hmin]
        have F5 : Hid ((lentI fs (m + 70)).length ≤ zs.length) := by show _ ≤ _; rw [length_lentI, hl]; omega
        obtain ⟨w5, hcp, hB5, hu5⟩ := copy_ints (ty := 3) (w := ws) (dCap := m + (m + 70)) (sCap := c2) (by exact HBs.out) N5.out HO2.out.src F5.out
        rw [hmin] at hcp
        have HB5 := hid hB5
        have Hu5 := hid hu5
        have hcr5 : w5.cell? ⟨r, 0, none⟩ = some (.slice (some ⟨wr.heap.size, 0, none⟩) (m + (m + 70)) (m + (m + 70))) := (hu5.cell (p := ⟨r, 0, none⟩) (by show r < ws.heap.size; omega) (by show r ≠ wr.heap.size; omega)).trans hcs
        have hmM : (m : Int) ≤ (m : Int) + ((m : Int) + 70) := by omega
        clear hB5 hu5 hRm
        go_wp2
        go_ret
        refine ⟨wr.heap.size, m + (m + 70), rfl, ⟨HRs.out.of_block (Hu5.out.block r (by omega) (by omega)), by omega, by omega, by omega, _, HB5.out, ?_, ?_⟩, .inr hsz, Hus.out.comp Hu5.out (fun x hx e => by subst e; omega)⟩
        · rw [List.length_append, List.length_drop, length_lentI, hl]; omega
        · rw [show 2 * m + 70 = (lentI fs (m + 70)).length by rw [length_lentI, hl]; omega, List.take_left]


end Go.Proofs.Yteaebdonnicbkaa
