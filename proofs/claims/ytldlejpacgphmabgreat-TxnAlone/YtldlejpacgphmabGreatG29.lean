import Derived.Test.YtldlejpacgphmabGreatG28
import Derived.Deep.DeepCutAuto
import Derived.Test.YtldlejpacgphmabGreatG14
import Derived.ProofKit
import Derived.OpenShut
import Derived.SizedLaws
import Derived.Deep.SlicePairs
namespace Go.Proofs.YtldlejpacgphmabGreat
open Go.RowKit Go.Deep
theorem alone_pick {B : Nat} {w0 : World} {ob ab st : Nat} {a0 a1 a2 : Option Addr} {c0 c1 c2 n0 n1 n2 : Nat} {P0 P1 P2 : List Int} (e0 : n0 = P0.length) (e1 : n1 = P1.length) (e2 : n2 = P2.length) (h0 : IntL (fun k => B ≤ k) w0 a0 P0) (h1 : IntL (fun k => B ≤ k) w0 a1 P1) (h2 : IntL (fun k => B ≤ k) w0 a2 P2) (l0 : n0 ≤ 1048576) (l1 : n1 ≤ 1048576) (l2 : n2 ≤ 1048576) {q : Nat} (hq : q < 3) :
  ∃ pa n pc ps, n = ps.length ∧ IntL (fun k => B ≤ k) w0 pa ps ∧ ps.length ≤ 1048576 ∧ ∀ w', Fx ob ab st (.slice a0 n0 c0) (.slice a1 n1 c1) (.slice a2 n2 c2) w' → w'.cell? ⟨ab, q, none⟩ = some (.slice pa n pc) := by
 match q, hq with
 | 0, _ => exact ⟨a0, n0, c0, P0, e0, h0, by omega, fun w' h => h.2.1⟩
 | 1, _ => exact ⟨a1, n1, c1, P1, e1, h1, by omega, fun w' h => h.2.2.1⟩
 | 2, _ => exact ⟨a2, n2, c2, P2, e2, h2, by omega, fun w' h => h.2.2.2⟩
set_option maxRecDepth 100000 in
set_option maxHeartbeats 16000000 in
theorem alone_law (a0 a1 a2 : Option Addr) (c0 c1 c2 : Nat) (P0 P1 P2 : List Int) (w : World) (h0 : IntL (fun k => w.heap.size ≤ k) w a0 P0) (h1 : IntL (fun k => w.heap.size ≤ k) w a1 P1) (h2 : IntL (fun k => w.heap.size ≤ k) w a2 P2) (l0 : P0.length ≤ 1048576) (l1 : P1.length ≤ 1048576) (l2 : P2.length ≤ 1048576) :
  Calls Tryz.prog 4 #[.slice a0 P0.length c0, .slice a1 P1.length c1, .slice a2 P2.length c2] w fun e w' => e = .returned (.bool true) ∧ Below w.heap.size w w' := by
 obtain ⟨PO, hPO⟩ : ∃ PO : Ending → World → Prop, PO = fun e w' => e = .returned (.bool true) ∧ Below w.heap.size w w' := ⟨_, rfl⟩
 rw [← hPO]
 obtain ⟨B, hB⟩ : ∃ B, B = w.heap.size := ⟨_, rfl⟩
 rw [← hB] at h0 h1 h2
 obtain ⟨n0, e0⟩ : ∃ n, n = P0.length := ⟨_, rfl⟩
 obtain ⟨n1, e1⟩ : ∃ n, n = P1.length := ⟨_, rfl⟩
 obtain ⟨n2, e2⟩ : ∃ n, n = P2.length := ⟨_, rfl⟩
 rw [← e0, ← e1, ← e2]
 have HPk : Hid (∀ ob ab st q, q < 3 → ∃ pa n pc ps, n = ps.length ∧ IntL (fun k => B ≤ k) w pa ps ∧ ps.length ≤ 1048576 ∧ ∀ w', Fx ob ab st (.slice a0 n0 c0) (.slice a1 n1 c1) (.slice a2 n2 c2) w' → w'.cell? ⟨ab, q, none⟩ = some (.slice pa n pc)) := fun ob ab st q hq => alone_pick e0 e1 e2 h0 h1 h2 (by omega) (by omega) (by omega) hq
 have HRt : Hid (Calls Tryz.prog 24 #[.agg #[.int .i64 0, .int .i64 16, .int .i64 4]] w fun e w' => e = .returned (.agg #[.int .i64 0, .int .i64 16, .int .i64 5]) ∧ Below w.heap.size w w') := by
  have h := right_any 0 16 4 w
  rw [show into 10 0 = 0 by decide, show into 16 16 = 0 by decide, show into 9 4 = 4 by decide] at h
  exact h
 have HOp : Hid (∀ w1, Calls Tryz.prog 25 #[.agg #[.int .i64 0, .int .i64 16, .int .i64 5]] w1 (OpP w1 22 0 16)) := fun w1 => open5_any 0 16 5 0 16 6 22 (by decide) (by decide) (by decide) (by decide) w1
 have HFin : Hid (∀ w', Below B w w' → PO (.returned (.bool true)) w') := fun w' hb => by
  rw [hPO]
  exact ⟨rfl, hB ▸ hb⟩
 obtain ⟨home, hhome⟩ : ∃ home, home = (⟨zeros (512 * 22), [], -1, false⟩ : Pd).read := ⟨_, rfl⟩
 have HSt : Hid (∀ w1 w2 w3 w4 ob st j c p Y d s ha hc Y4, Below w.heap.size w w1 → w2 = w1.alloc (.cells #[.int .i64 0, .int .i64 16, .int .i64 5] 65) → w2.heap.size ≤ ob → ob < w3.heap.size → w3.cell? ⟨ob, 1, none⟩ = some (.pointer (some ⟨st, 0, none⟩)) → ¬ Y ob → d.fu = -1 → On d s 22 0 16 0 home [] → (∀ k, Y k → w2.heap.size ≤ k ∧ k < w3.heap.size) → Below w2.heap.size w2 w3 → w4.ownsRow w3.heap.size 9 1 (.slice ha 4 hc) 4 ((List.range 4).map (fun q => .string (strOfNums (jread d s (16 + q))))) → StA Y4 w4 j c p st 22 (0 + 4) 0 16 d s → (∀ g, (Value.slice ha 4 hc).ownBlock = some g → ¬ Y4 g) → (∀ k, Y4 k → k < w4.heap.size) → Gr Y Y4 w3 → But Y w3 w4 → Al B w ob w4.heap.size st j c p (.slice a0 n0 c0) (.slice a1 n1 c1) (.slice a2 n2 c2) home 1048576 0 (w4.alloc (.cells #[.slice a0 n0 c0, .slice a1 n1 c1, .slice a2 n2 c2] 81)) ha hc) := by
  intro w1 w2 w3 w4 ob st j c p Y d s ha hc Y4 b1 hw2 o1 o2 o3 o4 hfu ho hY b3 O4 A4 n4 l4 G4 b4
  have z2 : w2.heap.size = w1.heap.size + 1 := by rw [hw2]; simp
  have b2 : Below w1.heap.size w1 w2 := by rw [hw2]; exact (Below.refl _ _).alloc (Nat.le_refl _) _
  have s1 := b1.size
  have s3 := b3.size
  have s4 := b4.size
  have B3 : Below B w w3 := by rw [hB]; exact (b1.trans (b2.mono s1)).trans (b3.mono (by omega))
  have B4 : Below B w w4 := below_but B3 b4 (fun k q => by have := hY k q; omega) hB
  have b5 : Below w4.heap.size w4 (w4.alloc (.cells #[.slice a0 n0 c0, .slice a1 n1 c1, .slice a2 n2 c2] 81)) := (Below.refl _ _).alloc (Nat.le_refl _) _
  have z5 : (w4.alloc (.cells #[.slice a0 n0 c0, .slice a1 n1 c1, .slice a2 n2 c2] 81)).heap.size = w4.heap.size + 1 := by simp
  have c5 : But (fun _ => False) w4 (w4.alloc (.cells #[.slice a0 n0 c0, .slice a1 n1 c1, .slice a2 n2 c2] 81)) := But.of_below b5
  have hrd0 : (List.range 4).map (fun q => strOfNums (jread d s (16 + q))) = strsP 16 4 (fun i => contT home [] ([] : List Tn).length (16 + i)) (fun _ => none) := by
   unfold strsP
   refine List.map_congr_left (fun i hi => ?_)
   have := List.mem_range.1 hi
   rw [ho.read ⟨by omega, by omega⟩]
   rfl
  rw [strs_reads, hrd0] at O4
  refine ⟨Y4, _, d, s, [], A4.keep c5 (fun _ q _ => q), hfu, ho, by simp, by omega, (StrL.of_row (strsP_len _ _ _ _) O4).but c5 (fun _ _ _ q => q), fun g o e => ?_, ⟨⟨?_, ?_, ?_, ?_⟩, ⟨by omega, fun q => o4 (G4 _ o2 q)⟩, ⟨by omega, fun q => by have := l4 _ q; omega⟩, fun k q => ⟨?_, by have := l4 k q; omega⟩, B4.trans (b5.mono (by have := B4.size; omega)), hB⟩⟩
  ·subst e
   exact ⟨by have := (World.ownsRow.lt O4 g rfl).2; omega, n4 g rfl⟩
  ·exact ((c5.cell (p := ⟨ob, 1, none⟩) (by show ob < _; omega) (fun q => q)).trans (b4.cell (p := ⟨ob, 1, none⟩) o2 o4)).trans o3
  ·exact cell_new rfl 0 _ rfl
  ·exact cell_new rfl 1 _ rfl
  ·exact cell_new rfl 2 _ rfl
  ·rcases Nat.lt_or_ge k w3.heap.size with e | e
   ·have := hY k (G4 k e q)
    omega
   ·omega
 have HB := hid hB
 have HH := hid hhome
 clear h0 h1 h2 l0 l1 l2 e0 e1 e2 hPO hB hhome
 go_enter Tryz.func4, Tryz.ntmps4
 go_wp2_with fail
 refine Calls.mono HRt.out ?_
 rintro e w1 ⟨rfl, b1⟩
 have HB1 := hid b1
 obtain ⟨w2, hw2⟩ : ∃ w2, w2 = w1.alloc (.cells #[.int .i64 0, .int .i64 16, .int .i64 5] 65) := ⟨_, rfl⟩
 have HW2 := hid hw2
 have k20 : w2.cell? ⟨w1.heap.size, 0, none⟩ = some (.int .i64 0) := by rw [hw2]; exact cell_new rfl 0 _ rfl
 have k21 : w2.cell? ⟨w1.heap.size, 1, none⟩ = some (.int .i64 16) := by rw [hw2]; exact cell_new rfl 1 _ rfl
 have z2 : w1.heap.size < w2.heap.size := by rw [hw2]; simp
 have HC2 : Hid (∀ w', Below w2.heap.size w2 w' → w'.cell? ⟨w1.heap.size, 0, none⟩ = some (.int .i64 0) ∧ w'.cell? ⟨w1.heap.size, 1, none⟩ = some (.int .i64 16)) := fun w' hb => ⟨(hb.cell (p := ⟨w1.heap.size, 0, none⟩) z2).trans k20, (hb.cell (p := ⟨w1.heap.size, 1, none⟩) z2).trans k21⟩
 clear HRt b1 hw2 k20 k21 z2
 go_wp2_with fail
 rw [← HW2.out]
 refine Calls.mono (HOp.out w2) ?_
 intro e w3 hO
 obtain ⟨ob, st, j, c, p, Y, d, s, rfl, o1, o2, o3, o4, hA, hfu, hon, hY, b3⟩ := hO.sta
 rw [← HH.out] at hon
 obtain ⟨k30, k31⟩ := HC2.out w3 b3
 have hpl := hon.puts (by omega) (by omega) (by omega)
 have HRd := hid (hA.reads (by omega) hon.on (by omega) (by omega) 16 4 (by omega) (by omega) (by omega))
 have HO3 := hid (And.intro o1 (And.intro o2 (And.intro o3 (And.intro o4 (And.intro hfu (And.intro hon (And.intro hY b3)))))))
 clear hO o1 o2 o4 hA hfu hon hY b3 HC2 HOp HH hpl
 go_wp2_with fail
 refine Calls.mono HRd.out ?_
 rintro e w4 ⟨lv, Y4, rfl, O4, A4, n4, l4, G4, b4⟩
 obtain ⟨ha, hc, rfl⟩ := own_slice O4
 obtain ⟨ab, hab⟩ : ∃ ab, ab = w4.heap.size := ⟨_, rfl⟩
 obtain ⟨w5, hw5⟩ : ∃ w5, w5 = w4.alloc (.cells #[.slice a0 n0 c0, .slice a1 n1 c1, .slice a2 n2 c2] 81) := ⟨_, rfl⟩
 have H5 : Hid (Al B w ob ab st j c p (.slice a0 n0 c0) (.slice a1 n1 c1) (.slice a2 n2 c2) home 1048576 0 w5 ha hc) := by
  obtain ⟨o1, o2, o3, o4, hfu, hon, hY, b3⟩ := HO3.out
  have := HSt.out w1 w2 w3 w4 ob st j c p Y d s ha hc Y4 HB1.out HW2.out o1 o2 o3 o4 hfu hon hY b3 O4 A4 n4 l4 G4 b4
  rw [← hw5, ← hab] at this
  exact this
 have HW5 := hid hw5
 have HAB := hid hab
 clear HRd O4 A4 n4 l4 G4 b4 HO3 HB1 HW2 HSt k30 k31 o3 hab hw5
 go_wp2_with fail
 rw [← HW5.out, ← HAB.out]
 clear HW5 HAB
 go_loopw [11, 13] (fun hv iv wr => ∃ (r : Nat) (ha : Option Addr) (hc : Nat), r ≤ 6 ∧ iv = .int .i64 (r : Int) ∧ hv = .slice ha 4 hc ∧ Al B w ob ab st j c p (.slice a0 n0 c0) (.slice a1 n1 c1) (.slice a2 n2 c2) home 1048576 r wr ha hc) (fun _ iv _ => 6 - (intOf iv).toNat)
 case atStart => exact ⟨0, ha, hc, by omega, rfl, rfl, H5.out⟩
 case round =>
  clear H5
  obtain ⟨r, ga, gc, hr6, rfl, rfl, hAl⟩ := hrel
  by_cases hr : r < 6
  ·have hr' : (r : Int) < 6 := by omega
   obtain ⟨q, hq⟩ : ∃ q, q = r / 2 := ⟨_, rfl⟩
   have hq3 : q < 3 := by omega
   have hqd : (r : Int).tdiv 2 = (q : Int) := by rw [hq]; rfl
   obtain ⟨pa, n, pc, ps, en, hP, hl, hsel⟩ := HPk.out ob ab st q hq3
   have HRd := hid (hAl.round hr (Nat.le_refl _) pa pc ps hP hl)
   rw [← en] at HRd
   have F0 : Fx ob ab st (.slice a0 n0 c0) (.slice a1 n1 c1) (.slice a2 n2 c2) wr := by
    obtain ⟨_, _, _, _, _, _, _, _, _, _, _, _, hR⟩ := hAl
    exact hR.fx
   have f0 := F0.1
   have HSel := hid hsel
   clear hAl hP hl hsel en hq F0 HPk
   go_wp2_with fail
   refine Calls.mono HRd.out ?_
   rintro e u1 ⟨t, rfl, F1, H1⟩
   have f1 := HSel.out u1 F1
   clear F1 HSel f0 HRd
   go_wp2_with fail
   refine Calls.mono H1 ?_
   rintro e u2 ⟨g, cp, rfl, F2, H2⟩
   have f2 := F2.1
   clear F2 H1 f1
   go_wp2_with fail
   refine Calls.mono H2 ?_
   rintro e u3 ⟨ma, mc, rfl, F3, H3⟩
   have f3 := F3.1
   clear F3 H2 f2
   go_wp2_with fail
   refine Calls.mono H3 ?_
   rintro e u4 ⟨ta, tc, rfl, H4⟩
   clear H3 f3
   go_wp2_with fail
   refine Calls.mono H4 ?_
   rintro e u5 ⟨rfl, H5⟩
   clear H4
   go_wp2_with fail
   refine Calls.mono H5 ?_
   rintro e u6 ⟨rfl, H6, H7⟩
   clear H5
   have hp2 : (r : Int).tmod 2 = 0 ∨ (r : Int).tmod 2 = 1 := by
    have : (r : Int).tmod 2 = ((r % 2 : Nat) : Int) := rfl
    omega
   rcases hp2 with hpar | hpar
   ·clear H7
    go_wp2_with fail
    refine Calls.mono H6 ?_
    rintro e u7 ⟨rfl, F7, H8⟩
    have f7 := F7.1
    clear H6 F7
    go_wp2_with fail
    refine Calls.mono H8 ?_
    rintro e u8 ⟨xa, xc, rfl, H9⟩
    clear H8 f7
    go_wp2_with fail
    refine Calls.mono H9 ?_
    rintro e u9 ⟨rfl, hAl⟩
    have HL := hid hAl
    clear H9 hAl
    go_wp2_with fail
    exact ⟨⟨r + 1, ga, gc, by omega, by simp, rfl, HL.out⟩, by first | omega | (simp [intOf]; omega)⟩
   ·clear H6
    go_wp2_with fail
    refine Calls.mono H7 ?_
    rintro e u7 ⟨rfl, F7, H8⟩
    have f7 := F7.1
    clear H7 F7
    go_wp2_with fail
    refine Calls.mono H8 ?_
    rintro e u8 ⟨xa, xc, rfl, H9⟩
    clear H8 f7
    go_wp2_with fail
    refine Calls.mono H9 ?_
    rintro e u9 ⟨rfl, hAl⟩
    have HL := hid hAl
    clear H9 hAl
    go_wp2_with fail
    exact ⟨⟨r + 1, _, cp, by omega, by simp, rfl, HL.out⟩, by first | omega | (simp [intOf]; omega)⟩
  ·have hr' : ¬ (r : Int) < 6 := by omega
   have FIN : Hid (PO (.returned (.bool true)) wr) := by
    obtain ⟨_, _, _, _, _, _, _, _, _, _, _, _, hR⟩ := hAl
    exact HFin.out wr hR.b
   clear hAl
   go_wp2_with fail
   exact FIN.out
open Go.ChangeShapes Go.WideShapes Go.ChangeAt Go.RowKit Go.Deep
theorem bulk_one {H : Type} (d : DataW H) : 1 ≤ Rows.uptoBulk d := by
 cases d with
 | lit l => cases l <;> simp [Rows.uptoBulk]
 | nil => simp [Rows.uptoBulk]
 | ptr d => simp [Rows.uptoBulk]
 | slice elems spare => simp [Rows.uptoBulk]
 | agg parts => simp [Rows.uptoBulk]
 | iface t d => simp [Rows.uptoBulk]
 | map entries => simp [Rows.uptoBulk]
 | held h => simp [Rows.uptoBulk]
theorem bulk_len {H : Type} (l : List (DataW H)) : l.length ≤ Rows.uptoBulkAll l := by
 induction l with
 | nil => simp [Rows.uptoBulkAll]
 | cons x r ih => have := bulk_one x; simp only [Rows.uptoBulkAll, List.length_cons]; omega
theorem bulk_mem {H : Type} {d : DataW H} {l : List (DataW H)} (h : d ∈ l) : Rows.uptoBulk d ≤ Rows.uptoBulkAll l := by
 induction l with
 | nil => cases h
 | cons x r ih =>
  simp only [Rows.uptoBulkAll]
  cases List.mem_cons.1 h with
  | inl e => subst e; omega
  | inr e => have := ih e; omega
theorem bulk_slice {H : Type} (elems spare : List (DataW H)) : elems.length ≤ Rows.uptoBulk (.slice elems spare) := by
 have h1 := bulk_len elems
 simp only [Rows.uptoBulk]
 omega
set_option maxRecDepth 100000 in
theorem bulk_bound {H : Type} {l : List (DataW H)} (hk : Rows.uptoSmall H l = true) : Rows.uptoBulkAll l ≤ 1048576 := of_decide_eq_true hk
theorem spot_none {W : World} {x : Addr} {v : Value} (h : W.cell? (x.add 0) = some v) : ∃ b off, x = ⟨b, off, none⟩ := by
 obtain ⟨b, off, spot⟩ := x
 have hspot : spot = none := by simpa [Addr.add] using World.cell?_spot h
 subst hspot
 exact ⟨b, off, rfl⟩
theorem add_plain (b off t : Nat) : (⟨b, off, none⟩ : Addr).add t = ⟨b, off + t, none⟩ := by unfold Addr.add; split <;> simp_all
open Go.ChangeShapes Go.WideShapes Go.ChangeAt Go.RowKit Go.Deep
end Go.Proofs.YtldlejpacgphmabGreat
