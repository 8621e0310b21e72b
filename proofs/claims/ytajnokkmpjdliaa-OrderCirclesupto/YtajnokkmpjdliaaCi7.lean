/-
  The law OrderCircles.
-/
import Derived.Test.YtajnokkmpjdliaaCi6
import Derived.Test.YtajnokkmpjdliaaLa0
namespace Go.Proofs.Ytajnokkmpjdliaa
open Go.RowKit

def one1 : List (Int × Int) := [(1, 1)]
theorem one_ok : okZ 2 one1 = true := by decide
theorem one_ord : (ordP (2 : Int).toNat (toN one1)).length < (2 : Int).toNat := by decide
theorem one_ring {n : Nat} {l : List Nat} (h : Ring n (toN one1) l) : l = [1] := by
  have h1 : ∀ i, i < l.length → l.getD i 0 = 1 := fun i hi => by
    have := h.ed i hi
    simp [toN, one1] at this
    simpa using this.1
  have h2 : l.length = 1 := by
    have := h.ne
    by_cases q : 1 < l.length
    · have := nd_inj h.nd (i := 0) (j := 1) (by omega) q (by rw [h1 0 (by omega), h1 1 q])
      omega
    · omega
  match l, h2 with
  | [x], _ => have := h1 0 (by simp); simp at this; rw [this]
theorem CirR.one {l : List Nat} {f : Int} (h : CirR 2 one1 l f) : l = [1] ∧ f = 0 := ⟨one_ring (h.ring one_ok one_ord), h.ok one_ok⟩

set_option maxRecDepth 100000 in
set_option maxHeartbeats 8000000 in
theorem circles_any (m c : Nat) (a : Option Addr) (s : Int) (Z : List (Int × Int)) (hm : m ≤ 1048576) (hc : a = none → c = 0) (w : World) (hR : RdZ w a m Z) :
    Calls Try.prog 3 #[.int .i64 s, .slice a m c] w fun e w' => e = .returned (.bool true) ∧ Below w.heap.size w w' := by
  obtain ⟨PO, hPO⟩ : ∃ PO : Ending → World → Prop, PO = fun e w' => e = .returned (.bool true) ∧ Below w.heap.size w w' := ⟨_, rfl⟩
  rw [← hPO]
  have HPO := hid hPO
  obtain ⟨B, hB⟩ : ∃ B, B = w.heap.size := ⟨_, rfl⟩
  have HB := hid hB
  have HR : Hid (∀ W, Below B w W → RdZ W a m Z) := fun W hb => hR.next (by rw [← hB]; exact hb)
  have HM := hid hm
  have HC := hid hc
  obtain ⟨M, hM⟩ : ∃ M, M = 2 * m + 70 := ⟨_, rfl⟩
  have HMM := hid hM
  have HPre : Hid (Calls Try.prog 6 #[.int .i64 2, .slice (some ⟨w.heap.size, 0, none⟩) 1 1] (w.alloc (.cells #[.int .i64 1, .int .i64 1] 28)) fun e u1 => ∃ a1 c1, e = .returned (.tuple #[.slice a1 1 c1, .int .i64 0]) ∧ Calls Try.prog 8 #[.slice a1 1 c1, .slice (some ⟨u1.heap.size, 0, none⟩) 1 1] (u1.alloc (.cells #[.int .i64 1] 3)) fun e u2 => e = .returned (.bool true) ∧ Calls Try.prog 9 #[.slice a m c] u2 fun e w1 => ∃ g G0, e = .returned (.slice (some ⟨g, 0, none⟩) m M) ∧ B ≤ g ∧ BlE w1 g G0 ∧ G0.length = M ∧ (∀ i, m ≤ i → i < M → zg G0 i = (-7 - (i : Int), -8)) ∧ Below B w w1) := by
    obtain ⟨u, hu⟩ : ∃ u, u = w.alloc (.cells #[.int .i64 1, .int .i64 1] 28) := ⟨_, rfl⟩
    have b0 : Below B w u := by rw [hu, hB]; exact below1 _ _
    have hh : u.heap[w.heap.size]? = some (.cells #[.int .i64 1, .int .i64 1] 28 (0, 0)) := by rw [hu]; exact heap_new _ _
    rw [← hu]
    have hR1 : RdZ u (some ⟨w.heap.size, 0, none⟩) 1 one1 := by
      refine ⟨rfl, fun i hi => ⟨w.heap.size, 0, rfl, ?_, ?_⟩⟩
      · have : i = 0 := by omega
        subst this
        simp [World.cell?, hh, one1, zg]
      · have : i = 0 := by omega
        subst this
        simp [World.cell?, hh, one1, zg]
    refine (Circle_any 1 1 _ 2 one1 (by omega) u hR1).mono ?_
    rintro e u1 ⟨ov, l, f, rfl, r1, b1, hC⟩
    obtain ⟨rfl, rfl⟩ := hC.one
    obtain ⟨a1, c1, rfl, n1⟩ := rdn_own r1
    refine ⟨a1, c1, rfl, ?_⟩
    have s0 := b0.size
    have b2 := below1 u1 (.cells #[.int .i64 1] 3)
    obtain ⟨u1', hu1⟩ : ∃ u1', u1' = u1.alloc (.cells #[.int .i64 1] 3) := ⟨_, rfl⟩
    rw [← hu1] at b2 ⊢
    have hh1 : u1'.heap[u1.heap.size]? = some (.cells #[.int .i64 1] 3 (0, 0)) := by rw [hu1]; exact heap_new _ _
    have n2 : RdN u1' (some ⟨u1.heap.size, 0, none⟩) 1 [1] := by
      refine ⟨rfl, fun i hi => ⟨u1.heap.size, rfl, ?_⟩⟩
      have : i = 0 := by omega
      subst this
      simp [World.cell?, hh1]
    refine (SameInts_any a1 _ 1 c1 1 [1] (by omega) u1' (n1.next b2) n2).mono ?_
    rintro e u2 ⟨rfl, b3⟩
    refine ⟨rfl, ?_⟩
    have s1 := b1.size
    have s2 := b2.size
    have s3 := b3.size
    have s00 : B ≤ u.heap.size := by omega
    have bb : Below B w u2 := ((b0.trans (b1.mono s00)).trans (b2.mono (by omega))).trans (b3.mono (by omega))
    refine (lend_any m c a Z hm u2 (HR.out u2 bb)).mono ?_
    rintro e w1 ⟨g, G0, rfl, hg, hbl, hGl, htl, hb1⟩
    refine ⟨g, G0, by rw [hM], by omega, hbl, by rw [hM]; exact hGl, fun i h1 h2 => htl i h1 (by omega), bb.trans (hb1.mono (by omega))⟩
  clear hPO hB hR hm hc hM
  go_enter Try.func3, Try.ntmps3
  go_wp2_with fail
  go_at_call 6
  refine Calls.mono HPre.out ?_
  rintro e u1 ⟨a1, c1, rfl, h1⟩
  have H1 := hid h1
  clear h1 HPre
  go_wp2_with fail
  go_at_call 7
  refine Calls.mono (Num_any _ _) ?_
  rintro e wq ⟨rfl, hw0⟩
  have hw0 := hw0.symm
  subst hw0
  go_wp2_with fail
  go_at_call 8
  refine Calls.mono H1.out ?_
  rintro e u2 ⟨rfl, h2⟩
  have H2 := hid h2
  clear h2 H1
  go_wp2_with fail
  go_at_call 9
  refine Calls.mono H2.out ?_
  rintro e w1 ⟨g, G0, rfl, hg, hbl, hGl, htl, hb1⟩
  have HI0 : Hid (BlE w1 g G0 ∧ G0.length = M ∧ (∀ i, m ≤ i → i < M → zg G0 i = (-7 - (i : Int), -8)) ∧ Below B w w1) := ⟨hbl, hGl, htl, hb1⟩
  have HGB := hid hg
  clear hbl hGl htl hb1 H2 hg
  go_wp2_with fail
  go_loopw [8] (fun iv wr => ∃ (t : Nat) (G : List (Int × Int)), iv = .int .i64 (t : Int) ∧ t ≤ 4 ∧ BlE wr g G ∧ G.length = M ∧ (∀ i, m ≤ i → i < M → zg G i = (-7 - (i : Int), -8)) ∧ Below B w wr) (fun iv _ => 4 - (intOf iv).toNat)
  case atStart => exact ⟨0, G0, rfl, by omega, HI0.out⟩
  case round =>
    clear HI0
    obtain ⟨t, G, rfl, ht, hbl, hGl, htl, hb⟩ := hrel
    by_cases p : t = 4
    · have HD : Hid (PO (.returned (.bool true)) wr) := by
        unfold Hid
        rw [HPO.out, ← HB.out]
        exact ⟨rfl, hb⟩
      subst p
      clear hbl hGl htl hb ht
      go_wp2_with fail
      exact HD.out
    · have ht3 : t ≤ 3 := by omega
      have q1 : (t : Int) ≤ 3 := by omega
      have HTu := hid (turned_any m c a (t : Int) Z HM.out HC.out wr (HR.out wr hb))
      have hsz : B ≤ wr.heap.size := by have := hb.size; have := HB.out; omega
      have HCp : Hid (∀ (g2 c' : Nat) (Y : List (Int × Int)) (w2 : World), wr.heap.size ≤ g2 → OwE wr.heap.size w2 (.slice (some ⟨g2, 0, none⟩) m c') Y → Y.length = m → Below wr.heap.size wr w2 → ∃ w3, (Builtin.copy_ #[22, 22] 3 #[.slice (some ⟨g, 0, none⟩) m M, .slice (some ⟨g2, 0, none⟩) m c']).run Try.prog w2 = .ok (.int .i64 (m : Int)) w3 ∧ Calls Try.prog 6 #[.int .i64 s, .slice (some ⟨g, 0, none⟩) m M] w3 fun e u1 => ∃ a1 c1 L f, e = .returned (.tuple #[.slice a1 L c1, .int .i64 f]) ∧ Calls Try.prog 11 #[.int .i64 s, .slice (some ⟨g2, 0, none⟩) m c', .slice a1 L c1, .int .i64 f] u1 fun e u2 => e = .returned (.bool true) ∧ Calls Try.prog 12 #[.slice (some ⟨g, 0, none⟩) m M, .slice (some ⟨g2, 0, none⟩) m c'] u2 fun e u3 => e = .returned (.bool true) ∧ ∃ G3, t + 1 ≤ 4 ∧ BlE u3 g G3 ∧ G3.length = M ∧ (∀ i, m ≤ i → i < M → zg G3 i = (-7 - (i : Int), -8)) ∧ Below B w u3) := fun g2 c' Y w2 h1 h2 h3 h4 => by
        have hgl := hbl.lt
        have hbl2 := hbl.next h4
        obtain ⟨w3, G3, k1, k2, k3, k4, k5, k6⟩ := copy_e (M := m) (dCap := M) (sCap := c') hbl2 (h2.rd h3) (Nat.le_refl _) (by have := HMM.out; omega)
        have k3' : G3.length = M := by omega
        have k5' : ∀ i, m ≤ i → i < M → zg G3 i = (-7 - (i : Int), -8) := fun i h5 h6 => by rw [k5 i h5]; exact htl i h5 h6
        have hO3 : OwE wr.heap.size w3 (.slice (some ⟨g2, 0, none⟩) m c') Y := by
          unfold OwE at *
          exact own_keep h2 fun g' hg' => k6.block g' (own_blk h2 hg').2.1 (fun e => by have := (own_blk h2 hg').1; omega)
        have b3 : Below B w w3 := by
          have := h4.size
          exact (hb.trans (h4.mono hsz)).trans (k6.below (by omega) (fun k hk e => by have := HGB.out; omega))
        have hY3 := hO3.rd h3
        have hRg : RdZ w3 (some ⟨g, 0, none⟩) m Y := k2.rd (by have := HMM.out; omega) h3 k4
        refine ⟨w3, k1, (Circle_any m M _ s Y HM.out w3 hRg).mono ?_⟩
        rintro e u1 ⟨ov, l, f, rfl, r1, b4, hC⟩
        obtain ⟨a1, c1, rfl, n1⟩ := rdn_own r1
        refine ⟨a1, c1, _, f, rfl, (Circled_any m c' _ c1 _ a1 s f Y l HM.out u1 (hY3.next b4) n1 hC).mono ?_⟩
        rintro e u2 ⟨rfl, b5⟩
        have s4 := b4.size
        have s5 := b5.size
        have s3 : B ≤ w3.heap.size := by have := b3.size; have := HB.out; omega
        have b35 : Below w3.heap.size w3 u2 := b4.trans (b5.mono s4)
        refine ⟨rfl, (back_any m M c' g _ G3 Y HM.out HMM.out u2 (k2.next b35) k3' (hY3.next b35) k4 k5').mono ?_⟩
        rintro e u3 ⟨rfl, b6⟩
        have b36 : Below w3.heap.size w3 u3 := b35.trans (b6.mono b35.size)
        exact ⟨rfl, G3, by omega, k2.next b36, k3', k5', b3.trans (b36.mono s3)⟩
      have HT3 : Hid (t ≤ 2097152) := by show t ≤ 2097152; omega
      clear hbl hGl htl hb ht p ht3 hsz
      obtain ⟨ew, ewb⟩ := inc_wr t HT3.out
      go_wp2_with fail
      go_at_call 10
      refine Calls.mono HTu.out ?_
      rintro e w2 ⟨g2, c', Y, rfl, h1, h2, h3, h4⟩
      obtain ⟨w3, hrun, h5⟩ := HCp.out g2 c' Y w2 h1 h2 h3 h4
      have H5 := hid h5
      clear h1 h2 h3 h4 h5 HTu HCp
      go_wp2_with (refine wpList_copy_run _ rfl _ _ _ _ rfl _ _ rfl rfl _ _ hrun ?_)
      go_at_call 6
      refine Calls.mono H5.out ?_
      rintro e u1 ⟨a1, c1, L, f, rfl, h6⟩
      have H6 := hid h6
      clear h6 H5 hrun
      go_wp2_with fail
      go_at_call 7
      refine Calls.mono (Num_any _ _) ?_
      rintro e wq ⟨rfl, hw0⟩
      have hw0 := hw0.symm
      subst hw0
      go_wp2_with fail
      go_at_call 11
      refine Calls.mono H6.out ?_
      rintro e u2 ⟨rfl, h7⟩
      have H7 := hid h7
      clear h7 H6
      go_wp2_with fail
      go_at_call 12
      refine Calls.mono H7.out ?_
      rintro e u3 ⟨rfl, G3, h8⟩
      have H8 := hid h8
      clear h8 H7
      go_wp2_with fail
      refine ⟨⟨t + 1, G3, by rw [Int.natCast_add]; rfl, H8.out⟩, ?_⟩
      exact mea_step H8.out.1
end Go.Proofs.Ytajnokkmpjdliaa
