/-
  The desk whole: reads, of a Write.
-/
import Derived.Test.YtfadnmdmohabmaaDeb
namespace Go.Proofs.Ytfadnmdmohabmaa
open Go.RowKit

theorem Rd.rdnG {B : Nat} {w : World} {G n : Nat} {zs : List Int} (h : Rd B w (some ⟨G, 0, none⟩) n zs) (hB : B ≤ w.heap.size) {X : Nat → Prop} (hX : ¬ X G) : RdN X w (some ⟨G, 0, none⟩) n zs := by
  obtain ⟨h1, h2, h3⟩ := h
  refine ⟨h1, h2, h3.imp id (fun ⟨b, off, e, hlt, hc⟩ => ?_)⟩
  cases e
  exact ⟨G, 0, rfl, by omega, hX, hc⟩
theorem isB_data {fi : Int} {zs : List Int} (h : Pl.isB zs) : Pl.isB (dataZ fi zs) := by
  unfold dataZ
  split
  · exact isB_blkZ fi
  · exact h
/-- the cells of an act that lies in block q -/
def ActC (w : World) (q : Nat) (wh kd at_ fi : Int) (ra : Value) : Prop := w.cell? ⟨q, 0, none⟩ = some (.int .i64 wh) ∧ w.cell? ⟨q, 1, none⟩ = some (.int .i64 kd) ∧ w.cell? ⟨q, 2, none⟩ = some (.int .i64 at_) ∧ w.cell? ⟨q, 3, none⟩ = some (.int .i64 fi) ∧ w.cell? ⟨q, 4, none⟩ = some ra
theorem ActC.keep {w w' : World} {q : Nat} {wh kd at_ fi : Int} {ra : Value} (h : ActC w q wh kd at_ fi ra) (hk : w'.heap[q]? = w.heap[q]?) : ActC w' q wh kd at_ fi ra :=
  ⟨(World.cell?_of_block (a := ⟨q, 0, none⟩) hk).trans h.1, (World.cell?_of_block (a := ⟨q, 1, none⟩) hk).trans h.2.1, (World.cell?_of_block (a := ⟨q, 2, none⟩) hk).trans h.2.2.1, (World.cell?_of_block (a := ⟨q, 3, none⟩) hk).trans h.2.2.2.1, (World.cell?_of_block (a := ⟨q, 4, none⟩) hk).trans h.2.2.2.2⟩

set_option maxRecDepth 100000 in
set_option maxHeartbeats 4000000 in
theorem reads_write {B : Nat} {w : World} {x m : Nat} (h : Dsk B w x m) (hm : m ≤ 1048576) (wh at_ fi : Int) (a : Option Addr) (n c : Nat) (zs : List Int) (hR : Rd B w a n zs) (hn : n ≤ 1048576) :
    Calls Try.prog 22 #[.pointer (some ⟨x, 0, none⟩), cactV wh 2 at_ fi (.slice a n c)] w fun e w' => e = .returned (.bool true) ∧ Dsk B w' x (m + 1) ∧ Below B w w' := by
  obtain ⟨i, hi, ei⟩ := and1_nat wh
  obtain ⟨τ0, p, r, nb, nK, v, cI, cJ, xI, xJ, D, sI, sJ, h0⟩ := h.at hi
  have hB0 := h0.hB
  have hdl : (dataZ fi zs).length ≤ 1048576 := by
    unfold dataZ
    split
    · rw [length_blkZ]; omega
    · rw [hR.1]; exact hn
  obtain ⟨W, hW⟩ : ∃ W, W = w.alloc (.cells #[.int .i64 wh, .int .i64 2, .int .i64 at_, .int .i64 fi, .slice a n c] 36) := ⟨_, rfl⟩
  have bW : Below w.heap.size w W := by rw [hW]; exact (Below.refl _ _).alloc (Nat.le_refl _) _
  have h := h0.fresh bW
  have hsW : W.heap.size = w.heap.size + 1 := by rw [hW]; simp
  have a0 : W.cell? ⟨w.heap.size, 0, none⟩ = some (.int .i64 wh) := by rw [hW]; simp
  have a1 : W.cell? ⟨w.heap.size, 1, none⟩ = some (.int .i64 2) := by rw [hW]; simp
  have a2 : W.cell? ⟨w.heap.size, 2, none⟩ = some (.int .i64 at_) := by rw [hW]; simp
  have a3 : W.cell? ⟨w.heap.size, 3, none⟩ = some (.int .i64 fi) := by rw [hW]; simp
  have a4 : W.cell? ⟨w.heap.size, 4, none⟩ = some (.slice a n c) := by rw [hW]; simp
  have t9 : tgN τ0 w.heap.size none 9 w.heap.size = 9 := tgN_hi (Nat.le_refl _)
  generalize tgN τ0 w.heap.size none 9 = τ at *
  clear h0
  obtain ⟨cC, cX⟩ := h.cC
  have hxl := h.dt.tbl.lt
  have tx := h.dt.tx
  have hRW := hR.below (bW.mono hB0)
  have HB := hid hR.2.1
  have HR0 := hid hR
  have hi2 : (i : Int) < 2 := by omega
  have HDa := hid (data_any (w := W.drew) (B := B) (by have := h.hB; exact this) wh 2 at_ fi c (hRW.below ((Below.refl _ _).drew)))
  unfold cactV at HDa ⊢
  have H := hid h
  have BW := hid bW
  clear h bW hR hRW
  go_enter Try.func22, Try.ntmps22
  go_wp2_with fail
  simp only [← hW]
  clear hW ei
  have HA := hid (show ActC W w.heap.size wh 2 at_ fi (.slice a n c) from ⟨a0, a1, a2, a3, a4⟩)
  go_region_held3 (fun w' => w'.cell? ⟨x, 1 + i, none⟩ = some cI ∧ w'.cell? ⟨w.heap.size, 0, none⟩ = some (.int .i64 wh) ∧ w'.cell? ⟨w.heap.size, 1, none⟩ = some (.int .i64 2) ∧ w'.cell? ⟨w.heap.size, 2, none⟩ = some (.int .i64 at_) ∧ w'.cell? ⟨w.heap.size, 3, none⟩ = some (.int .i64 fi) ∧ w'.cell? ⟨w.heap.size, 4, none⟩ = some (.slice a n c)) (first | (exact ⟨by assumption, by assumption, by assumption, by assumption, by assumption, by assumption⟩) | (exact SK1.out) | (exact SK2.out) | (exact SK3.out) | go_keep)
    (first
      | (go_at_call 42; refine Calls.mono HDa.out ?_; rintro e w1 ⟨al, cp, rfl, hrd1, hb1⟩
         have b1 : Below W.heap.size W w1 := ⟨hb1.os, hb1.tape, hb1.output, hb1.size, hb1.block⟩
         have h1 := H.out.fresh b1
         have HA1 := hid (HA.out.keep (b1.block w.heap.size (by omega)))
         have SK1 := hid (And.intro h1.cC.1 HA1.out)
         have HLd := hid (h1.dt.lend al (dataZ fi zs).length cp (dataZ fi zs) (by omega) (hrd1.low' (fun k hk q q' => by
           have : tgN τ W.heap.size none 9 k = 9 := by
             rcases q with q | q
             · exact h1.low k q
             · exact tgN_hi q
           omega)))
         have H1 := hid h1
         have B1 := hid b1
         clear hb1 hrd1 b1 h1)
      | (go_at_call 41; refine Calls.mono HLd.out ?_; rintro e w2 ⟨G, M, rfl, hDt2, hLent, hG5, hb2⟩
         have s1 := B1.out.size
         have h2 := H1.out.redt hDt2 hb2 (fun y hy q => by
           rcases q with q | q
           · exact ⟨by omega, by omega⟩
           · rw [q, H1.out.dt.tx]; exact ⟨by omega, by omega⟩) (fun y hy _ => tgN_lo hy (by simp)) rfl rfl rfl rfl rfl rfl H1.out.b1 H1.out.b2 H1.out.b3 H1.out.l1 H1.out.l2 H1.out.n0 H1.out.n1
         have ta : tgN τ W.heap.size none 9 w.heap.size = 9 := by rw [tgN_lo (by omega) (by simp)]; exact t9
         have HA2 := hid (HA1.out.keep (hb2.block w.heap.size (by omega) (fun q => by
           rcases q with q | q
           · omega
           · rw [q, H1.out.dt.tx] at ta; omega)))
         have SK2 := hid (And.intro h2.cC.1 HA2.out)
         have hzl : (dataZ fi zs).length = (dataZ fi zs).length := rfl
         have HWr := hid (h2.ps.write (by omega) h2.okI h2.hp at_ (some ⟨G, 0, none⟩) (dataZ fi zs).length (2 * (dataZ fi zs).length + 70) (dataZ fi zs) ((hLent.rd rfl (isB_data HB.out)).rdnG (Nat.le_refl _) (by omega)))
         have H2 := hid h2
         have HLe := hid (And.intro hLent hG5)
         have B2 := hid hb2
         clear hDt2 hLent hb2 h2 hzl)
      | (go_at_call 15; refine Calls.mono HWr.out ?_; rintro e w3 ⟨rfl, ps3, b3⟩
         have s1 := B1.out.size
         have s2 := B2.out.size
         have ta : tgN (tgN τ W.heap.size none 9) w1.heap.size none 5 w.heap.size = 9 := by rw [tgN_lo (by omega) (by simp), tgN_lo (by omega) (by simp)]; exact t9
         have HA3 := hid (HA2.out.keep (b3.block w.heap.size (by omega) (by omega)))
         have k3 : ∀ t, w3.cell? ⟨x, t, none⟩ = w2.cell? ⟨x, t, none⟩ := fun t => World.cell?_of_block (a := ⟨x, t, none⟩) (b3.block x H2.out.dt.tbl.lt (by rw [H2.out.dt.tx]; omega))
         have d4 := (k3 (4 + i)).trans H2.out.cC.2
         have SK3 := hid (And.intro ((k3 (1 + i)).trans H2.out.cC.1) HA3.out)
         have HP3 := hid (And.intro ps3 b3)
         clear ps3 b3 k3 ta))
  clear HDa HLd HWr SK1 SK2 SK3 cC cX a0 a1 a2 a3 a4 HA HA1 HA2
  have ta2 : tgN (tgN τ W.heap.size none 9) w1.heap.size none 5 w.heap.size = 9 := by
    have := B1.out.size
    rw [tgN_lo (by omega) (by simp), tgN_lo (by omega) (by simp)]; exact t9
  generalize tgN (tgN τ W.heap.size none 9) w1.heap.size none 5 = τ2 at *
  have BB3 : Below B w w3 := by
    have l2 := H2.out.low
    refine ((BW.out.mono hB0).trans (B1.out.mono H.out.hB)).trans ((B2.out.below H1.out.hB (fun y hy q => ?_)).trans (HP3.out.2.below H2.out.hB (fun y hy q => by have := l2 y hy; omega)))
    have := H1.out.low y hy
    rcases q with q | q
    · omega
    · rw [q, H1.out.dt.tx] at this; omega
  have s3 := HP3.out.2.size
  have s2 := B2.out.size
  have s1 := B1.out.size
  have hB2 := H2.out.hB
  have HDb := hid (data_any (w := w3.drew) (B := B) (by show B ≤ w3.heap.size; omega) wh 2 at_ fi c ((HR0.out.below BB3).below ((Below.refl _ _).drew)))
  unfold cactV at HDb
  have hB3 := hid BB3
  obtain ⟨a0, a1, a2, a3, a4⟩ := HA3.out
  clear BB3
  go_wp2_with fail
  go_region_held3 (fun w' => w'.cell? ⟨x, 4 + i, none⟩ = some xI ∧ w'.cell? ⟨w.heap.size, 0, none⟩ = some (.int .i64 wh) ∧ w'.cell? ⟨w.heap.size, 1, none⟩ = some (.int .i64 2) ∧ w'.cell? ⟨w.heap.size, 2, none⟩ = some (.int .i64 at_) ∧ w'.cell? ⟨w.heap.size, 3, none⟩ = some (.int .i64 fi) ∧ w'.cell? ⟨w.heap.size, 4, none⟩ = some (.slice a n c)) (first | (exact ⟨by assumption, by assumption, by assumption, by assumption, by assumption, by assumption⟩) | (exact SK4.out) | (exact SK5.out) | go_keep)
    (first
      | (go_at_call 42; refine Calls.mono HDb.out ?_; rintro e w4 ⟨al2, cp2, rfl, hrd4, hb4⟩
         have b4 : Below w3.heap.size w3 w4 := ⟨hb4.os, hb4.tape, hb4.output, hb4.size, hb4.block⟩
         have HA4 := hid (HA3.out.keep (b4.block w.heap.size (by omega)))
         have hxl2 := H2.out.dt.tbl.lt
         have d4' := (b4.cell (p := ⟨x, 4 + i, none⟩) (by show x < _; omega)).trans d4
         have SK4 := hid (And.intro d4' HA4.out)
         have HXw := hid ((H2.out.rs1 HP3.out.2 b4).write (by omega) H2.out.okI H2.out.hp at_ al2 (dataZ fi zs).length cp2 (dataZ fi zs) (hrd4.low' (fun k hk q q' => by
           rcases q with q | q
           · have := H2.out.low k q; omega
           · have : w3.heap.size ≤ k := q
             omega)))
         have B4 := hid b4
         clear hb4 hrd4 b4)
      | (go_at_call 43; refine Calls.mono HXw.out ?_; rintro e w5 ⟨rfl, rs5, b5⟩
         have s4 := B4.out.size
         have HA5 := hid (HA4.out.keep (b5.block w.heap.size (by omega) (by omega)))
         have hxl2 := H2.out.dt.tbl.lt
         have SK5 := hid (And.intro ((World.cell?_of_block (a := ⟨x, 4 + i, none⟩) (b5.block x (by omega) (by rw [H2.out.dt.tx]; omega))).trans d4') HA5.out)
         have HP5 := hid (And.intro rs5 b5)
         clear rs5 b5))
  clear HDb HXw SK4 SK5 a0 a1 a2 a3 a4 HA3 HA4 d4 d4'
  obtain ⟨h5, b25⟩ := H2.out.both (al := none) (m' := m + 1) (HP3.out.1.mono (fun k _ q => ⟨q, by simp⟩)) HP3.out.2 (fun y e => by cases e) B4.out HP5.out.1 HP5.out.2 (by omega) (H2.out.okI.write D at_ _ _) (H2.out.okJ.up (by omega)) (H2.out.lI.write D nb at_ _ rfl) H2.out.lJ (wrD_len _ _ _ _ _ _ H2.out.hp)
  have s5 := b25.size
  have BB5 : Below B w w5 := by
    refine (hB3.out.trans (B4.out.mono (by omega))).trans (HP5.out.2.below (by omega) (fun y hy q => by have := H2.out.low y hy; omega))
  have HDd := hid (data_any (w := w5.drew) (B := B) (by show B ≤ w5.heap.size; omega) wh 2 at_ fi c ((HR0.out.below BB5).below ((Below.refl _ _).drew)))
  unfold cactV at HDd
  have H5 := hid (And.intro h5 (And.intro b25 BB5))
  have tb : tgB τ2 w2.heap.size w4.heap.size none w.heap.size = 9 := by unfold tgB; rw [if_pos (by omega)]; exact ta2
  clear h5 b25 BB5
  obtain ⟨a0, a1, a2, a3, a4⟩ := HA5.out
  go_wp2_with fail
  go_region_held3 (fun w' => w'.cell? ⟨w.heap.size, 0, none⟩ = some (.int .i64 wh) ∧ w'.cell? ⟨w.heap.size, 1, none⟩ = some (.int .i64 2) ∧ w'.cell? ⟨w.heap.size, 2, none⟩ = some (.int .i64 at_) ∧ w'.cell? ⟨w.heap.size, 3, none⟩ = some (.int .i64 fi) ∧ w'.cell? ⟨w.heap.size, 4, none⟩ = some (.slice a n c)) (first | (exact ⟨by assumption, by assumption, by assumption, by assumption, by assumption⟩) | (exact HA6.out) | (exact HA7.out) | (exact HA8.out) | go_keep)
    (first
      | (go_at_call 42; refine Calls.mono HDd.out ?_; rintro e w6 ⟨al3, cp3, rfl, hrd6, hb6⟩
         have b6 : Below w5.heap.size w5 w6 := ⟨hb6.os, hb6.tape, hb6.output, hb6.size, hb6.block⟩
         have HA6 := hid (HA5.out.keep (b6.block w.heap.size (by omega)))
         have h6 := H5.out.1.fresh b6
         have hGl : G < w2.heap.size := by
           obtain ⟨ys, q, _⟩ := HLe.out.1.buf
           exact q.lt
         have hG6 : tgN (tgB τ2 w2.heap.size w4.heap.size none) w5.heap.size none 9 G = 5 := by
           rw [tgN_lo (by omega) (by simp)]
           unfold tgB
           rw [if_pos hGl]
           exact HLe.out.2
         have HBk := hid (h6.dt.back (G := G) (M := M) rfl al3 (dataZ fi zs).length cp3 (dataZ fi zs) (by omega) rfl HLe.out.1.big hG6 (by
           obtain ⟨ys, q1, q2, q3⟩ := HLe.out.1.buf
           have hG2 := HLe.out.2
           exact ⟨ys, (q1.of_block (H5.out.2.1.block G hGl (by omega))).of_block (b6.block G (by omega)), q2, q3⟩) (hrd6.low' (fun k hk q q' => by
           have : tgN (tgB τ2 w2.heap.size w4.heap.size none) w5.heap.size none 9 k = 9 := by
             rcases q with q | q
             · exact h6.low k q
             · exact tgN_hi q
           omega)))
         have H6 := hid h6
         have B6 := hid b6
         clear hb6 hrd6 b6 h6)
      | (go_at_call 44; refine Calls.mono HBk.out ?_; rintro e w7 ⟨rfl, ⟨N7, hDt7⟩, hb7⟩
         have s6 := B6.out.size
         have tc : tgN (tgB τ2 w2.heap.size w4.heap.size none) w5.heap.size none 9 w.heap.size = 9 := by rw [tgN_lo (by omega) (by simp)]; exact tb
         have HA7 := hid (HA6.out.keep (hb7.block w.heap.size (by omega) (by omega)))
         have h7 := H6.out.redt hDt7 hb7 (fun y hy q => ⟨by omega, by omega⟩) (fun _ _ _ => rfl) rfl rfl rfl rfl rfl rfl H6.out.b1 H6.out.b2 H6.out.b3 H6.out.l1 H6.out.l2 H6.out.n0 H6.out.n1
         have HHo := hid (h7.dt.bholds (by have := h7.b3; omega))
         have H7 := hid h7
         have B7 := hid hb7
         clear hDt7 hb7 h7)
      | (go_at_call 5; refine Calls.mono (Num_any _ _) ?_; rintro e w7' ⟨rfl, rfl⟩)
      | (go_at_call 9; refine Calls.mono HHo.out ?_; rintro e w8 ⟨rfl, bf, bh, bm, bk, bw, hDt8, hb8⟩
         have s7 := B7.out.size
         have HA8 := hid (HA7.out.keep (hb8.block w.heap.size (by omega) (fun q => by
           rcases q with q | q
           · omega
           · rw [q, H7.out.dt.tx] at tc; omega)))
         have H8 := hid (And.intro hDt8 hb8)
         clear hDt8 hb8))
  have FIN : Hid (Dsk B w8 x (m + 1) ∧ Below B w w8) := by
    show _ ∧ _
    have h7 := H7.out
    have h8 := h7.redt H8.out.1 H8.out.2 (fun y hy q => by
      rcases q with q | q
      · exact ⟨by omega, by omega⟩
      · rw [q, h7.dt.tx]; exact ⟨by omega, by omega⟩) (fun _ _ _ => rfl) rfl rfl rfl rfl rfl rfl h7.b1 h7.b2 h7.b3 h7.l1 h7.l2 h7.n0 h7.n1
    refine ⟨h8.dsk, ((H5.out.2.2.trans (B6.out.mono H5.out.1.hB)).trans (B7.out.below H6.out.hB (fun y hy q => by have := H6.out.low y hy; omega))).trans (H8.out.2.below h7.hB (fun y hy q => ?_))⟩
    have := h7.low y hy
    rcases q with q | q
    · omega
    · rw [q, h7.dt.tx] at this; omega
  clear HDd HBk HHo HA5 HA6 HA7 HA8 a0 a1 a2 a3 a4 H5 H6 H7 H8 B6 B7
  go_wp2
  go_ret
  exact ⟨rfl, FIN.out⟩

end Go.Proofs.Ytfadnmdmohabmaa
