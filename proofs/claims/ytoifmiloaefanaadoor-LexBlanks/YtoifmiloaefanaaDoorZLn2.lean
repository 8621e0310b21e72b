import Derived.Test.YtoifmiloaefanaaDoorZLn0
/-
  LexBlanks: the law.
-/
namespace Go.Proofs.YtoifmiloaefanaaDoor
open Go.RowKit

/-- Tokens of any bytes that are read -/
theorem Tokens_both (a : Option Addr) (n c : Nat) (zs : List Int) (w : World) (hR : Rd w.heap.size w a n zs) : Calls Tryd.prog 7 #[.slice a n c] w (TkQ zs w.heap.size w) := by
  by_cases h : n ≤ 65536
  · exact Tokens_any a n c zs w h hR
  · exact Tokens_long a n c zs w (by omega) hR.1
theorem owB_rd {B : Nat} {w : World} {a : Option Addr} {c : Nat} {l : List Int} (h : OwB B w (.slice a l.length c) l) (hB : Pl.isB l) : Rd w.heap.size w a l.length l := by
  by_cases h0 : 0 < l.length
  · obtain ⟨g, c2, e, _, h2⟩ := h.form h0
    simp at e
    obtain ⟨rfl, rfl⟩ := e
    exact h.rd rfl hB h2
  · exact ⟨rfl, hB, .inl (by omega)⟩
/-- the last calls, all well -/
def BnE (w : World) (sv tv : Value) (n : Nat) (wr : World) : Prop := Calls Tryd.prog 7 #[tv] wr fun e w1 => ∃ (ba : Option Addr) (bc : Nat) (p : Int), e = .returned (.tuple #[.slice ba n bc, .int .i64 p, .int .i64 0]) ∧
  Calls Tryd.prog 7 #[.slice (some ⟨w1.heap.size, 0, none⟩) 3 3] (w1.alloc (.cells #[.int .u8 97, .int .u8 32, .int .u8 33] 5 (3, 4))) fun e w3 => ∃ x, e = .returned (.tuple #[x, .int .i64 2, .int .i64 181]) ∧
  Calls Tryd.prog 12 #[.slice ba n bc, sv] w3 fun e w5 => e = .returned (.bool true) ∧ Below w.heap.size w w5
theorem bne_any {w wr : World} {n : Nat} {ua ta : Option Addr} {uc tc : Nat} {ps : List (Tk × List Int)} (hj : ps.length = n) (hn : n ≤ 16384) (hT : OwT w.heap.size wr (.slice ua n uc) (ps.map (·.1))) (hB : OwB w.heap.size wr (.slice ta (glu ps).length tc) (glu ps)) (hp : ∀ p ∈ ps, GpP p) (hl : (glu ps).length ≤ 65536) (hb : Below w.heap.size w wr) : BnE w (.slice ua n uc) (.slice ta (glu ps).length tc) n wr := by
  obtain ⟨us, h1, h2⟩ := lex_glue ps (glu ps) 0 0 (glue_of ps hp) (by omega) (Nat.zero_le _) rfl
  have hx : lexP (glu ps) = (us, 0, 0) := by unfold lexP; rw [if_neg (by omega), h1]
  have h2' : us.map strip = (ps.map (·.1)).map strip := by rw [h2, List.map_map]; rfl
  have hul : us.length = n := by
    have := congrArg List.length h2
    simp at this
    omega
  have z0 := hb.size
  refine (Tokens_both ta (glu ps).length tc (glu ps) wr (owB_rd hB (glu_isB ps hp))).mono ?_
  rintro e w1 ⟨u, rfl, hu, b1⟩
  rw [hx] at hu ⊢
  obtain ⟨ba, bc, rfl⟩ := hu.form
  simp only at hu ⊢
  rw [hul] at hu ⊢
  refine ⟨ba, bc, _, rfl, ?_⟩
  have z1 := b1.size
  obtain ⟨W, hW⟩ : ∃ W, W = w1.alloc (.cells #[.int .u8 97, .int .u8 32, .int .u8 33] 5 (3, 4)) := ⟨_, rfl⟩
  have hg : W.heap[w1.heap.size]? = some (.cells #[.int .u8 97, .int .u8 32, .int .u8 33] 5 (3, 4)) := by rw [hW]; exact heap_new _ _
  have bW : Below w1.heap.size w1 W := by rw [hW]; exact below1 _ _
  rw [← hW]
  refine (Tokens_any (some ⟨w1.heap.size, 0, none⟩) 3 3 [97, 32, 33] W (by omega) ⟨rfl, by intro z hz; simp at hz; omega, .inr ⟨w1.heap.size, 0, rfl, (Array.getElem?_eq_some_iff.1 hg).1, fun t ht => ?_⟩⟩).mono ?_
  · rcases (show t = 0 ∨ t = 1 ∨ t = 2 by omega) with rfl | rfl | rfl <;> simp [World.cell?, hg]
  rintro e w3 ⟨v, rfl, h3, b3⟩
  rw [lexP_a]
  have zW := bW.size
  have z3 := b3.size
  refine ⟨v, rfl, ?_⟩
  have bw3 : Below w.heap.size w w3 := ((hb.trans (b1.mono z0)).trans (bW.mono (by omega))).trans (b3.mono (by omega))
  refine (alike_yes ba ua n bc uc us (ps.map (·.1)) w3 hul (by simpa using hj) h2' (((hu.next bW).next b3).rd hul.symm) ((((hT.next b1).next bW).next b3).rd (by simpa using hj.symm)) (by omega)).mono ?_
  rintro e w5 ⟨rfl, b5⟩
  exact ⟨rfl, bw3.trans (b5.mono (by omega))⟩
theorem bl4 (m : Nat) (h : m < 4) : ∃ c : Int, (∀ hm, ((((⟨#[32, 9, 13, 10]⟩ : ByteArray)[m]'hm).toNat : Nat) : Int) = c) ∧ isBl c = true := by
  rcases (show m = 0 ∨ m = 1 ∨ m = 2 ∨ m = 3 by omega) with rfl | rfl | rfl | rfl
  · exact ⟨32, fun _ => rfl, rfl⟩
  · exact ⟨9, fun _ => rfl, rfl⟩
  · exact ⟨13, fun _ => rfl, rfl⟩
  · exact ⟨10, fun _ => rfl, rfl⟩

set_option maxRecDepth 100000 in
set_option maxHeartbeats 8000000 in
theorem blanks_law (a : Option Addr) (n c : Nat) (rs : List Tk) (ga : Option Addr) (gn gc : Nat) (gs : List Int) (w : World) (hn : rs.length = n) (hN : n ≤ 1048576) (hgN : gn ≤ 16777216) (hG : GT w) (hO : TkO w a c rs) (hh : ∀ t ∈ rs, TkH t) (hR : Rd w.heap.size w ga gn gs) :
    Calls Tryd.prog 5 #[.slice a n c, .slice ga gn gc] w fun e w' => e = .returned (.bool true) ∧ Below w.heap.size w w' := by
  have HO := hid hO
  have HH := hid hh
  have HG := hid hG
  have HR := hid hR
  have H0 : Hid (BnI w n (.slice none 0 0) (.slice none 0 0) (.int .i64 0) w) := ⟨0, none, 0, none, 0, [], rfl, rfl, rfl, rfl, Nat.zero_le _, OwT.nil _ _, ⟨rfl, .inl ⟨rfl, rfl⟩⟩, fun t ht => by simp at ht, by simp [glu], Below.refl _ _⟩
  have kc := fun (w : World) (C : Array Value) (n c : Nat) => Lib.run_convert_bytes_const (P := Tryd.prog) w 22 5 C n c Tryd.underlying22 Tryd.underlying5
  clear hO hh hG hR
  go_enter Tryd.func5, Tryd.ntmps5
  go_wp2_with fail
  go_loopw [5, 6, 7, 8, 9, 10, 11] (fun sv tv iv _ _ _ _ wr => BnI w n sv tv iv wr) (fun _ _ iv _ _ _ _ _ => n - (intOf iv).toNat)
  case atStart => exact H0.out
  case round =>
    clear H0
    obtain ⟨j, ua, uc, ta, tc, ps, rfl, rfl, rfl, hps, hj, hT, hB, hp, hlen, hBe⟩ := hrel
    by_cases hcond : j < n ∧ (glu ps).length ≤ 65536 ∧ j ≤ 16384
    · obtain ⟨hjn, hl, hjm⟩ := hcond
      have hjn' : (j : Int) < (n : Int) := by omega
      have hl' : ((glu ps).length : Int) ≤ 65536 := by omega
      have hjm' : (j : Int) ≤ 16384 := by omega
      have hjt : j < rs.length := by omega
      obtain ⟨g0, off, rfl, _, hcs⟩ := (HO.out.next hBe).resolve_left (by rintro (⟨_, _, e⟩ | ⟨_, _, e⟩) <;> (rw [e] at hjt; simp at hjt))
      have cc4 : ∀ i, i < 4 → ∀ v, (cellsT rs[j])[i]? = some v → wr.cell? ⟨g0, off + (j * 4 + i), none⟩ = some v := fun i hi v hv => hcs _ _ ((flatT_at rs j hjt i hi).trans hv)
      have s0 : wr.cell? ⟨g0, off + j * 4, none⟩ = some (.int .i64 rs[j].k) := cc4 0 (by decide) _ rfl
      have s1 : wr.cell? ⟨g0, off + j * 4 + 1, none⟩ = some (.string (strOfNums rs[j].tx)) := cc4 1 (by decide) _ rfl
      have s2 : wr.cell? ⟨g0, off + j * 4 + 2, none⟩ = some (.int .i64 rs[j].n) := cc4 2 (by decide) _ rfl
      have s3 : wr.cell? ⟨g0, off + j * 4 + 3, none⟩ = some (.int .i64 rs[j].a) := cc4 3 (by decide) _ rfl
      have HC := hid (bnc_any hjn hps hN hT hB hp hl hBe (HH.out _ (List.getElem_mem hjt)) HG.out HR.out)
      clear hcs cc4 hBe hT hB hp hlen hl hps
      generalize (glu ps).length = tl at *
      generalize rs[j] = t at *
      obtain ⟨tk, tx, tn, ta'⟩ := t
      unfold BnC at HC
      simp only [tokV] at s0 s1 s2 s3 HC
      generalize strOfNums tx = U at *
      go_wp2_with fail
      refine Calls.mono HC.out ?_
      rintro e w1 ⟨k', S', n', a', rfl, h⟩
      have H9 := hid h
      clear h HC
      go_wp2_with fail
      refine Calls.mono H9.out ?_
      rintro e w4 ⟨hTk, h⟩
      have u0 := hTk.cell 0 _ rfl
      have u1 := hTk.cell 1 _ rfl
      have u2 := hTk.cell 2 _ rfl
      have u3 := hTk.cell 3 _ rfl
      clear hTk H9
      rcases h with ⟨rfl, h⟩ | ⟨V, rfl, h⟩
      · have H11 := hid h
        have H8 := hid (num_any 180 w4)
        clear h
        go_wp2_with (go_at_call 8; refine Calls.mono H8.out ?_; rintro e w2 ⟨rfl, rfl⟩)
        refine Calls.mono H11.out ?_
        rintro e w5 ⟨L, rfl, hL, h⟩
        have HB := hid h
        clear h H11
        go_wp2_with fail
        go_ret
        exact ⟨rfl, HB.out⟩
      · obtain ⟨v2, w6, hr2, v3, w7, hr3, hRg, h⟩ := h
        have H8 := hid (num_any 0 w4)
        have HN := hid h
        have HRg := hid hRg
        clear h hRg
        by_cases hg0 : 0 < gn
        · have hg0' : (0 : Int) < (gn : Int) := by omega
          obtain ⟨gb, goff, rfl, hgb, hgc⟩ := HRg.out.2.2.resolve_left (by omega)
          obtain ⟨m, hm⟩ : ∃ m : Nat, m = j % gn := ⟨_, rfl⟩
          have hmb : m < gn := by rw [hm]; exact Nat.mod_lt _ hg0
          have hmb' : (m : Int) < (gn : Int) := by omega
          have htm : ((j : Int)).tmod (gn : Int) = (m : Int) := by rw [Int.tmod_eq_emod_of_nonneg (by omega), hm]; rfl
          have hgz := hgc m hmb
          have hzB := HRg.out.2.1 (gs.getD m 0) (by
            have : m < gs.length := by rw [HRg.out.1]; exact hmb
            rw [List.getD_eq_getElem?_getD, List.getElem?_eq_getElem this]
            exact List.getElem_mem _)
          obtain ⟨z, hz⟩ : ∃ z : Nat, (z : Int) = gs.getD m 0 := ⟨(gs.getD m 0).toNat, by omega⟩
          rw [← hz] at hgz hzB
          clear hz hm hgc hgb
          have hgn0 : ((gn : Int) == 0) = false := by simp; omega
          obtain ⟨y, hy⟩ : ∃ y : Nat, y = z % 4 := ⟨_, rfl⟩
          have hyb : y < 4 := by omega
          have hty : ((z : Int)).tmod 4 = (y : Int) := by rw [Int.tmod_eq_emod_of_nonneg (by omega)]; omega
          obtain ⟨bc, hb1, hb2⟩ := bl4 y hyb
          obtain ⟨v4, w9, hr4, hn4, v5, w10, hr5, hn5⟩ := HN.out bc hb2
          have hbx := hb1 hyb
          have hyb' : (y : Int) < 4 := by omega
          have HN4 := hid hn4
          have HN5 := hid hn5
          obtain ⟨x3, hx3⟩ : ∃ x3 : Int, x3 = ((z : Int)).tmod 3 := ⟨_, rfl⟩
          have hx3' : ((z : Int)).tmod 3 = x3 := hx3.symm
          have hx3b : 0 ≤ x3 ∧ x3 < 3 := by rw [hx3, Int.tmod_eq_emod_of_nonneg (by omega)]; omega
          clear hn4 hn5 HN hb1 hb2 hy hx3
          by_cases q3 : x3 = 0
          · subst q3
            go_wp2_with (first | (go_at_call 8; refine Calls.mono H8.out ?_; rintro e w2 ⟨rfl, rfl⟩) | (at_builtin; refine Lib.wpList_append_run _ rfl _ _ _ _ rfl _ _ rfl rfl _ _ hr2 ?_) | (at_builtin; refine Lib.wpList_append_run _ rfl _ _ _ _ rfl _ _ rfl rfl _ _ hr3 ?_) | (at_builtin; refine Lib.wpList_append_run _ rfl _ _ _ _ rfl _ _ rfl rfl _ _ hr4 ?_) | (at_builtin; refine Lib.wpList_append_run _ rfl _ _ _ _ rfl _ _ rfl rfl _ _ hr5 ?_))
            exact ⟨HN5.out _ rfl, by simp [intOf]; omega⟩
          · have q3' : (x3 == 0) = false := by simpa using q3
            go_wp2_with (first | (go_at_call 8; refine Calls.mono H8.out ?_; rintro e w2 ⟨rfl, rfl⟩) | (at_builtin; refine Lib.wpList_append_run _ rfl _ _ _ _ rfl _ _ rfl rfl _ _ hr2 ?_) | (at_builtin; refine Lib.wpList_append_run _ rfl _ _ _ _ rfl _ _ rfl rfl _ _ hr3 ?_) | (at_builtin; refine Lib.wpList_append_run _ rfl _ _ _ _ rfl _ _ rfl rfl _ _ hr4 ?_))
            exact ⟨HN4.out _ rfl, by simp [intOf]; omega⟩
        · have hg0' : ¬ (0 : Int) < (gn : Int) := by omega
          obtain ⟨v4, w9, hr4, hn4, v5, w10, hr5, hn5⟩ := HN.out 32 rfl
          have HN5 := hid hn5
          clear hn4 hn5 HN
          go_wp2_with (first | (go_at_call 8; refine Calls.mono H8.out ?_; rintro e w2 ⟨rfl, rfl⟩) | (at_builtin; refine Lib.wpList_append_run _ rfl _ _ _ _ rfl _ _ rfl rfl _ _ hr2 ?_) | (at_builtin; refine Lib.wpList_append_run _ rfl _ _ _ _ rfl _ _ rfl rfl _ _ hr3 ?_) | (at_builtin; refine Lib.wpList_append_run _ rfl _ _ _ _ rfl _ _ rfl rfl _ _ hr4 ?_) | (at_builtin; refine Lib.wpList_append_run _ rfl _ _ _ _ rfl _ _ rfl rfl _ _ hr5 ?_))
          exact ⟨HN5.out _ rfl, by simp [intOf]; omega⟩
    · by_cases hlong : 65536 < (glu ps).length
      · have HE : Hid (Calls Tryd.prog 7 #[.slice ta (glu ps).length tc] wr fun e w1 => ∃ x, e = .returned (.tuple #[x, .int .i64 0, .int .i64 180]) ∧ Below w.heap.size w w1) := by
          refine (Tokens_both ta (glu ps).length tc (glu ps) wr (owB_rd hB (glu_isB ps hp))).mono ?_
          rintro e w1 ⟨u, rfl, hu, b1⟩
          have hx : lexP (glu ps) = ([], 0, 180) := by unfold lexP; rw [if_pos hlong]
          rw [hx]
          exact ⟨u, rfl, hBe.trans (b1.mono hBe.size)⟩
        have hlong' : (65536 : Int) < ((glu ps).length : Int) := by omega
        have hnl : ¬ ((glu ps).length : Int) ≤ 65536 := by omega
        have hnd : decide (((glu ps).length : Int) ≤ 65536) = false := by simpa using hnl
        clear hT hB hp hlen hBe hlong hcond hps
        generalize (glu ps).length = tl at *
        by_cases hjn : (j : Int) < (n : Int)
        · go_wp2_with fail
          refine Calls.mono HE.out ?_
          rintro e w1 ⟨x, rfl, h⟩
          have HB := hid h
          have H8 := hid (num_any 180 w1)
          clear h HE
          go_wp2_with (go_at_call 8; refine Calls.mono H8.out ?_; rintro e w2 ⟨rfl, rfl⟩)
          go_ret
          exact ⟨rfl, HB.out⟩
        · go_wp2_with fail
          refine Calls.mono HE.out ?_
          rintro e w1 ⟨x, rfl, h⟩
          have HB := hid h
          have H8 := hid (num_any 180 w1)
          clear h HE
          go_wp2_with (go_at_call 8; refine Calls.mono H8.out ?_; rintro e w2 ⟨rfl, rfl⟩)
          go_ret
          exact ⟨rfl, HB.out⟩
      · have hl' : ((glu ps).length : Int) ≤ 65536 := by omega
        have hlong' : ¬ (65536 : Int) < ((glu ps).length : Int) := by omega
        by_cases hmany : 16384 < j
        · obtain ⟨p, hlx⟩ := lex_glue_many ps (glu ps) 0 0 (glue_of ps hp) (by omega) (by omega) (Nat.zero_le _) rfl
          have HE : Hid (Calls Tryd.prog 7 #[.slice ta (glu ps).length tc] wr fun e w1 => ∃ x, e = .returned (.tuple #[x, .int .i64 (p : Int), .int .i64 184]) ∧ Below w.heap.size w w1) := by
            refine (Tokens_both ta (glu ps).length tc (glu ps) wr (owB_rd hB (glu_isB ps hp))).mono ?_
            rintro e w1 ⟨u, rfl, hu, b1⟩
            have hx : lexP (glu ps) = ([], p, 184) := by unfold lexP; rw [if_neg hlong, hlx]
            rw [hx]
            exact ⟨u, rfl, hBe.trans (b1.mono hBe.size)⟩
          have hmany' : (16384 : Int) < (j : Int) := by omega
          have hjd : ¬ (j : Int) ≤ 16384 := by omega
          have hjd' : decide ((j : Int) ≤ 16384) = false := by simpa using hjd
          clear hT hB hp hlen hBe hlong hcond hps hlx
          generalize (glu ps).length = tl at *
          by_cases hjn : (j : Int) < (n : Int)
          · go_wp2_with fail
            refine Calls.mono HE.out ?_
            rintro e w1 ⟨x, rfl, h⟩
            have HB := hid h
            have H8 := hid (num_any 184 w1)
            clear h HE
            go_wp2_with (go_at_call 8; refine Calls.mono H8.out ?_; rintro e w2 ⟨rfl, rfl⟩)
            go_ret
            exact ⟨rfl, HB.out⟩
          · go_wp2_with fail
            refine Calls.mono HE.out ?_
            rintro e w1 ⟨x, rfl, h⟩
            have HB := hid h
            have H8 := hid (num_any 184 w1)
            clear h HE
            go_wp2_with (go_at_call 8; refine Calls.mono H8.out ?_; rintro e w2 ⟨rfl, rfl⟩)
            go_ret
            exact ⟨rfl, HB.out⟩
        · obtain rfl : j = n := by
            by_cases q : j = n
            · exact q
            · exact absurd ⟨by omega, by omega, by omega⟩ hcond
          have HE := hid (bne_any hps (by omega) hT hB hp (by omega) hBe)
          have hmany' : ¬ (16384 : Int) < (j : Int) := by omega
          have hmd : decide ((16384 : Int) < (j : Int)) = false := by simpa using hmany'
          have hjn : ¬ (j : Int) < (j : Int) := by omega
          clear hT hB hp hlen hBe hlong hcond hps
          generalize (glu ps).length = tl at *
          unfold BnE at HE
          go_wp2_with fail
          refine Calls.mono HE.out ?_
          rintro e w1 ⟨ba, bc, p, rfl, h⟩
          have H7 := hid h
          clear h HE
          go_wp2_with fail
          refine Calls.mono H7.out ?_
          rintro e w3 ⟨x, rfl, h⟩
          have H12 := hid h
          have H8 := hid (num_any 0 w3)
          clear h H7
          go_wp2_with (go_at_call 8; refine Calls.mono H8.out ?_; rintro e w2 ⟨rfl, rfl⟩)
          refine Calls.mono H12.out ?_
          rintro e w5 ⟨rfl, h⟩
          have HB := hid h
          have H8b := hid (num_any 181 w5)
          clear h H12
          go_wp2_with (go_at_call 8; refine Calls.mono H8b.out ?_; rintro e w2 ⟨rfl, rfl⟩)
          go_ret
          exact ⟨rfl, HB.out⟩

end Go.Proofs.YtoifmiloaefanaaDoor
