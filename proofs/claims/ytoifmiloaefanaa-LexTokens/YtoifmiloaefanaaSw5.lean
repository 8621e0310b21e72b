/-
  The Shelf: write: the walk.
-/
import Derived.Test.YtoifmiloaefanaaSw6
namespace Go.Proofs.Ytoifmiloaefanaa
open Go.RowKit

set_option maxRecDepth 100000 in
set_option maxHeartbeats 3000000 in
theorem write_walk (F : Wfix) (fa wa : Option Addr) (fc wm wc : Nat) (kv : Value) (w : World) (hfv : F.fv = .slice fa F.fs.length fc) (hsb : w.heap[F.s]? = some (.cells #[.int .i64 F.mk0, .int .i64 (F.T : Int), .bool false, F.fv, F.hv, kv, .slice wa wm wc] 36 (0, 0))) (h1 : W1 F 0 w) (hwm : wm = F.ys.length) (hxl : F.xs.length ≤ 2000) (hyl : F.ys.length ≤ 2000) (hfl : F.fs.length ≤ 3) (hT : F.T ≤ 1000000) (hnL : ∀ i (h : i < F.fs.length), F.fs[i].2.length ≤ 16384) (hvf : ∀ i (h : i < F.fs.length), ∃ a c, F.fs[i].1 = .slice a F.fs[i].2.length c ∧ F.fs[i].2.length ≤ c) (hxy : F.xs.length = F.ys.length) (hmk0 : F.mk0 ≤ 1000000000000) (PO : Ending → World → Prop)
    (hend : ∀ wr v, W2 F F.fs.length wr → PO (.returned v) ((wr.setCell ⟨F.s, 3, none⟩ (.slice none 0 0)).setCell ⟨F.s, 4, none⟩ (.slice none 0 0))) :
    Calls Try.prog 21 #[.pointer (some ⟨F.s, 0, none⟩)] w PO := by
  have HSB := hid hsb
  have H1 := hid h1
  have HN := hid hnL
  have HV := hid hvf
  have HEND := hid hend
  have k6 := shelf_cell hsb (i := 6) rfl
  have HFV := hid hfv
  obtain ⟨s, hs⟩ : ∃ s, s = F.s := ⟨_, rfl⟩
  rw [← hs] at k6 ⊢
  have Hs := hid hs
  obtain ⟨fm, hfm⟩ : ∃ fm, fm = F.fs.length := ⟨_, rfl⟩
  have Hfm := hid hfm
  obtain ⟨T, hTT⟩ : ∃ T, T = F.T := ⟨_, rfl⟩
  have HT := hid hTT
  have hTb : T ≤ 1000000 := by omega
  have hfmb : fm ≤ 3 := by omega
  clear hsb h1 hnL hvf hend hfv hs hfm hTT hT hfl
  go_enter Try.func21, Try.ntmps21
  go_wp2_with fail
  go_loopw [3, 4, 5] (fun iv _ _ wr => ∃ i : Nat, iv = .int .i64 (i : Int) ∧ W1 F i wr) (fun iv _ _ _ => fm - (intOf iv).toNat)
  case atStart => exact ⟨0, rfl, H1.out⟩
  case round =>
    clear H1
    obtain ⟨i, rfl, hW1⟩ := hrel
    have hW1' := hW1
    obtain ⟨κ', kv', wv', mk', pw, hst, hpw, hif, hps, hm0, hm1, hfr⟩ := hW1
    have sb := hst.sb
    rw [HFV.out, ← Hs.out, ← HT.out, ← Hfm.out] at sb
    have c3 := shelf_cell sb (i := 3) rfl
    have c1 := shelf_cell sb (i := 1) rfl
    by_cases q : i < fm
    · have q' : (i : Int) < (fm : Int) := by omega
      have hiF : i < F.fs.length := by have := Hfm.out; omega
      have frO := hst.fr.own
      rw [HFV.out] at frO
      obtain ⟨fg, hfa, hfg, ce, _⟩ := frO.at (by simp) i (by simpa using hiF)
      obtain ⟨a, c, hva, _⟩ := HV.out i hiF
      have hnb := HN.out i hiF
      rw [List.getElem_map, hva] at ce
      obtain ⟨n, hn⟩ : ∃ n, n = F.fs[i].2.length := ⟨_, rfl⟩
      rw [← hn] at ce hnb
      subst hfa
      obtain ⟨M1, hM1⟩ : ∃ M1, M1 = n + T := ⟨_, rfl⟩
      obtain ⟨M, hM⟩ : ∃ M, M = M1 + 70 := ⟨_, rfl⟩
      have hMb : M ≤ 1100000 := by omega
      have hwa : IntKind.i64.wrap ((n : Int) + (T : Int)) = (M1 : Int) := by rw [IntKind.wrap_i64]; omega
      have hwb : IntKind.i64.wrap ((M1 : Int) + 70) = (M : Int) := by rw [IntKind.wrap_i64]; omega
      have hmk := fun u => make_tok M (by omega) u
      have HST := hid (hst)
      have HK0 := hid (W1k.start (M := M) hst hfr)
      obtain ⟨TT, hTT⟩ : ∃ TT, TT = (flatT (List.replicate M tkZ)).toArray := ⟨_, rfl⟩
      simp only [← hTT] at hmk
      rw [← hTT] at HK0
      have HMM := hid hM
      have HMM1 := hid hM1
      have Hn := hid hn
      have HFR := hid hfr
      clear hTT hst hW1' frO hfr sb hM hM1 hn
      go_wp2_with fail
      go_region
      go_wp2_with fail
      obtain ⟨W0, hW0⟩ : ∃ W0, W0 = wr := ⟨_, rfl⟩
      subst hW0
      obtain ⟨qb, hqb⟩ : ∃ qb, qb = W0.heap.size := ⟨_, rfl⟩
      rw [← hqb] at HK0 ⊢
      have Hqb := hid hqb
      clear hqb c3 c1 ce hmk
      have hm1' : mk' ≤ 1000006000000 := by
        have := Hfm.out
        omega
      go_loopw [5] (fun kv wr => ∃ k : Nat, kv = .int .i64 (k : Int) ∧ W1k F i kv' wv' mk' pw qb M k wr) (fun kv _ => M - (intOf kv).toNat)
      case atStart => exact ⟨0, rfl, HK0.out⟩
      case round =>
        clear HK0
        obtain ⟨k, rfl, hWk⟩ := hrel
        have hWk' := hWk
        obtain ⟨κk, hstk, hkq, hBk, hkM, hfrk⟩ := hWk'
        have sbk := hstk.sb
        rw [HFV.out, ← Hs.out, ← HT.out, ← Hfm.out] at sbk
        by_cases qk : k < M
        · have qk' : (k : Int) < (M : Int) := by omega
          have d0 := shelf_cell sbk (i := 0) rfl
          have d0f : wr.frozen? ⟨s, 0, none⟩ = false := by simp [World.frozen?, sbk]
          obtain ⟨e0, e1, e2, e3⟩ := hBk.cell k (by rw [List.length_append, mkL_len, List.length_replicate]; omega)
          have fz : ∀ o, wr.frozen? ⟨qb, o, none⟩ = false := fun o => by unfold BlT at hBk; simp [World.frozen?, hBk]
          have f0 := fz (k * 4)
          have f1 := fz (k * 4 + 1)
          have f2 := fz (k * 4 + 2)
          have f3 := fz (k * 4 + 3)
          have hqs : qb ≠ s := fun e => by rw [e, Hs.out, hstk.ks] at hkq; omega
          have HNX := hid (hWk.step qk)
          rw [← Hs.out] at HNX
          generalize (mkL mk' k ++ List.replicate (M - k) tkZ)[k]'(by rw [List.length_append, mkL_len, List.length_replicate]; omega) = tt at *
          clear hWk hstk hBk hfrk sbk fz hkq
          obtain ⟨tk0', tx0', tn0', ta0'⟩ := tt
          simp only at e0 e1 e2 e3
          go_wp2_with fail
          exact ⟨⟨k + 1, by go_num, HNX.out⟩, by simp [intOf]; omega⟩
        · obtain rfl : k = M := by omega
          have qk' : ¬ (k : Int) < (k : Int) := by omega
          obtain ⟨w3, hcp, sb3, fr3, kv2, w4, hr4, ⟨ka2, kc2, hkv2⟩, sb4, fr4, h5⟩ := W1k.done hWk hpw hiF (by have := HMM.out; have := HMM1.out; have := Hn.out; have := HT.out; omega) (by omega) hps hm0 hm1 hxl hyl (by have := Hfm.out; omega) a c hva
          obtain ⟨w5, hw5⟩ : ∃ w5, w5 = w4.setCell ⟨s, 5, none⟩ kv2 := ⟨_, rfl⟩
          obtain ⟨sb5, fr5, wv2, w6, hr6, ⟨wa2, wc2, hwv2⟩, sb6, fr6, hfin⟩ := h5 w5 (by rw [hw5, Hs.out])
          rw [← Hn.out] at hcp hr4 hr6
          rw [HFV.out, ← Hs.out, ← HT.out, ← Hfm.out] at sb3 sb4 sb5 sb6
          rw [← Hs.out] at hfin
          have frk := hstk.fr.own
          rw [HFV.out] at frk fr3 fr4 fr5 fr6
          have cell : ∀ u, OwS F.B u (.slice (some ⟨fg, 0, none⟩) F.fs.length fc) (F.fs.map (·.1)) → u.cell? ⟨fg, i, none⟩ = some (.slice a n c) := fun u hu => by
            obtain ⟨g9, e9, _, ce, _⟩ := hu.at (by simp) i (by simpa using hiF)
            simp at e9
            subst e9
            rw [List.getElem_map, hva, ← Hn.out] at ce
            exact ce
          have dk3 := shelf_cell sbk (i := 3) rfl
          have dke := cell wr frk
          have HS11 : Hid (∀ u, (u = w3.drew ∨ u = (w3.alloc (.cells #[.slice a n c, .slice a n c] 23)).drew ∨ u = w4 ∨ u = w4.setCell ⟨s, 5, none⟩ kv2) → (u.cell? ⟨s, 3, none⟩ = some (.slice (some ⟨fg, 0, none⟩) fm fc) ∧ u.cell? ⟨fg, i, none⟩ = some (.slice a n c))) := fun u hu => by
            rcases hu with rfl | rfl | rfl | rfl
            · exact ⟨shelf_cell (u := w3) sb3 (i := 3) rfl, cell w3 fr3⟩
            · have hz3 : s < w3.heap.size := (Array.getElem?_eq_some_iff.1 sb3).1
              have hb9 := below1 w3 (.cells #[.slice a n c, .slice a n c] 23)
              refine ⟨shelf_cell (u := w3.alloc (.cells #[.slice a n c, .slice a n c] 23)) ((hb9.block s hz3).trans sb3) (i := 3) rfl, cell (w3.alloc (.cells #[.slice a n c, .slice a n c] 23)) (own_keep fr3 fun g hg => hb9.block g (own_blk fr3 hg).2.1)⟩
            · exact ⟨shelf_cell sb4 (i := 3) rfl, cell _ fr4⟩
            · rw [← hw5]
              exact ⟨shelf_cell sb5 (i := 3) rfl, cell _ fr5⟩
          have HS12 : Hid (∀ u, (u = w5.drew ∨ u = (w5.alloc (.cells #[.slice (some ⟨qb, 0, none⟩) n k, .slice (some ⟨qb, 0, none⟩) k k] 23)).drew ∨ u = w6 ∨ u = w6.setCell ⟨s, 6, none⟩ wv2) → (u.cell? ⟨s, 3, none⟩ = some (.slice (some ⟨fg, 0, none⟩) fm fc) ∧ u.cell? ⟨fg, i, none⟩ = some (.slice a n c))) := fun u hu => by
            rcases hu with rfl | rfl | rfl | rfl
            · exact ⟨shelf_cell (u := w5) sb5 (i := 3) rfl, cell w5 fr5⟩
            · have hz5 : s < w5.heap.size := (Array.getElem?_eq_some_iff.1 sb5).1
              have hb9 := below1 w5 (.cells #[.slice (some ⟨qb, 0, none⟩) n k, .slice (some ⟨qb, 0, none⟩) k k] 23)
              refine ⟨shelf_cell (u := w5.alloc (.cells #[.slice (some ⟨qb, 0, none⟩) n k, .slice (some ⟨qb, 0, none⟩) k k] 23)) ((hb9.block s hz5).trans sb5) (i := 3) rfl, cell (w5.alloc (.cells #[.slice (some ⟨qb, 0, none⟩) n k, .slice (some ⟨qb, 0, none⟩) k k] 23)) (own_keep fr5 fun g hg => hb9.block g (own_blk fr5 hg).2.1)⟩
            · exact ⟨shelf_cell sb6 (i := 3) rfl, cell _ fr6⟩
            · obtain ⟨_, _, _, _, _, hst9, _⟩ := hfin
              have sb9 := hst9.sb
              have fr9 := hst9.fr.own
              rw [HFV.out, ← Hs.out, ← HT.out, ← Hfm.out] at sb9
              rw [HFV.out] at fr9
              exact ⟨shelf_cell sb9 (i := 3) rfl, cell _ fr9⟩
          have y3 := shelf_cell sb3 (i := 5) rfl
          have y4 := shelf_cell sb4 (i := 5) rfl
          have y4f : w4.frozen? ⟨s, 5, none⟩ = false := by simp [World.frozen?, sb4]
          have y5 := shelf_cell sb5 (i := 6) rfl
          have y3b := shelf_cell (((below1 w3 (.cells #[.slice a n c, .slice a n c] 23)).block s (Array.getElem?_eq_some_iff.1 sb3).1).trans sb3) (i := 5) rfl
          have y5b := shelf_cell (((below1 w5 (.cells #[.slice (some ⟨qb, 0, none⟩) n k, .slice (some ⟨qb, 0, none⟩) k k] 23)).block s (Array.getElem?_eq_some_iff.1 sb5).1).trans sb5) (i := 6) rfl
          have y6 := shelf_cell sb6 (i := 6) rfl
          have y6f : w6.frozen? ⟨s, 6, none⟩ = false := by simp [World.frozen?, sb6]
          have HFIN := hid hfin
          have HW5 := hid hw5
          have hnk : (n : Int) ≤ (k : Int) := by have := HMM.out; have := HMM1.out; omega
          clear hWk hstk hBk hfrk sbk hkq sb3 fr3 sb4 fr4 h5 sb5 fr5 sb6 fr6 frk cell hfin hw5
          obtain ⟨kl, hkl⟩ : ∃ kl, kl = (F.xs ++ dpOf (F.fs.take i)).length + 2 := ⟨_, rfl⟩
          rw [← hkl] at hkv2
          obtain ⟨wl, hwl⟩ : ∃ wl, wl = (F.ys ++ zsOf F.fs pw).length + 2 := ⟨_, rfl⟩
          rw [← hwl] at hwv2
          clear hkl hwl
          subst hkv2 hwv2
          go_wp2_with fail
          refine wp_region_held_drew (S := (fun u => u.cell? ⟨s, 3, none⟩ = some (.slice (some ⟨fg, 0, none⟩) fm fc) ∧ u.cell? ⟨fg, i, none⟩ = some (.slice a n c))) (by kernel_rfl) (HS11.out _ (.inl rfl)) (fun hSS => ?_)
          refine wpAnyH_take (i := 0) (oi := ({ dst := some 67, op := Op.move (Operand.tmp 0), type := 33, pos := _, after := _, guard := none } : Oper)) (v := ?_) rfl (by kernel_rfl) (by kernel_rfl) (by kernel_rfl) (fun _ _ _ h => h) (Or.inl ⟨by rfl, ?_⟩) hSS ?_
          rotate_left
          · intro w9 hSw
            (try dsimp only at hSw)
            (try go_split_ands)
            first | (go_simp; done) | (go_simp; with_reducible rfl)
          try simp only [Act.put, List.setIfInBounds_toArray, List.set_cons_zero, List.set_cons_succ]
          refine wpAnyH_take (i := 1) (oi := ({ dst := some 68, op := Op.move (Operand.tmp 0), type := 33, pos := _, after := _, guard := none } : Oper)) (v := ?_) rfl (by kernel_rfl) (by kernel_rfl) (by kernel_rfl) (fun _ _ _ h => h) (Or.inl ⟨by rfl, ?_⟩) hSS ?_
          rotate_left
          · intro w9 hSw
            (try dsimp only at hSw)
            (try go_split_ands)
            first | (go_simp; done) | (go_simp; with_reducible rfl)
          try simp only [Act.put, List.setIfInBounds_toArray, List.set_cons_zero, List.set_cons_succ]
          refine wpAnyH_take (i := 2) (oi := ({ dst := some 69, op := Op.nilCheck (Operand.tmp 68), type := 0, pos := _, after := _, guard := none } : Oper)) (v := ?_) rfl (by kernel_rfl) (by kernel_rfl) (by kernel_rfl) (fun _ _ _ h => h) (Or.inl ⟨by rfl, ?_⟩) hSS ?_
          rotate_left
          · intro w9 hSw
            (try dsimp only at hSw)
            (try go_split_ands)
            first | (go_simp; done) | (go_simp; with_reducible rfl)
          try simp only [Act.put, List.setIfInBounds_toArray, List.set_cons_zero, List.set_cons_succ]
          refine wpAnyH_take (i := 3) (oi := ({ dst := some 70, op := Op.fieldAddr 36 (Operand.tmp 69) 5, type := 0, pos := _, after := _, guard := none } : Oper)) (v := ?_) rfl (by kernel_rfl) (by kernel_rfl) (by kernel_rfl) (fun _ _ _ h => h) (Or.inl ⟨by rfl, ?_⟩) hSS ?_
          rotate_left
          · intro w9 hSw
            (try dsimp only at hSw)
            (try go_split_ands)
            first | (go_simp; done) | (go_simp; with_reducible rfl)
          try simp only [Act.put, List.setIfInBounds_toArray, List.set_cons_zero, List.set_cons_succ]
          refine wpAnyH_take (i := 5) (oi := ({ dst := some 72, op := Op.move (Operand.tmp 0), type := 33, pos := _, after := _, guard := none } : Oper)) (v := ?_) rfl (by kernel_rfl) (by kernel_rfl) (by kernel_rfl) (fun _ _ _ h => h) (Or.inl ⟨by rfl, ?_⟩) hSS ?_
          rotate_left
          · intro w9 hSw
            (try dsimp only at hSw)
            (try go_split_ands)
            first | (go_simp; done) | (go_simp; with_reducible rfl)
          try simp only [Act.put, List.setIfInBounds_toArray, List.set_cons_zero, List.set_cons_succ]
          refine wpAnyH_take (i := 6) (oi := ({ dst := some 73, op := Op.nilCheck (Operand.tmp 72), type := 0, pos := _, after := _, guard := none } : Oper)) (v := ?_) rfl (by kernel_rfl) (by kernel_rfl) (by kernel_rfl) (fun _ _ _ h => h) (Or.inl ⟨by rfl, ?_⟩) hSS ?_
          rotate_left
          · intro w9 hSw
            (try dsimp only at hSw)
            (try go_split_ands)
            first | (go_simp; done) | (go_simp; with_reducible rfl)
          try simp only [Act.put, List.setIfInBounds_toArray, List.set_cons_zero, List.set_cons_succ]
          refine wpAnyH_take (i := 7) (oi := ({ dst := some 74, op := Op.fieldAddr 36 (Operand.tmp 73) 3, type := 0, pos := _, after := _, guard := none } : Oper)) (v := ?_) rfl (by kernel_rfl) (by kernel_rfl) (by kernel_rfl) (fun _ _ _ h => h) (Or.inl ⟨by rfl, ?_⟩) hSS ?_
          rotate_left
          · intro w9 hSw
            (try dsimp only at hSw)
            (try go_split_ands)
            first | (go_simp; done) | (go_simp; with_reducible rfl)
          try simp only [Act.put, List.setIfInBounds_toArray, List.set_cons_zero, List.set_cons_succ]
          refine wpAnyH_take (i := 8) (oi := ({ dst := some 75, op := Op.load 34 (Operand.tmp 74), type := 34, pos := _, after := _, guard := none } : Oper)) (v := ?_) rfl (by kernel_rfl) (by kernel_rfl) (by kernel_rfl) (fun _ _ _ h => h) (Or.inl ⟨by rfl, ?_⟩) hSS ?_
          rotate_left
          · intro w9 hSw
            (try dsimp only at hSw)
            (try go_split_ands)
            first | (go_simp; done) | (go_simp; with_reducible rfl)
          try simp only [Act.put, List.setIfInBounds_toArray, List.set_cons_zero, List.set_cons_succ]
          refine wpAnyH_take (i := 9) (oi := ({ dst := some 76, op := Op.move (Operand.tmp 3), type := 3, pos := _, after := _, guard := none } : Oper)) (v := ?_) rfl (by kernel_rfl) (by kernel_rfl) (by kernel_rfl) (fun _ _ _ h => h) (Or.inl ⟨by rfl, ?_⟩) hSS ?_
          rotate_left
          · intro w9 hSw
            (try dsimp only at hSw)
            (try go_split_ands)
            first | (go_simp; done) | (go_simp; with_reducible rfl)
          try simp only [Act.put, List.setIfInBounds_toArray, List.set_cons_zero, List.set_cons_succ]
          refine wpAnyH_take (i := 10) (oi := ({ dst := some 77, op := Op.indexAddr 34 (Operand.tmp 75) (Operand.tmp 76), type := 0, pos := _, after := _, guard := none } : Oper)) (v := ?_) rfl (by kernel_rfl) (by kernel_rfl) (by kernel_rfl) (fun _ _ _ h => h) (Or.inl ⟨by rfl, ?_⟩) hSS ?_
          rotate_left
          · intro w9 hSw
            (try dsimp only at hSw)
            (try go_split_ands)
            first | (go_simp; done) | (go_simp; with_reducible rfl)
          try simp only [Act.put, List.setIfInBounds_toArray, List.set_cons_zero, List.set_cons_succ]
          refine wpAnyH_take (i := 11) (oi := ({ dst := some 78, op := Op.load 23 (Operand.tmp 77), type := 23, pos := _, after := _, guard := none } : Oper)) (v := ?_) rfl (by kernel_rfl) (by kernel_rfl) (by kernel_rfl) (fun _ _ _ h => h) (Or.inl ⟨by rfl, ?_⟩) hSS ?_
          rotate_left
          · intro w9 hSw
            (try dsimp only at hSw)
            (try go_split_ands)
            first | (go_simp; done) | (go_simp; with_reducible rfl)
          try simp only [Act.put, List.setIfInBounds_toArray, List.set_cons_zero, List.set_cons_succ]
          refine wpAnyH_take (i := 12) (oi := ({ dst := some 79, op := Op.move (Operand.tmp 0), type := 33, pos := _, after := _, guard := none } : Oper)) (v := ?_) rfl (by kernel_rfl) (by kernel_rfl) (by kernel_rfl) (fun _ _ _ h => h) (Or.inl ⟨by rfl, ?_⟩) hSS ?_
          rotate_left
          · intro w9 hSw
            (try dsimp only at hSw)
            (try go_split_ands)
            first | (go_simp; done) | (go_simp; with_reducible rfl)
          try simp only [Act.put, List.setIfInBounds_toArray, List.set_cons_zero, List.set_cons_succ]
          refine wpAnyH_take (i := 13) (oi := ({ dst := some 80, op := Op.nilCheck (Operand.tmp 79), type := 0, pos := _, after := _, guard := none } : Oper)) (v := ?_) rfl (by kernel_rfl) (by kernel_rfl) (by kernel_rfl) (fun _ _ _ h => h) (Or.inl ⟨by rfl, ?_⟩) hSS ?_
          rotate_left
          · intro w9 hSw
            (try dsimp only at hSw)
            (try go_split_ands)
            first | (go_simp; done) | (go_simp; with_reducible rfl)
          try simp only [Act.put, List.setIfInBounds_toArray, List.set_cons_zero, List.set_cons_succ]
          refine wpAnyH_take (i := 14) (oi := ({ dst := some 81, op := Op.fieldAddr 36 (Operand.tmp 80) 3, type := 0, pos := _, after := _, guard := none } : Oper)) (v := ?_) rfl (by kernel_rfl) (by kernel_rfl) (by kernel_rfl) (fun _ _ _ h => h) (Or.inl ⟨by rfl, ?_⟩) hSS ?_
          rotate_left
          · intro w9 hSw
            (try dsimp only at hSw)
            (try go_split_ands)
            first | (go_simp; done) | (go_simp; with_reducible rfl)
          try simp only [Act.put, List.setIfInBounds_toArray, List.set_cons_zero, List.set_cons_succ]
          refine wpAnyH_take (i := 15) (oi := ({ dst := some 82, op := Op.load 34 (Operand.tmp 81), type := 34, pos := _, after := _, guard := none } : Oper)) (v := ?_) rfl (by kernel_rfl) (by kernel_rfl) (by kernel_rfl) (fun _ _ _ h => h) (Or.inl ⟨by rfl, ?_⟩) hSS ?_
          rotate_left
          · intro w9 hSw
            (try dsimp only at hSw)
            (try go_split_ands)
            first | (go_simp; done) | (go_simp; with_reducible rfl)
          try simp only [Act.put, List.setIfInBounds_toArray, List.set_cons_zero, List.set_cons_succ]
          refine wpAnyH_take (i := 16) (oi := ({ dst := some 83, op := Op.move (Operand.tmp 3), type := 3, pos := _, after := _, guard := none } : Oper)) (v := ?_) rfl (by kernel_rfl) (by kernel_rfl) (by kernel_rfl) (fun _ _ _ h => h) (Or.inl ⟨by rfl, ?_⟩) hSS ?_
          rotate_left
          · intro w9 hSw
            (try dsimp only at hSw)
            (try go_split_ands)
            first | (go_simp; done) | (go_simp; with_reducible rfl)
          try simp only [Act.put, List.setIfInBounds_toArray, List.set_cons_zero, List.set_cons_succ]
          refine wpAnyH_take (i := 17) (oi := ({ dst := some 84, op := Op.indexAddr 34 (Operand.tmp 82) (Operand.tmp 83), type := 0, pos := _, after := _, guard := none } : Oper)) (v := ?_) rfl (by kernel_rfl) (by kernel_rfl) (by kernel_rfl) (fun _ _ _ h => h) (Or.inl ⟨by rfl, ?_⟩) hSS ?_
          rotate_left
          · intro w9 hSw
            (try dsimp only at hSw)
            (try go_split_ands)
            first | (go_simp; done) | (go_simp; with_reducible rfl)
          try simp only [Act.put, List.setIfInBounds_toArray, List.set_cons_zero, List.set_cons_succ]
          refine wpAnyH_take (i := 18) (oi := ({ dst := some 85, op := Op.load 23 (Operand.tmp 84), type := 23, pos := _, after := _, guard := none } : Oper)) (v := ?_) rfl (by kernel_rfl) (by kernel_rfl) (by kernel_rfl) (fun _ _ _ h => h) (Or.inl ⟨by rfl, ?_⟩) hSS ?_
          rotate_left
          · intro w9 hSw
            (try dsimp only at hSw)
            (try go_split_ands)
            first | (go_simp; done) | (go_simp; with_reducible rfl)
          try simp only [Act.put, List.setIfInBounds_toArray, List.set_cons_zero, List.set_cons_succ]
          refine wpAnyH_ready (rs := [4, 19]) (by kernel_rfl) (by simp) (AllReadyH.cons (o := ({ dst := some 71, op := Op.load 34 (Operand.tmp 70), type := 34, pos := _, after := _, guard := none } : Oper)) rfl (fun K9 hK9 => ?_) (AllReadyH.cons (o := ({ dst := some 86, op := Op.buildSlice 34 2 #[(0, Operand.tmp 78), (1, Operand.tmp 85)], type := 34, pos := _, after := _, guard := none } : Oper)) rfl (fun K9 hK9 => ?_) AllReadyH.nil))
          go_simp
          refine hK9.out _ _ (HS11.out _ (.inl rfl)) (fun hSS => ?_)
          clear hK9 K9
          try simp only [Act.put, List.setIfInBounds_toArray, List.set_cons_zero, List.set_cons_succ]
          refine wpAnyH_ready (rs := [19]) (by kernel_rfl) (by simp) (AllReadyH.cons (o := ({ dst := some 86, op := Op.buildSlice 34 2 #[(0, Operand.tmp 78), (1, Operand.tmp 85)], type := 34, pos := _, after := _, guard := none } : Oper)) rfl (fun K9 hK9 => ?_) AllReadyH.nil)
          go_simp
          refine hK9.out _ _ (HS11.out _ (.inr (.inl rfl))) (fun hSS => ?_)
          clear hK9 K9
          try simp only [Act.put, List.setIfInBounds_toArray, List.set_cons_zero, List.set_cons_succ]
          rotate_left
          go_simp
          refine hK9.out _ _ (HS11.out _ (.inr (.inl rfl))) (fun hSS => ?_)
          clear hK9 K9
          try simp only [Act.put, List.setIfInBounds_toArray, List.set_cons_zero, List.set_cons_succ]
          refine wpAnyH_ready (rs := [4]) (by kernel_rfl) (by simp) (AllReadyH.cons (o := ({ dst := some 71, op := Op.load 34 (Operand.tmp 70), type := 34, pos := _, after := _, guard := none } : Oper)) rfl (fun K9 hK9 => ?_) AllReadyH.nil)
          go_simp
          refine hK9.out _ _ (HS11.out _ (.inr (.inl rfl))) (fun hSS => ?_)
          clear hK9 K9
          try simp only [Act.put, List.setIfInBounds_toArray, List.set_cons_zero, List.set_cons_succ]
          all_goals
            refine wpAnyH_ready (rs := [20]) (by kernel_rfl) (by simp) (AllReadyH.cons (o := ({ dst := some 87, op := Op.call { callee := Callee.builtin Builtin.append, args := #[Operand.tmp 71, Operand.tmp 86], argTypes := #[34, 34] }, type := 34, pos := _, after := _, guard := none } : Oper)) rfl (fun K9 hK9 => ?_) AllReadyH.nil)
            refine step_append_run rfl _ _ _ _ (by rfl) _ _ (by rfl) (by rfl) _ _ (by exact hr4) ?_
            refine hK9.out _ _ (HS11.out _ (.inr (.inr (.inl rfl)))) (fun hSS => ?_)
            clear hK9 K9
            try simp only [Act.put, List.setIfInBounds_toArray, List.set_cons_zero, List.set_cons_succ]
            refine wpAnyH_take (i := 21) (oi := ({ dst := some 88, op := Op.nilCheck (Operand.tmp 67), type := 0, pos := _, after := _, guard := none } : Oper)) (v := ?_) rfl (by kernel_rfl) (by kernel_rfl) (by kernel_rfl) (fun _ _ _ h => h) (Or.inl ⟨by rfl, ?_⟩) hSS ?_
            rotate_left
            · intro w9 hSw
              (try dsimp only at hSw)
              (try go_split_ands)
              first | (go_simp; done) | (go_simp; with_reducible rfl)
            try simp only [Act.put, List.setIfInBounds_toArray, List.set_cons_zero, List.set_cons_succ]
            refine wpAnyH_take (i := 22) (oi := ({ dst := some 89, op := Op.fieldAddr 36 (Operand.tmp 88) 5, type := 0, pos := _, after := _, guard := none } : Oper)) (v := ?_) rfl (by kernel_rfl) (by kernel_rfl) (by kernel_rfl) (fun _ _ _ h => h) (Or.inl ⟨by rfl, ?_⟩) hSS ?_
            rotate_left
            · intro w9 hSw
              (try dsimp only at hSw)
              (try go_split_ands)
              first | (go_simp; done) | (go_simp; with_reducible rfl)
            try simp only [Act.put, List.setIfInBounds_toArray, List.set_cons_zero, List.set_cons_succ]
            refine wpAnyH_ready (rs := [23]) (by kernel_rfl) (by simp) (AllReadyH.cons (o := ({ dst := none, op := Op.store 34 (Operand.tmp 89) (Operand.tmp 87), type := 0, pos := _, after := _, guard := none } : Oper)) rfl (fun K9 hK9 => ?_) AllReadyH.nil)
            go_simp
            refine hK9.out _ _ (HS11.out _ (.inr (.inr (.inr rfl)))) (fun hSS => ?_)
            clear hK9 K9
            try simp only [Act.put, List.setIfInBounds_toArray, List.set_cons_zero, List.set_cons_succ]
            refine wpAnyH_done (by kernel_rfl) ?_ _
            go_wp2_with fail
            rw [← HW5.out]
            clear HS11 y3 y3b y4 y4f hr4
            refine wp_region_held_drew (S := (fun u => u.cell? ⟨s, 3, none⟩ = some (.slice (some ⟨fg, 0, none⟩) fm fc) ∧ u.cell? ⟨fg, i, none⟩ = some (.slice a n c))) (by kernel_rfl) (HS12.out _ (.inl rfl)) (fun hSS => ?_)
            refine wpAnyH_take (i := 0) (oi := ({ dst := some 90, op := Op.move (Operand.tmp 0), type := 33, pos := _, after := _, guard := none } : Oper)) (v := ?_) rfl (by kernel_rfl) (by kernel_rfl) (by kernel_rfl) (fun _ _ _ h => h) (Or.inl ⟨by rfl, ?_⟩) hSS ?_
            rotate_left
            · intro w9 hSw
              (try dsimp only at hSw)
              (try go_split_ands)
              first | (go_simp; done) | (go_simp; with_reducible rfl)
            try simp only [Act.put, List.setIfInBounds_toArray, List.set_cons_zero, List.set_cons_succ]
            refine wpAnyH_take (i := 1) (oi := ({ dst := some 91, op := Op.move (Operand.tmp 0), type := 33, pos := _, after := _, guard := none } : Oper)) (v := ?_) rfl (by kernel_rfl) (by kernel_rfl) (by kernel_rfl) (fun _ _ _ h => h) (Or.inl ⟨by rfl, ?_⟩) hSS ?_
            rotate_left
            · intro w9 hSw
              (try dsimp only at hSw)
              (try go_split_ands)
              first | (go_simp; done) | (go_simp; with_reducible rfl)
            try simp only [Act.put, List.setIfInBounds_toArray, List.set_cons_zero, List.set_cons_succ]
            refine wpAnyH_take (i := 2) (oi := ({ dst := some 92, op := Op.nilCheck (Operand.tmp 91), type := 0, pos := _, after := _, guard := none } : Oper)) (v := ?_) rfl (by kernel_rfl) (by kernel_rfl) (by kernel_rfl) (fun _ _ _ h => h) (Or.inl ⟨by rfl, ?_⟩) hSS ?_
            rotate_left
            · intro w9 hSw
              (try dsimp only at hSw)
              (try go_split_ands)
              first | (go_simp; done) | (go_simp; with_reducible rfl)
            try simp only [Act.put, List.setIfInBounds_toArray, List.set_cons_zero, List.set_cons_succ]
            refine wpAnyH_take (i := 3) (oi := ({ dst := some 93, op := Op.fieldAddr 36 (Operand.tmp 92) 6, type := 0, pos := _, after := _, guard := none } : Oper)) (v := ?_) rfl (by kernel_rfl) (by kernel_rfl) (by kernel_rfl) (fun _ _ _ h => h) (Or.inl ⟨by rfl, ?_⟩) hSS ?_
            rotate_left
            · intro w9 hSw
              (try dsimp only at hSw)
              (try go_split_ands)
              first | (go_simp; done) | (go_simp; with_reducible rfl)
            try simp only [Act.put, List.setIfInBounds_toArray, List.set_cons_zero, List.set_cons_succ]
            refine wpAnyH_take (i := 5) (oi := ({ dst := some 95, op := Op.move (Operand.tmp 4), type := 23, pos := _, after := _, guard := none } : Oper)) (v := ?_) rfl (by kernel_rfl) (by kernel_rfl) (by kernel_rfl) (fun _ _ _ h => h) (Or.inl ⟨by rfl, ?_⟩) hSS ?_
            rotate_left
            · intro w9 hSw
              (try dsimp only at hSw)
              (try go_split_ands)
              first | (go_simp; done) | (go_simp; with_reducible rfl)
            try simp only [Act.put, List.setIfInBounds_toArray, List.set_cons_zero, List.set_cons_succ]
            refine wpAnyH_take (i := 6) (oi := ({ dst := some 96, op := Op.move (Operand.tmp 0), type := 33, pos := _, after := _, guard := none } : Oper)) (v := ?_) rfl (by kernel_rfl) (by kernel_rfl) (by kernel_rfl) (fun _ _ _ h => h) (Or.inl ⟨by rfl, ?_⟩) hSS ?_
            rotate_left
            · intro w9 hSw
              (try dsimp only at hSw)
              (try go_split_ands)
              first | (go_simp; done) | (go_simp; with_reducible rfl)
            try simp only [Act.put, List.setIfInBounds_toArray, List.set_cons_zero, List.set_cons_succ]
            refine wpAnyH_take (i := 7) (oi := ({ dst := some 97, op := Op.nilCheck (Operand.tmp 96), type := 0, pos := _, after := _, guard := none } : Oper)) (v := ?_) rfl (by kernel_rfl) (by kernel_rfl) (by kernel_rfl) (fun _ _ _ h => h) (Or.inl ⟨by rfl, ?_⟩) hSS ?_
            rotate_left
            · intro w9 hSw
              (try dsimp only at hSw)
              (try go_split_ands)
              first | (go_simp; done) | (go_simp; with_reducible rfl)
            try simp only [Act.put, List.setIfInBounds_toArray, List.set_cons_zero, List.set_cons_succ]
            refine wpAnyH_take (i := 8) (oi := ({ dst := some 98, op := Op.fieldAddr 36 (Operand.tmp 97) 3, type := 0, pos := _, after := _, guard := none } : Oper)) (v := ?_) rfl (by kernel_rfl) (by kernel_rfl) (by kernel_rfl) (fun _ _ _ h => h) (Or.inl ⟨by rfl, ?_⟩) hSS ?_
            rotate_left
            · intro w9 hSw
              (try dsimp only at hSw)
              (try go_split_ands)
              first | (go_simp; done) | (go_simp; with_reducible rfl)
            try simp only [Act.put, List.setIfInBounds_toArray, List.set_cons_zero, List.set_cons_succ]
            refine wpAnyH_take (i := 9) (oi := ({ dst := some 99, op := Op.load 34 (Operand.tmp 98), type := 34, pos := _, after := _, guard := none } : Oper)) (v := ?_) rfl (by kernel_rfl) (by kernel_rfl) (by kernel_rfl) (fun _ _ _ h => h) (Or.inl ⟨by rfl, ?_⟩) hSS ?_
            rotate_left
            · intro w9 hSw
              (try dsimp only at hSw)
              (try go_split_ands)
              first | (go_simp; done) | (go_simp; with_reducible rfl)
            try simp only [Act.put, List.setIfInBounds_toArray, List.set_cons_zero, List.set_cons_succ]
            refine wpAnyH_take (i := 10) (oi := ({ dst := some 100, op := Op.move (Operand.tmp 3), type := 3, pos := _, after := _, guard := none } : Oper)) (v := ?_) rfl (by kernel_rfl) (by kernel_rfl) (by kernel_rfl) (fun _ _ _ h => h) (Or.inl ⟨by rfl, ?_⟩) hSS ?_
            rotate_left
            · intro w9 hSw
              (try dsimp only at hSw)
              (try go_split_ands)
              first | (go_simp; done) | (go_simp; with_reducible rfl)
            try simp only [Act.put, List.setIfInBounds_toArray, List.set_cons_zero, List.set_cons_succ]
            refine wpAnyH_take (i := 11) (oi := ({ dst := some 101, op := Op.indexAddr 34 (Operand.tmp 99) (Operand.tmp 100), type := 0, pos := _, after := _, guard := none } : Oper)) (v := ?_) rfl (by kernel_rfl) (by kernel_rfl) (by kernel_rfl) (fun _ _ _ h => h) (Or.inl ⟨by rfl, ?_⟩) hSS ?_
            rotate_left
            · intro w9 hSw
              (try dsimp only at hSw)
              (try go_split_ands)
              first | (go_simp; done) | (go_simp; with_reducible rfl)
            try simp only [Act.put, List.setIfInBounds_toArray, List.set_cons_zero, List.set_cons_succ]
            refine wpAnyH_take (i := 12) (oi := ({ dst := some 102, op := Op.load 23 (Operand.tmp 101), type := 23, pos := _, after := _, guard := none } : Oper)) (v := ?_) rfl (by kernel_rfl) (by kernel_rfl) (by kernel_rfl) (fun _ _ _ h => h) (Or.inl ⟨by rfl, ?_⟩) hSS ?_
            rotate_left
            · intro w9 hSw
              (try dsimp only at hSw)
              (try go_split_ands)
              first | (go_simp; done) | (go_simp; with_reducible rfl)
            try simp only [Act.put, List.setIfInBounds_toArray, List.set_cons_zero, List.set_cons_succ]
            refine wpAnyH_take (i := 13) (oi := ({ dst := some 103, op := Op.call { callee := Callee.builtin Builtin.len, args := #[Operand.tmp 102], argTypes := #[23] }, type := 3, pos := _, after := _, guard := none } : Oper)) (v := ?_) rfl (by kernel_rfl) (by kernel_rfl) (by kernel_rfl) (fun _ _ _ h => h) (Or.inl ⟨by rfl, ?_⟩) hSS ?_
            rotate_left
            · intro w9 hSw
              (try dsimp only at hSw)
              (try go_split_ands)
              first | (go_simp; done) | (go_simp; with_reducible rfl)
            try simp only [Act.put, List.setIfInBounds_toArray, List.set_cons_zero, List.set_cons_succ]
            refine wpAnyH_take (i := 14) (oi := ({ dst := some 104, op := Op.slice 23 (Operand.tmp 95) none (some (Operand.tmp 103)) none, type := 23, pos := _, after := _, guard := none } : Oper)) (v := ?_) rfl (by kernel_rfl) (by kernel_rfl) (by kernel_rfl) (fun _ _ _ h => h) (Or.inl ⟨by rfl, ?_⟩) hSS ?_
            rotate_left
            · intro w9 hSw
              (try dsimp only at hSw)
              (try go_split_ands)
              first | (go_simp; done) | (go_simp; with_reducible rfl)
            try simp only [Act.put, List.setIfInBounds_toArray, List.set_cons_zero, List.set_cons_succ]
            refine wpAnyH_take (i := 15) (oi := ({ dst := some 105, op := Op.move (Operand.tmp 4), type := 23, pos := _, after := _, guard := none } : Oper)) (v := ?_) rfl (by kernel_rfl) (by kernel_rfl) (by kernel_rfl) (fun _ _ _ h => h) (Or.inl ⟨by rfl, ?_⟩) hSS ?_
            rotate_left
            · intro w9 hSw
              (try dsimp only at hSw)
              (try go_split_ands)
              first | (go_simp; done) | (go_simp; with_reducible rfl)
            try simp only [Act.put, List.setIfInBounds_toArray, List.set_cons_zero, List.set_cons_succ]
            refine wpAnyH_ready (rs := [4, 16]) (by kernel_rfl) (by simp) (AllReadyH.cons (o := ({ dst := some 94, op := Op.load 34 (Operand.tmp 93), type := 34, pos := _, after := _, guard := none } : Oper)) rfl (fun K9 hK9 => ?_) (AllReadyH.cons (o := ({ dst := some 106, op := Op.buildSlice 34 2 #[(0, Operand.tmp 104), (1, Operand.tmp 105)], type := 34, pos := _, after := _, guard := none } : Oper)) rfl (fun K9 hK9 => ?_) AllReadyH.nil))
            go_simp
            refine hK9.out _ _ (HS12.out _ (.inl rfl)) (fun hSS => ?_)
            clear hK9 K9
            try simp only [Act.put, List.setIfInBounds_toArray, List.set_cons_zero, List.set_cons_succ]
            refine wpAnyH_ready (rs := [16]) (by kernel_rfl) (by simp) (AllReadyH.cons (o := ({ dst := some 106, op := Op.buildSlice 34 2 #[(0, Operand.tmp 104), (1, Operand.tmp 105)], type := 34, pos := _, after := _, guard := none } : Oper)) rfl (fun K9 hK9 => ?_) AllReadyH.nil)
            go_simp
            refine hK9.out _ _ (HS12.out _ (.inr (.inl rfl))) (fun hSS => ?_)
            clear hK9 K9
            try simp only [Act.put, List.setIfInBounds_toArray, List.set_cons_zero, List.set_cons_succ]
            rotate_left
            go_simp
            refine hK9.out _ _ (HS12.out _ (.inr (.inl rfl))) (fun hSS => ?_)
            clear hK9 K9
            try simp only [Act.put, List.setIfInBounds_toArray, List.set_cons_zero, List.set_cons_succ]
            refine wpAnyH_ready (rs := [4]) (by kernel_rfl) (by simp) (AllReadyH.cons (o := ({ dst := some 94, op := Op.load 34 (Operand.tmp 93), type := 34, pos := _, after := _, guard := none } : Oper)) rfl (fun K9 hK9 => ?_) AllReadyH.nil)
            go_simp
            refine hK9.out _ _ (HS12.out _ (.inr (.inl rfl))) (fun hSS => ?_)
            clear hK9 K9
            try simp only [Act.put, List.setIfInBounds_toArray, List.set_cons_zero, List.set_cons_succ]
            all_goals
              refine wpAnyH_ready (rs := [17]) (by kernel_rfl) (by simp) (AllReadyH.cons (o := ({ dst := some 107, op := Op.call { callee := Callee.builtin Builtin.append, args := #[Operand.tmp 94, Operand.tmp 106], argTypes := #[34, 34] }, type := 34, pos := _, after := _, guard := none } : Oper)) rfl (fun K9 hK9 => ?_) AllReadyH.nil)
              refine step_append_run rfl _ _ _ _ (by rfl) _ _ (by rfl) (by rfl) _ _ (by exact hr6) ?_
              refine hK9.out _ _ (HS12.out _ (.inr (.inr (.inl rfl)))) (fun hSS => ?_)
              clear hK9 K9
              try simp only [Act.put, List.setIfInBounds_toArray, List.set_cons_zero, List.set_cons_succ]
              refine wpAnyH_take (i := 18) (oi := ({ dst := some 108, op := Op.nilCheck (Operand.tmp 90), type := 0, pos := _, after := _, guard := none } : Oper)) (v := ?_) rfl (by kernel_rfl) (by kernel_rfl) (by kernel_rfl) (fun _ _ _ h => h) (Or.inl ⟨by rfl, ?_⟩) hSS ?_
              rotate_left
              · intro w9 hSw
                (try dsimp only at hSw)
                (try go_split_ands)
                first | (go_simp; done) | (go_simp; with_reducible rfl)
              try simp only [Act.put, List.setIfInBounds_toArray, List.set_cons_zero, List.set_cons_succ]
              refine wpAnyH_take (i := 19) (oi := ({ dst := some 109, op := Op.fieldAddr 36 (Operand.tmp 108) 6, type := 0, pos := _, after := _, guard := none } : Oper)) (v := ?_) rfl (by kernel_rfl) (by kernel_rfl) (by kernel_rfl) (fun _ _ _ h => h) (Or.inl ⟨by rfl, ?_⟩) hSS ?_
              rotate_left
              · intro w9 hSw
                (try dsimp only at hSw)
                (try go_split_ands)
                first | (go_simp; done) | (go_simp; with_reducible rfl)
              try simp only [Act.put, List.setIfInBounds_toArray, List.set_cons_zero, List.set_cons_succ]
              refine wpAnyH_ready (rs := [20]) (by kernel_rfl) (by simp) (AllReadyH.cons (o := ({ dst := none, op := Op.store 34 (Operand.tmp 109) (Operand.tmp 107), type := 0, pos := _, after := _, guard := none } : Oper)) rfl (fun K9 hK9 => ?_) AllReadyH.nil)
              go_simp
              refine hK9.out _ _ (HS12.out _ (.inr (.inr (.inr rfl)))) (fun hSS => ?_)
              clear hK9 K9
              try simp only [Act.put, List.setIfInBounds_toArray, List.set_cons_zero, List.set_cons_succ]
              refine wpAnyH_done (by kernel_rfl) ?_ _
              go_wp2_with fail
              exact ⟨⟨i + 1, by go_num, HFIN.out⟩, by simp [intOf]; omega⟩
    · obtain rfl : i = fm := by
        have := Hfm.out
        omega
      have q' : ¬ (i : Int) < (i : Int) := by omega
      have H2 : Hid (W2 F 0 wr) := W2.start (by rw [← Hfm.out]; exact hW1')
      obtain ⟨xl, hxlE⟩ : ∃ xl, xl = F.xs.length := ⟨_, rfl⟩
      have hyE : F.ys.length = xl := by rw [hxlE, hxy]
      have HX := hid hxlE
      have HY := hid hyE
      (try rw [hyE])
      have hxb : xl ≤ 2000 := by omega
      clear hW1' hst hps hfr hm0 hm1 hpw hif sb c1 hxlE hyE hxy hxl hyl
      go_wp2_with fail
      go_loopw [6] (fun rv wr => ∃ p b : Nat, rv = .int .i64 (((xl + 2 * p + b : Nat)) : Int) ∧ b ≤ 1 ∧ p + b ≤ i ∧ W2 F p wr) (fun rv _ => xl + 2 * i - (intOf rv).toNat)
      case atStart => exact ⟨0, 0, by simp, by omega, by omega, H2.out⟩
      case round =>
        clear H2
        obtain ⟨p, b, rfl, hb1, hpb, hW2⟩ := hrel
        by_cases qp : p < i
        · have hpF : p < F.fs.length := by have := Hfm.out; omega
          obtain ⟨mk2, kg, wg, kc, wc, q, n, M, c, a, hA, hev, v', w1, hrun, ⟨a', c', hv'⟩, ⟨hcw, hcf⟩, hod, hb1s, hb1w⟩ := hW2.at hpF (by have := HT.out; omega) HN.out HV.out
          have sb := hA.sb
          rw [HFV.out, ← Hs.out, ← HT.out, ← Hfm.out, ← HX.out, HY.out] at sb
          obtain ⟨kn, hkn⟩ : ∃ kn, kn = xl + 2 * i := ⟨_, rfl⟩
          rw [← hkn] at sb
          obtain ⟨r, hr⟩ : ∃ r, r = xl + 2 * p + b := ⟨_, rfl⟩
          rw [← hr]
          have hrk : (r : Int) < (kn : Int) := by omega
          have hrb : r ≤ 4000 := by omega
          have c5 := shelf_cell sb (i := 5) rfl
          have c6 := shelf_cell sb (i := 6) rfl
          have hMb := hA.Mb
          have hnM : (n : Int) ≤ (M : Int) := by have := hA.nM; omega
          have hMne : ¬ M = n := by have := hA.nM; omega
          rcases (show b = 0 ∨ b = 1 by omega) with rfl | rfl
          · have ek := hA.k0
            have ew := hA.w0
            have ef := hA.kf r
            rw [← HX.out, show xl + 2 * p = r by omega] at ek
            rw [HY.out, show xl + 2 * p = r by omega] at ew
            rw [← HX.out, show xl + 2 * p = r by omega] at hev
            have hre := append_none wr.drew 23 a n c ⟨q, n * 4, none⟩ (M - n) hA.nc
            have HSE : Hid (∀ u, (u = wr.drew ∨ u = wr.drew.setCell ⟨kg, r, none⟩ (.slice a n c)) → (u.cell? ⟨s, 5, none⟩ = some (.slice (some ⟨kg, 0, none⟩) kn kc) ∧ u.cell? ⟨s, 6, none⟩ = some (.slice (some ⟨wg, 0, none⟩) kn wc) ∧ u.cell? ⟨wg, r, none⟩ = some (.slice (some ⟨q, 0, none⟩) n M) ∧ u.cell? ⟨kg, r, none⟩ = some (.slice a n c) ∧ u.frozen? ⟨kg, r, none⟩ = false)) := fun u hu => by
              rcases hu with rfl | rfl
              · exact ⟨c5, c6, ew, ek, ef⟩
              · have b9 : But (fun g => g = kg) wr.drew (wr.drew.setCell ⟨kg, r, none⟩ (.slice a n c)) := set_but _ _ _ _ rfl
                have gs := hA.gs
                have gw := hA.gw
                refine ⟨?_, ?_, ?_, ?_, ?_⟩
                · rw [b9.cell (p := ⟨s, 5, none⟩) (by show s < wr.heap.size; rw [Hs.out]; exact hA.sl) (by show ¬ s = kg; rw [Hs.out]; exact fun e => gs e.symm)]; exact c5
                · rw [b9.cell (p := ⟨s, 6, none⟩) (by show s < wr.heap.size; rw [Hs.out]; exact hA.sl) (by show ¬ s = kg; rw [Hs.out]; exact fun e => gs e.symm)]; exact c6
                · rw [b9.cell (p := ⟨wg, r, none⟩) hA.wl (by show ¬ wg = kg; exact fun e => gw e.symm)]; exact ew
                · have := set_at (w := wr.drew) (g := kg) (r := r) (x := .slice a n c) (u := .slice a n c) ek; exact this
                · rw [frozen_set]; exact ef
            have HEV := hid hev
            have Hr := hid hr
            have Hkn := hid hkn
            clear hW2 hA hev hod hrun hb1s hb1w hcw hcf hv' sb hr hkn
            go_wp2_with fail
            refine wp_region_held_drew (S := (fun u => u.cell? ⟨s, 5, none⟩ = some (.slice (some ⟨kg, 0, none⟩) kn kc) ∧ u.cell? ⟨s, 6, none⟩ = some (.slice (some ⟨wg, 0, none⟩) kn wc) ∧ u.cell? ⟨wg, r, none⟩ = some (.slice (some ⟨q, 0, none⟩) n M) ∧ u.cell? ⟨kg, r, none⟩ = some (.slice a n c) ∧ u.frozen? ⟨kg, r, none⟩ = false)) (by kernel_rfl) (HSE.out _ (.inl rfl)) (fun hSS => ?_)
            refine wpAnyH_take (i := 0) (oi := ({ dst := some 120, op := Op.move (Operand.tmp 0), type := 33, pos := _, after := _, guard := none } : Oper)) (v := ?_) rfl (by kernel_rfl) (by kernel_rfl) (by kernel_rfl) (fun _ _ _ h => h) (Or.inl ⟨by rfl, ?_⟩) hSS ?_
            rotate_left
            · intro w9 hSw
              (try dsimp only at hSw)
              (try go_split_ands)
              first | (go_simp; done) | (go_simp; with_reducible rfl)
            try simp only [Act.put, List.setIfInBounds_toArray, List.set_cons_zero, List.set_cons_succ]
            refine wpAnyH_take (i := 1) (oi := ({ dst := some 121, op := Op.nilCheck (Operand.tmp 120), type := 0, pos := _, after := _, guard := none } : Oper)) (v := ?_) rfl (by kernel_rfl) (by kernel_rfl) (by kernel_rfl) (fun _ _ _ h => h) (Or.inl ⟨by rfl, ?_⟩) hSS ?_
            rotate_left
            · intro w9 hSw
              (try dsimp only at hSw)
              (try go_split_ands)
              first | (go_simp; done) | (go_simp; with_reducible rfl)
            try simp only [Act.put, List.setIfInBounds_toArray, List.set_cons_zero, List.set_cons_succ]
            refine wpAnyH_take (i := 2) (oi := ({ dst := some 122, op := Op.fieldAddr 36 (Operand.tmp 121) 5, type := 0, pos := _, after := _, guard := none } : Oper)) (v := ?_) rfl (by kernel_rfl) (by kernel_rfl) (by kernel_rfl) (fun _ _ _ h => h) (Or.inl ⟨by rfl, ?_⟩) hSS ?_
            rotate_left
            · intro w9 hSw
              (try dsimp only at hSw)
              (try go_split_ands)
              first | (go_simp; done) | (go_simp; with_reducible rfl)
            try simp only [Act.put, List.setIfInBounds_toArray, List.set_cons_zero, List.set_cons_succ]
            refine wpAnyH_take (i := 3) (oi := ({ dst := some 123, op := Op.load 34 (Operand.tmp 122), type := 34, pos := _, after := _, guard := none } : Oper)) (v := ?_) rfl (by kernel_rfl) (by kernel_rfl) (by kernel_rfl) (fun _ _ _ h => h) (Or.inl ⟨by rfl, ?_⟩) hSS ?_
            rotate_left
            · intro w9 hSw
              (try dsimp only at hSw)
              (try go_split_ands)
              first | (go_simp; done) | (go_simp; with_reducible rfl)
            try simp only [Act.put, List.setIfInBounds_toArray, List.set_cons_zero, List.set_cons_succ]
            refine wpAnyH_take (i := 4) (oi := ({ dst := some 124, op := Op.move (Operand.tmp 6), type := 3, pos := _, after := _, guard := none } : Oper)) (v := ?_) rfl (by kernel_rfl) (by kernel_rfl) (by kernel_rfl) (fun _ _ _ h => h) (Or.inl ⟨by rfl, ?_⟩) hSS ?_
            rotate_left
            · intro w9 hSw
              (try dsimp only at hSw)
              (try go_split_ands)
              first | (go_simp; done) | (go_simp; with_reducible rfl)
            try simp only [Act.put, List.setIfInBounds_toArray, List.set_cons_zero, List.set_cons_succ]
            refine wpAnyH_take (i := 5) (oi := ({ dst := some 125, op := Op.move (Operand.tmp 0), type := 33, pos := _, after := _, guard := none } : Oper)) (v := ?_) rfl (by kernel_rfl) (by kernel_rfl) (by kernel_rfl) (fun _ _ _ h => h) (Or.inl ⟨by rfl, ?_⟩) hSS ?_
            rotate_left
            · intro w9 hSw
              (try dsimp only at hSw)
              (try go_split_ands)
              first | (go_simp; done) | (go_simp; with_reducible rfl)
            try simp only [Act.put, List.setIfInBounds_toArray, List.set_cons_zero, List.set_cons_succ]
            refine wpAnyH_take (i := 6) (oi := ({ dst := some 126, op := Op.nilCheck (Operand.tmp 125), type := 0, pos := _, after := _, guard := none } : Oper)) (v := ?_) rfl (by kernel_rfl) (by kernel_rfl) (by kernel_rfl) (fun _ _ _ h => h) (Or.inl ⟨by rfl, ?_⟩) hSS ?_
            rotate_left
            · intro w9 hSw
              (try dsimp only at hSw)
              (try go_split_ands)
              first | (go_simp; done) | (go_simp; with_reducible rfl)
            try simp only [Act.put, List.setIfInBounds_toArray, List.set_cons_zero, List.set_cons_succ]
            refine wpAnyH_take (i := 7) (oi := ({ dst := some 127, op := Op.fieldAddr 36 (Operand.tmp 126) 5, type := 0, pos := _, after := _, guard := none } : Oper)) (v := ?_) rfl (by kernel_rfl) (by kernel_rfl) (by kernel_rfl) (fun _ _ _ h => h) (Or.inl ⟨by rfl, ?_⟩) hSS ?_
            rotate_left
            · intro w9 hSw
              (try dsimp only at hSw)
              (try go_split_ands)
              first | (go_simp; done) | (go_simp; with_reducible rfl)
            try simp only [Act.put, List.setIfInBounds_toArray, List.set_cons_zero, List.set_cons_succ]
            refine wpAnyH_take (i := 8) (oi := ({ dst := some 128, op := Op.load 34 (Operand.tmp 127), type := 34, pos := _, after := _, guard := none } : Oper)) (v := ?_) rfl (by kernel_rfl) (by kernel_rfl) (by kernel_rfl) (fun _ _ _ h => h) (Or.inl ⟨by rfl, ?_⟩) hSS ?_
            rotate_left
            · intro w9 hSw
              (try dsimp only at hSw)
              (try go_split_ands)
              first | (go_simp; done) | (go_simp; with_reducible rfl)
            try simp only [Act.put, List.setIfInBounds_toArray, List.set_cons_zero, List.set_cons_succ]
            refine wpAnyH_take (i := 9) (oi := ({ dst := some 129, op := Op.move (Operand.tmp 6), type := 3, pos := _, after := _, guard := none } : Oper)) (v := ?_) rfl (by kernel_rfl) (by kernel_rfl) (by kernel_rfl) (fun _ _ _ h => h) (Or.inl ⟨by rfl, ?_⟩) hSS ?_
            rotate_left
            · intro w9 hSw
              (try dsimp only at hSw)
              (try go_split_ands)
              first | (go_simp; done) | (go_simp; with_reducible rfl)
            try simp only [Act.put, List.setIfInBounds_toArray, List.set_cons_zero, List.set_cons_succ]
            refine wpAnyH_take (i := 10) (oi := ({ dst := some 130, op := Op.indexAddr 34 (Operand.tmp 128) (Operand.tmp 129), type := 0, pos := _, after := _, guard := none } : Oper)) (v := ?_) rfl (by kernel_rfl) (by kernel_rfl) (by kernel_rfl) (fun _ _ _ h => h) (Or.inl ⟨by rfl, ?_⟩) hSS ?_
            rotate_left
            · intro w9 hSw
              (try dsimp only at hSw)
              (try go_split_ands)
              first | (go_simp; done) | (go_simp; with_reducible rfl)
            try simp only [Act.put, List.setIfInBounds_toArray, List.set_cons_zero, List.set_cons_succ]
            refine wpAnyH_take (i := 11) (oi := ({ dst := some 131, op := Op.load 23 (Operand.tmp 130), type := 23, pos := _, after := _, guard := none } : Oper)) (v := ?_) rfl (by kernel_rfl) (by kernel_rfl) (by kernel_rfl) (fun _ _ _ h => h) (Or.inl ⟨by rfl, ?_⟩) hSS ?_
            rotate_left
            · intro w9 hSw
              (try dsimp only at hSw)
              (try go_split_ands)
              first | (go_simp; done) | (go_simp; with_reducible rfl)
            try simp only [Act.put, List.setIfInBounds_toArray, List.set_cons_zero, List.set_cons_succ]
            refine wpAnyH_take (i := 12) (oi := ({ dst := some 132, op := Op.move (Operand.tmp 0), type := 33, pos := _, after := _, guard := none } : Oper)) (v := ?_) rfl (by kernel_rfl) (by kernel_rfl) (by kernel_rfl) (fun _ _ _ h => h) (Or.inl ⟨by rfl, ?_⟩) hSS ?_
            rotate_left
            · intro w9 hSw
              (try dsimp only at hSw)
              (try go_split_ands)
              first | (go_simp; done) | (go_simp; with_reducible rfl)
            try simp only [Act.put, List.setIfInBounds_toArray, List.set_cons_zero, List.set_cons_succ]
            refine wpAnyH_take (i := 13) (oi := ({ dst := some 133, op := Op.nilCheck (Operand.tmp 132), type := 0, pos := _, after := _, guard := none } : Oper)) (v := ?_) rfl (by kernel_rfl) (by kernel_rfl) (by kernel_rfl) (fun _ _ _ h => h) (Or.inl ⟨by rfl, ?_⟩) hSS ?_
            rotate_left
            · intro w9 hSw
              (try dsimp only at hSw)
              (try go_split_ands)
              first | (go_simp; done) | (go_simp; with_reducible rfl)
            try simp only [Act.put, List.setIfInBounds_toArray, List.set_cons_zero, List.set_cons_succ]
            refine wpAnyH_take (i := 14) (oi := ({ dst := some 134, op := Op.fieldAddr 36 (Operand.tmp 133) 6, type := 0, pos := _, after := _, guard := none } : Oper)) (v := ?_) rfl (by kernel_rfl) (by kernel_rfl) (by kernel_rfl) (fun _ _ _ h => h) (Or.inl ⟨by rfl, ?_⟩) hSS ?_
            rotate_left
            · intro w9 hSw
              (try dsimp only at hSw)
              (try go_split_ands)
              first | (go_simp; done) | (go_simp; with_reducible rfl)
            try simp only [Act.put, List.setIfInBounds_toArray, List.set_cons_zero, List.set_cons_succ]
            refine wpAnyH_take (i := 15) (oi := ({ dst := some 135, op := Op.load 34 (Operand.tmp 134), type := 34, pos := _, after := _, guard := none } : Oper)) (v := ?_) rfl (by kernel_rfl) (by kernel_rfl) (by kernel_rfl) (fun _ _ _ h => h) (Or.inl ⟨by rfl, ?_⟩) hSS ?_
            rotate_left
            · intro w9 hSw
              (try dsimp only at hSw)
              (try go_split_ands)
              first | (go_simp; done) | (go_simp; with_reducible rfl)
            try simp only [Act.put, List.setIfInBounds_toArray, List.set_cons_zero, List.set_cons_succ]
            refine wpAnyH_take (i := 16) (oi := ({ dst := some 136, op := Op.move (Operand.tmp 6), type := 3, pos := _, after := _, guard := none } : Oper)) (v := ?_) rfl (by kernel_rfl) (by kernel_rfl) (by kernel_rfl) (fun _ _ _ h => h) (Or.inl ⟨by rfl, ?_⟩) hSS ?_
            rotate_left
            · intro w9 hSw
              (try dsimp only at hSw)
              (try go_split_ands)
              first | (go_simp; done) | (go_simp; with_reducible rfl)
            try simp only [Act.put, List.setIfInBounds_toArray, List.set_cons_zero, List.set_cons_succ]
            refine wpAnyH_take (i := 17) (oi := ({ dst := some 137, op := Op.indexAddr 34 (Operand.tmp 135) (Operand.tmp 136), type := 0, pos := _, after := _, guard := none } : Oper)) (v := ?_) rfl (by kernel_rfl) (by kernel_rfl) (by kernel_rfl) (fun _ _ _ h => h) (Or.inl ⟨by rfl, ?_⟩) hSS ?_
            rotate_left
            · intro w9 hSw
              (try dsimp only at hSw)
              (try go_split_ands)
              first | (go_simp; done) | (go_simp; with_reducible rfl)
            try simp only [Act.put, List.setIfInBounds_toArray, List.set_cons_zero, List.set_cons_succ]
            refine wpAnyH_take (i := 18) (oi := ({ dst := some 138, op := Op.load 23 (Operand.tmp 137), type := 23, pos := _, after := _, guard := none } : Oper)) (v := ?_) rfl (by kernel_rfl) (by kernel_rfl) (by kernel_rfl) (fun _ _ _ h => h) (Or.inl ⟨by rfl, ?_⟩) hSS ?_
            rotate_left
            · intro w9 hSw
              (try dsimp only at hSw)
              (try go_split_ands)
              first | (go_simp; done) | (go_simp; with_reducible rfl)
            try simp only [Act.put, List.setIfInBounds_toArray, List.set_cons_zero, List.set_cons_succ]
            refine wpAnyH_take (i := 19) (oi := ({ dst := some 139, op := Op.move (Operand.tmp 0), type := 33, pos := _, after := _, guard := none } : Oper)) (v := ?_) rfl (by kernel_rfl) (by kernel_rfl) (by kernel_rfl) (fun _ _ _ h => h) (Or.inl ⟨by rfl, ?_⟩) hSS ?_
            rotate_left
            · intro w9 hSw
              (try dsimp only at hSw)
              (try go_split_ands)
              first | (go_simp; done) | (go_simp; with_reducible rfl)
            try simp only [Act.put, List.setIfInBounds_toArray, List.set_cons_zero, List.set_cons_succ]
            refine wpAnyH_take (i := 20) (oi := ({ dst := some 140, op := Op.nilCheck (Operand.tmp 139), type := 0, pos := _, after := _, guard := none } : Oper)) (v := ?_) rfl (by kernel_rfl) (by kernel_rfl) (by kernel_rfl) (fun _ _ _ h => h) (Or.inl ⟨by rfl, ?_⟩) hSS ?_
            rotate_left
            · intro w9 hSw
              (try dsimp only at hSw)
              (try go_split_ands)
              first | (go_simp; done) | (go_simp; with_reducible rfl)
            try simp only [Act.put, List.setIfInBounds_toArray, List.set_cons_zero, List.set_cons_succ]
            refine wpAnyH_take (i := 21) (oi := ({ dst := some 141, op := Op.fieldAddr 36 (Operand.tmp 140) 5, type := 0, pos := _, after := _, guard := none } : Oper)) (v := ?_) rfl (by kernel_rfl) (by kernel_rfl) (by kernel_rfl) (fun _ _ _ h => h) (Or.inl ⟨by rfl, ?_⟩) hSS ?_
            rotate_left
            · intro w9 hSw
              (try dsimp only at hSw)
              (try go_split_ands)
              first | (go_simp; done) | (go_simp; with_reducible rfl)
            try simp only [Act.put, List.setIfInBounds_toArray, List.set_cons_zero, List.set_cons_succ]
            refine wpAnyH_take (i := 22) (oi := ({ dst := some 142, op := Op.load 34 (Operand.tmp 141), type := 34, pos := _, after := _, guard := none } : Oper)) (v := ?_) rfl (by kernel_rfl) (by kernel_rfl) (by kernel_rfl) (fun _ _ _ h => h) (Or.inl ⟨by rfl, ?_⟩) hSS ?_
            rotate_left
            · intro w9 hSw
              (try dsimp only at hSw)
              (try go_split_ands)
              first | (go_simp; done) | (go_simp; with_reducible rfl)
            try simp only [Act.put, List.setIfInBounds_toArray, List.set_cons_zero, List.set_cons_succ]
            refine wpAnyH_take (i := 23) (oi := ({ dst := some 143, op := Op.move (Operand.tmp 6), type := 3, pos := _, after := _, guard := none } : Oper)) (v := ?_) rfl (by kernel_rfl) (by kernel_rfl) (by kernel_rfl) (fun _ _ _ h => h) (Or.inl ⟨by rfl, ?_⟩) hSS ?_
            rotate_left
            · intro w9 hSw
              (try dsimp only at hSw)
              (try go_split_ands)
              first | (go_simp; done) | (go_simp; with_reducible rfl)
            try simp only [Act.put, List.setIfInBounds_toArray, List.set_cons_zero, List.set_cons_succ]
            refine wpAnyH_take (i := 24) (oi := ({ dst := some 144, op := Op.indexAddr 34 (Operand.tmp 142) (Operand.tmp 143), type := 0, pos := _, after := _, guard := none } : Oper)) (v := ?_) rfl (by kernel_rfl) (by kernel_rfl) (by kernel_rfl) (fun _ _ _ h => h) (Or.inl ⟨by rfl, ?_⟩) hSS ?_
            rotate_left
            · intro w9 hSw
              (try dsimp only at hSw)
              (try go_split_ands)
              first | (go_simp; done) | (go_simp; with_reducible rfl)
            try simp only [Act.put, List.setIfInBounds_toArray, List.set_cons_zero, List.set_cons_succ]
            refine wpAnyH_take (i := 25) (oi := ({ dst := some 145, op := Op.load 23 (Operand.tmp 144), type := 23, pos := _, after := _, guard := none } : Oper)) (v := ?_) rfl (by kernel_rfl) (by kernel_rfl) (by kernel_rfl) (fun _ _ _ h => h) (Or.inl ⟨by rfl, ?_⟩) hSS ?_
            rotate_left
            · intro w9 hSw
              (try dsimp only at hSw)
              (try go_split_ands)
              first | (go_simp; done) | (go_simp; with_reducible rfl)
            try simp only [Act.put, List.setIfInBounds_toArray, List.set_cons_zero, List.set_cons_succ]
            refine wpAnyH_take (i := 26) (oi := ({ dst := some 146, op := Op.call { callee := Callee.builtin Builtin.len, args := #[Operand.tmp 145], argTypes := #[23] }, type := 3, pos := _, after := _, guard := none } : Oper)) (v := ?_) rfl (by kernel_rfl) (by kernel_rfl) (by kernel_rfl) (fun _ _ _ h => h) (Or.inl ⟨by rfl, ?_⟩) hSS ?_
            rotate_left
            · intro w9 hSw
              (try dsimp only at hSw)
              (try go_split_ands)
              first | (go_simp; done) | (go_simp; with_reducible rfl)
            try simp only [Act.put, List.setIfInBounds_toArray, List.set_cons_zero, List.set_cons_succ]
            refine wpAnyH_take (i := 27) (oi := ({ dst := some 147, op := Op.slice 23 (Operand.tmp 138) (some (Operand.tmp 146)) none none, type := 23, pos := _, after := _, guard := none } : Oper)) (v := ?_) rfl (by kernel_rfl) (by kernel_rfl) (by kernel_rfl) (fun _ _ _ h => h) (Or.inl ⟨by rfl, ?_⟩) hSS ?_
            rotate_left
            · intro w9 hSw
              (try dsimp only at hSw)
              (try go_split_ands)
              first | (go_simp; done) | (go_simp; with_reducible rfl)
            try simp only [Act.put, List.setIfInBounds_toArray, List.set_cons_zero, List.set_cons_succ]
            refine wpAnyH_ready (rs := [28]) (by kernel_rfl) (by simp) (AllReadyH.cons (o := ({ dst := some 148, op := Op.call { callee := Callee.builtin Builtin.append, args := #[Operand.tmp 131, Operand.tmp 147], argTypes := #[23, 23] }, type := 23, pos := _, after := _, guard := none } : Oper)) rfl (fun K9 hK9 => ?_) AllReadyH.nil)
            refine step_append_run rfl _ _ _ _ (by rfl) _ _ (by rfl) (by rfl) _ _ (by exact hre) ?_
            refine hK9.out _ _ (HSE.out _ (.inl rfl)) (fun hSS => ?_)
            clear hK9 K9
            try simp only [Act.put, List.setIfInBounds_toArray, List.set_cons_zero, List.set_cons_succ]
            refine wpAnyH_take (i := 29) (oi := ({ dst := some 149, op := Op.indexAddr 34 (Operand.tmp 123) (Operand.tmp 124), type := 0, pos := _, after := _, guard := none } : Oper)) (v := ?_) rfl (by kernel_rfl) (by kernel_rfl) (by kernel_rfl) (fun _ _ _ h => h) (Or.inl ⟨by rfl, ?_⟩) hSS ?_
            rotate_left
            · intro w9 hSw
              (try dsimp only at hSw)
              (try go_split_ands)
              first | (go_simp; done) | (go_simp; with_reducible rfl)
            try simp only [Act.put, List.setIfInBounds_toArray, List.set_cons_zero, List.set_cons_succ]
            refine wpAnyH_ready (rs := [30]) (by kernel_rfl) (by simp) (AllReadyH.cons (o := ({ dst := none, op := Op.store 23 (Operand.tmp 149) (Operand.tmp 148), type := 0, pos := _, after := _, guard := none } : Oper)) rfl (fun K9 hK9 => ?_) AllReadyH.nil)
            go_simp
            refine hK9.out _ _ (HSE.out _ (.inr rfl)) (fun hSS => ?_)
            clear hK9 K9
            try simp only [Act.put, List.setIfInBounds_toArray, List.set_cons_zero, List.set_cons_succ]
            refine wpAnyH_done (by kernel_rfl) ?_ _
            go_wp2_with fail
            exact ⟨⟨p, 1, by rw [show xl + 2 * p + 1 = r + 1 by have := Hr.out; omega]; go_num, by omega, by omega, HEV.out⟩, by have := Hr.out; simp [intOf]; omega⟩
          · have ek := hA.k1
            have ew := hA.w1
            rw [← HX.out, show xl + 2 * p + 1 = r by omega] at ek hcw hcf hod
            rw [HY.out, show xl + 2 * p + 1 = r by omega] at ew
            have hro := hrun
            have s1 : w1.heap[s]? = wr.heap[s]? := by rw [Hs.out]; exact hb1s
            have HSO : Hid (∀ u, (u = wr.drew ∨ u = w1 ∨ u = w1.setCell ⟨kg, r, none⟩ v') → (u.cell? ⟨s, 5, none⟩ = some (.slice (some ⟨kg, 0, none⟩) kn kc) ∧ u.cell? ⟨s, 6, none⟩ = some (.slice (some ⟨wg, 0, none⟩) kn wc) ∧ u.cell? ⟨wg, r, none⟩ = some (.slice (some ⟨q, 0, none⟩) M M))) := fun u hu => by
              have e5 : w1.cell? ⟨s, 5, none⟩ = some (.slice (some ⟨kg, 0, none⟩) kn kc) := shelf_cell (s1.trans sb) rfl
              have e6 : w1.cell? ⟨s, 6, none⟩ = some (.slice (some ⟨wg, 0, none⟩) kn wc) := shelf_cell (s1.trans sb) rfl
              have ew' : w1.cell? ⟨wg, r, none⟩ = some (.slice (some ⟨q, 0, none⟩) M M) := by simp only [World.cell?] at ew ⊢; rw [hb1w]; exact ew
              rcases hu with rfl | rfl | rfl
              · exact ⟨c5, c6, ew⟩
              · exact ⟨e5, e6, ew'⟩
              · have b9 : But (fun g => g = kg) w1 (w1.setCell ⟨kg, r, none⟩ v') := set_but _ _ _ _ rfl
                have gs := hA.gs
                have gw := hA.gw
                have sl1 : s < w1.heap.size := (Array.getElem?_eq_some_iff.1 (s1.trans sb)).1
                have wl1 : wg < w1.heap.size := World.block_lt_of_cell? w1 ⟨wg, r, none⟩ ew'
                refine ⟨?_, ?_, ?_⟩
                · rw [b9.cell (p := ⟨s, 5, none⟩) sl1 (by show ¬ s = kg; rw [Hs.out]; exact fun e => gs e.symm)]; exact e5
                · rw [b9.cell (p := ⟨s, 6, none⟩) sl1 (by show ¬ s = kg; rw [Hs.out]; exact fun e => gs e.symm)]; exact e6
                · rw [b9.cell (p := ⟨wg, r, none⟩) wl1 (by show ¬ wg = kg; exact fun e => gw e.symm)]; exact ew'
            have HOD := hid hod
            have Hr := hid hr
            have Hkn := hid hkn
            subst hv'
            clear hW2 hA hev hod hrun hb1s hb1w s1 sb hr hkn ew
            go_wp2_with fail
            refine wp_region_held_drew (S := (fun u => u.cell? ⟨s, 5, none⟩ = some (.slice (some ⟨kg, 0, none⟩) kn kc) ∧ u.cell? ⟨s, 6, none⟩ = some (.slice (some ⟨wg, 0, none⟩) kn wc) ∧ u.cell? ⟨wg, r, none⟩ = some (.slice (some ⟨q, 0, none⟩) M M))) (by kernel_rfl) (HSO.out _ (.inl rfl)) (fun hSS => ?_)
            refine wpAnyH_take (i := 0) (oi := ({ dst := some 120, op := Op.move (Operand.tmp 0), type := 33, pos := _, after := _, guard := none } : Oper)) (v := ?_) rfl (by kernel_rfl) (by kernel_rfl) (by kernel_rfl) (fun _ _ _ h => h) (Or.inl ⟨by rfl, ?_⟩) hSS ?_
            rotate_left
            · intro w9 hSw
              (try dsimp only at hSw)
              (try go_split_ands)
              first | (go_simp; done) | (go_simp; with_reducible rfl)
            try simp only [Act.put, List.setIfInBounds_toArray, List.set_cons_zero, List.set_cons_succ]
            refine wpAnyH_take (i := 1) (oi := ({ dst := some 121, op := Op.nilCheck (Operand.tmp 120), type := 0, pos := _, after := _, guard := none } : Oper)) (v := ?_) rfl (by kernel_rfl) (by kernel_rfl) (by kernel_rfl) (fun _ _ _ h => h) (Or.inl ⟨by rfl, ?_⟩) hSS ?_
            rotate_left
            · intro w9 hSw
              (try dsimp only at hSw)
              (try go_split_ands)
              first | (go_simp; done) | (go_simp; with_reducible rfl)
            try simp only [Act.put, List.setIfInBounds_toArray, List.set_cons_zero, List.set_cons_succ]
            refine wpAnyH_take (i := 2) (oi := ({ dst := some 122, op := Op.fieldAddr 36 (Operand.tmp 121) 5, type := 0, pos := _, after := _, guard := none } : Oper)) (v := ?_) rfl (by kernel_rfl) (by kernel_rfl) (by kernel_rfl) (fun _ _ _ h => h) (Or.inl ⟨by rfl, ?_⟩) hSS ?_
            rotate_left
            · intro w9 hSw
              (try dsimp only at hSw)
              (try go_split_ands)
              first | (go_simp; done) | (go_simp; with_reducible rfl)
            try simp only [Act.put, List.setIfInBounds_toArray, List.set_cons_zero, List.set_cons_succ]
            refine wpAnyH_take (i := 3) (oi := ({ dst := some 123, op := Op.load 34 (Operand.tmp 122), type := 34, pos := _, after := _, guard := none } : Oper)) (v := ?_) rfl (by kernel_rfl) (by kernel_rfl) (by kernel_rfl) (fun _ _ _ h => h) (Or.inl ⟨by rfl, ?_⟩) hSS ?_
            rotate_left
            · intro w9 hSw
              (try dsimp only at hSw)
              (try go_split_ands)
              first | (go_simp; done) | (go_simp; with_reducible rfl)
            try simp only [Act.put, List.setIfInBounds_toArray, List.set_cons_zero, List.set_cons_succ]
            refine wpAnyH_take (i := 4) (oi := ({ dst := some 124, op := Op.move (Operand.tmp 6), type := 3, pos := _, after := _, guard := none } : Oper)) (v := ?_) rfl (by kernel_rfl) (by kernel_rfl) (by kernel_rfl) (fun _ _ _ h => h) (Or.inl ⟨by rfl, ?_⟩) hSS ?_
            rotate_left
            · intro w9 hSw
              (try dsimp only at hSw)
              (try go_split_ands)
              first | (go_simp; done) | (go_simp; with_reducible rfl)
            try simp only [Act.put, List.setIfInBounds_toArray, List.set_cons_zero, List.set_cons_succ]
            refine wpAnyH_take (i := 5) (oi := ({ dst := some 125, op := Op.move (Operand.tmp 0), type := 33, pos := _, after := _, guard := none } : Oper)) (v := ?_) rfl (by kernel_rfl) (by kernel_rfl) (by kernel_rfl) (fun _ _ _ h => h) (Or.inl ⟨by rfl, ?_⟩) hSS ?_
            rotate_left
            · intro w9 hSw
              (try dsimp only at hSw)
              (try go_split_ands)
              first | (go_simp; done) | (go_simp; with_reducible rfl)
            try simp only [Act.put, List.setIfInBounds_toArray, List.set_cons_zero, List.set_cons_succ]
            refine wpAnyH_take (i := 6) (oi := ({ dst := some 126, op := Op.nilCheck (Operand.tmp 125), type := 0, pos := _, after := _, guard := none } : Oper)) (v := ?_) rfl (by kernel_rfl) (by kernel_rfl) (by kernel_rfl) (fun _ _ _ h => h) (Or.inl ⟨by rfl, ?_⟩) hSS ?_
            rotate_left
            · intro w9 hSw
              (try dsimp only at hSw)
              (try go_split_ands)
              first | (go_simp; done) | (go_simp; with_reducible rfl)
            try simp only [Act.put, List.setIfInBounds_toArray, List.set_cons_zero, List.set_cons_succ]
            refine wpAnyH_take (i := 7) (oi := ({ dst := some 127, op := Op.fieldAddr 36 (Operand.tmp 126) 5, type := 0, pos := _, after := _, guard := none } : Oper)) (v := ?_) rfl (by kernel_rfl) (by kernel_rfl) (by kernel_rfl) (fun _ _ _ h => h) (Or.inl ⟨by rfl, ?_⟩) hSS ?_
            rotate_left
            · intro w9 hSw
              (try dsimp only at hSw)
              (try go_split_ands)
              first | (go_simp; done) | (go_simp; with_reducible rfl)
            try simp only [Act.put, List.setIfInBounds_toArray, List.set_cons_zero, List.set_cons_succ]
            refine wpAnyH_take (i := 8) (oi := ({ dst := some 128, op := Op.load 34 (Operand.tmp 127), type := 34, pos := _, after := _, guard := none } : Oper)) (v := ?_) rfl (by kernel_rfl) (by kernel_rfl) (by kernel_rfl) (fun _ _ _ h => h) (Or.inl ⟨by rfl, ?_⟩) hSS ?_
            rotate_left
            · intro w9 hSw
              (try dsimp only at hSw)
              (try go_split_ands)
              first | (go_simp; done) | (go_simp; with_reducible rfl)
            try simp only [Act.put, List.setIfInBounds_toArray, List.set_cons_zero, List.set_cons_succ]
            refine wpAnyH_take (i := 9) (oi := ({ dst := some 129, op := Op.move (Operand.tmp 6), type := 3, pos := _, after := _, guard := none } : Oper)) (v := ?_) rfl (by kernel_rfl) (by kernel_rfl) (by kernel_rfl) (fun _ _ _ h => h) (Or.inl ⟨by rfl, ?_⟩) hSS ?_
            rotate_left
            · intro w9 hSw
              (try dsimp only at hSw)
              (try go_split_ands)
              first | (go_simp; done) | (go_simp; with_reducible rfl)
            try simp only [Act.put, List.setIfInBounds_toArray, List.set_cons_zero, List.set_cons_succ]
            refine wpAnyH_take (i := 10) (oi := ({ dst := some 130, op := Op.indexAddr 34 (Operand.tmp 128) (Operand.tmp 129), type := 0, pos := _, after := _, guard := none } : Oper)) (v := ?_) rfl (by kernel_rfl) (by kernel_rfl) (by kernel_rfl) (fun _ _ _ h => h) (Or.inl ⟨by rfl, ?_⟩) hSS ?_
            rotate_left
            · intro w9 hSw
              (try dsimp only at hSw)
              (try go_split_ands)
              first | (go_simp; done) | (go_simp; with_reducible rfl)
            try simp only [Act.put, List.setIfInBounds_toArray, List.set_cons_zero, List.set_cons_succ]
            refine wpAnyH_take (i := 12) (oi := ({ dst := some 132, op := Op.move (Operand.tmp 0), type := 33, pos := _, after := _, guard := none } : Oper)) (v := ?_) rfl (by kernel_rfl) (by kernel_rfl) (by kernel_rfl) (fun _ _ _ h => h) (Or.inl ⟨by rfl, ?_⟩) hSS ?_
            rotate_left
            · intro w9 hSw
              (try dsimp only at hSw)
              (try go_split_ands)
              first | (go_simp; done) | (go_simp; with_reducible rfl)
            try simp only [Act.put, List.setIfInBounds_toArray, List.set_cons_zero, List.set_cons_succ]
            refine wpAnyH_take (i := 13) (oi := ({ dst := some 133, op := Op.nilCheck (Operand.tmp 132), type := 0, pos := _, after := _, guard := none } : Oper)) (v := ?_) rfl (by kernel_rfl) (by kernel_rfl) (by kernel_rfl) (fun _ _ _ h => h) (Or.inl ⟨by rfl, ?_⟩) hSS ?_
            rotate_left
            · intro w9 hSw
              (try dsimp only at hSw)
              (try go_split_ands)
              first | (go_simp; done) | (go_simp; with_reducible rfl)
            try simp only [Act.put, List.setIfInBounds_toArray, List.set_cons_zero, List.set_cons_succ]
            refine wpAnyH_take (i := 14) (oi := ({ dst := some 134, op := Op.fieldAddr 36 (Operand.tmp 133) 6, type := 0, pos := _, after := _, guard := none } : Oper)) (v := ?_) rfl (by kernel_rfl) (by kernel_rfl) (by kernel_rfl) (fun _ _ _ h => h) (Or.inl ⟨by rfl, ?_⟩) hSS ?_
            rotate_left
            · intro w9 hSw
              (try dsimp only at hSw)
              (try go_split_ands)
              first | (go_simp; done) | (go_simp; with_reducible rfl)
            try simp only [Act.put, List.setIfInBounds_toArray, List.set_cons_zero, List.set_cons_succ]
            refine wpAnyH_take (i := 15) (oi := ({ dst := some 135, op := Op.load 34 (Operand.tmp 134), type := 34, pos := _, after := _, guard := none } : Oper)) (v := ?_) rfl (by kernel_rfl) (by kernel_rfl) (by kernel_rfl) (fun _ _ _ h => h) (Or.inl ⟨by rfl, ?_⟩) hSS ?_
            rotate_left
            · intro w9 hSw
              (try dsimp only at hSw)
              (try go_split_ands)
              first | (go_simp; done) | (go_simp; with_reducible rfl)
            try simp only [Act.put, List.setIfInBounds_toArray, List.set_cons_zero, List.set_cons_succ]
            refine wpAnyH_take (i := 16) (oi := ({ dst := some 136, op := Op.move (Operand.tmp 6), type := 3, pos := _, after := _, guard := none } : Oper)) (v := ?_) rfl (by kernel_rfl) (by kernel_rfl) (by kernel_rfl) (fun _ _ _ h => h) (Or.inl ⟨by rfl, ?_⟩) hSS ?_
            rotate_left
            · intro w9 hSw
              (try dsimp only at hSw)
              (try go_split_ands)
              first | (go_simp; done) | (go_simp; with_reducible rfl)
            try simp only [Act.put, List.setIfInBounds_toArray, List.set_cons_zero, List.set_cons_succ]
            refine wpAnyH_take (i := 17) (oi := ({ dst := some 137, op := Op.indexAddr 34 (Operand.tmp 135) (Operand.tmp 136), type := 0, pos := _, after := _, guard := none } : Oper)) (v := ?_) rfl (by kernel_rfl) (by kernel_rfl) (by kernel_rfl) (fun _ _ _ h => h) (Or.inl ⟨by rfl, ?_⟩) hSS ?_
            rotate_left
            · intro w9 hSw
              (try dsimp only at hSw)
              (try go_split_ands)
              first | (go_simp; done) | (go_simp; with_reducible rfl)
            try simp only [Act.put, List.setIfInBounds_toArray, List.set_cons_zero, List.set_cons_succ]
            refine wpAnyH_take (i := 18) (oi := ({ dst := some 138, op := Op.load 23 (Operand.tmp 137), type := 23, pos := _, after := _, guard := none } : Oper)) (v := ?_) rfl (by kernel_rfl) (by kernel_rfl) (by kernel_rfl) (fun _ _ _ h => h) (Or.inl ⟨by rfl, ?_⟩) hSS ?_
            rotate_left
            · intro w9 hSw
              (try dsimp only at hSw)
              (try go_split_ands)
              first | (go_simp; done) | (go_simp; with_reducible rfl)
            try simp only [Act.put, List.setIfInBounds_toArray, List.set_cons_zero, List.set_cons_succ]
            refine wpAnyH_take (i := 19) (oi := ({ dst := some 139, op := Op.move (Operand.tmp 0), type := 33, pos := _, after := _, guard := none } : Oper)) (v := ?_) rfl (by kernel_rfl) (by kernel_rfl) (by kernel_rfl) (fun _ _ _ h => h) (Or.inl ⟨by rfl, ?_⟩) hSS ?_
            rotate_left
            · intro w9 hSw
              (try dsimp only at hSw)
              (try go_split_ands)
              first | (go_simp; done) | (go_simp; with_reducible rfl)
            try simp only [Act.put, List.setIfInBounds_toArray, List.set_cons_zero, List.set_cons_succ]
            refine wpAnyH_take (i := 20) (oi := ({ dst := some 140, op := Op.nilCheck (Operand.tmp 139), type := 0, pos := _, after := _, guard := none } : Oper)) (v := ?_) rfl (by kernel_rfl) (by kernel_rfl) (by kernel_rfl) (fun _ _ _ h => h) (Or.inl ⟨by rfl, ?_⟩) hSS ?_
            rotate_left
            · intro w9 hSw
              (try dsimp only at hSw)
              (try go_split_ands)
              first | (go_simp; done) | (go_simp; with_reducible rfl)
            try simp only [Act.put, List.setIfInBounds_toArray, List.set_cons_zero, List.set_cons_succ]
            refine wpAnyH_take (i := 21) (oi := ({ dst := some 141, op := Op.fieldAddr 36 (Operand.tmp 140) 5, type := 0, pos := _, after := _, guard := none } : Oper)) (v := ?_) rfl (by kernel_rfl) (by kernel_rfl) (by kernel_rfl) (fun _ _ _ h => h) (Or.inl ⟨by rfl, ?_⟩) hSS ?_
            rotate_left
            · intro w9 hSw
              (try dsimp only at hSw)
              (try go_split_ands)
              first | (go_simp; done) | (go_simp; with_reducible rfl)
            try simp only [Act.put, List.setIfInBounds_toArray, List.set_cons_zero, List.set_cons_succ]
            refine wpAnyH_take (i := 22) (oi := ({ dst := some 142, op := Op.load 34 (Operand.tmp 141), type := 34, pos := _, after := _, guard := none } : Oper)) (v := ?_) rfl (by kernel_rfl) (by kernel_rfl) (by kernel_rfl) (fun _ _ _ h => h) (Or.inl ⟨by rfl, ?_⟩) hSS ?_
            rotate_left
            · intro w9 hSw
              (try dsimp only at hSw)
              (try go_split_ands)
              first | (go_simp; done) | (go_simp; with_reducible rfl)
            try simp only [Act.put, List.setIfInBounds_toArray, List.set_cons_zero, List.set_cons_succ]
            refine wpAnyH_take (i := 23) (oi := ({ dst := some 143, op := Op.move (Operand.tmp 6), type := 3, pos := _, after := _, guard := none } : Oper)) (v := ?_) rfl (by kernel_rfl) (by kernel_rfl) (by kernel_rfl) (fun _ _ _ h => h) (Or.inl ⟨by rfl, ?_⟩) hSS ?_
            rotate_left
            · intro w9 hSw
              (try dsimp only at hSw)
              (try go_split_ands)
              first | (go_simp; done) | (go_simp; with_reducible rfl)
            try simp only [Act.put, List.setIfInBounds_toArray, List.set_cons_zero, List.set_cons_succ]
            refine wpAnyH_take (i := 24) (oi := ({ dst := some 144, op := Op.indexAddr 34 (Operand.tmp 142) (Operand.tmp 143), type := 0, pos := _, after := _, guard := none } : Oper)) (v := ?_) rfl (by kernel_rfl) (by kernel_rfl) (by kernel_rfl) (fun _ _ _ h => h) (Or.inl ⟨by rfl, ?_⟩) hSS ?_
            rotate_left
            · intro w9 hSw
              (try dsimp only at hSw)
              (try go_split_ands)
              first | (go_simp; done) | (go_simp; with_reducible rfl)
            try simp only [Act.put, List.setIfInBounds_toArray, List.set_cons_zero, List.set_cons_succ]
            refine wpAnyH_ready (rs := [11, 25]) (by kernel_rfl) (by simp) (AllReadyH.cons (o := ({ dst := some 131, op := Op.load 23 (Operand.tmp 130), type := 23, pos := _, after := _, guard := none } : Oper)) rfl (fun K9 hK9 => ?_) (AllReadyH.cons (o := ({ dst := some 145, op := Op.load 23 (Operand.tmp 144), type := 23, pos := _, after := _, guard := none } : Oper)) rfl (fun K9 hK9 => ?_) AllReadyH.nil))
            go_simp
            refine hK9.out _ _ (HSO.out _ (.inl rfl)) (fun hSS => ?_)
            clear hK9 K9
            try simp only [Act.put, List.setIfInBounds_toArray, List.set_cons_zero, List.set_cons_succ]
            refine wpAnyH_ready (rs := [25]) (by kernel_rfl) (by simp) (AllReadyH.cons (o := ({ dst := some 145, op := Op.load 23 (Operand.tmp 144), type := 23, pos := _, after := _, guard := none } : Oper)) rfl (fun K9 hK9 => ?_) AllReadyH.nil)
            go_simp
            refine hK9.out _ _ (HSO.out _ (.inl rfl)) (fun hSS => ?_)
            clear hK9 K9
            try simp only [Act.put, List.setIfInBounds_toArray, List.set_cons_zero, List.set_cons_succ]
            refine wpAnyH_take (i := 26) (oi := ({ dst := some 146, op := Op.call { callee := Callee.builtin Builtin.len, args := #[Operand.tmp 145], argTypes := #[23] }, type := 3, pos := _, after := _, guard := none } : Oper)) (v := ?_) rfl (by kernel_rfl) (by kernel_rfl) (by kernel_rfl) (fun _ _ _ h => h) (Or.inl ⟨by rfl, ?_⟩) hSS ?_
            rotate_left
            · intro w9 hSw
              (try dsimp only at hSw)
              (try go_split_ands)
              first | (go_simp; done) | (go_simp; with_reducible rfl)
            try simp only [Act.put, List.setIfInBounds_toArray, List.set_cons_zero, List.set_cons_succ]
            refine wpAnyH_take (i := 27) (oi := ({ dst := some 147, op := Op.slice 23 (Operand.tmp 138) (some (Operand.tmp 146)) none none, type := 23, pos := _, after := _, guard := none } : Oper)) (v := ?_) rfl (by kernel_rfl) (by kernel_rfl) (by kernel_rfl) (fun _ _ _ h => h) (Or.inl ⟨by rfl, ?_⟩) hSS ?_
            rotate_left
            · intro w9 hSw
              (try dsimp only at hSw)
              (try go_split_ands)
              first | (go_simp; done) | (go_simp; with_reducible rfl)
            try simp only [Act.put, List.setIfInBounds_toArray, List.set_cons_zero, List.set_cons_succ]
            rotate_left
            go_simp
            refine hK9.out _ _ (HSO.out _ (.inl rfl)) (fun hSS => ?_)
            clear hK9 K9
            try simp only [Act.put, List.setIfInBounds_toArray, List.set_cons_zero, List.set_cons_succ]
            refine wpAnyH_take (i := 26) (oi := ({ dst := some 146, op := Op.call { callee := Callee.builtin Builtin.len, args := #[Operand.tmp 145], argTypes := #[23] }, type := 3, pos := _, after := _, guard := none } : Oper)) (v := ?_) rfl (by kernel_rfl) (by kernel_rfl) (by kernel_rfl) (fun _ _ _ h => h) (Or.inl ⟨by rfl, ?_⟩) hSS ?_
            rotate_left
            · intro w9 hSw
              (try dsimp only at hSw)
              (try go_split_ands)
              first | (go_simp; done) | (go_simp; with_reducible rfl)
            try simp only [Act.put, List.setIfInBounds_toArray, List.set_cons_zero, List.set_cons_succ]
            refine wpAnyH_take (i := 27) (oi := ({ dst := some 147, op := Op.slice 23 (Operand.tmp 138) (some (Operand.tmp 146)) none none, type := 23, pos := _, after := _, guard := none } : Oper)) (v := ?_) rfl (by kernel_rfl) (by kernel_rfl) (by kernel_rfl) (fun _ _ _ h => h) (Or.inl ⟨by rfl, ?_⟩) hSS ?_
            rotate_left
            · intro w9 hSw
              (try dsimp only at hSw)
              (try go_split_ands)
              first | (go_simp; done) | (go_simp; with_reducible rfl)
            try simp only [Act.put, List.setIfInBounds_toArray, List.set_cons_zero, List.set_cons_succ]
            refine wpAnyH_ready (rs := [11]) (by kernel_rfl) (by simp) (AllReadyH.cons (o := ({ dst := some 131, op := Op.load 23 (Operand.tmp 130), type := 23, pos := _, after := _, guard := none } : Oper)) rfl (fun K9 hK9 => ?_) AllReadyH.nil)
            go_simp
            refine hK9.out _ _ (HSO.out _ (.inl rfl)) (fun hSS => ?_)
            clear hK9 K9
            try simp only [Act.put, List.setIfInBounds_toArray, List.set_cons_zero, List.set_cons_succ]
            all_goals
              refine wpAnyH_ready (rs := [28]) (by kernel_rfl) (by simp) (AllReadyH.cons (o := ({ dst := some 148, op := Op.call { callee := Callee.builtin Builtin.append, args := #[Operand.tmp 131, Operand.tmp 147], argTypes := #[23, 23] }, type := 23, pos := _, after := _, guard := none } : Oper)) rfl (fun K9 hK9 => ?_) AllReadyH.nil)
              refine step_append_run rfl _ _ _ _ (by rfl) _ _ (by rfl) (by rfl) _ _ (by exact hro) ?_
              refine hK9.out _ _ (HSO.out _ (.inr (.inl rfl))) (fun hSS => ?_)
              clear hK9 K9
              try simp only [Act.put, List.setIfInBounds_toArray, List.set_cons_zero, List.set_cons_succ]
              refine wpAnyH_take (i := 29) (oi := ({ dst := some 149, op := Op.indexAddr 34 (Operand.tmp 123) (Operand.tmp 124), type := 0, pos := _, after := _, guard := none } : Oper)) (v := ?_) rfl (by kernel_rfl) (by kernel_rfl) (by kernel_rfl) (fun _ _ _ h => h) (Or.inl ⟨by rfl, ?_⟩) hSS ?_
              rotate_left
              · intro w9 hSw
                (try dsimp only at hSw)
                (try go_split_ands)
                first | (go_simp; done) | (go_simp; with_reducible rfl)
              try simp only [Act.put, List.setIfInBounds_toArray, List.set_cons_zero, List.set_cons_succ]
              refine wpAnyH_ready (rs := [30]) (by kernel_rfl) (by simp) (AllReadyH.cons (o := ({ dst := none, op := Op.store 23 (Operand.tmp 149) (Operand.tmp 148), type := 0, pos := _, after := _, guard := none } : Oper)) rfl (fun K9 hK9 => ?_) AllReadyH.nil)
              go_simp
              refine hK9.out _ _ (HSO.out _ (.inr (.inr rfl))) (fun hSS => ?_)
              clear hK9 K9
              try simp only [Act.put, List.setIfInBounds_toArray, List.set_cons_zero, List.set_cons_succ]
              refine wpAnyH_done (by kernel_rfl) ?_ _
              go_wp2_with fail
              exact ⟨⟨p + 1, 0, by rw [show xl + 2 * (p + 1) + 0 = r + 1 by have := Hr.out; omega]; go_num, by omega, by omega, HOD.out⟩, by have := Hr.out; simp [intOf]; omega⟩
        · obtain ⟨rfl, rfl⟩ : p = i ∧ b = 0 := by omega
          have sbz : ∃ mk2 kv2 wa2 wc2, wr.heap[s]? = some (.cells #[.int .i64 mk2, .int .i64 (T : Int), .bool false, F.fv, F.hv, kv2, .slice wa2 (xl + 2 * p) wc2] 36 (0, 0)) := by
            obtain ⟨κ2, kv2, wv2, mk2, pw2, us2, hst2, hus2, _, hpw2, _⟩ := hW2
            obtain ⟨wa2, wc2, hwv2⟩ := hst2.wr.own.form
            have sb2 := hst2.sb
            rw [List.length_append, zsOf_len F.fs pw2 (by omega), hpw2, HY.out, ← Hfm.out] at hwv2
            rw [hwv2, ← Hs.out, ← HT.out] at sb2
            exact ⟨_, _, _, _, sb2⟩
          obtain ⟨mk2, kv2, wa2, wc2, sb2⟩ := sbz
          have c6 := shelf_cell sb2 (i := 6) rfl
          have c3 := shelf_cell sb2 (i := 3) rfl
          have c4 := shelf_cell sb2 (i := 4) rfl
          have c3f : wr.frozen? ⟨s, 3, none⟩ = false := by simp [World.frozen?, sb2]
          have c4f : wr.frozen? ⟨s, 4, none⟩ = false := by simp [World.frozen?, sb2]
          have HE : Hid (∀ v, PO (.returned v) ((wr.setCell ⟨s, 3, none⟩ (.slice none 0 0)).setCell ⟨s, 4, none⟩ (.slice none 0 0))) := fun v => by
            rw [Hs.out]
            exact HEND.out wr v (by rw [← Hfm.out]; exact hW2)
          have hq2 : ¬ (((xl + 2 * p + 0 : Nat)) : Int) < (((xl + 2 * p : Nat)) : Int) := by omega
          clear hW2 sb2
          go_wp2_with fail
          go_end0
          exact HE.out _

end Go.Proofs.Ytoifmiloaefanaa
