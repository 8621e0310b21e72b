import Derived.Test.YtddddfankeepkaaGreatDoorF22
import Derived.Test.YtddddfankeepkaaGreatDoorF10
import Derived.Deep.QuietTactic
import Derived.BigQuiet
namespace Go.Proofs.YtddddfankeepkaaGreatDoor
open Go.RowKit
set_option maxRecDepth 100000 in
set_option maxHeartbeats 40000000 in
theorem May_body (x : VW) (a : Option Addr) (c0 : Nat) (w : World) (hR : RdV w.heap.size w a x.vs) (hs : ∀ v ∈ x.vs, v.nm.size ≤ 16777216) (hm : ∀ v ∈ x.vs, v.mp.length ≤ 16777216) (hh : mayH x = true) :
  Calls Tryz.prog 8 #[viewA x a c0] w fun e w' => BoQ w (mayB x) e w' := by
 obtain ⟨n, hn⟩ : ∃ n, n = x.vs.length := ⟨_, rfl⟩
 obtain ⟨b, hb0⟩ : ∃ b, b = mayB x := ⟨_, rfl⟩
 obtain ⟨h0, h1, h2, h3, h4, h5, h6⟩ := mayH_yes hh
 dsimp only [viewA]
 rw [← hn] at h6 ⊢
 rw [← hb0]
 obtain ⟨P, hP⟩ : ∃ P, P = w.heap.size := ⟨_, rfl⟩
 obtain ⟨W1, hW1⟩ : ∃ W1, W1 = w.alloc (.cells #[.int .i64 x.cp, .int .i64 x.fr, .int .i64 x.nx, .slice a n c0] 24) := ⟨_, rfl⟩
 have b1 : Below w.heap.size w W1 := by rw [hW1]; exact below1 _ _
 have hV : VwB W1 P x (.slice a n c0) := by rw [hW1, hP]; exact heap_new _ _
 have hR1 := (hR.below b1).mono b1.size
 have HP := hid hP.symm
 have HW1 := hid hW1
 have HV := hid hV
 have HR1 := hid hR1
 have HB1 := hid b1
 have HN := hid hn
 have HH := hid hh
 have HN64 : Hid (n ≤ 64) := hid (by omega)
 have HF0 : Hid (∀ k (hk : k < x.vs.length), volM x k hk = false → b = false) := hid (fun k hk h => by rw [hb0]; exact mayB_no hk h)
 have HT0 : Hid ((∀ k (hk : k < x.vs.length), volM x k hk = true) → b = true) := hid (fun h => by rw [hb0]; exact mayB_yes hh h)
 clear hh hP hW1 hV hR hR1 b1 hn hb0
 go_enter Tryz.func8, Tryz.ntmps8
 go_wp2_with fail
 rw [← HW1.out, HP.out]
 go_loopw [3] (fun iv wr => ∃ k : Nat, k ≤ n ∧ iv = .int .i64 (k : Int) ∧ (∀ i (hi : i < x.vs.length), i < k → volM x i hi = true) ∧ Below W1.heap.size W1 wr) (fun iv _ => n - (intOf iv).toNat)
 case atStart => exact ⟨0, Nat.zero_le _, rfl, fun i hi h => by omega, Below.refl _ _⟩
 case round =>
  obtain ⟨k, hk, rfl, hall, hb⟩ := hrel
  have hn64 := HN64.out
  have hVr := HV.out.keep (hb.block P HV.out.lt)
  obtain ⟨⟨p0, p1, p2, p3⟩, _⟩ := hVr.cs
  by_cases hlt : k < n
  ·as_aux_lemma =>
    have hkl : k < x.vs.length := by have := HN.out; omega
    obtain ⟨g, off, rfl, hgl, hc⟩ := (HR1.out.below hb).resolve_left (fun e => by rw [e] at hkl; simp at hkl)
    obtain ⟨ma, mc, ⟨c0', c1, c2, c3, c4, c5, c6⟩, hRm, _⟩ := hc k hkl
    have HNm := hid (fun u => Named_s x.vs[k].nm (hs _ (List.getElem_mem hkl)) u)
    have hl1 : (k : Int) < (n : Int) := by omega
    have hml := hm _ (List.getElem_mem hkl)
    have HF1 : Hid (volM x k hkl = false → b = false) := hid (HF0.out k hkl)
    have HG : Hid (nmB x.vs[k].nm = true → (k = 0 ∨ nmLe x.vs[k].nm (x.vs[k - 1]'(by omega)).nm = false) → volN x.vs[k] x.nx = true → volK x.vs[k] = true → (∀ j (hj : j < k), (x.vs[j]'(by omega)).id ≠ x.vs[k].id) → volM x k hkl = true) := hid (volM_all hkl)
    have HFn : Hid (nmB x.vs[k].nm = false → b = false) := hid (fun h => HF1.out (volM_name hkl h))
    have HFu : Hid (volN x.vs[k] x.nx = false → b = false) := hid (fun h => HF1.out (volM_num hkl h))
    have HFk : Hid (volK x.vs[k] = false → b = false) := hid (fun h => HF1.out (volM_kind hkl h))
    have HFt : Hid (∀ j (hj : j < k), (x.vs[j]'(by omega)).id = x.vs[k].id → b = false) := hid (fun j hj h => HF1.out (volM_twice hkl hj h))
    have HFl : Hid (∀ m (e : k = m + 1), nmLe x.vs[k].nm (x.vs[m]'(by omega)).nm = true → b = false) := hid (fun m e h => by subst e; exact HF1.out (volM_le hkl h))
    have HID : Hid (∀ j (hj : j < k), ∀ u, Below wr.heap.size wr u → u.cell? ⟨g, off + j * 7 + 1, none⟩ = some (.int .i64 (x.vs[j]'(by omega)).id)) := hid (fun j hj u hu => by
     obtain ⟨_, _, ⟨_, d1, _⟩, _⟩ := hc j (by omega)
     exact (hu.cell (by exact Nat.lt_of_lt_of_le hgl hb.size)).trans d1)
    have HNA : Hid (∀ m (e : k = m + 1), ∀ u, Below wr.heap.size wr u → u.cell? ⟨g, off + m * 7, none⟩ = some (.string (x.vs[m]'(by omega)).nm)) := hid (fun m e u hu => by
     obtain ⟨_, _, ⟨d0, _⟩, _⟩ := hc m (by omega)
     exact (hu.cell (by exact Nat.lt_of_lt_of_le hgl hb.size)).trans d0)
    have HALL := hid hall
    have HKL := hid hkl
    generalize hvk : x.vs[k] = v at *
    have HVK := hid hvk
    obtain ⟨V, hVe⟩ : ∃ V, V = wr.heap.size := ⟨_, rfl⟩
    obtain ⟨U, hU⟩ : ∃ U, U = wr.alloc (.cells #[.string v.nm, .int .i64 v.id, .int .i64 v.sz, .int .i64 v.og, .int .i64 v.kd, .bool v.pt, .slice ma v.mp.length mc] 38) := ⟨_, rfl⟩
    have bU : Below wr.heap.size wr U := by rw [hU]; exact below1 _ _
    obtain ⟨⟨r0, r1, r2, r3⟩, _⟩ := (hVr.keep (bU.block P hVr.lt)).cs
    have hVb : U.heap[V]? = some (.cells #[.string v.nm, .int .i64 v.id, .int .i64 v.sz, .int .i64 v.og, .int .i64 v.kd, .bool v.pt, .slice ma v.mp.length mc] 38 (0, 0)) := by rw [hU, hVe]; exact heap_new _ _
    obtain ⟨e0, e1, e2, e3, e4, e5, e6⟩ : U.cell? ⟨V, 0, none⟩ = some (.string v.nm) ∧ U.cell? ⟨V, 1, none⟩ = some (.int .i64 v.id) ∧ U.cell? ⟨V, 2, none⟩ = some (.int .i64 v.sz) ∧ U.cell? ⟨V, 3, none⟩ = some (.int .i64 v.og) ∧ U.cell? ⟨V, 4, none⟩ = some (.int .i64 v.kd) ∧ U.cell? ⟨V, 5, none⟩ = some (.bool v.pt) ∧ U.cell? ⟨V, 6, none⟩ = some (.slice ma v.mp.length mc) := by
     simp [World.cell?, hVb]
    have HU := hid hU
    have HVe := hid hVe
    have HBU := hid bU
    have HBW := hid (hb.trans (bU.mono hb.size))
    have HBE : Hid (∀ m, Below w.heap.size w (U.drewN m)) := hid (fun m => (HB1.out.trans (HBW.out.mono HB1.out.size)).trans (below_drewN _ _ _))
    have HRg : Hid (∀ U2, Below U.heap.size U U2 → Calls Tryz.prog 29 #[.slice ma v.mp.length mc, .int .i64 v.sz] U2 fun e w' => e = .returned (.bool (rgO v.mp (-1) v.sz)) ∧ ∃ m, w' = U2.drewN m) := hid (fun U2 h2 => ranges_any ma mc v.mp v.sz U2 hml ((hRm.below (((bU.mono hb.size).trans (h2.mono (HBW.out.size))))).mono (Nat.le_trans HBW.out.size h2.size)))
    clear hc hU hVe hVb bU hb hVr hRm hml hall hvk hgl
    have HR3 := hid r3
    have HE1 := hid e1
    by_cases q1 : nmB v.nm = true
    ·as_aux_lemma =>
      rw [q1] at HNm
      have HNB := hid q1
      clear q1
      by_cases q2 : k = 0
      ·as_aux_lemma =>
        subst q2
        have hb0 : off + 0 * 7 = off := by omega
        rw [hb0] at c0' c1 c2 c3 c4 c5 c6
        clear hb0 HFn HFt HFl HID HNA HALL HF1
        by_cases u0 : v.id < 1
        ·as_aux_lemma =>
          have HF := hid (HFu.out (by unfold volN; rw [if_pos u0]))
          clear HFu HFk HRg
          go_wp2_with fail
          rw [← HU.out, ← HVe.out]
          clear p0 p1 p2 p3 c0' c1 c2 c3 c4 c5 c6
          refine Gz (S := (fun u => (u.cell? ⟨V, 0, none⟩ = some (.string v.nm) ∧ u.cell? ⟨V, 1, none⟩ = some (.int .i64 v.id) ∧ u.cell? ⟨V, 2, none⟩ = some (.int .i64 v.sz) ∧ u.cell? ⟨V, 3, none⟩ = some (.int .i64 v.og) ∧ u.cell? ⟨P, 2, none⟩ = some (.int .i64 x.nx)))) ⟨e0, e1, e2, e3, r2⟩ (fun hSS => ?_)
          refine Ti 0 rfl ?_
          refine Ti 1 rfl ?_
          try simp only [Act.put, zA, zB, zC]
          refine Ri 2 rfl (fun K9 hK9 => ?_)
          go_simp
          go_at_call 28
          refine Calls.mono (HNm.out _) ?_
          rintro e wn ⟨rfl, hwn⟩
          have hwn := hwn.symm
          subst hwn
          refine hK9.out _ _ ⟨e0, e1, e2, e3, r2⟩ (fun hSS => ?_)
          try simp only [Act.put, zA, zB, zC]
          refine Ti 3 rfl ?_
          refine Ti 4 rfl ?_
          refine Ti 5 rfl ?_
          try simp only [Act.put, zA, zB, zC]
          refine wpAnyH_take (i := 6) (oi := ({ dst := some 60, op := Op.binOp BinOp.gtr 3 (Operand.tmp 59) (Operand.const (Value.int IntKind.i64 0)) 3, type := 4, pos := _, after := _, guard := some (4, false) } : Oper)) (v := .bool false) rfl (by kernel_rfl) (by kernel_rfl) (by kernel_rfl) (fun _ _ _ h => h) (Or.inl ⟨by rfl, ?_⟩) hSS ?_
          ·intro w9 hSw
           (try dsimp only at hSw)
           (try go_split_ands)
           first | (go_simp; done) | (go_simp; simp [Int.lt_irrefl]; done)
          try simp only [Act.put, zA, zB, zC]
          refine Ti 7 rfl ?_
          try simp only [Act.put, zA, zB, zC]
          refine Si 8 rfl ?_
          refine Si 9 rfl ?_
          refine Si 10 rfl ?_
          refine Si 11 rfl ?_
          try simp only [Act.put, zA, zB, zC]
          refine Si 12 rfl ?_
          refine Si 13 rfl ?_
          refine Si 14 rfl ?_
          refine Si 15 rfl ?_
          try simp only [Act.put, zA, zB, zC]
          refine Si 16 rfl ?_
          refine Si 17 rfl ?_
          refine Ti 18 rfl ?_
          refine Ti 19 rfl ?_
          try simp only [Act.put, zA, zB, zC]
          refine Ti 20 rfl ?_
          refine Ti 21 rfl ?_
          refine Ti 22 rfl ?_
          try simp only [Act.put, zA, zB, zC]
          refine wpAnyH_take (i := 23) (oi := ({ dst := some 77, op := Op.binOp BinOp.lss 3 (Operand.tmp 76) (Operand.const (Value.int IntKind.i64 1)) 3, type := 4, pos := _, after := _, guard := some (20, false) } : Oper)) (v := .bool true) rfl (by kernel_rfl) (by kernel_rfl) (by kernel_rfl) (fun _ _ _ h => h) (Or.inl ⟨by rfl, ?_⟩) hSS ?_
          ·intro w9 hSw
           (try dsimp only at hSw)
           (try go_split_ands)
           first | (go_simp; done) | (go_simp; simp [u0]; done)
          try simp only [Act.put, zA, zB, zC]
          refine Ti 24 rfl ?_
          refine Ti 25 rfl ?_
          try simp only [Act.put, zA, zB, zC]
          refine Si 26 rfl ?_
          refine Si 27 rfl ?_
          refine Si 28 rfl ?_
          refine Si 29 rfl ?_
          try simp only [Act.put, zA, zB, zC]
          refine Si 30 rfl ?_
          refine Ti 31 rfl ?_
          refine Ti 32 rfl ?_
          refine Si 33 rfl ?_
          try simp only [Act.put, zA, zB, zC]
          refine Si 34 rfl ?_
          refine Si 35 rfl ?_
          refine Ti 36 rfl ?_
          refine Ti 37 rfl ?_
          try simp only [Act.put, zA, zB, zC]
          refine Si 38 rfl ?_
          refine Si 39 rfl ?_
          refine Si 40 rfl ?_
          refine Ti 41 rfl ?_
          try simp only [Act.put, zA, zB, zC]
          refine Ti 42 rfl ?_
          refine Si 43 rfl ?_
          refine Si 44 rfl ?_
          refine Si 45 rfl ?_
          try simp only [Act.put, zA, zB, zC]
          refine Ti 46 rfl ?_
          refine Ti 47 rfl ?_
          refine Si 48 rfl ?_
          refine Si 49 rfl ?_
          try simp only [Act.put, zA, zB, zC]
          refine Si 50 rfl ?_
          refine Si 51 rfl ?_
          refine Si 52 rfl ?_
          refine Ti 53 rfl ?_
          try simp only [Act.put, zA, zB, zC]
          refine Dn ?_
          go_wp2
          go_ret
          exact ⟨by rw [HF.out]; rfl, HBE.out 1⟩
        by_cases u1 : x.nx ≤ v.id
        ·as_aux_lemma =>
          have HF := hid (HFu.out (by unfold volN; rw [if_neg u0, if_pos u1]))
          clear HFu HFk HRg
          go_wp2_with fail
          rw [← HU.out, ← HVe.out]
          clear p0 p1 p2 p3 c0' c1 c2 c3 c4 c5 c6
          refine Gz (S := (fun u => (u.cell? ⟨V, 0, none⟩ = some (.string v.nm) ∧ u.cell? ⟨V, 1, none⟩ = some (.int .i64 v.id) ∧ u.cell? ⟨V, 2, none⟩ = some (.int .i64 v.sz) ∧ u.cell? ⟨V, 3, none⟩ = some (.int .i64 v.og) ∧ u.cell? ⟨P, 2, none⟩ = some (.int .i64 x.nx)))) ⟨e0, e1, e2, e3, r2⟩ (fun hSS => ?_)
          refine Ti 0 rfl ?_
          try simp only [Act.put, zA, zB, zC]
          refine Ti 1 rfl ?_
          try simp only [Act.put, zA, zB, zC]
          refine Ri 2 rfl (fun K9 hK9 => ?_)
          go_simp
          go_at_call 28
          refine Calls.mono (HNm.out _) ?_
          rintro e wn ⟨rfl, hwn⟩
          have hwn := hwn.symm
          subst hwn
          refine hK9.out _ _ ⟨e0, e1, e2, e3, r2⟩ (fun hSS => ?_)
          try simp only [Act.put, zA, zB, zC]
          refine Ti 3 rfl ?_
          refine Ti 4 rfl ?_
          refine Ti 5 rfl ?_
          try simp only [Act.put, zA, zB, zC]
          refine wpAnyH_take (i := 6) (oi := ({ dst := some 60, op := Op.binOp BinOp.gtr 3 (Operand.tmp 59) (Operand.const (Value.int IntKind.i64 0)) 3, type := 4, pos := _, after := _, guard := some (4, false) } : Oper)) (v := .bool false) rfl (by kernel_rfl) (by kernel_rfl) (by kernel_rfl) (fun _ _ _ h => h) (Or.inl ⟨by rfl, ?_⟩) hSS ?_
          ·intro w9 hSw
           (try dsimp only at hSw)
           (try go_split_ands)
           first | (go_simp; done) | (go_simp; simp [Int.lt_irrefl]; done)
          try simp only [Act.put, zA, zB, zC]
          refine Ti 7 rfl ?_
          refine Si 8 rfl ?_
          try simp only [Act.put, zA, zB, zC]
          refine Si 9 rfl ?_
          refine Si 10 rfl ?_
          refine Si 11 rfl ?_
          refine Si 12 rfl ?_
          try simp only [Act.put, zA, zB, zC]
          refine Si 13 rfl ?_
          refine Si 14 rfl ?_
          refine Si 15 rfl ?_
          refine Si 16 rfl ?_
          try simp only [Act.put, zA, zB, zC]
          refine Si 17 rfl ?_
          refine Ti 18 rfl ?_
          refine Ti 19 rfl ?_
          refine Ti 20 rfl ?_
          try simp only [Act.put, zA, zB, zC]
          refine Ti 21 rfl ?_
          refine Ti 22 rfl ?_
          try simp only [Act.put, zA, zB, zC]
          refine wpAnyH_take (i := 23) (oi := ({ dst := some 77, op := Op.binOp BinOp.lss 3 (Operand.tmp 76) (Operand.const (Value.int IntKind.i64 1)) 3, type := 4, pos := _, after := _, guard := some (20, false) } : Oper)) (v := .bool false) rfl (by kernel_rfl) (by kernel_rfl) (by kernel_rfl) (fun _ _ _ h => h) (Or.inl ⟨by rfl, ?_⟩) hSS ?_
          ·intro w9 hSw
           (try dsimp only at hSw)
           (try go_split_ands)
           first | (go_simp; done) | (go_simp; simp [u0]; done)
          try simp only [Act.put, zA, zB, zC]
          refine Ti 24 rfl ?_
          refine Ti 25 rfl ?_
          refine Ti 26 rfl ?_
          try simp only [Act.put, zA, zB, zC]
          refine Ti 27 rfl ?_
          refine Ti 28 rfl ?_
          refine Ti 29 rfl ?_
          try simp only [Act.put, zA, zB, zC]
          refine wpAnyH_take (i := 30) (oi := ({ dst := some 84, op := Op.binOp BinOp.geq 3 (Operand.tmp 81) (Operand.tmp 83) 3, type := 4, pos := _, after := _, guard := some (25, false) } : Oper)) (v := .bool true) rfl (by kernel_rfl) (by kernel_rfl) (by kernel_rfl) (fun _ _ _ h => h) (Or.inl ⟨by rfl, ?_⟩) hSS ?_
          ·intro w9 hSw
           (try dsimp only at hSw)
           (try go_split_ands)
           first | (go_simp; done) | (go_simp; simp [u1]; done)
          try simp only [Act.put, zA, zB, zC]
          refine Ti 31 rfl ?_
          refine Ti 32 rfl ?_
          try simp only [Act.put, zA, zB, zC]
          refine Si 33 rfl ?_
          refine Si 34 rfl ?_
          refine Si 35 rfl ?_
          refine Ti 36 rfl ?_
          try simp only [Act.put, zA, zB, zC]
          refine Ti 37 rfl ?_
          refine Si 38 rfl ?_
          refine Si 39 rfl ?_
          refine Si 40 rfl ?_
          try simp only [Act.put, zA, zB, zC]
          refine Ti 41 rfl ?_
          refine Ti 42 rfl ?_
          refine Si 43 rfl ?_
          refine Si 44 rfl ?_
          try simp only [Act.put, zA, zB, zC]
          refine Si 45 rfl ?_
          refine Ti 46 rfl ?_
          refine Ti 47 rfl ?_
          refine Si 48 rfl ?_
          try simp only [Act.put, zA, zB, zC]
          refine Si 49 rfl ?_
          refine Si 50 rfl ?_
          refine Si 51 rfl ?_
          refine Si 52 rfl ?_
          try simp only [Act.put, zA, zB, zC]
          refine Ti 53 rfl ?_
          try simp only [Act.put, zA, zB, zC]
          refine Dn ?_
          go_wp2
          go_ret
          exact ⟨by rw [HF.out]; rfl, HBE.out 1⟩
        by_cases u2 : v.sz < 1
        ·as_aux_lemma =>
          have HF := hid (HFu.out (by unfold volN; rw [if_neg u0, if_neg u1, if_pos u2]))
          clear HFu HFk HRg
          go_wp2_with fail
          rw [← HU.out, ← HVe.out]
          clear p0 p1 p2 p3 c0' c1 c2 c3 c4 c5 c6
          refine Gz (S := (fun u => (u.cell? ⟨V, 0, none⟩ = some (.string v.nm) ∧ u.cell? ⟨V, 1, none⟩ = some (.int .i64 v.id) ∧ u.cell? ⟨V, 2, none⟩ = some (.int .i64 v.sz) ∧ u.cell? ⟨V, 3, none⟩ = some (.int .i64 v.og) ∧ u.cell? ⟨P, 2, none⟩ = some (.int .i64 x.nx)))) ⟨e0, e1, e2, e3, r2⟩ (fun hSS => ?_)
          refine Ti 0 rfl ?_
          refine Ti 1 rfl ?_
          try simp only [Act.put, zA, zB, zC]
          refine Ri 2 rfl (fun K9 hK9 => ?_)
          go_simp
          go_at_call 28
          refine Calls.mono (HNm.out _) ?_
          rintro e wn ⟨rfl, hwn⟩
          have hwn := hwn.symm
          subst hwn
          refine hK9.out _ _ ⟨e0, e1, e2, e3, r2⟩ (fun hSS => ?_)
          try simp only [Act.put, zA, zB, zC]
          refine Ti 3 rfl ?_
          refine Ti 4 rfl ?_
          refine Ti 5 rfl ?_
          try simp only [Act.put, zA, zB, zC]
          refine wpAnyH_take (i := 6) (oi := ({ dst := some 60, op := Op.binOp BinOp.gtr 3 (Operand.tmp 59) (Operand.const (Value.int IntKind.i64 0)) 3, type := 4, pos := _, after := _, guard := some (4, false) } : Oper)) (v := .bool false) rfl (by kernel_rfl) (by kernel_rfl) (by kernel_rfl) (fun _ _ _ h => h) (Or.inl ⟨by rfl, ?_⟩) hSS ?_
          ·intro w9 hSw
           (try dsimp only at hSw)
           (try go_split_ands)
           first | (go_simp; done) | (go_simp; simp [Int.lt_irrefl]; done)
          try simp only [Act.put, zA, zB, zC]
          refine Ti 7 rfl ?_
          try simp only [Act.put, zA, zB, zC]
          refine Si 8 rfl ?_
          refine Si 9 rfl ?_
          refine Si 10 rfl ?_
          refine Si 11 rfl ?_
          try simp only [Act.put, zA, zB, zC]
          refine Si 12 rfl ?_
          refine Si 13 rfl ?_
          refine Si 14 rfl ?_
          refine Si 15 rfl ?_
          try simp only [Act.put, zA, zB, zC]
          refine Si 16 rfl ?_
          refine Si 17 rfl ?_
          refine Ti 18 rfl ?_
          refine Ti 19 rfl ?_
          try simp only [Act.put, zA, zB, zC]
          refine Ti 20 rfl ?_
          refine Ti 21 rfl ?_
          refine Ti 22 rfl ?_
          try simp only [Act.put, zA, zB, zC]
          refine wpAnyH_take (i := 23) (oi := ({ dst := some 77, op := Op.binOp BinOp.lss 3 (Operand.tmp 76) (Operand.const (Value.int IntKind.i64 1)) 3, type := 4, pos := _, after := _, guard := some (20, false) } : Oper)) (v := .bool false) rfl (by kernel_rfl) (by kernel_rfl) (by kernel_rfl) (fun _ _ _ h => h) (Or.inl ⟨by rfl, ?_⟩) hSS ?_
          ·intro w9 hSw
           (try dsimp only at hSw)
           (try go_split_ands)
           first | (go_simp; done) | (go_simp; simp [u0]; done)
          try simp only [Act.put, zA, zB, zC]
          refine Ti 24 rfl ?_
          refine Ti 25 rfl ?_
          try simp only [Act.put, zA, zB, zC]
          refine Ti 26 rfl ?_
          refine Ti 27 rfl ?_
          refine Ti 28 rfl ?_
          refine Ti 29 rfl ?_
          try simp only [Act.put, zA, zB, zC]
          refine wpAnyH_take (i := 30) (oi := ({ dst := some 84, op := Op.binOp BinOp.geq 3 (Operand.tmp 81) (Operand.tmp 83) 3, type := 4, pos := _, after := _, guard := some (25, false) } : Oper)) (v := .bool false) rfl (by kernel_rfl) (by kernel_rfl) (by kernel_rfl) (fun _ _ _ h => h) (Or.inl ⟨by rfl, ?_⟩) hSS ?_
          ·intro w9 hSw
           (try dsimp only at hSw)
           (try go_split_ands)
           first | (go_simp; done) | (go_simp; simp [u1]; done)
          try simp only [Act.put, zA, zB, zC]
          refine Ti 31 rfl ?_
          try simp only [Act.put, zA, zB, zC]
          refine Ti 32 rfl ?_
          refine Ti 33 rfl ?_
          refine Ti 34 rfl ?_
          try simp only [Act.put, zA, zB, zC]
          refine wpAnyH_take (i := 35) (oi := ({ dst := some 89, op := Op.binOp BinOp.lss 3 (Operand.tmp 88) (Operand.const (Value.int IntKind.i64 1)) 3, type := 4, pos := _, after := _, guard := some (32, false) } : Oper)) (v := .bool true) rfl (by kernel_rfl) (by kernel_rfl) (by kernel_rfl) (fun _ _ _ h => h) (Or.inl ⟨by rfl, ?_⟩) hSS ?_
          ·intro w9 hSw
           (try dsimp only at hSw)
           (try go_split_ands)
           first | (go_simp; done) | (go_simp; simp [u2]; done)
          try simp only [Act.put, zA, zB, zC]
          refine Ti 36 rfl ?_
          refine Ti 37 rfl ?_
          try simp only [Act.put, zA, zB, zC]
          refine Si 38 rfl ?_
          refine Si 39 rfl ?_
          refine Si 40 rfl ?_
          refine Ti 41 rfl ?_
          try simp only [Act.put, zA, zB, zC]
          refine Ti 42 rfl ?_
          refine Si 43 rfl ?_
          refine Si 44 rfl ?_
          refine Si 45 rfl ?_
          try simp only [Act.put, zA, zB, zC]
          refine Ti 46 rfl ?_
          refine Ti 47 rfl ?_
          refine Si 48 rfl ?_
          refine Si 49 rfl ?_
          try simp only [Act.put, zA, zB, zC]
          refine Si 50 rfl ?_
          refine Si 51 rfl ?_
          refine Si 52 rfl ?_
          refine Ti 53 rfl ?_
          try simp only [Act.put, zA, zB, zC]
          refine Dn ?_
          go_wp2
          go_ret
          exact ⟨by rw [HF.out]; rfl, HBE.out 1⟩
        by_cases u3 : 262144 < v.sz
        ·as_aux_lemma =>
          have HF := hid (HFu.out (by unfold volN; rw [if_neg u0, if_neg u1, if_neg u2, if_pos u3]))
          clear HFu HFk HRg
          go_wp2_with fail
          rw [← HU.out, ← HVe.out]
          clear p0 p1 p2 p3 c0' c1 c2 c3 c4 c5 c6
          refine Gz (S := (fun u => (u.cell? ⟨V, 0, none⟩ = some (.string v.nm) ∧ u.cell? ⟨V, 1, none⟩ = some (.int .i64 v.id) ∧ u.cell? ⟨V, 2, none⟩ = some (.int .i64 v.sz) ∧ u.cell? ⟨V, 3, none⟩ = some (.int .i64 v.og) ∧ u.cell? ⟨P, 2, none⟩ = some (.int .i64 x.nx)))) ⟨e0, e1, e2, e3, r2⟩ (fun hSS => ?_)
          refine Ti 0 rfl ?_
          try simp only [Act.put, zA, zB, zC]
          refine Ti 1 rfl ?_
          try simp only [Act.put, zA, zB, zC]
          refine Ri 2 rfl (fun K9 hK9 => ?_)
          go_simp
          go_at_call 28
          refine Calls.mono (HNm.out _) ?_
          rintro e wn ⟨rfl, hwn⟩
          have hwn := hwn.symm
          subst hwn
          refine hK9.out _ _ ⟨e0, e1, e2, e3, r2⟩ (fun hSS => ?_)
          try simp only [Act.put, zA, zB, zC]
          refine Ti 3 rfl ?_
          refine Ti 4 rfl ?_
          refine Ti 5 rfl ?_
          try simp only [Act.put, zA, zB, zC]
          refine wpAnyH_take (i := 6) (oi := ({ dst := some 60, op := Op.binOp BinOp.gtr 3 (Operand.tmp 59) (Operand.const (Value.int IntKind.i64 0)) 3, type := 4, pos := _, after := _, guard := some (4, false) } : Oper)) (v := .bool false) rfl (by kernel_rfl) (by kernel_rfl) (by kernel_rfl) (fun _ _ _ h => h) (Or.inl ⟨by rfl, ?_⟩) hSS ?_
          ·intro w9 hSw
           (try dsimp only at hSw)
           (try go_split_ands)
           first | (go_simp; done) | (go_simp; simp [Int.lt_irrefl]; done)
          try simp only [Act.put, zA, zB, zC]
          refine Ti 7 rfl ?_
          refine Si 8 rfl ?_
          try simp only [Act.put, zA, zB, zC]
          refine Si 9 rfl ?_
          refine Si 10 rfl ?_
          refine Si 11 rfl ?_
          refine Si 12 rfl ?_
          try simp only [Act.put, zA, zB, zC]
          refine Si 13 rfl ?_
          refine Si 14 rfl ?_
          refine Si 15 rfl ?_
          refine Si 16 rfl ?_
          try simp only [Act.put, zA, zB, zC]
          refine Si 17 rfl ?_
          refine Ti 18 rfl ?_
          refine Ti 19 rfl ?_
          refine Ti 20 rfl ?_
          try simp only [Act.put, zA, zB, zC]
          refine Ti 21 rfl ?_
          refine Ti 22 rfl ?_
          try simp only [Act.put, zA, zB, zC]
          refine wpAnyH_take (i := 23) (oi := ({ dst := some 77, op := Op.binOp BinOp.lss 3 (Operand.tmp 76) (Operand.const (Value.int IntKind.i64 1)) 3, type := 4, pos := _, after := _, guard := some (20, false) } : Oper)) (v := .bool false) rfl (by kernel_rfl) (by kernel_rfl) (by kernel_rfl) (fun _ _ _ h => h) (Or.inl ⟨by rfl, ?_⟩) hSS ?_
          ·intro w9 hSw
           (try dsimp only at hSw)
           (try go_split_ands)
           first | (go_simp; done) | (go_simp; simp [u0]; done)
          try simp only [Act.put, zA, zB, zC]
          refine Ti 24 rfl ?_
          refine Ti 25 rfl ?_
          refine Ti 26 rfl ?_
          try simp only [Act.put, zA, zB, zC]
          refine Ti 27 rfl ?_
          refine Ti 28 rfl ?_
          refine Ti 29 rfl ?_
          try simp only [Act.put, zA, zB, zC]
          refine wpAnyH_take (i := 30) (oi := ({ dst := some 84, op := Op.binOp BinOp.geq 3 (Operand.tmp 81) (Operand.tmp 83) 3, type := 4, pos := _, after := _, guard := some (25, false) } : Oper)) (v := .bool false) rfl (by kernel_rfl) (by kernel_rfl) (by kernel_rfl) (fun _ _ _ h => h) (Or.inl ⟨by rfl, ?_⟩) hSS ?_
          ·intro w9 hSw
           (try dsimp only at hSw)
           (try go_split_ands)
           first | (go_simp; done) | (go_simp; simp [u1]; done)
          try simp only [Act.put, zA, zB, zC]
          refine Ti 31 rfl ?_
          refine Ti 32 rfl ?_
          try simp only [Act.put, zA, zB, zC]
          refine Ti 33 rfl ?_
          refine Ti 34 rfl ?_
          try simp only [Act.put, zA, zB, zC]
          refine wpAnyH_take (i := 35) (oi := ({ dst := some 89, op := Op.binOp BinOp.lss 3 (Operand.tmp 88) (Operand.const (Value.int IntKind.i64 1)) 3, type := 4, pos := _, after := _, guard := some (32, false) } : Oper)) (v := .bool false) rfl (by kernel_rfl) (by kernel_rfl) (by kernel_rfl) (fun _ _ _ h => h) (Or.inl ⟨by rfl, ?_⟩) hSS ?_
          ·intro w9 hSw
           (try dsimp only at hSw)
           (try go_split_ands)
           first | (go_simp; done) | (go_simp; simp [u2]; done)
          try simp only [Act.put, zA, zB, zC]
          refine Ti 36 rfl ?_
          refine Ti 37 rfl ?_
          refine Ti 38 rfl ?_
          try simp only [Act.put, zA, zB, zC]
          refine Ti 39 rfl ?_
          try simp only [Act.put, zA, zB, zC]
          refine wpAnyH_take (i := 40) (oi := ({ dst := some 94, op := Op.binOp BinOp.gtr 3 (Operand.tmp 93) (Operand.const (Value.int IntKind.i64 262144)) 3, type := 4, pos := _, after := _, guard := some (37, false) } : Oper)) (v := .bool true) rfl (by kernel_rfl) (by kernel_rfl) (by kernel_rfl) (fun _ _ _ h => h) (Or.inl ⟨by rfl, ?_⟩) hSS ?_
          ·intro w9 hSw
           (try dsimp only at hSw)
           (try go_split_ands)
           first | (go_simp; done) | (go_simp; simp [u3]; done)
          try simp only [Act.put, zA, zB, zC]
          refine Ti 41 rfl ?_
          refine Ti 42 rfl ?_
          refine Si 43 rfl ?_
          refine Si 44 rfl ?_
          try simp only [Act.put, zA, zB, zC]
          refine Si 45 rfl ?_
          refine Ti 46 rfl ?_
          refine Ti 47 rfl ?_
          refine Si 48 rfl ?_
          try simp only [Act.put, zA, zB, zC]
          refine Si 49 rfl ?_
          refine Si 50 rfl ?_
          refine Si 51 rfl ?_
          refine Si 52 rfl ?_
          try simp only [Act.put, zA, zB, zC]
          refine Ti 53 rfl ?_
          try simp only [Act.put, zA, zB, zC]
          refine Dn ?_
          go_wp2
          go_ret
          exact ⟨by rw [HF.out]; rfl, HBE.out 1⟩
        by_cases u4 : v.og < 0
        ·as_aux_lemma =>
          have HF := hid (HFu.out (by unfold volN; rw [if_neg u0, if_neg u1, if_neg u2, if_neg u3, if_pos u4]))
          clear HFu HFk HRg
          go_wp2_with fail
          rw [← HU.out, ← HVe.out]
          clear p0 p1 p2 p3 c0' c1 c2 c3 c4 c5 c6
          refine Gz (S := (fun u => (u.cell? ⟨V, 0, none⟩ = some (.string v.nm) ∧ u.cell? ⟨V, 1, none⟩ = some (.int .i64 v.id) ∧ u.cell? ⟨V, 2, none⟩ = some (.int .i64 v.sz) ∧ u.cell? ⟨V, 3, none⟩ = some (.int .i64 v.og) ∧ u.cell? ⟨P, 2, none⟩ = some (.int .i64 x.nx)))) ⟨e0, e1, e2, e3, r2⟩ (fun hSS => ?_)
          refine Ti 0 rfl ?_
          refine Ti 1 rfl ?_
          try simp only [Act.put, zA, zB, zC]
          refine Ri 2 rfl (fun K9 hK9 => ?_)
          go_simp
          go_at_call 28
          refine Calls.mono (HNm.out _) ?_
          rintro e wn ⟨rfl, hwn⟩
          have hwn := hwn.symm
          subst hwn
          refine hK9.out _ _ ⟨e0, e1, e2, e3, r2⟩ (fun hSS => ?_)
          try simp only [Act.put, zA, zB, zC]
          refine Ti 3 rfl ?_
          refine Ti 4 rfl ?_
          refine Ti 5 rfl ?_
          try simp only [Act.put, zA, zB, zC]
          refine wpAnyH_take (i := 6) (oi := ({ dst := some 60, op := Op.binOp BinOp.gtr 3 (Operand.tmp 59) (Operand.const (Value.int IntKind.i64 0)) 3, type := 4, pos := _, after := _, guard := some (4, false) } : Oper)) (v := .bool false) rfl (by kernel_rfl) (by kernel_rfl) (by kernel_rfl) (fun _ _ _ h => h) (Or.inl ⟨by rfl, ?_⟩) hSS ?_
          ·intro w9 hSw
           (try dsimp only at hSw)
           (try go_split_ands)
           first | (go_simp; done) | (go_simp; simp [Int.lt_irrefl]; done)
          try simp only [Act.put, zA, zB, zC]
          refine Ti 7 rfl ?_
          try simp only [Act.put, zA, zB, zC]
          refine Si 8 rfl ?_
          refine Si 9 rfl ?_
          refine Si 10 rfl ?_
          refine Si 11 rfl ?_
          try simp only [Act.put, zA, zB, zC]
          refine Si 12 rfl ?_
          refine Si 13 rfl ?_
          refine Si 14 rfl ?_
          refine Si 15 rfl ?_
          try simp only [Act.put, zA, zB, zC]
          refine Si 16 rfl ?_
          refine Si 17 rfl ?_
          refine Ti 18 rfl ?_
          refine Ti 19 rfl ?_
          try simp only [Act.put, zA, zB, zC]
          refine Ti 20 rfl ?_
          refine Ti 21 rfl ?_
          refine Ti 22 rfl ?_
          try simp only [Act.put, zA, zB, zC]
          refine wpAnyH_take (i := 23) (oi := ({ dst := some 77, op := Op.binOp BinOp.lss 3 (Operand.tmp 76) (Operand.const (Value.int IntKind.i64 1)) 3, type := 4, pos := _, after := _, guard := some (20, false) } : Oper)) (v := .bool false) rfl (by kernel_rfl) (by kernel_rfl) (by kernel_rfl) (fun _ _ _ h => h) (Or.inl ⟨by rfl, ?_⟩) hSS ?_
          ·intro w9 hSw
           (try dsimp only at hSw)
           (try go_split_ands)
           first | (go_simp; done) | (go_simp; simp [u0]; done)
          try simp only [Act.put, zA, zB, zC]
          refine Ti 24 rfl ?_
          refine Ti 25 rfl ?_
          try simp only [Act.put, zA, zB, zC]
          refine Ti 26 rfl ?_
          refine Ti 27 rfl ?_
          refine Ti 28 rfl ?_
          refine Ti 29 rfl ?_
          try simp only [Act.put, zA, zB, zC]
          refine wpAnyH_take (i := 30) (oi := ({ dst := some 84, op := Op.binOp BinOp.geq 3 (Operand.tmp 81) (Operand.tmp 83) 3, type := 4, pos := _, after := _, guard := some (25, false) } : Oper)) (v := .bool false) rfl (by kernel_rfl) (by kernel_rfl) (by kernel_rfl) (fun _ _ _ h => h) (Or.inl ⟨by rfl, ?_⟩) hSS ?_
          ·intro w9 hSw
           (try dsimp only at hSw)
           (try go_split_ands)
           first | (go_simp; done) | (go_simp; simp [u1]; done)
          try simp only [Act.put, zA, zB, zC]
          refine Ti 31 rfl ?_
          try simp only [Act.put, zA, zB, zC]
          refine Ti 32 rfl ?_
          refine Ti 33 rfl ?_
          refine Ti 34 rfl ?_
          try simp only [Act.put, zA, zB, zC]
          refine wpAnyH_take (i := 35) (oi := ({ dst := some 89, op := Op.binOp BinOp.lss 3 (Operand.tmp 88) (Operand.const (Value.int IntKind.i64 1)) 3, type := 4, pos := _, after := _, guard := some (32, false) } : Oper)) (v := .bool false) rfl (by kernel_rfl) (by kernel_rfl) (by kernel_rfl) (fun _ _ _ h => h) (Or.inl ⟨by rfl, ?_⟩) hSS ?_
          ·intro w9 hSw
           (try dsimp only at hSw)
           (try go_split_ands)
           first | (go_simp; done) | (go_simp; simp [u2]; done)
          try simp only [Act.put, zA, zB, zC]
          refine Ti 36 rfl ?_
          refine Ti 37 rfl ?_
          try simp only [Act.put, zA, zB, zC]
          refine Ti 38 rfl ?_
          refine Ti 39 rfl ?_
          try simp only [Act.put, zA, zB, zC]
          refine wpAnyH_take (i := 40) (oi := ({ dst := some 94, op := Op.binOp BinOp.gtr 3 (Operand.tmp 93) (Operand.const (Value.int IntKind.i64 262144)) 3, type := 4, pos := _, after := _, guard := some (37, false) } : Oper)) (v := .bool false) rfl (by kernel_rfl) (by kernel_rfl) (by kernel_rfl) (fun _ _ _ h => h) (Or.inl ⟨by rfl, ?_⟩) hSS ?_
          ·intro w9 hSw
           (try dsimp only at hSw)
           (try go_split_ands)
           first | (go_simp; done) | (go_simp; simp [u3]; done)
          try simp only [Act.put, zA, zB, zC]
          refine Ti 41 rfl ?_
          refine Ti 42 rfl ?_
          refine Ti 43 rfl ?_
          try simp only [Act.put, zA, zB, zC]
          refine Ti 44 rfl ?_
          try simp only [Act.put, zA, zB, zC]
          refine wpAnyH_take (i := 45) (oi := ({ dst := some 99, op := Op.binOp BinOp.lss 3 (Operand.tmp 98) (Operand.const (Value.int IntKind.i64 0)) 3, type := 4, pos := _, after := _, guard := some (42, false) } : Oper)) (v := .bool true) rfl (by kernel_rfl) (by kernel_rfl) (by kernel_rfl) (fun _ _ _ h => h) (Or.inl ⟨by rfl, ?_⟩) hSS ?_
          ·intro w9 hSw
           (try dsimp only at hSw)
           (try go_split_ands)
           first | (go_simp; done) | (go_simp; simp [u4]; done)
          try simp only [Act.put, zA, zB, zC]
          refine Ti 46 rfl ?_
          refine Ti 47 rfl ?_
          refine Si 48 rfl ?_
          refine Si 49 rfl ?_
          try simp only [Act.put, zA, zB, zC]
          refine Si 50 rfl ?_
          refine Si 51 rfl ?_
          refine Si 52 rfl ?_
          refine Ti 53 rfl ?_
          try simp only [Act.put, zA, zB, zC]
          refine Dn ?_
          go_wp2
          go_ret
          exact ⟨by rw [HF.out]; rfl, HBE.out 1⟩
        by_cases u5 : v.id ≤ v.og
        ·as_aux_lemma =>
          have HF := hid (HFu.out (by unfold volN; rw [if_neg u0, if_neg u1, if_neg u2, if_neg u3, if_neg u4, if_pos u5]))
          clear HFu HFk HRg
          go_wp2_with fail
          rw [← HU.out, ← HVe.out]
          clear p0 p1 p2 p3 c0' c1 c2 c3 c4 c5 c6
          refine Gz (S := (fun u => (u.cell? ⟨V, 0, none⟩ = some (.string v.nm) ∧ u.cell? ⟨V, 1, none⟩ = some (.int .i64 v.id) ∧ u.cell? ⟨V, 2, none⟩ = some (.int .i64 v.sz) ∧ u.cell? ⟨V, 3, none⟩ = some (.int .i64 v.og) ∧ u.cell? ⟨P, 2, none⟩ = some (.int .i64 x.nx)))) ⟨e0, e1, e2, e3, r2⟩ (fun hSS => ?_)
          refine Ti 0 rfl ?_
          try simp only [Act.put, zA, zB, zC]
          refine Ti 1 rfl ?_
          try simp only [Act.put, zA, zB, zC]
          refine Ri 2 rfl (fun K9 hK9 => ?_)
          go_simp
          go_at_call 28
          refine Calls.mono (HNm.out _) ?_
          rintro e wn ⟨rfl, hwn⟩
          have hwn := hwn.symm
          subst hwn
          refine hK9.out _ _ ⟨e0, e1, e2, e3, r2⟩ (fun hSS => ?_)
          try simp only [Act.put, zA, zB, zC]
          refine Ti 3 rfl ?_
          refine Ti 4 rfl ?_
          refine Ti 5 rfl ?_
          try simp only [Act.put, zA, zB, zC]
          refine wpAnyH_take (i := 6) (oi := ({ dst := some 60, op := Op.binOp BinOp.gtr 3 (Operand.tmp 59) (Operand.const (Value.int IntKind.i64 0)) 3, type := 4, pos := _, after := _, guard := some (4, false) } : Oper)) (v := .bool false) rfl (by kernel_rfl) (by kernel_rfl) (by kernel_rfl) (fun _ _ _ h => h) (Or.inl ⟨by rfl, ?_⟩) hSS ?_
          ·intro w9 hSw
           (try dsimp only at hSw)
           (try go_split_ands)
           first | (go_simp; done) | (go_simp; simp [Int.lt_irrefl]; done)
          try simp only [Act.put, zA, zB, zC]
          refine Ti 7 rfl ?_
          refine Si 8 rfl ?_
          try simp only [Act.put, zA, zB, zC]
          refine Si 9 rfl ?_
          refine Si 10 rfl ?_
          refine Si 11 rfl ?_
          refine Si 12 rfl ?_
          try simp only [Act.put, zA, zB, zC]
          refine Si 13 rfl ?_
          refine Si 14 rfl ?_
          refine Si 15 rfl ?_
          refine Si 16 rfl ?_
          try simp only [Act.put, zA, zB, zC]
          refine Si 17 rfl ?_
          refine Ti 18 rfl ?_
          refine Ti 19 rfl ?_
          refine Ti 20 rfl ?_
          try simp only [Act.put, zA, zB, zC]
          refine Ti 21 rfl ?_
          refine Ti 22 rfl ?_
          try simp only [Act.put, zA, zB, zC]
          refine wpAnyH_take (i := 23) (oi := ({ dst := some 77, op := Op.binOp BinOp.lss 3 (Operand.tmp 76) (Operand.const (Value.int IntKind.i64 1)) 3, type := 4, pos := _, after := _, guard := some (20, false) } : Oper)) (v := .bool false) rfl (by kernel_rfl) (by kernel_rfl) (by kernel_rfl) (fun _ _ _ h => h) (Or.inl ⟨by rfl, ?_⟩) hSS ?_
          ·intro w9 hSw
           (try dsimp only at hSw)
           (try go_split_ands)
           first | (go_simp; done) | (go_simp; simp [u0]; done)
          try simp only [Act.put, zA, zB, zC]
          refine Ti 24 rfl ?_
          refine Ti 25 rfl ?_
          refine Ti 26 rfl ?_
          try simp only [Act.put, zA, zB, zC]
          refine Ti 27 rfl ?_
          refine Ti 28 rfl ?_
          refine Ti 29 rfl ?_
          try simp only [Act.put, zA, zB, zC]
          refine wpAnyH_take (i := 30) (oi := ({ dst := some 84, op := Op.binOp BinOp.geq 3 (Operand.tmp 81) (Operand.tmp 83) 3, type := 4, pos := _, after := _, guard := some (25, false) } : Oper)) (v := .bool false) rfl (by kernel_rfl) (by kernel_rfl) (by kernel_rfl) (fun _ _ _ h => h) (Or.inl ⟨by rfl, ?_⟩) hSS ?_
          ·intro w9 hSw
           (try dsimp only at hSw)
           (try go_split_ands)
           first | (go_simp; done) | (go_simp; simp [u1]; done)
          try simp only [Act.put, zA, zB, zC]
          refine Ti 31 rfl ?_
          refine Ti 32 rfl ?_
          try simp only [Act.put, zA, zB, zC]
          refine Ti 33 rfl ?_
          refine Ti 34 rfl ?_
          try simp only [Act.put, zA, zB, zC]
          refine wpAnyH_take (i := 35) (oi := ({ dst := some 89, op := Op.binOp BinOp.lss 3 (Operand.tmp 88) (Operand.const (Value.int IntKind.i64 1)) 3, type := 4, pos := _, after := _, guard := some (32, false) } : Oper)) (v := .bool false) rfl (by kernel_rfl) (by kernel_rfl) (by kernel_rfl) (fun _ _ _ h => h) (Or.inl ⟨by rfl, ?_⟩) hSS ?_
          ·intro w9 hSw
           (try dsimp only at hSw)
           (try go_split_ands)
           first | (go_simp; done) | (go_simp; simp [u2]; done)
          try simp only [Act.put, zA, zB, zC]
          refine Ti 36 rfl ?_
          refine Ti 37 rfl ?_
          refine Ti 38 rfl ?_
          try simp only [Act.put, zA, zB, zC]
          refine Ti 39 rfl ?_
          try simp only [Act.put, zA, zB, zC]
          refine wpAnyH_take (i := 40) (oi := ({ dst := some 94, op := Op.binOp BinOp.gtr 3 (Operand.tmp 93) (Operand.const (Value.int IntKind.i64 262144)) 3, type := 4, pos := _, after := _, guard := some (37, false) } : Oper)) (v := .bool false) rfl (by kernel_rfl) (by kernel_rfl) (by kernel_rfl) (fun _ _ _ h => h) (Or.inl ⟨by rfl, ?_⟩) hSS ?_
          ·intro w9 hSw
           (try dsimp only at hSw)
           (try go_split_ands)
           first | (go_simp; done) | (go_simp; simp [u3]; done)
          try simp only [Act.put, zA, zB, zC]
          refine Ti 41 rfl ?_
          refine Ti 42 rfl ?_
          refine Ti 43 rfl ?_
          refine Ti 44 rfl ?_
          try simp only [Act.put, zA, zB, zC]
          refine wpAnyH_take (i := 45) (oi := ({ dst := some 99, op := Op.binOp BinOp.lss 3 (Operand.tmp 98) (Operand.const (Value.int IntKind.i64 0)) 3, type := 4, pos := _, after := _, guard := some (42, false) } : Oper)) (v := .bool false) rfl (by kernel_rfl) (by kernel_rfl) (by kernel_rfl) (fun _ _ _ h => h) (Or.inl ⟨by rfl, ?_⟩) hSS ?_
          ·intro w9 hSw
           (try dsimp only at hSw)
           (try go_split_ands)
           first | (go_simp; done) | (go_simp; simp [u4]; done)
          try simp only [Act.put, zA, zB, zC]
          refine Ti 46 rfl ?_
          try simp only [Act.put, zA, zB, zC]
          refine Ti 47 rfl ?_
          refine Ti 48 rfl ?_
          refine Ti 49 rfl ?_
          refine Ti 50 rfl ?_
          try simp only [Act.put, zA, zB, zC]
          refine Ti 51 rfl ?_
          try simp only [Act.put, zA, zB, zC]
          refine wpAnyH_take (i := 52) (oi := ({ dst := some 106, op := Op.binOp BinOp.geq 3 (Operand.tmp 103) (Operand.tmp 105) 3, type := 4, pos := _, after := _, guard := some (47, false) } : Oper)) (v := .bool true) rfl (by kernel_rfl) (by kernel_rfl) (by kernel_rfl) (fun _ _ _ h => h) (Or.inl ⟨by rfl, ?_⟩) hSS ?_
          ·intro w9 hSw
           (try dsimp only at hSw)
           (try go_split_ands)
           first | (go_simp; done) | (go_simp; simp [u5]; done)
          try simp only [Act.put, zA, zB, zC]
          refine Ti 53 rfl ?_
          try simp only [Act.put, zA, zB, zC]
          refine Dn ?_
          go_wp2
          go_ret
          exact ⟨by rw [HF.out]; rfl, HBE.out 1⟩
        have HVN : Hid (volN v x.nx = true) := hid (by unfold volN; rw [if_neg u0, if_neg u1, if_neg u2, if_neg u3, if_neg u4, if_neg u5])
        go_wp2_with fail
        rw [← HU.out, ← HVe.out]
        clear p0 p1 p2 p3 c0' c1 c2 c3 c4 c5 c6
        refine Gz (S := (fun u => (u.cell? ⟨V, 0, none⟩ = some (.string v.nm) ∧ u.cell? ⟨V, 1, none⟩ = some (.int .i64 v.id) ∧ u.cell? ⟨V, 2, none⟩ = some (.int .i64 v.sz) ∧ u.cell? ⟨V, 3, none⟩ = some (.int .i64 v.og) ∧ u.cell? ⟨P, 2, none⟩ = some (.int .i64 x.nx)))) ⟨e0, e1, e2, e3, r2⟩ (fun hSS => ?_)
        refine Ti 0 rfl ?_
        refine Ti 1 rfl ?_
        try simp only [Act.put, zA, zB, zC]
        refine Ri 2 rfl (fun K9 hK9 => ?_)
        go_simp
        go_at_call 28
        refine Calls.mono (HNm.out _) ?_
        rintro e wn ⟨rfl, hwn⟩
        have hwn := hwn.symm
        subst hwn
        refine hK9.out _ _ ⟨e0, e1, e2, e3, r2⟩ (fun hSS => ?_)
        try simp only [Act.put, zA, zB, zC]
        refine Ti 3 rfl ?_
        refine Ti 4 rfl ?_
        refine Ti 5 rfl ?_
        try simp only [Act.put, zA, zB, zC]
        refine wpAnyH_take (i := 6) (oi := ({ dst := some 60, op := Op.binOp BinOp.gtr 3 (Operand.tmp 59) (Operand.const (Value.int IntKind.i64 0)) 3, type := 4, pos := _, after := _, guard := some (4, false) } : Oper)) (v := .bool false) rfl (by kernel_rfl) (by kernel_rfl) (by kernel_rfl) (fun _ _ _ h => h) (Or.inl ⟨by rfl, ?_⟩) hSS ?_
        ·intro w9 hSw
         (try dsimp only at hSw)
         (try go_split_ands)
         first | (go_simp; done) | (go_simp; simp [Int.lt_irrefl]; done)
        try simp only [Act.put, zA, zB, zC]
        refine Ti 7 rfl ?_
        try simp only [Act.put, zA, zB, zC]
        refine Si 8 rfl ?_
        refine Si 9 rfl ?_
        refine Si 10 rfl ?_
        refine Si 11 rfl ?_
        try simp only [Act.put, zA, zB, zC]
        refine Si 12 rfl ?_
        refine Si 13 rfl ?_
        refine Si 14 rfl ?_
        refine Si 15 rfl ?_
        try simp only [Act.put, zA, zB, zC]
        refine Si 16 rfl ?_
        refine Si 17 rfl ?_
        refine Ti 18 rfl ?_
        refine Ti 19 rfl ?_
        try simp only [Act.put, zA, zB, zC]
        refine Ti 20 rfl ?_
        refine Ti 21 rfl ?_
        refine Ti 22 rfl ?_
        try simp only [Act.put, zA, zB, zC]
        refine wpAnyH_take (i := 23) (oi := ({ dst := some 77, op := Op.binOp BinOp.lss 3 (Operand.tmp 76) (Operand.const (Value.int IntKind.i64 1)) 3, type := 4, pos := _, after := _, guard := some (20, false) } : Oper)) (v := .bool false) rfl (by kernel_rfl) (by kernel_rfl) (by kernel_rfl) (fun _ _ _ h => h) (Or.inl ⟨by rfl, ?_⟩) hSS ?_
        ·intro w9 hSw
         (try dsimp only at hSw)
         (try go_split_ands)
         first | (go_simp; done) | (go_simp; simp [u0]; done)
        try simp only [Act.put, zA, zB, zC]
        refine Ti 24 rfl ?_
        refine Ti 25 rfl ?_
        try simp only [Act.put, zA, zB, zC]
        refine Ti 26 rfl ?_
        refine Ti 27 rfl ?_
        refine Ti 28 rfl ?_
        refine Ti 29 rfl ?_
        try simp only [Act.put, zA, zB, zC]
        refine wpAnyH_take (i := 30) (oi := ({ dst := some 84, op := Op.binOp BinOp.geq 3 (Operand.tmp 81) (Operand.tmp 83) 3, type := 4, pos := _, after := _, guard := some (25, false) } : Oper)) (v := .bool false) rfl (by kernel_rfl) (by kernel_rfl) (by kernel_rfl) (fun _ _ _ h => h) (Or.inl ⟨by rfl, ?_⟩) hSS ?_
        ·intro w9 hSw
         (try dsimp only at hSw)
         (try go_split_ands)
         first | (go_simp; done) | (go_simp; simp [u1]; done)
        try simp only [Act.put, zA, zB, zC]
        refine Ti 31 rfl ?_
        try simp only [Act.put, zA, zB, zC]
        refine Ti 32 rfl ?_
        refine Ti 33 rfl ?_
        refine Ti 34 rfl ?_
        try simp only [Act.put, zA, zB, zC]
        refine wpAnyH_take (i := 35) (oi := ({ dst := some 89, op := Op.binOp BinOp.lss 3 (Operand.tmp 88) (Operand.const (Value.int IntKind.i64 1)) 3, type := 4, pos := _, after := _, guard := some (32, false) } : Oper)) (v := .bool false) rfl (by kernel_rfl) (by kernel_rfl) (by kernel_rfl) (fun _ _ _ h => h) (Or.inl ⟨by rfl, ?_⟩) hSS ?_
        ·intro w9 hSw
         (try dsimp only at hSw)
         (try go_split_ands)
         first | (go_simp; done) | (go_simp; simp [u2]; done)
        try simp only [Act.put, zA, zB, zC]
        refine Ti 36 rfl ?_
        refine Ti 37 rfl ?_
        try simp only [Act.put, zA, zB, zC]
        refine Ti 38 rfl ?_
        refine Ti 39 rfl ?_
        try simp only [Act.put, zA, zB, zC]
        refine wpAnyH_take (i := 40) (oi := ({ dst := some 94, op := Op.binOp BinOp.gtr 3 (Operand.tmp 93) (Operand.const (Value.int IntKind.i64 262144)) 3, type := 4, pos := _, after := _, guard := some (37, false) } : Oper)) (v := .bool false) rfl (by kernel_rfl) (by kernel_rfl) (by kernel_rfl) (fun _ _ _ h => h) (Or.inl ⟨by rfl, ?_⟩) hSS ?_
        ·intro w9 hSw
         (try dsimp only at hSw)
         (try go_split_ands)
         first | (go_simp; done) | (go_simp; simp [u3]; done)
        try simp only [Act.put, zA, zB, zC]
        refine Ti 41 rfl ?_
        refine Ti 42 rfl ?_
        refine Ti 43 rfl ?_
        try simp only [Act.put, zA, zB, zC]
        refine Ti 44 rfl ?_
        try simp only [Act.put, zA, zB, zC]
        refine wpAnyH_take (i := 45) (oi := ({ dst := some 99, op := Op.binOp BinOp.lss 3 (Operand.tmp 98) (Operand.const (Value.int IntKind.i64 0)) 3, type := 4, pos := _, after := _, guard := some (42, false) } : Oper)) (v := .bool false) rfl (by kernel_rfl) (by kernel_rfl) (by kernel_rfl) (fun _ _ _ h => h) (Or.inl ⟨by rfl, ?_⟩) hSS ?_
        ·intro w9 hSw
         (try dsimp only at hSw)
         (try go_split_ands)
         first | (go_simp; done) | (go_simp; simp [u4]; done)
        try simp only [Act.put, zA, zB, zC]
        refine Ti 46 rfl ?_
        refine Ti 47 rfl ?_
        refine Ti 48 rfl ?_
        refine Ti 49 rfl ?_
        try simp only [Act.put, zA, zB, zC]
        refine Ti 50 rfl ?_
        refine Ti 51 rfl ?_
        try simp only [Act.put, zA, zB, zC]
        refine wpAnyH_take (i := 52) (oi := ({ dst := some 106, op := Op.binOp BinOp.geq 3 (Operand.tmp 103) (Operand.tmp 105) 3, type := 4, pos := _, after := _, guard := some (47, false) } : Oper)) (v := .bool false) rfl (by kernel_rfl) (by kernel_rfl) (by kernel_rfl) (fun _ _ _ h => h) (Or.inl ⟨by rfl, ?_⟩) hSS ?_
        ·intro w9 hSw
         (try dsimp only at hSw)
         (try go_split_ands)
         first | (go_simp; done) | (go_simp; simp [u5]; done)
        try simp only [Act.put, zA, zB, zC]
        refine Ti 53 rfl ?_
        try simp only [Act.put, zA, zB, zC]
        refine Dn ?_
        generalize hU2 : U.drew = U2
        have r3 : U2.cell? ⟨P, 3, none⟩ = some (.slice (some ⟨g, off, none⟩) n c0) := by rw [← hU2]; exact HR3.out
        have e1 : U2.cell? ⟨V, 1, none⟩ = some (.int .i64 v.id) := by rw [← hU2]; exact e1
        have e2 : U2.cell? ⟨V, 2, none⟩ = some (.int .i64 v.sz) := by rw [← hU2]; exact e2
        have e4 : U2.cell? ⟨V, 4, none⟩ = some (.int .i64 v.kd) := by rw [← hU2]; exact e4
        have e6 : U2.cell? ⟨V, 6, none⟩ = some (.slice ma v.mp.length mc) := by rw [← hU2]; exact e6
        have HU2 : Hid (∃ m, U2 = U.drewN m) := hid ⟨1, hU2.symm⟩
        have HRg2 := hid (HRg.out U2 (by rw [← hU2]; exact below_drew _ _))
        have HBE2 : Hid (Below w.heap.size w U2) := hid (by rw [← hU2]; exact HBE.out 1)
        have HBE3 : Hid (∀ m, Below w.heap.size w (U2.drewN m)) := hid (fun m => HBE2.out.trans (below_drewN _ _ _))
        clear hU2 HRg e0 e3 e5 r0 r1 r2 HBE2
        have HKr : Hid (v.kd = 0 ∨ v.kd = 1 → volK v = rgO v.mp (-1) v.sz) := hid (fun h => by
         unfold volK
         rcases h with h | h
         ·rw [if_pos h]
         ·rw [if_neg (by omega), if_pos h])
        generalize hrb : rgO v.mp (-1) v.sz = rb at *
        clear hrb
        by_cases kk : v.kd = 0 ∨ v.kd = 1
        ·as_aux_lemma =>
          have HKr2 := hid (HKr.out kk)
          rcases kk with kk | kk
          ·as_aux_lemma =>
            have k0 : (v.kd != 0) = false := by simpa using kk
            have HKK := hid kk
            clear kk
            cases rb
            ·as_aux_lemma =>
              have HF := hid (HFk.out HKr2.out)
              clear HFu HFk
              go_wp2_with fail
              refine HRg2.out.mono ?_
              rintro e w3 ⟨rfl, m3, rfl⟩
              go_wp2
              go_ret
              exact ⟨by rw [HF.out]; rfl, HBE3.out _⟩
            ·as_aux_lemma =>
              go_wp2_with fail
              refine HRg2.out.mono ?_
              rintro e w3 ⟨rfl, m3, rfl⟩
              generalize hU3 : U2.drewN m3 = U3
              have HU3 : Hid (∃ m, U3 = U.drewN m) := hid (by obtain ⟨q, e⟩ := HU2.out; exact ⟨q + m3, by rw [← hU3, e, World.drewN_drewN]⟩)
              have HI0 : Hid (∀ i (hi : i < 0), i < 0 → (x.vs[i]'(by have := HKL.out; omega)).id ≠ v.id) := hid (fun i hi h => by omega)
              clear hU3 HRg2 HBE3 HU2 e1 e2 e4 e6 r3 k0
              have HC3 : Hid (∀ m, (U.drewN m).cell? ⟨P, 3, none⟩ = some (.slice (some ⟨g, off, none⟩) n c0) ∧ (U.drewN m).cell? ⟨V, 1, none⟩ = some (.int .i64 v.id)) := hid (fun m => ⟨HR3.out, HE1.out⟩)
              go_wp2_with fail
              go_loopw [5] (fun jv wr2 => ∃ j : Nat, j ≤ 0 ∧ jv = .int .i64 (j : Int) ∧ (∀ i (hi : i < 0), i < j → (x.vs[i]'(by have := HKL.out; omega)).id ≠ v.id) ∧ ∃ m, wr2 = U.drewN m) (fun jv _ => 0 - (intOf jv).toNat)
              case atStart => exact ⟨0, Nat.zero_le _, rfl, HI0.out, HU3.out⟩
              case round =>
               obtain ⟨j, hj, rfl, hne, hm2⟩ := hrel
               obtain ⟨m2, hm2e⟩ := hm2
               have HM2 := hid hm2e
               clear hm2e
               have ejk : j = 0 := by omega
               subst ejk
               clear hne hj
               go_wp2
               go_roundw
               case rel => exact ⟨0 + 1, by have := HKL.out; have := HN.out; omega, by go_num, fun i hi h => by
                have e : i = 0 := by omega
                subst e
                exact HG.out HNB.out (.inl (by simp)) HVN.out HKr2.out (fun q hq => absurd hq (by omega)), by rw [HM2.out]; exact HBW.out.trans (below_drewN _ _ _)⟩
               case measure => have := HKL.out; have := HN.out; simp [intOf]; omega
          ·as_aux_lemma =>
            have k0 : (v.kd != 0) = true := by simp; omega
            have k1 : (v.kd != 1) = false := by simpa using kk
            have HKK := hid kk
            clear kk
            cases rb
            ·as_aux_lemma =>
              have HF := hid (HFk.out HKr2.out)
              clear HFu HFk
              go_wp2_with fail
              refine HRg2.out.mono ?_
              rintro e w3 ⟨rfl, m3, rfl⟩
              go_wp2
              go_ret
              exact ⟨by rw [HF.out]; rfl, HBE3.out _⟩
            ·as_aux_lemma =>
              go_wp2_with fail
              refine HRg2.out.mono ?_
              rintro e w3 ⟨rfl, m3, rfl⟩
              generalize hU3 : U2.drewN m3 = U3
              have HU3 : Hid (∃ m, U3 = U.drewN m) := hid (by obtain ⟨q, e⟩ := HU2.out; exact ⟨q + m3, by rw [← hU3, e, World.drewN_drewN]⟩)
              have HI0 : Hid (∀ i (hi : i < 0), i < 0 → (x.vs[i]'(by have := HKL.out; omega)).id ≠ v.id) := hid (fun i hi h => by omega)
              clear hU3 HRg2 HBE3 HU2 e1 e2 e4 e6 r3 k0 k1
              have HC3 : Hid (∀ m, (U.drewN m).cell? ⟨P, 3, none⟩ = some (.slice (some ⟨g, off, none⟩) n c0) ∧ (U.drewN m).cell? ⟨V, 1, none⟩ = some (.int .i64 v.id)) := hid (fun m => ⟨HR3.out, HE1.out⟩)
              go_wp2_with fail
              go_loopw [5] (fun jv wr2 => ∃ j : Nat, j ≤ 0 ∧ jv = .int .i64 (j : Int) ∧ (∀ i (hi : i < 0), i < j → (x.vs[i]'(by have := HKL.out; omega)).id ≠ v.id) ∧ ∃ m, wr2 = U.drewN m) (fun jv _ => 0 - (intOf jv).toNat)
              case atStart => exact ⟨0, Nat.zero_le _, rfl, HI0.out, HU3.out⟩
              case round =>
               obtain ⟨j, hj, rfl, hne, hm2⟩ := hrel
               obtain ⟨m2, hm2e⟩ := hm2
               have HM2 := hid hm2e
               clear hm2e
               have ejk : j = 0 := by omega
               subst ejk
               clear hne hj
               go_wp2
               go_roundw
               case rel => exact ⟨0 + 1, by have := HKL.out; have := HN.out; omega, by go_num, fun i hi h => by
                have e : i = 0 := by omega
                subst e
                exact HG.out HNB.out (.inl (by simp)) HVN.out HKr2.out (fun q hq => absurd hq (by omega)), by rw [HM2.out]; exact HBW.out.trans (below_drewN _ _ _)⟩
               case measure => have := HKL.out; have := HN.out; simp [intOf]; omega
        ·as_aux_lemma =>
          have HF := hid (HFk.out (by unfold volK; rw [if_neg (fun h => kk (.inl h)), if_neg (fun h => kk (.inr h))]))
          have k0 : (v.kd != 0) = true := by simp; omega
          have k1 : (v.kd != 1) = true := by simp; omega
          clear HFu HFk kk
          go_wp2
          go_ret
          exact ⟨by rw [HF.out]; rfl, HBE3.out 0⟩
      ·as_aux_lemma =>
        obtain ⟨m, hkm⟩ : ∃ m, k = m + 1 := ⟨k - 1, by omega⟩
        have HKM := hid hkm
        have hmk : m < x.vs.length := by have := HKL.out; omega
        have hkk : k - 1 < x.vs.length := by have := HKL.out; omega
        have d0 : U.cell? ⟨g, off + m * 7, none⟩ = some (.string (x.vs[m]'hmk).nm) := HNA.out m hkm U HBU.out
        have hk00 : (0 : Int) < (k : Int) := by omega
        have hk01 : 0 < k := by omega
        have hk02 : decide (0 < k) = true := decide_eq_true hk01
        have hk03 : decide ((0 : Int) < (k : Int)) = true := decide_eq_true hk00
        have hml0 : (m : Int) < (n : Int) := by omega
        have hw1 : IntKind.i64.wrap ((k : Int) - 1) = (m : Int) := by rw [IntKind.wrap_i64]; omega
        have hw3 : IntKind.i64.wrap (m : Int) = (m : Int) := by rw [IntKind.wrap_i64]; omega
        have hw5 : wrap64 ((k : Int) - 1) = (m : Int) := by unfold wrap64; omega
        have HFl2 : Hid (nmLe v.nm (x.vs[m]'hmk).nm = true → b = false) := hid (HFl.out m hkm)
        have HLE : Hid (nmLe v.nm (x.vs[m]'hmk).nm = false → (k = 0 ∨ nmLe v.nm (x.vs[k - 1]'hkk).nm = false)) := hid (fun h => .inr (by subst hkm; exact h))
        clear q2
        generalize hpn : (x.vs[m]'hmk).nm = pn at *
        clear hpn hkm hmk
        by_cases q3 : nmLe v.nm pn = true
        ·as_aux_lemma =>
          have HF := hid (HFl2.out q3)
          rcases nmLe_ways q3 with z1 | ⟨z1, z2⟩
          ·as_aux_lemma =>
            clear HFn HFu HFk HFt HFl HID HNA HALL HRg HFl2 HLE q3 HG
            go_wp2_with fail
            rw [← HU.out, ← HVe.out]
            clear p0 p1 p2 p3 c0' c1 c2 c3 c4 c5 c6
            go_quiet ((go_at_call 28; exact Calls.quiet_of_same (HNm.out _)))
            go_wp2
            go_ret
            exact ⟨by rw [HF.out]; rfl, HBE.out _⟩
          ·as_aux_lemma =>
            clear HFn HFu HFk HFt HFl HID HNA HALL HRg HFl2 HLE q3 HG
            go_wp2_with fail
            rw [← HU.out, ← HVe.out]
            clear p0 p1 p2 p3 c0' c1 c2 c3 c4 c5 c6
            go_quiet ((go_at_call 28; exact Calls.quiet_of_same (HNm.out _)))
            go_wp2
            go_ret
            exact ⟨by rw [HF.out]; rfl, HBE.out _⟩
        ·as_aux_lemma =>
          have HL0 := hid (HLE.out (by simpa using q3))
          obtain ⟨z1, z2⟩ := nmLe_no (by simpa using q3 : nmLe v.nm pn = false)
          clear q3 HFl2 HLE
          by_cases u0 : v.id < 1
          ·as_aux_lemma =>
            have HF := hid (HFu.out (by unfold volN; rw [if_pos u0]))
            clear HFn HFu HFk HFt HFl HID HNA HALL HRg
            go_wp2_with fail
            rw [← HU.out, ← HVe.out]
            clear p0 p1 p2 p3 c0' c1 c2 c3 c4 c5 c6
            go_quiet ((go_at_call 28; exact Calls.quiet_of_same (HNm.out _)))
            go_wp2
            go_ret
            exact ⟨by rw [HF.out]; rfl, HBE.out _⟩
          by_cases u1 : x.nx ≤ v.id
          ·as_aux_lemma =>
            have HF := hid (HFu.out (by unfold volN; rw [if_neg u0, if_pos u1]))
            clear HFn HFu HFk HFt HFl HID HNA HALL HRg
            go_wp2_with fail
            rw [← HU.out, ← HVe.out]
            clear p0 p1 p2 p3 c0' c1 c2 c3 c4 c5 c6
            go_quiet ((go_at_call 28; exact Calls.quiet_of_same (HNm.out _)))
            go_wp2
            go_ret
            exact ⟨by rw [HF.out]; rfl, HBE.out _⟩
          by_cases u2 : v.sz < 1
          ·as_aux_lemma =>
            have HF := hid (HFu.out (by unfold volN; rw [if_neg u0, if_neg u1, if_pos u2]))
            clear HFn HFu HFk HFt HFl HID HNA HALL HRg
            go_wp2_with fail
            rw [← HU.out, ← HVe.out]
            clear p0 p1 p2 p3 c0' c1 c2 c3 c4 c5 c6
            go_quiet ((go_at_call 28; exact Calls.quiet_of_same (HNm.out _)))
            go_wp2
            go_ret
            exact ⟨by rw [HF.out]; rfl, HBE.out _⟩
          by_cases u3 : 262144 < v.sz
          ·as_aux_lemma =>
            have HF := hid (HFu.out (by unfold volN; rw [if_neg u0, if_neg u1, if_neg u2, if_pos u3]))
            clear HFn HFu HFk HFt HFl HID HNA HALL HRg
            go_wp2_with fail
            rw [← HU.out, ← HVe.out]
            clear p0 p1 p2 p3 c0' c1 c2 c3 c4 c5 c6
            go_quiet ((go_at_call 28; exact Calls.quiet_of_same (HNm.out _)))
            go_wp2
            go_ret
            exact ⟨by rw [HF.out]; rfl, HBE.out _⟩
          by_cases u4 : v.og < 0
          ·as_aux_lemma =>
            have HF := hid (HFu.out (by unfold volN; rw [if_neg u0, if_neg u1, if_neg u2, if_neg u3, if_pos u4]))
            clear HFn HFu HFk HFt HFl HID HNA HALL HRg
            go_wp2_with fail
            rw [← HU.out, ← HVe.out]
            clear p0 p1 p2 p3 c0' c1 c2 c3 c4 c5 c6
            go_quiet ((go_at_call 28; exact Calls.quiet_of_same (HNm.out _)))
            go_wp2
            go_ret
            exact ⟨by rw [HF.out]; rfl, HBE.out _⟩
          by_cases u5 : v.id ≤ v.og
          ·as_aux_lemma =>
            have HF := hid (HFu.out (by unfold volN; rw [if_neg u0, if_neg u1, if_neg u2, if_neg u3, if_neg u4, if_pos u5]))
            clear HFn HFu HFk HFt HFl HID HNA HALL HRg
            go_wp2_with fail
            rw [← HU.out, ← HVe.out]
            clear p0 p1 p2 p3 c0' c1 c2 c3 c4 c5 c6
            go_quiet ((go_at_call 28; exact Calls.quiet_of_same (HNm.out _)))
            go_wp2
            go_ret
            exact ⟨by rw [HF.out]; rfl, HBE.out _⟩
          have HVN : Hid (volN v x.nx = true) := hid (by unfold volN; rw [if_neg u0, if_neg u1, if_neg u2, if_neg u3, if_neg u4, if_neg u5])
          go_wp2_with fail
          rw [← HU.out, ← HVe.out]
          clear p0 p1 p2 p3 c0' c1 c2 c3 c4 c5 c6
          go_quiet ((go_at_call 28; exact Calls.quiet_of_same (HNm.out _)))
          generalize hU2 : U.drewN nq = U2
          have r3 : U2.cell? ⟨P, 3, none⟩ = some (.slice (some ⟨g, off, none⟩) n c0) := by rw [← hU2]; exact HR3.out
          have e1 : U2.cell? ⟨V, 1, none⟩ = some (.int .i64 v.id) := by rw [← hU2]; exact e1
          have e2 : U2.cell? ⟨V, 2, none⟩ = some (.int .i64 v.sz) := by rw [← hU2]; exact e2
          have e4 : U2.cell? ⟨V, 4, none⟩ = some (.int .i64 v.kd) := by rw [← hU2]; exact e4
          have e6 : U2.cell? ⟨V, 6, none⟩ = some (.slice ma v.mp.length mc) := by rw [← hU2]; exact e6
          have HU2 : Hid (∃ m, U2 = U.drewN m) := hid ⟨nq, hU2.symm⟩
          have HRg2 := hid (HRg.out U2 (by rw [← hU2]; exact below_drewN _ _ _))
          have HBE2 : Hid (Below w.heap.size w U2) := hid (by rw [← hU2]; exact HBE.out _)
          have HBE3 : Hid (∀ m, Below w.heap.size w (U2.drewN m)) := hid (fun m => HBE2.out.trans (below_drewN _ _ _))
          clear hU2 HRg e0 e3 e5 r0 r1 r2 HBE2
          have HKr : Hid (v.kd = 0 ∨ v.kd = 1 → volK v = rgO v.mp (-1) v.sz) := hid (fun h => by
           unfold volK
           rcases h with h | h
           ·rw [if_pos h]
           ·rw [if_neg (by omega), if_pos h])
          generalize hrb : rgO v.mp (-1) v.sz = rb at *
          clear hrb
          by_cases kk : v.kd = 0 ∨ v.kd = 1
          ·as_aux_lemma =>
            have HKr2 := hid (HKr.out kk)
            rcases kk with kk | kk
            ·as_aux_lemma =>
              have k0 : (v.kd != 0) = false := by simpa using kk
              have HKK := hid kk
              clear kk
              cases rb
              ·as_aux_lemma =>
                have HF := hid (HFk.out HKr2.out)
                clear HFn HFu HFk HFt HFl HID HNA HALL
                go_wp2_with fail
                refine HRg2.out.mono ?_
                rintro e w3 ⟨rfl, m3, rfl⟩
                go_wp2
                go_ret
                exact ⟨by rw [HF.out]; rfl, HBE3.out _⟩
              ·as_aux_lemma =>
                go_wp2_with fail
                refine HRg2.out.mono ?_
                rintro e w3 ⟨rfl, m3, rfl⟩
                generalize hU3 : U2.drewN m3 = U3
                have HU3 : Hid (∃ m, U3 = U.drewN m) := hid (by obtain ⟨q, e⟩ := HU2.out; exact ⟨q + m3, by rw [← hU3, e, World.drewN_drewN]⟩)
                have HI0 : Hid (∀ i (hi : i < k), i < 0 → (x.vs[i]'(by have := HKL.out; omega)).id ≠ v.id) := hid (fun i hi h => by omega)
                clear hU3 HRg2 HBE3 HU2 e1 e2 e4 e6 r3 k0
                have HC3 : Hid (∀ m, (U.drewN m).cell? ⟨P, 3, none⟩ = some (.slice (some ⟨g, off, none⟩) n c0) ∧ (U.drewN m).cell? ⟨V, 1, none⟩ = some (.int .i64 v.id)) := hid (fun m => ⟨HR3.out, HE1.out⟩)
                go_wp2_with fail
                go_loopw [5] (fun jv wr2 => ∃ j : Nat, j ≤ k ∧ jv = .int .i64 (j : Int) ∧ (∀ i (hi : i < k), i < j → (x.vs[i]'(by have := HKL.out; omega)).id ≠ v.id) ∧ ∃ m, wr2 = U.drewN m) (fun jv _ => k - (intOf jv).toNat)
                case atStart => exact ⟨0, Nat.zero_le _, rfl, HI0.out, HU3.out⟩
                case round =>
                 obtain ⟨j, hj, rfl, hne, hm2⟩ := hrel
                 obtain ⟨m2, hm2e⟩ := hm2
                 have HM2 := hid hm2e
                 clear hm2e
                 by_cases hjk : j < k
                 ·as_aux_lemma =>
                   have hj1 : (j : Int) < (k : Int) := by omega
                   have hj2 : (j : Int) < (n : Int) := by have := HKL.out; have := HN.out; omega
                   obtain ⟨t3, t1⟩ := HC3.out m2
                   have tj := HID.out j hjk (U.drewN m2) (HBU.out.trans (below_drewN _ _ _))
                   rw [← HM2.out] at t3 t1 tj
                   have HFj := hid (HFt.out j hjk)
                   have HNE := hid hne
                   have HJK := hid hjk
                   clear hne
                   generalize hidj : (x.vs[j]'(by have := HKL.out; omega)).id = ij at *
                   have HIJ := hid hidj
                   clear hidj
                   by_cases eq : ij = v.id
                   ·as_aux_lemma =>
                     have HF := hid (HFj.out eq)
                     have eqb : (ij == v.id) = true := by simpa using eq
                     clear HFj eq HFn HFu HFk HFt HFl HID HNA HALL
                     go_wp2_with fail
                     go_quiet (fail)
                     go_wp2
                     go_ret
                     exact ⟨by rw [HF.out]; rfl, by rw [HM2.out, World.drewN_drewN]; exact HBE.out _⟩
                   ·as_aux_lemma =>
                     have eqb : (ij == v.id) = false := by simpa using eq
                     have HEQ := hid eq
                     clear HFj eq
                     go_wp2_with fail
                     go_quiet (fail)
                     go_wp2
                     go_roundw
                     case rel => exact ⟨j + 1, by have := HJK.out; omega, by go_num, fun i hi h => by
                      by_cases e : i = j
                      ·subst e; exact fun q => HEQ.out (HIJ.out.symm.trans q)
                      ·exact HNE.out i hi (by omega), ⟨_, by rw [HM2.out, World.drewN_drewN]⟩⟩
                     case measure => have := HJK.out; simp [intOf]; omega
                 ·as_aux_lemma =>
                   have ejk : j = k := by omega
                   subst ejk
                   have hj1 : ¬ (j : Int) < (j : Int) := by omega
                   have HNE := hid hne
                   have hjb : (j : Int) < 9223372036854775807 := by have := HKL.out; have := HN.out; have := HN64.out; omega
                   clear hne
                   go_wp2
                   go_roundw
                   case rel => exact ⟨j + 1, by have := HKL.out; have := HN.out; omega, by go_num, fun i hi h => by
                    by_cases e : i = j
                    ·subst e
                     exact HG.out HNB.out HL0.out HVN.out HKr2.out (fun q hq => HNE.out q hq hq)
                    ·exact HALL.out i hi (by omega), by rw [HM2.out]; exact HBW.out.trans (below_drewN _ _ _)⟩
                   case measure => have := HKL.out; have := HN.out; simp [intOf]; omega
            ·as_aux_lemma =>
              have k0 : (v.kd != 0) = true := by simp; omega
              have k1 : (v.kd != 1) = false := by simpa using kk
              have HKK := hid kk
              clear kk
              cases rb
              ·as_aux_lemma =>
                have HF := hid (HFk.out HKr2.out)
                clear HFn HFu HFk HFt HFl HID HNA HALL
                go_wp2_with fail
                refine HRg2.out.mono ?_
                rintro e w3 ⟨rfl, m3, rfl⟩
                go_wp2
                go_ret
                exact ⟨by rw [HF.out]; rfl, HBE3.out _⟩
              ·as_aux_lemma =>
                go_wp2_with fail
                refine HRg2.out.mono ?_
                rintro e w3 ⟨rfl, m3, rfl⟩
                generalize hU3 : U2.drewN m3 = U3
                have HU3 : Hid (∃ m, U3 = U.drewN m) := hid (by obtain ⟨q, e⟩ := HU2.out; exact ⟨q + m3, by rw [← hU3, e, World.drewN_drewN]⟩)
                have HI0 : Hid (∀ i (hi : i < k), i < 0 → (x.vs[i]'(by have := HKL.out; omega)).id ≠ v.id) := hid (fun i hi h => by omega)
                clear hU3 HRg2 HBE3 HU2 e1 e2 e4 e6 r3 k0 k1
                have HC3 : Hid (∀ m, (U.drewN m).cell? ⟨P, 3, none⟩ = some (.slice (some ⟨g, off, none⟩) n c0) ∧ (U.drewN m).cell? ⟨V, 1, none⟩ = some (.int .i64 v.id)) := hid (fun m => ⟨HR3.out, HE1.out⟩)
                go_wp2_with fail
                go_loopw [5] (fun jv wr2 => ∃ j : Nat, j ≤ k ∧ jv = .int .i64 (j : Int) ∧ (∀ i (hi : i < k), i < j → (x.vs[i]'(by have := HKL.out; omega)).id ≠ v.id) ∧ ∃ m, wr2 = U.drewN m) (fun jv _ => k - (intOf jv).toNat)
                case atStart => exact ⟨0, Nat.zero_le _, rfl, HI0.out, HU3.out⟩
                case round =>
                 obtain ⟨j, hj, rfl, hne, hm2⟩ := hrel
                 obtain ⟨m2, hm2e⟩ := hm2
                 have HM2 := hid hm2e
                 clear hm2e
                 by_cases hjk : j < k
                 ·as_aux_lemma =>
                   have hj1 : (j : Int) < (k : Int) := by omega
                   have hj2 : (j : Int) < (n : Int) := by have := HKL.out; have := HN.out; omega
                   obtain ⟨t3, t1⟩ := HC3.out m2
                   have tj := HID.out j hjk (U.drewN m2) (HBU.out.trans (below_drewN _ _ _))
                   rw [← HM2.out] at t3 t1 tj
                   have HFj := hid (HFt.out j hjk)
                   have HNE := hid hne
                   have HJK := hid hjk
                   clear hne
                   generalize hidj : (x.vs[j]'(by have := HKL.out; omega)).id = ij at *
                   have HIJ := hid hidj
                   clear hidj
                   by_cases eq : ij = v.id
                   ·as_aux_lemma =>
                     have HF := hid (HFj.out eq)
                     have eqb : (ij == v.id) = true := by simpa using eq
                     clear HFj eq HFn HFu HFk HFt HFl HID HNA HALL
                     go_wp2_with fail
                     go_quiet (fail)
                     go_wp2
                     go_ret
                     exact ⟨by rw [HF.out]; rfl, by rw [HM2.out, World.drewN_drewN]; exact HBE.out _⟩
                   ·as_aux_lemma =>
                     have eqb : (ij == v.id) = false := by simpa using eq
                     have HEQ := hid eq
                     clear HFj eq
                     go_wp2_with fail
                     go_quiet (fail)
                     go_wp2
                     go_roundw
                     case rel => exact ⟨j + 1, by have := HJK.out; omega, by go_num, fun i hi h => by
                      by_cases e : i = j
                      ·subst e; exact fun q => HEQ.out (HIJ.out.symm.trans q)
                      ·exact HNE.out i hi (by omega), ⟨_, by rw [HM2.out, World.drewN_drewN]⟩⟩
                     case measure => have := HJK.out; simp [intOf]; omega
                 ·as_aux_lemma =>
                   have ejk : j = k := by omega
                   subst ejk
                   have hj1 : ¬ (j : Int) < (j : Int) := by omega
                   have HNE := hid hne
                   have hjb : (j : Int) < 9223372036854775807 := by have := HKL.out; have := HN.out; have := HN64.out; omega
                   clear hne
                   go_wp2
                   go_roundw
                   case rel => exact ⟨j + 1, by have := HKL.out; have := HN.out; omega, by go_num, fun i hi h => by
                    by_cases e : i = j
                    ·subst e
                     exact HG.out HNB.out HL0.out HVN.out HKr2.out (fun q hq => HNE.out q hq hq)
                    ·exact HALL.out i hi (by omega), by rw [HM2.out]; exact HBW.out.trans (below_drewN _ _ _)⟩
                   case measure => have := HKL.out; have := HN.out; simp [intOf]; omega
          ·as_aux_lemma =>
            have HF := hid (HFk.out (by unfold volK; rw [if_neg (fun h => kk (.inl h)), if_neg (fun h => kk (.inr h))]))
            have k0 : (v.kd != 0) = true := by simp; omega
            have k1 : (v.kd != 1) = true := by simp; omega
            clear HFn HFu HFk HFt HFl HID HNA HALL kk
            go_wp2
            go_ret
            exact ⟨by rw [HF.out]; rfl, HBE3.out 0⟩
    ·as_aux_lemma =>
      have q1 : nmB v.nm = false := by simpa using q1
      rw [q1] at HNm
      have HF0 := hid q1
      clear q1
      have HF := hid (HFn.out HF0.out)
      clear HFn HFu HFk HFt HFl HID HNA HALL HRg
      go_wp2_with fail
      rw [← HU.out, ← HVe.out]
      clear p0 p1 p2 p3 c0' c1 c2 c3 c4 c5 c6
      go_quiet ((go_at_call 28; exact Calls.quiet_of_same (HNm.out _)))
      go_wp2
      go_ret
      exact ⟨by rw [HF.out]; rfl, HBE.out _⟩
  ·as_aux_lemma =>
    have ekn : k = n := by omega
    subst ekn
    have HB : Hid (b = true) := hid (HT0.out (fun i hi => hall i hi (by have := HN.out; omega)))
    have HBW := hid (HB1.out.trans (hb.mono HB1.out.size))
    have hl1 : ¬ (k : Int) < (k : Int) := by omega
    clear hall hb
    go_wp2
    go_ret
    exact ⟨by rw [HB.out]; rfl, HBW.out⟩
theorem May_any (x : VW) (a : Option Addr) (c0 : Nat) (w : World) (hR : RdV w.heap.size w a x.vs) (hl : x.vs.length ≤ 16777216) (hs : ∀ v ∈ x.vs, v.nm.size ≤ 16777216) (hm : ∀ v ∈ x.vs, v.mp.length ≤ 16777216) :
  Calls Tryz.prog 8 #[viewA x a c0] w fun e w' => BoQ w (mayB x) e w' := by
 cases hh : mayH x
 ·have e : mayB x = false := by unfold mayB; rw [hh, Bool.false_and]
  rw [e]
  exact May_head x a c0 w hl hh
 ·exact May_body x a c0 w hR hs hm hh
end Go.Proofs.YtddddfankeepkaaGreatDoor
