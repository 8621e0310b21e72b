/-
  arranged.
-/
import Derived.Test.YtajnokkmpjdliaaAr1c
import Derived.Deep.RegionHeld3
namespace Go.Proofs.Ytajnokkmpjdliaa
open Go.RowKit Go.Shelf

attribute [local go_sem] Oper.semAt_some

theorem le_1m {x : Int} {i m : Nat} (h1 : x ≤ (i : Int)) (h2 : i < m) (h3 : m ≤ 1048576) : x ≤ 1048576 := by omega
theorem add_wraps (x : Int) (h0 : 0 ≤ x) (h1 : x ≤ 1048576) : wrap64 (x + 1) = x + 1 ∧ IntKind.i64.wrap (x + 1) = x + 1 := ⟨w64 _ (by omega), iw64 _ (by omega)⟩
theorem le_2m {u : Int} {c r k m El : Nat} (h9 : u = (c : Int) + (k : Int)) (h8 : c ≤ El) (h7 : k ≤ r + 1) (h6 : El = m) (h5 : m ≤ 1048576) (h : r + 1 ≤ m) : u ≤ 2097152 := by omega
theorem sub_wraps (u v : Int) (h0 : 1 ≤ u) (h1 : u ≤ 2097152) (hv : v = u - 1) : wrap64 (u - 1) = v ∧ IntKind.i64.wrap (u - 1) = v := ⟨by rw [w64 _ (by omega)]; exact hv.symm, by rw [iw64 _ (by omega)]; exact hv.symm⟩
/-- who waits is not ready -/
theorem ready_len {n : Nat} {E : List (Nat × Nat)} {out rest : List Nat} {ws l : List Int} (h : IS n E out rest ws l) {y i : Nat} (_hy : y = (eg E i).2) (hn : y < n) (hu : gt ws y = 1) : l.length + 1 ≤ n := by
  have hno : (y : Int) ∉ l := fun hm => by
    obtain ⟨k, e, _, _, h0⟩ := (h.hi.mem _).1 hm
    have : k = y := by omega
    rw [this, hu] at h0
    omega
  have h1 : (((y : Int) :: l).map Int.toNat).Nodup := by
    unfold List.Nodup
    rw [List.pairwise_map]
    refine (List.nodup_cons.2 ⟨hno, h.hi.nd⟩).imp_of_mem fun {a b} ha hb hab e => ?_
    have pos : ∀ z ∈ ((y : Int) :: l), 0 ≤ z := fun z hz => by
      rcases List.mem_cons.1 hz with e | e
      · omega
      · obtain ⟨k, rfl, _⟩ := (h.hi.mem z).1 e
        omega
    have := pos a ha
    have := pos b hb
    exact hab (by omega)
  have h2 := nodup_len h1 (n := n) (fun z hz => by
    obtain ⟨a, ha, rfl⟩ := List.mem_map.1 hz
    rcases List.mem_cons.1 ha with e | e
    · rw [e]; simpa using hn
    · obtain ⟨k, rfl, hk, _⟩ := (h.hi.mem a).1 e
      simpa using hk)
  simpa using h2
def lenS : Value → Nat
  | .slice _ n _ => n
  | _ => 0
def ArQ (n : Nat) (E : List (Nat × Nat)) (w : World) (e : Ending) (w' : World) : Prop := ∃ ov wb ws, e = .returned (.tuple #[ov, .slice (some ⟨wb, 0, none⟩) n n]) ∧ w'.ownsRow w.heap.size 3 1 ov (ordP n E).length ((ordP n E).map fun (k : Nat) => Value.int .i64 (k : Int)) ∧ Blk w' wb ws ∧ w.heap.size ≤ wb ∧ ov.ownBlock ≠ some wb ∧ ws.length = n ∧ (∀ y, y < n → gt ws y = cnt E (ordP n E) y) ∧ Below w.heap.size w w'

set_option maxRecDepth 100000 in
set_option maxHeartbeats 8000000 in
theorem arranged_any (n m c Gb fb nb : Nat) (a : Option Addr) (E : List (Nat × Nat)) (fs nx : List Int) (hn : n ≤ 1048576) (hm : m ≤ 1048576) (w : World) (hG : Gr w Gb fb nb n m a c fs nx) (hS : GS n m E m fs nx) (hR : RdE w a m E) (hE : EdOk n E) :
    Calls Try.prog 29 #[.pointer (some ⟨Gb, 0, none⟩)] w (ArQ n E w) := by
  obtain ⟨PO, hPO⟩ : ∃ PO, PO = ArQ n E w := ⟨_, rfl⟩
  rw [← hPO]
  have HPO := hid hPO
  obtain ⟨B, hB⟩ : ∃ B, B = w.heap.size := ⟨_, rfl⟩
  have HB := hid hB
  have HG : Hid (∀ W, Below B w W → Gr W Gb fb nb n m a c fs nx) := fun W hb => hG.next (by rw [← hB]; exact hb)
  have HR : Hid (∀ W, Below B w W → RdE W a m E) := fun W hb => hR.next (by rw [← hB]; exact hb)
  have HS := hid hS
  have HE := hid hE
  have HEl : Hid (E.length = m) := hR.1
  have HM := hid hm
  have HN := hid hn
  have hmk := fun u => make_i64 n (by omega) u
  obtain ⟨g0, g1, _, _⟩ := hG.cells
  obtain ⟨w1, hw1⟩ : ∃ w1, w1 = (w.alloc (.cells ((zeros n).map (Value.int .i64)).toArray 3)).alloc (.cells #[.slice (some ⟨w.heap.size, 0, none⟩) n n] 23) := ⟨_, rfl⟩
  have hb1 : Below B w w1 := by
    rw [hw1, hB]
    exact (below1 _ _).trans ((below1 _ _).mono (by simp))
  have hA1 : AB B w n (w.heap.size + 1) w.heap.size (zeros n) w1 := by
    refine ⟨?_, ?_, by omega, by omega, hb1⟩
    · rw [hw1]
      have := heap_new (w.alloc (.cells ((zeros n).map (Value.int .i64)).toArray 3)) (.cells #[.slice (some ⟨w.heap.size, 0, none⟩) n n] 23)
      rwa [World.size_alloc] at this
    · rw [hw1]
      exact (Blk.new w (zeros n)).below (below1 _ _) (by simp)
  have g2 := (HG.out w1 hb1).cells.2.1
  have HA1 := hid hA1
  have HW1 := hid hw1
  clear hPO hB hG hS hR hE hb1 hA1
  refine (callsIn_wide (n := 5)).1 ?_
  refine callsIn_of_wp_marks Try.func29 rfl trivial ?_ rfl
  refine wpIn_wide.2 ?_
  simp only [Try.ntmps29, List.size_toArray, List.length_cons, List.length_nil, Nat.reduceAdd, Nat.reduceSub, Array.replicate_succ, Array.replicate_zero, List.push_toArray, List.append_toArray, List.nil_append, List.cons_append]
  rw [hw1] at g2
  clear hw1
  go_wp2_with fail
  rw [← HW1.out]
  obtain ⟨Vb, hVb⟩ : ∃ Vb, Vb = w.heap.size + 1 := ⟨_, rfl⟩
  rw [← hVb]
  rw [← hVb] at HA1
  obtain ⟨wb, hwb⟩ : ∃ wb, wb = w.heap.size := ⟨_, rfl⟩
  rw [← hwb] at HA1 ⊢
  clear hwb hVb HW1 g0 g1 g2 hmk
  go_loopw [23] (fun iv wr => ∃ (i : Nat) (ws : List Int), iv = .int .i64 (i : Int) ∧ i ≤ m ∧ WS n E i ws ∧ AB B w n Vb wb ws wr) (fun iv _ => m - (intOf iv).toNat)
  case atStart => exact ⟨0, _, rfl, by omega, WS.start n E, HA1.out⟩
  case round =>
    obtain ⟨i, ws, rfl, hi, hws, hA⟩ := hrel
    clear HA1
    by_cases q : i = m
    · as_aux_lemma =>
        have qq : (m : Int) ≤ (i : Int) := by omega
        rw [q, ← HEl.out] at hws
        have HWS := hid hws
        have HA := hid hA
        obtain ⟨w2, hw2⟩ : ∃ w2, w2 = ((wr.alloc (.cells #[] 3)).alloc (.cells #[.slice (some ⟨wr.heap.size, 0, none⟩) 0 0] 66)).alloc (.cells #[.pointer (some ⟨wr.heap.size + 1, 0, none⟩)] 65) := ⟨_, rfl⟩
        have k1 : w2.heap[wr.heap.size + 1 + 1]? = some (.cells #[.pointer (some ⟨wr.heap.size + 1, 0, none⟩)] 65 (0, 0)) := by
          rw [hw2]
          have := heap_new ((wr.alloc (.cells #[] 3)).alloc (.cells #[.slice (some ⟨wr.heap.size, 0, none⟩) 0 0] 66)) (.cells #[.pointer (some ⟨wr.heap.size + 1, 0, none⟩)] 65)
          simpa only [World.size_alloc] using this
        have k2 : w2.heap[wr.heap.size + 1]? = some (.cells #[.slice (some ⟨wr.heap.size, 0, none⟩) 0 0] 66 (0, 0)) := by
          rw [hw2]
          have := heap_new (wr.alloc (.cells #[] 3)) (.cells #[.slice (some ⟨wr.heap.size, 0, none⟩) 0 0] 66)
          rw [World.size_alloc] at this
          exact ((below1 _ _).block _ (by simp)).trans this
        have k3 : w2.heap[wr.heap.size]? = some (.cells #[] 3 (0, 0)) := by
          rw [hw2]
          exact ((below1 _ _).block _ (by simp; omega)).trans (((below1 _ _).block _ (by simp)).trans (heap_new wr _))
        have hbz : Below wr.heap.size wr w2 := by
          rw [hw2]
          exact ((below1 _ _).trans ((below1 _ _).mono (by simp))).trans ((below1 _ _).mono (by simp; omega))
        have HH0 : Hid (AB B w n Vb wb ws w2 ∧ AH B (wr.heap.size + 1 + 1) (wr.heap.size + 1) wb (.slice (some ⟨wr.heap.size, 0, none⟩) 0 0) [] w2) := by
          have hle := Nat.lt_of_le_of_lt hA.hV hA.vlt
          refine ⟨hA.next hbz, ⟨k1, ⟨k2, by simp, .inr ⟨wr.heap.size, 0, #[], rfl, by omega, k3, Nat.le_refl _, by unfold maxLen; omega, rfl, rfl⟩⟩, by omega, by omega, ?_⟩⟩
          have := hA.wk.lt
          simp only [Value.ownBlock]
          intro e
          simp at e
          omega
        have hvb := (hA.next hbz).cell
        have HW2 := hid hw2
        rw [hw2] at hvb
        clear hws hA hi q k1 k2 k3 hbz hw2
        go_wp2_with fail
        rw [← HW2.out]
        obtain ⟨Rb, hRb⟩ : ∃ Rb, Rb = wr.heap.size + 1 + 1 := ⟨_, rfl⟩
        rw [← hRb]
        rw [← hRb] at HH0
        obtain ⟨Lb, hLb⟩ : ∃ Lb, Lb = wr.heap.size + 1 := ⟨_, rfl⟩
        rw [← hLb]
        rw [← hLb] at HH0
        obtain ⟨z, hz⟩ : ∃ z, z = wr.heap.size := ⟨_, rfl⟩
        rw [← hz]
        rw [← hz] at HH0
        clear hz hLb hRb HW2 hvb
        generalize wr = wo at *
        clear qq
        generalize decide (i < m) = bq
        have HLR : Hid (Lb ≠ Rb ∧ Lb ≠ Vb ∧ Lb ≠ wb) := by
          obtain ⟨h1, h2⟩ := HH0.out
          have k1 := h2.hp.box
          refine ⟨fun e => ?_, fun e => ?_, fun e => ?_⟩
          · have := h2.rb
            rw [← e, k1] at this
            simp at this
          · have := h1.vb
            rw [← e, k1] at this
            simp at this
          · have := h1.wk
            unfold Blk at this
            rw [← e, k1] at this
            simp at this
        go_loopw [39] (fun iv wr => ∃ (j M : Nat) (av : Option Addr) (cv : Nat), iv = .int .i64 (j : Int) ∧ j ≤ n ∧ (rl ws j).length = M ∧ AB B w n Vb wb ws wr ∧ AH B Rb Lb wb (.slice av M cv) (rl ws j) wr) (fun iv _ => n - (intOf iv).toNat)
        case atStart => exact ⟨0, 0, _, _, rfl, by omega, rfl, HH0.out⟩
        case round =>
          obtain ⟨j, M, av, cv, rfl, hj, hM, hA, hH⟩ := hrel
          clear HH0
          by_cases q2 : j = n
          · as_aux_lemma =>
              have qq2 : (n : Int) ≤ (j : Int) := by omega
              have HOS : Hid (OS n E [] ws (rl ws j)) := by rw [q2]; exact rl_os HWS.out
              have HA := hid hA
              have HH := hid hH
              have HM2 := hid hM
              clear hA hH hM hj q2 HWS
              generalize rl ws j = l0 at *
              go_wp2_with fail
              clear qq2
              generalize decide (j < n) = bj
              refine wp_loop (fun a' W => ∃ (out : List Nat) (ws l : List Int) (ao : Option Addr) (L co : Nat) (ds : List Nat) (av : Option Addr) (M cv : Nat) (v11 v55 v56 v57 v58 v59 v60 v61 v62 v63 v64 v65 v66 v67 v68 v69 v70 : Value), a' = { tmps := #[.pointer (some ⟨Gb, 0, none⟩), undef, .slice none 0 0, .slice none 0 0, .pointer (some ⟨Vb, 0, none⟩), undef, u6, .pointer (some ⟨Rb, 0, none⟩), u8, u9, .slice ao L co, v11, undef, .pointer (some ⟨Gb, 0, none⟩), .pointer (some ⟨Gb, 0, none⟩), .pointer (some ⟨Gb, 0, none⟩), .int .i64 (n : Int), .slice (some ⟨wb, 0, none⟩) n n, .pointer (some ⟨Gb, 0, none⟩), .pointer (some ⟨Gb, 0, none⟩), .pointer (some ⟨Gb, 1, none⟩), .slice a m c, .int .i64 (m : Int), .int .i64 (i : Int), .bool bq, u25, u26, u27, u28, u29, u30, u31, u32, u33, u34, .slice (some ⟨z, 0, none⟩) 0 0, .pointer (some ⟨Lb, 0, none⟩), .slice (some ⟨wb, 0, none⟩) n n, .int .i64 (n : Int), .int .i64 (j : Int), .bool bj, u41, u42, u43, u44, u45, u46, u47, u48, u49, u50, u51, u52, u53, u54, v55, v56, v57, v58, v59, v60, v61, v62, v63, v64, v65, v66, v67, v68, v69, v70, undef, undef, undef, undef, undef, undef, undef, undef, undef, undef, undef, undef, undef, undef, undef, undef, undef, undef, undef], defers := mks ds } ∧ out.length = L ∧ TO B w n E Vb wb Rb Lb out (.slice ao L co) ds ws l av M cv W) (fun a' _ => n - lenS (a'.tmps.getD 10 undef)) ?start ?round
              case start => exact ⟨[], ws, l0, none, 0, 0, [], av, M, cv, undef, undef, undef, undef, undef, undef, undef, undef, undef, undef, undef, undef, undef, undef, undef, undef, undef, rfl, rfl, HOS.out, HM2.out, HA.out, HH.out, ⟨⟨rfl, .inl ⟨rfl, rfl⟩⟩, by simp [Value.ownBlock], by simp [Value.ownBlock]⟩, (fun D hD => by cases hD), (fun D hD => by cases hD), List.nodup_nil⟩
              case round =>
                clear HOS HM2 HA HH
                rintro _ wr2 ⟨out, ws, l, ao, L, co, ds, av, M, cv, v11, v55, v56, v57, v58, v59, v60, v61, v62, v63, v64, v65, v66, v67, v68, v69, v70, rfl, hL, hT⟩
                have c1 := hT.ah.cell
                have c2 := hT.ah.hp.cell
                by_cases p : M = 0
                · as_aux_lemma =>
                    subst p
                    have c3 := hT.ab.cell
                    have HF : Hid (∀ W', But (fun k => k ∈ ds) wr2.drew W' → PO (.returned (.tuple #[.slice ao L co, .slice (some ⟨wb, 0, none⟩) n n])) W') := fun W' hb => by
                      rw [HPO.out]
                      have hl0 : l = [] := List.eq_nil_of_length_eq_zero hT.lm
                      have ho := hT.os.none hl0
                      refine ⟨.slice ao L co, wb, ws, rfl, ?_, ?_, ?_, hT.ao.ne, hT.os.len, fun y hy => by rw [ho]; exact hT.os.wv y hy, ?_⟩
                      · rw [ho, ← HB.out]
                        have how := hT.ao.ow
                        refine own_keep hT.ao.ow fun g hg => hb.block g (own_blk hT.ao.ow hg).2.1 fun hD => ?_
                        obtain ⟨_, _, cur, hh⟩ := own_blk hT.ao.ow hg
                        rw [hT.dd g hD] at hh
                        simp at hh
                      · refine hT.ab.wk.of_block (hb.block wb hT.ab.wk.lt fun hD => ?_)
                        have hw := hT.ab.wk
                        unfold Blk at hw
                        rw [hT.dd wb hD] at hw
                        simp at hw
                      · rw [← HB.out]; exact hT.ab.hW
                      · rw [← HB.out]
                        exact (hT.ab.bel.trans (below_drew _ _)).trans (hb.below (by have := hT.ab.vlt; have := hT.ab.hV; show B ≤ wr2.heap.size; omega) fun k hk hD => by have := hT.dB k hD; omega)
                    have HD : Hid (ds.Nodup ∧ ∀ D ∈ ds, wr2.drew.heap[D]? = some (.deferred (some []))) := ⟨hT.nd, hT.dd⟩
                    clear hT
                    go_wp2_with fail
                    go_at_call 33
                    refine Calls.mono (Len_any _ _ _ _) ?_
                    rintro e wq ⟨rfl, hw0⟩
                    have hw0 := hw0.symm
                    subst hw0
                    go_wp2_with fail
                    refine wp_region_noPanic ?_
                    refine wp_region_held_drew (S := (fun y => y.cell? ⟨Vb, 0, none⟩ = some (.slice (some ⟨wb, 0, none⟩) n n))) (by kernel_rfl) c3 (fun hSS => ?_)
                    refine wpAnyH_take (i := 0) (oi := ({ dst := some 88, op := Op.move (Operand.tmp 10), type := 23, pos := _, after := _, guard := none } : Oper)) (v := ?_) rfl (by kernel_rfl) (by kernel_rfl) (by kernel_rfl) (fun _ _ _ h => h) (Or.inl ⟨by rfl, ?_⟩) hSS ?_
                    rotate_left
                    · intro w9 hSw
                      (try dsimp only at hSw)
                      (try go_split_ands)
                      first | (go_simp; done) | (go_simp; with_reducible rfl)
                    try simp only [Act.put, List.setIfInBounds_toArray, List.set_cons_zero, List.set_cons_succ]
                    refine wpAnyH_take (i := 1) (oi := ({ dst := some 89, op := Op.load 23 (Operand.tmp 4), type := 23, pos := _, after := _, guard := none } : Oper)) (v := ?_) rfl (by kernel_rfl) (by kernel_rfl) (by kernel_rfl) (fun _ _ _ h => h) (Or.inl ⟨by rfl, ?_⟩) hSS ?_
                    rotate_left
                    · intro w9 hSw
                      (try dsimp only at hSw)
                      (try go_split_ands)
                      first | (go_simp; done) | (go_simp; with_reducible rfl)
                    try simp only [Act.put, List.setIfInBounds_toArray, List.set_cons_zero, List.set_cons_succ]
                    refine wpAnyH_take (i := 2) (oi := ({ dst := some 2, op := Op.assign (Operand.tmp 88), type := 23, pos := _, after := _, guard := none } : Oper)) (v := ?_) rfl (by kernel_rfl) (by kernel_rfl) (by kernel_rfl) (fun _ _ _ h => h) (Or.inl ⟨by rfl, ?_⟩) hSS ?_
                    rotate_left
                    · intro w9 hSw
                      (try dsimp only at hSw)
                      (try go_split_ands)
                      first | (go_simp; done) | (go_simp; with_reducible rfl)
                    try simp only [Act.put, List.setIfInBounds_toArray, List.set_cons_zero, List.set_cons_succ]
                    refine wpAnyH_take (i := 3) (oi := ({ dst := some 3, op := Op.assign (Operand.tmp 89), type := 23, pos := _, after := _, guard := none } : Oper)) (v := ?_) rfl (by kernel_rfl) (by kernel_rfl) (by kernel_rfl) (fun _ _ _ h => h) (Or.inl ⟨by rfl, ?_⟩) hSS ?_
                    rotate_left
                    · intro w9 hSw
                      (try dsimp only at hSw)
                      (try go_split_ands)
                      first | (go_simp; done) | (go_simp; with_reducible rfl)
                    try simp only [Act.put, List.setIfInBounds_toArray, List.set_cons_zero, List.set_cons_succ]
                    refine wpAnyH_done (by kernel_rfl) (NoPanic.normal ?_) _
                    go_wp2_with fail
                    refine leaves_all ds _ HD.out.1 HD.out.2 fun W' hb => ?_
                    exact ⟨_, results_tmp2 (fn := Try.f29) (t := 2) (u := 3) rfl _ _ _, HF.out W' hb⟩
                · as_aux_lemma =>
                    obtain ⟨k, hk⟩ : ∃ k, M = k + 1 := ⟨M - 1, by omega⟩
                    subst hk
                    clear p
                    obtain ⟨g, cv9, hav, _⟩ := row_cells hT.ah.hp.row (by rw [hT.lm]; omega)
                    simp at hav
                    obtain ⟨rfl, hlk, rfl⟩ := hav
                    have hn1 := HN.out
                    have hln := hT.os.hi.len
                    have HPop : Hid (Calls Try.prog 34 #[.iface 65 (.pointer (some ⟨Lb, 0, none⟩))] wr2 fun e W1 => ∃ x : Nat, e = .returned (.iface 3 (.int .i64 (x : Int))) ∧ x < n ∧ L + 1 ≤ n ∧ ∃ go co2 W4, (Builtin.append_ #[23, 23] 23 #[.slice ao L co, .slice (some ⟨W1.heap.size, 0, none⟩) 1 1]).run Try.prog (W1.alloc (.cells #[.int .i64 (x : Int)] 3)) = .ok (.slice (some ⟨go, 0, none⟩) (L + 1) co2) W4 ∧ ∃ l' : List Int, ∀ (W5 : World), W5 = (W4.alloc (.cells #[.pointer (some ⟨Gb, 0, none⟩)] 43)).alloc (.cells #[.int .i64 (x : Int)] 3) → ∀ o1 o2 : Obj, TS B W5.heap.size w n m E Gb Vb wb Rb Lb W4.heap.size x (out ++ [x]) (.slice (some ⟨go, 0, none⟩) (L + 1) co2) ds (chn E x m) ws l' (some ⟨g, 0, none⟩) l'.length cv ((W5.alloc o1).alloc o2)) := by
                      refine (Pop_any B g cv k Lb l hT.lm (by omega) wr2 hT.ah.hp hT.os.hi.h).mono ?_
                      rintro e W1 ⟨rfl, l', hl', hp, hh, hpm, hb⟩
                      have hT' := hT
                      rw [← hL] at hT'
                      obtain ⟨x, hx, hxn, hlen, hB1, hH1, how, hrest⟩ := hT'.round HE.out HEl.out Gb (by omega) W1 l' hp hh hpm hb
                      rw [hL] at hlen how hrest
                      obtain ⟨go, co2, W4, hr, r1, r2, r3⟩ := push_runs 23 Try.underlying23 B ao L co (out.map fun (k : Nat) => (k : Int)) (x : Int) (by rw [List.length_map]; exact hL) (by omega) W1 hB1 how
                      exact ⟨x, by rw [hx], hxn, hlen, go, co2, W4, hr, l', hrest go co2 W4 r1 r2 r3⟩
                    have HNd := hid hT.nd
                    have hL1 : L ≤ 1048576 := by have := hT.os.kn.len; omega
                    have HL := hid hL
                    clear hT hlk hln hL
                    go_wp2_with fail
                    go_at_call 33
                    refine Calls.mono (Len_any _ _ _ _) ?_
                    rintro e wq ⟨rfl, hw0⟩
                    have hw0 := hw0.symm
                    subst hw0
                    go_wp2_with fail
                    go_at_call 34
                    refine Calls.mono HPop.out ?_
                    rintro e W1 ⟨x, rfl, hxn, hLn, go, co2, W4, hrun, l', hTS⟩
                    have HTS := hid hTS
                    have HX : Hid (x < n ∧ L + 1 ≤ n) := ⟨hxn, hLn⟩
                    have hta := fun u => ta3 (x : Int) u
                    clear HPop hTS hxn hLn c1 c2
                    go_wp2_with (at_builtin; refine Lib.wpList_append_run _ rfl _ _ _ _ rfl _ _ rfl rfl _ _ hrun ?_)
                    go_at_call 35
                    refine Calls.mono (behind_any Gb x W4) ?_
                    rintro e W5 ⟨rfl, hW5⟩
                    have HW5 := hid hW5
                    clear hW5 hrun hta
                    go_wp2_with fail
                    have hs4 : W4.heap.size + 1 + 1 = W5.heap.size := by rw [HW5.out]; simp
                    obtain ⟨D1, hD1⟩ : ∃ D1, D1 = W5.heap.size := ⟨_, rfl⟩
                    obtain ⟨Bg, hBg⟩ : ∃ Bg, Bg = W4.heap.size := ⟨_, rfl⟩
                    obtain ⟨W1s, hW1s⟩ : ∃ W1s, W1s = W1.heap.size := ⟨_, rfl⟩
                    have HT0 : Hid (∀ o1 o2, TS B D1 w n m E Gb Vb wb Rb Lb Bg x (out ++ [x]) (.slice (some ⟨go, 0, none⟩) (L + 1) co2) ds (chn E x m) ws l' (some ⟨g, 0, none⟩) l'.length cv ((W5.alloc o1).alloc o2)) := fun o1 o2 => by
                      have := HTS.out W5 HW5.out o1 o2
                      rw [← hD1, ← hBg] at this
                      exact this
                    rw [← hBg]
                    rw [← hW1s]
                    have HD1 := hid hD1
                    obtain ⟨TI, hTI⟩ : ∃ TI : Unit → List Nat → World → Prop, TI = fun _ pre W => ∃ rest ws l av M cv, chn E x m = pre ++ rest ∧ TS B D1 w n m E Gb Vb wb Rb Lb Bg x (out ++ [x]) (.slice (some ⟨go, 0, none⟩) (L + 1) co2) ds rest ws l av M cv W := ⟨_, rfl⟩
                    have HTI : Hid (∀ pre W, TI () pre W ↔ ∃ rest ws l av M cv, chn E x m = pre ++ rest ∧ TS B D1 w n m E Gb Vb wb Rb Lb Bg x (out ++ [x]) (.slice (some ⟨go, 0, none⟩) (L + 1) co2) ds rest ws l av M cv W) := fun pre W => by rw [hTI]
                    have HKp : Hid (∀ pre W W' (X : Nat → Prop), TI () pre W → But X W W' → (∀ k, X k → k = D1 ∨ k = D1 + 1) → TI () pre W') := fun pre W W' X h hb hX => by
                      obtain ⟨rest, ws, l, av, M, cv, h1, h2⟩ := (HTI.out pre W).1 h
                      exact (HTI.out pre W').2 ⟨rest, ws, l, av, M, cv, h1, h2.keep hb hX⟩
                    have HIT := hid (beh_it 3 (by omega) Bg (Bg + 1) Gb fb nb n m c x D1 a E fs nx HX.out.1 HN.out HM.out HS.out HE.out TI (fun _ _ _ _ => False) W5 (fun pre W h => by
                      obtain ⟨rest, ws, l, av, M, cv, h1, h2⟩ := (HTI.out pre W).1 h
                      have hg := h2.bg
                      have ht := h2.bt
                      exact ⟨HG.out W h2.ab.bel, HR.out W h2.ab.bel, by simp [World.cell?, hg], by simp [World.cell?, ht]⟩) (fun pre W h => HKp.out pre W _ (fun _ => False) h ((But.refl _ _).drew) (fun _ e => e.elim)))
                    have H00 : Hid (∀ o1 o2, TI () [] ((W5.alloc o1).alloc o2)) := fun o1 o2 => (HTI.out _ _).2 ⟨_, _, _, _, _, _, rfl, HT0.out o1 o2⟩
                    clear hTI hD1 hBg hW1s hs4 HT0 HTS HW5
                    refine (wpIn_wide (n := 4)).1 ?_
                    refine rfLawG (F := Fence.wide) (n := 4) rfl (by omega) (gf := 40) (lb := #[.pointer (some ⟨Bg, 0, none⟩), .pointer (some ⟨Bg + 1, 0, none⟩)]) rfl trivial (enters_of Try.func40 (by kernel_rfl) rfl) (fun _ => rfl) TI (fun _ _ _ _ => False) ?hI ?hIx () H00.out (fun _ pre e a' W => TI () pre W ∧ a' = { tmps := #[.pointer (some ⟨Gb, 0, none⟩), undef, .slice none 0 0, .slice none 0 0, .pointer (some ⟨Vb, 0, none⟩), undef, u6, .pointer (some ⟨Rb, 0, none⟩), u8, u9, .slice (some ⟨go, 0, none⟩) (L + 1) co2, .int .i64 (x : Int), .int .i64 (((eg E e).2 : Nat) : Int), .pointer (some ⟨Gb, 0, none⟩), .pointer (some ⟨Gb, 0, none⟩), .pointer (some ⟨Gb, 0, none⟩), .int .i64 (n : Int), .slice (some ⟨wb, 0, none⟩) n n, .pointer (some ⟨Gb, 0, none⟩), .pointer (some ⟨Gb, 0, none⟩), .pointer (some ⟨Gb, 1, none⟩), .slice a m c, .int .i64 (m : Int), .int .i64 (i : Int), .bool bq, u25, u26, u27, u28, u29, u30, u31, u32, u33, u34, .slice (some ⟨z, 0, none⟩) 0 0, .pointer (some ⟨Lb, 0, none⟩), .slice (some ⟨wb, 0, none⟩) n n, .int .i64 (n : Int), .int .i64 (j : Int), .bool bj, u41, u42, u43, u44, u45, u46, u47, u48, u49, u50, u51, u52, u53, u54, .pointer (some ⟨Lb, 0, none⟩), .pointer (some ⟨Lb, 0, none⟩), .slice (some ⟨g, 0, none⟩) (k + 1) cv, .int .i64 ((k : Int) + 1), .bool true, .pointer (some ⟨Lb, 0, none⟩), .iface 65 (.pointer (some ⟨Lb, 0, none⟩)), .iface 3 (.int .i64 (x : Int)), .int .i64 (x : Int), .slice ao L co, .int .i64 (x : Int), .slice (some ⟨W1s, 0, none⟩) 1 1, .slice (some ⟨go, 0, none⟩) (L + 1) co2, .pointer (some ⟨Gb, 0, none⟩), .int .i64 (x : Int), .func (.func 40) #[] #[.pointer (some ⟨Bg, 0, none⟩), .pointer (some ⟨Bg + 1, 0, none⟩)], .int .i64 (((eg E e).2 : Nat) : Int), undef, undef, undef, undef, undef, undef, undef, undef, undef, undef, undef, undef, undef, undef, undef, undef, undef, undef], defers := [] }) ?hAx (by rw [← HD1.out]; exact HIT.out) ?assign ?body ?done ?stop
                    case hI => intro c0 pre W o hlt q; rw [← HD1.out]; exact HKp.out _ _ _ _ q (but_put W (D1 + 1) o) (fun k e => .inr e)
                    case hIx => intro c0 cc pre W o hlt q; exact q.elim
                    case hAx => rintro c0 pre e a' W o hlt ⟨q, h2⟩; rw [← HD1.out]; exact ⟨HKp.out _ _ _ _ q (but_put W (D1 + 1) o) (fun k e => .inr e), h2⟩
                    case assign =>
                      rintro lr c0 pre e W KK hlt hEE hi hlen hK
                      have HK : Hid (KK { tmps := #[.pointer (some ⟨Gb, 0, none⟩), undef, .slice none 0 0, .slice none 0 0, .pointer (some ⟨Vb, 0, none⟩), undef, u6, .pointer (some ⟨Rb, 0, none⟩), u8, u9, .slice (some ⟨go, 0, none⟩) (L + 1) co2, .int .i64 (x : Int), .int .i64 (((eg E e).2 : Nat) : Int), .pointer (some ⟨Gb, 0, none⟩), .pointer (some ⟨Gb, 0, none⟩), .pointer (some ⟨Gb, 0, none⟩), .int .i64 (n : Int), .slice (some ⟨wb, 0, none⟩) n n, .pointer (some ⟨Gb, 0, none⟩), .pointer (some ⟨Gb, 0, none⟩), .pointer (some ⟨Gb, 1, none⟩), .slice a m c, .int .i64 (m : Int), .int .i64 (i : Int), .bool bq, u25, u26, u27, u28, u29, u30, u31, u32, u33, u34, .slice (some ⟨z, 0, none⟩) 0 0, .pointer (some ⟨Lb, 0, none⟩), .slice (some ⟨wb, 0, none⟩) n n, .int .i64 (n : Int), .int .i64 (j : Int), .bool bj, u41, u42, u43, u44, u45, u46, u47, u48, u49, u50, u51, u52, u53, u54, .pointer (some ⟨Lb, 0, none⟩), .pointer (some ⟨Lb, 0, none⟩), .slice (some ⟨g, 0, none⟩) (k + 1) cv, .int .i64 ((k : Int) + 1), .bool true, .pointer (some ⟨Lb, 0, none⟩), .iface 65 (.pointer (some ⟨Lb, 0, none⟩)), .iface 3 (.int .i64 (x : Int)), .int .i64 (x : Int), .slice ao L co, .int .i64 (x : Int), .slice (some ⟨W1s, 0, none⟩) 1 1, .slice (some ⟨go, 0, none⟩) (L + 1) co2, .pointer (some ⟨Gb, 0, none⟩), .int .i64 (x : Int), .func (.func 40) #[] #[.pointer (some ⟨Bg, 0, none⟩), .pointer (some ⟨Bg + 1, 0, none⟩)], .int .i64 (((eg E e).2 : Nat) : Int), undef, undef, undef, undef, undef, undef, undef, undef, undef, undef, undef, undef, undef, undef, undef, undef, undef, undef], defers := [] } W) := hK _ _ (Dl2.refl _ _) ⟨hi, rfl⟩
                      clear hK hi HIT H00
                      unfold encA
                      gi_wp2
                      exact HK.out
                    case body =>
                      rintro lr c0 pre e a' W hlt ⟨rest', hEE⟩ ⟨hi, rfl⟩ hlen
                      rw [← HD1.out] at hlt
                      rw [← HD1.out]
                      obtain ⟨rest, ws, l, av, M, cv, h1, h2⟩ := (HTI.out pre W).1 hi
                      rw [hEE] at h1
                      have h1 := List.append_cancel_left h1
                      subst h1
                      have hrl : rest'.length + 1 ≤ m := by
                        have h9 := chn_len E x m
                        rw [hEE, List.length_append, List.length_cons] at h9
                        omega
                      obtain ⟨y, hy⟩ : ∃ y, y = (eg E e).2 := ⟨_, rfl⟩
                      obtain ⟨l1, l2, l3, l4⟩ := h2.lower y hy
                      have hub : gt ws y ≤ 2097152 := by
                        have h9 := h2.is.wv y l1
                        have h8 := List.countP_le_length (p := fun e => decide (e.2 = y) && !(out ++ [x]).contains e.1) (l := E)
                        have h7 := List.countP_le_length (p := fun i => decide ((eg E i).2 = y)) (l := e :: rest')
                        have h6 := HEl.out
                        have h5 := HM.out
                        rw [List.length_cons] at h7
                        exact le_2m h9 h8 h7 h6 h5 hrl
                      have c1 := h2.ab.cell
                      have c2 := h2.ab.wk.cell y (by rw [h2.is.len]; exact l1)
                      have c3 := h2.ab.wk.frozen y
                      rw [← hy]
                      obtain ⟨u, hu⟩ : ∃ u, u = gt ws y := ⟨_, rfl⟩
                      rw [show ws.getD y 0 = u from hu.symm] at c2
                      rw [← hu] at l2 l3 l4 hub
                      obtain ⟨v, hv⟩ : ∃ v, v = u - 1 := ⟨_, rfl⟩
                      rw [← hv] at l3 l4
                      have hbw : But (fun k => k = wb) W (W.setCell ⟨wb, y, none⟩ (.int .i64 v)) := (But.refl (fun k => k = wb) W).setCell (p := ⟨wb, y, none⟩) rfl _
                      obtain ⟨k1, k2, k3, k4, k5, k6, k7⟩ := h2.k1
                      obtain ⟨n1, n2, n3, n4, n5, n6, n7, n8, n9⟩ := h2.neV
                      have hA2 := h2.ab.set y v
                      have d1 := hA2.cell
                      have d2 := hA2.wk.cell y (by rw [List.length_set, h2.is.len]; exact l1)
                      rw [show (ws.set y v).getD y 0 = v from by have := gt_set ws y y v (by rw [h2.is.len]; exact l1); rw [if_pos rfl] at this; exact this] at d2
                      have hH2 := h2.ah.but hbw (fun e => n2 e.symm) (fun e => n3 e.symm) (fun g hg e => h2.ah.ne (by rw [hg, e]))
                      have d3 := hH2.cell
                      have q5 : (y : Int) < (n : Int) := by omega
                      have q6 : 0 ≤ (y : Int) := by omega
                      have hdl : Dl2 D1 W (W.setCell ⟨wb, y, none⟩ (.int .i64 v)) := Dl2.of_but hbw hlt (fun e => by omega) (fun e => by omega)
                      have hEE2 : chn E x m = (pre ++ [e]) ++ rest' := by rw [hEE]; simp
                      have h1n : 1 ≤ 4 - 1 - 1 := by omega
                      obtain ⟨e3, e4⟩ := sub_wraps u v (by omega) hub hv
                      by_cases p : v = 0
                      · subst p
                        have hu1 : u = 1 := by omega
                        have HPu : Hid (∀ nn, CallsIn Fence.wide nn Try.prog 36 #[.iface 65 (.pointer (some ⟨Lb, 0, none⟩)), .iface 3 (.int .i64 (y : Int))] (W.setCell ⟨wb, y, none⟩ (.int .i64 0)) fun e1 W2 => e1 = .returned (.tuple #[]) ∧ Dl2 D1 W W2 ∧ TI () (pre ++ [e]) W2) := fun nn => by
                          refine callsIn_wide.2 ((Push_any B Lb av M cv l (y : Int) h2.lm ?_ (W.setCell ⟨wb, y, none⟩ (.int .i64 0)) ?_ hH2.hp (by have := h2.is.hi.h; rw [h2.lm] at this; exact this)).mono ?_)
                          · have h9 := h2.is.hi.len
                            have h8 := HN.out
                            have h7 := h2.lm
                            have h6 := l4 hu1
                            have h5 : l.length + 1 ≤ n := by
                              have := ready_len h2.is hy l1 (by rw [← hu]; exact hu1)
                              exact this
                            omega
                          · have := hbw.size
                            have := h2.ab.bel.size
                            have := h2.ab.vlt
                            have := h2.ab.hV
                            omega
                          · rintro e1 W2 ⟨rfl, g2, c2', m2, p1, p2, p3, p4, p5⟩
                            have hT2 := l4 hu1 W2 g2 c2' m2 p1 p2 p3 p4 (by rcases p5 with p5 | p5; exact .inl p5; exact .inr (by rw [World.setCell] at p5; simpa using p5)) hlt
                            refine ⟨rfl, hdl.trans (Dl2.of_but p4 (by have := hbw.size; omega) ?_ ?_), (HTI.out _ _).2 ⟨rest', _, _, _, _, _, hEE2, hT2⟩⟩
                            · intro e9
                              rcases e9 with e9 | e9
                              · omega
                              · have := (h2.lt _ e9.symm).1; omega
                            · intro e9
                              rcases e9 with e9 | e9
                              · omega
                              · have := (h2.lt _ e9.symm).1; omega
                        clear HIT H00 hi h2 l3 l4 hu hv hbw hA2 hH2 hdl hEE hEE2 hy l1 l2 hub hrl n1 n2 n3 n4 n5 n6 n7 n8 n9 k1 k2 k3 k4 k5 k6 k7 hu1
                        gi_wp2_with (refine ⟨trivial, ?_⟩; gi_at_call 36; refine (CallsIn.inRound lr (HPu.out _)).mono ?_; rintro e1 W2 ⟨rfl, r1, r2⟩; have R1 := hid r1; have R2 := hid r2; clear r1 r2)
                        exact ⟨R1.out, R2.out⟩
                      · have HTn : Hid (Dl2 D1 W (W.setCell ⟨wb, y, none⟩ (.int .i64 v)) ∧ TI () (pre ++ [e]) (W.setCell ⟨wb, y, none⟩ (.int .i64 v))) := ⟨hdl, (HTI.out _ _).2 ⟨rest', _, _, _, _, _, hEE2, l3 (by omega)⟩⟩
                        clear HIT H00 hi h2 l3 l4 hu hv hbw hA2 hH2 hdl hEE hEE2 hy l1 l2 hub hrl n1 n2 n3 n4 n5 n6 n7 n8 n9 k1 k2 k3 k4 k5 k6 k7
                        gi_wp2
                        exact ⟨HTn.out.1, HTn.out.2⟩
                    case done =>
                      rintro D c0 xs W hD hSx hi hDk
                      rw [← HD1.out] at hD
                      subst hD
                      obtain ⟨rest, ws, l, av, M, cv, h1, h2⟩ := (HTI.out xs W).1 hi
                      have hr : rest = [] := by
                        have := congrArg List.length h1
                        rw [hSx, List.length_append] at this
                        exact List.eq_nil_of_length_eq_zero (by omega)
                      subst hr
                      have HTO := hid (h2.out hDk HNd.out)
                      have HLL : Hid ((out ++ [x]).length = L + 1) := by rw [List.length_append, List.length_singleton, HL.out]; rfl
                      clear hi h1 h2 hSx hDk HIT H00
                      refine And.intro ⟨out ++ [x], ws, l, some ⟨go, 0, none⟩, L + 1, co2, D1 :: ds, av, M, cv, _, _, _, _, _, _, _, _, _, _, _, _, _, _, _, _, _, rfl, HLL.out, HTO.out⟩ ?_
                      have := HX.out.2
                      show n - (L + 1) < n - L
                      omega
                    case stop =>
                      rintro D c0 cc pre W hD hSp hi hDk
                      exact hi.elim
          · as_aux_lemma =>
              have hjn : j < n := by omega
              have q1 : (j : Int) < (n : Int) := by omega
              have hn1 := HN.out
              have c1 := hA.cell
              have hwl := HWS.out.l
              have c2 := hA.wk.cell j (by omega)
              obtain ⟨z2, hz2⟩ : ∃ z2, z2 = ws.getD j 0 := ⟨_, rfl⟩
              rw [← hz2] at c2
              have hrs := rl_succ ws j
              have hgz : gt ws j = z2 := by rw [hz2]; rfl
              rw [hgz] at hrs
              have hle := rl_len ws j
              by_cases p : z2 = 0
              · as_aux_lemma =>
                  subst p
                  rw [if_pos rfl] at hrs
                  obtain ⟨g, c', w6, hr, r1, r2, r3⟩ := push_runs 66 Try.underlying66 B av M cv (rl ws j) (j : Int) hM (by omega) wr.drew (by have h1 := hA.bel.size; have h2 := HB.out; show B ≤ wr.heap.size; omega) (by have := hH.hp.row; rwa [hM] at this)
                  have hnb := own_frow hH.hp
                  have hbx : w6.heap[Lb]? = some (.cells #[.slice av M cv] 66 (0, 0)) := (r2.block Lb hH.hp.lt (fun e => hnb e.symm)).trans hH.hp.box
                  have hrr : w6.heap[Rb]? = some (.cells #[.pointer (some ⟨Lb, 0, none⟩)] 65 (0, 0)) := (r2.block Rb hH.rlt (fun e => hH.neR e.symm)).trans hH.rb
                  have hlow : ∀ k, k < B → ¬ some k = (Value.slice av M cv).ownBlock := fun k hk e => by
                    have := (own_blk hH.hp.row e.symm).1
                    omega
                  have hvne : ¬ some Vb = (Value.slice av M cv).ownBlock := fun e => by
                    obtain ⟨_, _, cur, hh⟩ := own_blk hH.hp.row e.symm
                    rw [hA.vb] at hh
                    simp at hh
                  have hA6 : AB B w n Vb wb ws w6 := hA.but ((But.refl _ _).drew.trans r2) hlow hvne (fun e => hH.ne e.symm)
                  have hglt := (own_blk r1 (g := g) rfl)
                  have hgL : g ≠ Lb := fun e => by
                    obtain ⟨_, _, cur, hh⟩ := hglt
                    rw [e, hbx] at hh
                    simp at hh
                  have hgw : g ≠ wb := fun e => by
                    rcases r3 with r3 | r3
                    · exact hH.ne (by rw [r3, e])
                    · have := hA.wk.lt
                      have h9 : wr.heap.size ≤ g := r3
                      omega
                  have hb7 : But (fun k => k = Lb) w6 (w6.setCell ⟨Lb, 0, none⟩ (.slice (some ⟨g, 0, none⟩) (M + 1) c')) := (But.refl (fun k => k = Lb) w6).setCell (p := ⟨Lb, 0, none⟩) rfl _
                  have hA7 := hA6.but hb7 (fun k hk e => by have := hH.hL; omega) (fun e => HLR.out.2.1 e.symm) (fun e => HLR.out.2.2 e.symm)
                  have hH7 : AH B Rb Lb wb (.slice (some ⟨g, 0, none⟩) (M + 1) c') (rl ws (j + 1)) (w6.setCell ⟨Lb, 0, none⟩ (.slice (some ⟨g, 0, none⟩) (M + 1) c')) := by
                    refine ⟨(hb7.block Rb (Array.getElem?_eq_some_iff.1 hrr).1 (fun e => HLR.out.1 e.symm)).trans hrr, ⟨?_, ?_⟩, hH.hR, hH.hL, ?_⟩
                    · simp only [World.setCell, Array.getElem?_modify]
                      rw [hbx]
                      simp
                    · rw [hrs, List.length_append, List.length_singleton, hM]
                      exact row_frame r1 (hb7.block g hglt.2.1 hgL)
                    · simp only [Value.ownBlock]
                      intro e
                      exact hgw (by simpa using e)
                  have HP12 : Hid ((fun y => y.cell? ⟨Rb, 0, none⟩ = some (.pointer (some ⟨Lb, 0, none⟩)) ∧ y.cell? ⟨Lb, 0, none⟩ = some (.slice av M cv)) wr.drew ∧ (fun y => y.cell? ⟨Rb, 0, none⟩ = some (.pointer (some ⟨Lb, 0, none⟩)) ∧ y.cell? ⟨Lb, 0, none⟩ = some (.slice av M cv)) (wr.drew.alloc (.cells #[.int .i64 (j : Int)] 3)) ∧ (Builtin.append_ #[66, 66] 66 #[.slice av M cv, .slice (some ⟨wr.drew.heap.size, 0, none⟩) 1 1]).run Try.prog (wr.drew.alloc (.cells #[.int .i64 (j : Int)] 3)) = .ok (.slice (some ⟨g, 0, none⟩) (M + 1) c') w6 ∧ (fun y => y.cell? ⟨Rb, 0, none⟩ = some (.pointer (some ⟨Lb, 0, none⟩)) ∧ y.cell? ⟨Lb, 0, none⟩ = some (.slice av M cv)) w6 ∧ (j + 1 ≤ n ∧ (rl ws (j + 1)).length = M + 1 ∧ AB B w n Vb wb ws (w6.setCell ⟨Lb, 0, none⟩ (.slice (some ⟨g, 0, none⟩) (M + 1) c')) ∧ AH B Rb Lb wb (.slice (some ⟨g, 0, none⟩) (M + 1) c') (rl ws (j + 1)) (w6.setCell ⟨Lb, 0, none⟩ (.slice (some ⟨g, 0, none⟩) (M + 1) c')))) := by
                    refine ⟨⟨hH.cell, hH.hp.cell⟩, ?_, hr, ⟨by simp [World.cell?, hrr], by simp [World.cell?, hbx]⟩, by omega, by rw [hrs]; simp [hM], hA7, hH7⟩
                    have hb9 : Below wr.heap.size wr (wr.drew.alloc (.cells #[.int .i64 (j : Int)] 3)) := (below_drew _ _).trans (below1 wr.drew _)
                    exact ⟨(hH.next hb9).cell, (hH.next hb9).hp.cell⟩
                  have hf9 : w6.frozen? ⟨Lb, 0, none⟩ = false := by simp [World.frozen?, hbx]
                  have c3 := hH.cell
                  clear hA hH hM hj hrs hgz hz2 hr r1 r2 r3 hnb hbx hrr hlow hvne hA6 hglt hgL hgw hb7 hA7 hH7 hwl hle q2 hjn
                  go_wp2_with fail
                  refine wp_region_noPanic ?_
                  refine wp_region_last (S := (fun y => y.cell? ⟨Rb, 0, none⟩ = some (.pointer (some ⟨Lb, 0, none⟩)) ∧ y.cell? ⟨Lb, 0, none⟩ = some (.slice av M cv))) 8 8 (by kernel_rfl) (by kernel_rfl) (by kernel_rfl) HP12.out.1 (fun hSS => ?_)
                  refine wpAnyH_take (i := 0) (oi := ({ dst := some 46, op := Op.load 65 (Operand.tmp 7), type := 65, pos := _, after := _, guard := none } : Oper)) (v := ?_) rfl (by kernel_rfl) (by kernel_rfl) (by kernel_rfl) (fun _ _ _ h => h) (Or.inl ⟨by rfl, ?_⟩) hSS ?_
                  rotate_left
                  · intro w9 hSw
                    (try dsimp only at hSw)
                    (try go_split_ands)
                    first | (go_simp; done) | (go_simp; with_reducible rfl)
                  try simp only [Act.put, List.setIfInBounds_toArray, List.set_cons_zero, List.set_cons_succ]
                  refine wpAnyH_take (i := 1) (oi := ({ dst := some 47, op := Op.load 65 (Operand.tmp 7), type := 65, pos := _, after := _, guard := none } : Oper)) (v := ?_) rfl (by kernel_rfl) (by kernel_rfl) (by kernel_rfl) (fun _ _ _ h => h) (Or.inl ⟨by rfl, ?_⟩) hSS ?_
                  rotate_left
                  · intro w9 hSw
                    (try dsimp only at hSw)
                    (try go_split_ands)
                    first | (go_simp; done) | (go_simp; with_reducible rfl)
                  try simp only [Act.put, List.setIfInBounds_toArray, List.set_cons_zero, List.set_cons_succ]
                  refine wpAnyH_take (i := 2) (oi := ({ dst := some 48, op := Op.nilCheck (Operand.tmp 47), type := 0, pos := _, after := _, guard := none } : Oper)) (v := ?_) rfl (by kernel_rfl) (by kernel_rfl) (by kernel_rfl) (fun _ _ _ h => h) (Or.inl ⟨by rfl, ?_⟩) hSS ?_
                  rotate_left
                  · intro w9 hSw
                    (try dsimp only at hSw)
                    (try go_split_ands)
                    first | (go_simp; done) | (go_simp; with_reducible rfl)
                  try simp only [Act.put, List.setIfInBounds_toArray, List.set_cons_zero, List.set_cons_succ]
                  refine wpAnyH_take (i := 3) (oi := ({ dst := some 49, op := Op.load 66 (Operand.tmp 48), type := 66, pos := _, after := _, guard := none } : Oper)) (v := ?_) rfl (by kernel_rfl) (by kernel_rfl) (by kernel_rfl) (fun _ _ _ h => h) (Or.inl ⟨by rfl, ?_⟩) hSS ?_
                  rotate_left
                  · intro w9 hSw
                    (try dsimp only at hSw)
                    (try go_split_ands)
                    first | (go_simp; done) | (go_simp; with_reducible rfl)
                  try simp only [Act.put, List.setIfInBounds_toArray, List.set_cons_zero, List.set_cons_succ]
                  refine wpAnyH_take (i := 4) (oi := ({ dst := some 50, op := Op.move (Operand.tmp 8), type := 3, pos := _, after := _, guard := none } : Oper)) (v := ?_) rfl (by kernel_rfl) (by kernel_rfl) (by kernel_rfl) (fun _ _ _ h => h) (Or.inl ⟨by rfl, ?_⟩) hSS ?_
                  rotate_left
                  · intro w9 hSw
                    (try dsimp only at hSw)
                    (try go_split_ands)
                    first | (go_simp; done) | (go_simp; with_reducible rfl)
                  try simp only [Act.put, List.setIfInBounds_toArray, List.set_cons_zero, List.set_cons_succ]
                  refine wpAnyH_ready (rs := [5]) (by kernel_rfl) (by simp) (AllReadyH.cons (o := ({ dst := some 51, op := Op.buildSlice 66 1 #[(0, Operand.tmp 50)], type := 66, pos := _, after := _, guard := none } : Oper)) rfl (fun K9 hK9 => ?_) AllReadyH.nil)
                  go_simp
                  refine hK9.out _ _ HP12.out.2.1 (fun hSS => ?_)
                  clear hK9 K9
                  try simp only [Act.put, List.setIfInBounds_toArray, List.set_cons_zero, List.set_cons_succ]
                  refine wpAnyH_ready (rs := [6]) (by kernel_rfl) (by simp) (AllReadyH.cons (o := ({ dst := some 52, op := Op.call { callee := Callee.builtin Builtin.append, args := #[Operand.tmp 49, Operand.tmp 51], argTypes := #[66, 66] }, type := 66, pos := _, after := _, guard := none } : Oper)) rfl (fun K9 hK9 => ?_) AllReadyH.nil)
                  refine step_append_run rfl _ _ _ _ (by rfl) _ _ (by rfl) (by rfl) _ _ (by exact HP12.out.2.2.1) ?_
                  refine hK9.out _ _ HP12.out.2.2.2.1 (fun hSS => ?_)
                  clear hK9 K9
                  try simp only [Act.put, List.setIfInBounds_toArray, List.set_cons_zero, List.set_cons_succ]
                  refine wpAnyH_take (i := 7) (oi := ({ dst := some 53, op := Op.nilCheck (Operand.tmp 46), type := 0, pos := _, after := _, guard := none } : Oper)) (v := ?_) rfl (by kernel_rfl) (by kernel_rfl) (by kernel_rfl) (fun _ _ _ h => h) (Or.inl ⟨by rfl, ?_⟩) hSS ?_
                  rotate_left
                  · intro w9 hSw
                    (try dsimp only at hSw)
                    (try go_split_ands)
                    first | (go_simp; done) | (go_simp; with_reducible rfl)
                  try simp only [Act.put, List.setIfInBounds_toArray, List.set_cons_zero, List.set_cons_succ]
                  refine wpAnyH_done (by kernel_rfl) ?_ _
                  refine last_step (L := 8) (o := ({ dst := none, op := Op.store 66 (Operand.tmp 53) (Operand.tmp 52), type := 0, pos := _, after := _, guard := none } : Oper)) rfl (fun K9 hK9 => ?_)
                  go_simp
                  refine hK9.out _ _ ?_
                  clear hK9 K9
                  try simp only [Act.put, List.setIfInBounds_toArray, List.set_cons_zero, List.set_cons_succ]
                  refine NoPanic.normal ?_
                  go_wp2_with fail
                  have e9 : Value.int .i64 ((j : Int) + 1) = Value.int .i64 ((j + 1 : Nat) : Int) := by rw [Int.natCast_add]; rfl
                  refine ⟨⟨j + 1, M + 1, _, _, e9, HP12.out.2.2.2.2⟩, ?_⟩
                  have := HP12.out.2.2.2.2.1
                  simp only [intOf]
                  omega
              · as_aux_lemma =>
                  rw [if_neg p] at hrs
                  have HN12 : Hid (j + 1 ≤ n ∧ (rl ws (j + 1)).length = M ∧ AB B w n Vb wb ws wr ∧ AH B Rb Lb wb (.slice av M cv) (rl ws (j + 1)) wr) := ⟨by omega, by rw [hrs]; exact hM, hA, by rw [hrs]; exact hH⟩
                  clear hA hH hM hj hrs hgz hz2 hwl hle q2 hjn
                  go_wp2_with fail
                  refine ⟨⟨j + 1, M, _, _, by rw [Int.natCast_add]; rfl, HN12.out⟩, ?_⟩
                  have := HN12.out.1
                  simp only [intOf]
                  omega
    · as_aux_lemma =>
        have him : i < m := by omega
        have q1 : (i : Int) < (m : Int) := by omega
        have hm1 := HM.out
        obtain ⟨g, off, ha, c1, c2⟩ := (HR.out wr hA.bel).2 i him
        have g2 := (HG.out wr hA.bel).cells.2.1
        have hb2 := (HE.out _ (eg_mem E (by rw [HEl.out]; exact him))).2
        have hst := hws.step (by rw [HEl.out]; exact him) hb2
        have hwv := hws.v _ hb2
        have hwle := wv_le E i (eg E i).2
        obtain ⟨b, hbb⟩ : ∃ b, b = (eg E i).1 := ⟨_, rfl⟩
        obtain ⟨af, haf⟩ : ∃ af, af = (eg E i).2 := ⟨_, rfl⟩
        rw [← hbb] at c1
        rw [← haf] at c2 hb2 hst hwv hwle
        obtain ⟨x, hx⟩ : ∃ x, x = gt ws af := ⟨_, rfl⟩
        rw [← hx] at hst hwv
        obtain ⟨u1, hu1⟩ : ∃ u1, u1 = wr.alloc (.cells #[.int .i64 (b : Int), .int .i64 (af : Int)] 28) := ⟨_, rfl⟩
        obtain ⟨u2, hu2⟩ : ∃ u2, u2 = u1.setCell ⟨wb, af, none⟩ (.int .i64 (x + 1)) := ⟨_, rfl⟩
        have hA1 : AB B w n Vb wb ws u1 := hA.next (by rw [hu1]; exact below1 _ _)
        have hA2 : AB B w n Vb wb (ws.set af (x + 1)) u2 := by rw [hu2]; exact hA1.set _ _
        have HEnd : Hid (i + 1 ≤ m ∧ WS n E (i + 1) (ws.set af (x + 1)) ∧ AB B w n Vb wb (ws.set af (x + 1)) u2) := ⟨by omega, hst, hA2⟩
        have d1 := hA1.cell
        have d2 := hA1.wk.cell af (by rw [hws.l]; exact hb2)
        have d3 := hA1.wk.frozen af
        have d4 : u1.cell? ⟨wr.heap.size, 1, none⟩ = some (.int .i64 (af : Int)) := by
          rw [hu1]
          unfold World.cell?
          rw [heap_new]
          rfl
        rw [show ws.getD af 0 = x from hx.symm] at d2
        have q5 : (af : Int) < (n : Int) := by omega
        have q6 : 0 ≤ (af : Int) := by omega
        have e1 : IntKind.i64.wrap ((i : Int) + 1) = (i : Int) + 1 := iw64 _ (by omega)
        have e2 : wrap64 ((i : Int) + 1) = (i : Int) + 1 := w64 _ (by omega)
        have hx0 : 0 ≤ x := by rw [hwv]; exact hwle.1
        have hx9 : x ≤ (i : Int) := by rw [hwv]; exact hwle.2
        clear hwv hwle
        have hx1 : x ≤ 1048576 := le_1m hx9 him hm1
        obtain ⟨e3, e4⟩ := add_wraps x hx0 hx1
        have HU2 := hid hu2
        rw [hu1] at d1 d2 d3 d4 HU2
        clear hA hws hi hst hu1 hu2 hA1 hA2 hbb haf hx hb2 q hm1
        subst ha
        go_wp2_with fail
        rw [← HU2.out]
        refine ⟨⟨i + 1, _, by rw [Int.natCast_add]; rfl, HEnd.out⟩, ?_⟩
        simp only [intOf]
        omega
end Go.Proofs.Ytajnokkmpjdliaa
