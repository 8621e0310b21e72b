import Derived.Test.YtldlejpacgphmaaGreatG31
namespace Go.Proofs.YtldlejpacgphmaaGreat
open Go.RowKit
def fitsC (nb fr bl n : Nat) (ps : List Pm) : Int := if putsC nb fr bl ps ≠ 0 then putsC nb fr bl ps else if bl / 2 - 4 < diffs ps then 44 else if 1099511627776 ≤ n then 45 else 0
/-- are the first k others than the one at i? -/
def firstB (ps : List Pm) (i k : Nat) : Bool := (ps.take k).all fun q => decide (q.at_ ≠ (ps.getD i ⟨0, none, 0, []⟩).at_)
def diffsTo (ps : List Pm) (i : Nat) : Nat := ((List.range i).filter fun j => firstB ps j j).length
theorem diffsTo_all (ps : List Pm) : diffsTo ps ps.length = diffs ps := rfl
theorem diffsTo_succ (ps : List Pm) (i : Nat) : diffsTo ps (i + 1) = diffsTo ps i + if firstB ps i i = true then 1 else 0 := by
  unfold diffsTo
  rw [List.range_succ, List.filter_append, List.length_append]
  congr 1
  by_cases h : firstB ps i i = true
  · simp [h]
  · simp [h]
theorem diffsTo_le (ps : List Pm) (i : Nat) : diffsTo ps i ≤ i := by
  unfold diffsTo
  have := List.length_filter_le (fun j => firstB ps j j) (List.range i)
  simpa using this
theorem firstB_succ {ps : List Pm} {i k : Nat} {p q : Pm} (hi : ps[i]? = some p) (hk : ps[k]? = some q) : firstB ps i (k + 1) = (firstB ps i k && decide (q.at_ ≠ p.at_)) := by
  unfold firstB
  rw [List.take_add_one, hk, List.all_append]
  simp [List.getD_eq_getElem?_getD, hi]
theorem firstB_zero (ps : List Pm) (i : Nat) : firstB ps i 0 = true := by simp [firstB]
theorem homeC_cases (nb : Nat) (fr bl at_ : Int) : homeC nb fr bl at_ = 42 ∨ homeC nb fr bl at_ = 0 := by
  unfold homeC
  split
  · exact .inl rfl
  · exact .inr rfl
set_option maxRecDepth 100000 in
set_option maxHeartbeats 4000000 in
theorem refFits_any {Y : Nat → Prop} {w : World} {g : Nat} {ha : Option Addr} {nb hc fr bl : Nat} {ta : Option Addr} {tn tc : Nat} (h : Lg w g ha nb hc fr bl ta tn tc) (hgl : g < w.heap.size) (hnb : nb ≤ 524288) (hfit : fr + bl ≤ nb) (hlo : 16 ≤ bl) (htn : tn ≤ 4611686018427387904) (a0 : Option Addr) (cp : Nat) (ps : List Pm) (hR : RdP Y w a0 ps) (hN : ps.length ≤ 1073741823) :
    Calls Tryz.prog 80 #[.pointer (some ⟨g, 0, none⟩), .slice a0 ps.length cp] w fun e w' => e = .returned (.int .i64 (fitsC nb fr bl tn ps)) ∧ Below w.heap.size w w' := by
  have HLg : Hid (∀ w', Below w.heap.size w w' → Lg w' g ha nb hc fr bl ta tn tc) := fun w' hb => h.keep (hb.block g hgl)
  have HAt : Hid (∀ w', Below w.heap.size w w' → ∀ at_, Calls Tryz.prog 15 #[.pointer (some ⟨g, 0, none⟩), .int .i64 at_] w' fun e w'' => e = .returned (.int .i64 (homeC nb fr bl at_)) ∧ Below w.heap.size w w'') := fun w' hb at_ => by
    refine Calls.mono (refAt_any (HLg.out w' hb) hnb hfit at_) ?_
    rintro e w'' ⟨rfl, b⟩
    exact ⟨rfl, hb.trans (b.mono hb.size)⟩
  have HMo := hid (refMost_any (bl : Int))
  have hmz : mostC (bl : Int) = 0 := by unfold mostC; rw [if_neg (by omega)]
  rw [hmz] at HMo
  obtain ⟨most, hmost⟩ : ∃ most : Int, most = (bl : Int) / 2 - 4 := ⟨_, rfl⟩
  have hmi : (if (bl : Int) < 16 ∨ 524288 < (bl : Int) then 0 else (bl : Int) / 2 - 4) = most := by rw [if_neg (by omega), hmost]
  simp only [hmi] at HMo
  have HPc : Hid (∀ (q : Nat) (pp : Pm), ps[q]? = some pp → ∃ pb po, a0 = some ⟨pb, po, none⟩ ∧ pb < w.heap.size ∧ ∀ (t : Nat) (p : Pm), ps[t]? = some p → w.cell? ⟨pb, po + t * 2, none⟩ = some (.int .i64 p.at_) ∧ w.cell? ⟨pb, po + t * 2 + 1, none⟩ = some (.slice p.ad p.data.length p.cap)) := fun q pp hq => by
    rcases hR.2 with r | ⟨pb, po, r1, r2, _, r3⟩
    · rw [r] at hq; cases hq
    · exact ⟨pb, po, r1, r2, r3⟩
  obtain ⟨N, hNe⟩ : ∃ N, N = ps.length := ⟨_, rfl⟩
  rw [← hNe] at hN ⊢
  have HN := hid hNe
  have HMS := hid (And.intro hmost hlo)
  obtain ⟨code, hcode⟩ : ∃ code : Int, code = fitsC nb fr bl tn ps := ⟨_, rfl⟩
  rw [← hcode]
  have HCD := hid hcode
  clear h hR hNe hmi hmz hmost hcode hfit hlo hgl
  go_enter Tryz.func80, Tryz.ntmps80
  go_wp2_with fail
  go_loopw [5, 6] (fun dv iv wr => ∃ i : Nat, i ≤ N ∧ iv = .int .i64 (i : Int) ∧ dv = .int .i64 (diffsTo ps i : Int) ∧ (∀ (t : Nat) (p : Pm), t < i → ps[t]? = some p → putC nb fr bl p.at_ p.data.length = 0) ∧ Below w.heap.size w wr) (fun _ iv _ => N - (intOf iv).toNat)
  case atStart => exact ⟨0, Nat.zero_le _, rfl, rfl, fun t p ht => by omega, Below.refl _ _⟩
  case round =>
    obtain ⟨i, hiN, rfl, rfl, hok, hbt⟩ := hrel
    have HB := hid hbt
    have HOK := hid hok
    clear hbt hok
    by_cases hi : i < N
    · have hi' : (i : Int) < (N : Int) := by omega
      obtain ⟨pi, hpi⟩ : ∃ pi, ps[i]? = some pi := ⟨_, List.getElem?_eq_getElem (by have := HN.out; omega)⟩
      obtain ⟨pb, po, rfl, hpb, hcs⟩ := HPc.out i pi hpi
      obtain ⟨ci0, ci1⟩ := hcs i pi hpi
      have HCS := hid hcs
      have HPI := hid hpi
      have ci := (HB.out.cell (p := ⟨pb, po + i * 2, none⟩) hpb).trans ci0
      have HA := hid (HAt.out wr HB.out pi.at_)
      obtain ⟨vi, hvi⟩ : ∃ vi, vi = pi.at_ := ⟨_, rfl⟩
      obtain ⟨ln, hln⟩ : ∃ ln, ln = pi.data.length := ⟨_, rfl⟩
      rw [← hvi] at ci ci0 HA
      rw [← hln] at ci1
      have HV := hid (And.intro hvi hln)
      clear hcs hpi hvi hln
      have hdl := diffsTo_le ps i
      obtain ⟨dn, hdn⟩ : ∃ dn, dn = diffsTo ps i := ⟨_, rfl⟩
      rw [← hdn] at hdl ⊢
      have HDN := hid hdn
      clear hdn
      rcases homeC_cases nb fr bl vi with hh | hh
      · rw [hh] at HA
        have hc2 : code = 42 := by
          have hp : putC nb fr bl pi.at_ pi.data.length = 42 := by
            unfold putC
            rw [← HV.out.1, hh]
            rfl
          rw [HCD.out]
          unfold fitsC
          rw [putsC_hit HOK.out HPI.out (by rw [hp]; decide), hp]
          rfl
        subst hc2
        clear hh
        go_wp2_with fail
        refine Calls.mono HA.out ?_
        rintro e w2 ⟨rfl, b2⟩
        have FIN := hid b2
        clear b2
        go_wp2
        go_ret
        exact ⟨rfl, FIN.out⟩
      · rw [hh] at HA
        have HH := hid hh
        clear hh
        go_wp2_with fail
        refine Calls.mono HA.out ?_
        rintro e w2 ⟨rfl, b2⟩
        have B2 := hid b2
        have d1 := (b2.cell (p := ⟨pb, po + i * 2 + 1, none⟩) hpb).trans ci1
        have d0 := (b2.cell (p := ⟨pb, po + i * 2, none⟩) hpb).trans ci0
        clear b2 HA ci
        by_cases hl : ln = 512
        · have hpz : putC nb fr bl pi.at_ pi.data.length = 0 := by
            unfold putC
            rw [← HV.out.1, HH.out, if_neg (by decide), ← HV.out.2, if_neg (by omega)]
          have HZ := hid hpz
          subst hl
          clear hpz
          go_wp2_with fail
          go_loopw [7, 8] (fun fv kv wr => ∃ k : Nat, k ≤ i ∧ kv = .int .i64 (k : Int) ∧ fv = .bool (firstB ps i k) ∧ Below w.heap.size w wr) (fun _ kv _ => i - (intOf kv).toNat)
          case atStart => exact ⟨0, Nat.zero_le _, rfl, by rw [firstB_zero], B2.out⟩
          case round =>
            clear B2 HB d0 d1
            obtain ⟨k, hki, rfl, rfl, hbt⟩ := hrel
            have HB := hid hbt
            clear hbt
            by_cases hk : k < i
            · have hk' : (k : Int) < (i : Int) := by omega
              have hkN : k < N := by omega
              have hkN' : (k : Int) < (N : Int) := by omega
              obtain ⟨pk, hpk⟩ : ∃ pk, ps[k]? = some pk := ⟨_, List.getElem?_eq_getElem (by have := HN.out; omega)⟩
              have ck := (HB.out.cell (p := ⟨pb, po + k * 2, none⟩) hpb).trans (HCS.out k pk hpk).1
              have ci := (HB.out.cell (p := ⟨pb, po + i * 2, none⟩) hpb).trans ci0
              obtain ⟨vk, hvk⟩ : ∃ vk, vk = pk.at_ := ⟨_, rfl⟩
              rw [← hvk] at ck
              have hfs : firstB ps i (k + 1) = (firstB ps i k && decide (vk ≠ vi)) := by rw [firstB_succ HPI.out hpk, hvk, HV.out.1]
              have FIN : Hid (Below w.heap.size w wr.drew) := HB.out.drew
              clear hpk hvk
              cases hfb : firstB ps i k with
              | true =>
                rw [hfb, Bool.true_and] at hfs
                have HFS := hid hfs
                clear hfs hfb
                go_wp2_with fail
                refine wp_region_held_drew (S := fun w' => w'.cell? ⟨pb, po + k * 2, none⟩ = some (.int .i64 vk) ∧ w'.cell? ⟨pb, po + i * 2, none⟩ = some (.int .i64 vi)) (by kernel_rfl) ⟨ck, ci⟩ (fun hSS => ?_)
                refine wpAnyH_take (i := 0) (oi := ({ dst := some 37, op := Op.move (Operand.tmp 7), type := 4, pos := _, after := _, guard := none } : Oper)) (v := ?_) rfl (by kernel_rfl) (by kernel_rfl) (by kernel_rfl) (fun _ _ _ h => h) (Or.inl ⟨by rfl, ?_⟩) hSS ?_
                rotate_left
                · intro w9 hSw
                  (try dsimp only at hSw)
                  (try go_split_ands)
                  first | (go_simp; done) | (go_simp; with_reducible rfl)
                try simp only [Act.put, List.setIfInBounds_toArray, List.set_cons_zero, List.set_cons_succ]
                refine wpAnyH_take (i := 1) (oi := ({ dst := some 38, op := Op.move (Operand.tmp 37), type := 4, pos := _, after := _, guard := none } : Oper)) (v := ?_) rfl (by kernel_rfl) (by kernel_rfl) (by kernel_rfl) (fun _ _ _ h => h) (Or.inl ⟨by rfl, ?_⟩) hSS ?_
                rotate_left
                · intro w9 hSw
                  (try dsimp only at hSw)
                  (try go_split_ands)
                  first | (go_simp; done) | (go_simp; with_reducible rfl)
                try simp only [Act.put, List.setIfInBounds_toArray, List.set_cons_zero, List.set_cons_succ]
                refine wpAnyH_take (i := 2) (oi := ({ dst := some 39, op := Op.move (Operand.tmp 1), type := 30, pos := _, after := _, guard := some (1, true) } : Oper)) (v := ?_) rfl (by kernel_rfl) (by kernel_rfl) (by kernel_rfl) (fun _ _ _ h => h) (Or.inl ⟨by rfl, ?_⟩) hSS ?_
                rotate_left
                · intro w9 hSw
                  (try dsimp only at hSw)
                  (try go_split_ands)
                  first | (go_simp; done) | (go_simp; with_reducible rfl)
                try simp only [Act.put, List.setIfInBounds_toArray, List.set_cons_zero, List.set_cons_succ]
                refine wpAnyH_take (i := 3) (oi := ({ dst := some 40, op := Op.move (Operand.tmp 8), type := 3, pos := _, after := _, guard := some (1, true) } : Oper)) (v := ?_) rfl (by kernel_rfl) (by kernel_rfl) (by kernel_rfl) (fun _ _ _ h => h) (Or.inl ⟨by rfl, ?_⟩) hSS ?_
                rotate_left
                · intro w9 hSw
                  (try dsimp only at hSw)
                  (try go_split_ands)
                  first | (go_simp; done) | (go_simp; with_reducible rfl)
                try simp only [Act.put, List.setIfInBounds_toArray, List.set_cons_zero, List.set_cons_succ]
                refine wpAnyH_take (i := 4) (oi := ({ dst := some 41, op := Op.indexAddr 30 (Operand.tmp 39) (Operand.tmp 40), type := 0, pos := _, after := _, guard := some (1, true) } : Oper)) (v := ?_) rfl (by kernel_rfl) (by kernel_rfl) (by kernel_rfl) (fun _ _ _ h => h) (Or.inl ⟨by rfl, ?_⟩) hSS ?_
                rotate_left
                · intro w9 hSw
                  (try dsimp only at hSw)
                  (try go_split_ands)
                  first | (go_simp; done) | (go_simp; with_reducible rfl)
                try simp only [Act.put, List.setIfInBounds_toArray, List.set_cons_zero, List.set_cons_succ]
                refine wpAnyH_take (i := 5) (oi := ({ dst := some 42, op := Op.fieldAddr 68 (Operand.tmp 41) 0, type := 0, pos := _, after := _, guard := some (1, true) } : Oper)) (v := ?_) rfl (by kernel_rfl) (by kernel_rfl) (by kernel_rfl) (fun _ _ _ h => h) (Or.inl ⟨by rfl, ?_⟩) hSS ?_
                rotate_left
                · intro w9 hSw
                  (try dsimp only at hSw)
                  (try go_split_ands)
                  first | (go_simp; done) | (go_simp; with_reducible rfl)
                try simp only [Act.put, List.setIfInBounds_toArray, List.set_cons_zero, List.set_cons_succ]
                refine wpAnyH_take (i := 6) (oi := ({ dst := some 43, op := Op.load 3 (Operand.tmp 42), type := 3, pos := _, after := _, guard := some (1, true) } : Oper)) (v := ?_) rfl (by kernel_rfl) (by kernel_rfl) (by kernel_rfl) (fun _ _ _ h => h) (Or.inl ⟨by rfl, ?_⟩) hSS ?_
                rotate_left
                · intro w9 hSw
                  (try dsimp only at hSw)
                  (try go_split_ands)
                  first | (go_simp; done) | (go_simp; with_reducible rfl)
                try simp only [Act.put, List.setIfInBounds_toArray, List.set_cons_zero, List.set_cons_succ]
                refine wpAnyH_take (i := 7) (oi := ({ dst := some 44, op := Op.move (Operand.tmp 1), type := 30, pos := _, after := _, guard := some (1, true) } : Oper)) (v := ?_) rfl (by kernel_rfl) (by kernel_rfl) (by kernel_rfl) (fun _ _ _ h => h) (Or.inl ⟨by rfl, ?_⟩) hSS ?_
                rotate_left
                · intro w9 hSw
                  (try dsimp only at hSw)
                  (try go_split_ands)
                  first | (go_simp; done) | (go_simp; with_reducible rfl)
                try simp only [Act.put, List.setIfInBounds_toArray, List.set_cons_zero, List.set_cons_succ]
                refine wpAnyH_take (i := 8) (oi := ({ dst := some 45, op := Op.move (Operand.tmp 6), type := 3, pos := _, after := _, guard := some (1, true) } : Oper)) (v := ?_) rfl (by kernel_rfl) (by kernel_rfl) (by kernel_rfl) (fun _ _ _ h => h) (Or.inl ⟨by rfl, ?_⟩) hSS ?_
                rotate_left
                · intro w9 hSw
                  (try dsimp only at hSw)
                  (try go_split_ands)
                  first | (go_simp; done) | (go_simp; with_reducible rfl)
                try simp only [Act.put, List.setIfInBounds_toArray, List.set_cons_zero, List.set_cons_succ]
                refine wpAnyH_take (i := 9) (oi := ({ dst := some 46, op := Op.indexAddr 30 (Operand.tmp 44) (Operand.tmp 45), type := 0, pos := _, after := _, guard := some (1, true) } : Oper)) (v := ?_) rfl (by kernel_rfl) (by kernel_rfl) (by kernel_rfl) (fun _ _ _ h => h) (Or.inl ⟨by rfl, ?_⟩) hSS ?_
                rotate_left
                · intro w9 hSw
                  (try dsimp only at hSw)
                  (try go_split_ands)
                  first | (go_simp; done) | (go_simp; with_reducible rfl)
                try simp only [Act.put, List.setIfInBounds_toArray, List.set_cons_zero, List.set_cons_succ]
                refine wpAnyH_take (i := 10) (oi := ({ dst := some 47, op := Op.fieldAddr 68 (Operand.tmp 46) 0, type := 0, pos := _, after := _, guard := some (1, true) } : Oper)) (v := ?_) rfl (by kernel_rfl) (by kernel_rfl) (by kernel_rfl) (fun _ _ _ h => h) (Or.inl ⟨by rfl, ?_⟩) hSS ?_
                rotate_left
                · intro w9 hSw
                  (try dsimp only at hSw)
                  (try go_split_ands)
                  first | (go_simp; done) | (go_simp; with_reducible rfl)
                try simp only [Act.put, List.setIfInBounds_toArray, List.set_cons_zero, List.set_cons_succ]
                refine wpAnyH_take (i := 11) (oi := ({ dst := some 48, op := Op.load 3 (Operand.tmp 47), type := 3, pos := _, after := _, guard := some (1, true) } : Oper)) (v := ?_) rfl (by kernel_rfl) (by kernel_rfl) (by kernel_rfl) (fun _ _ _ h => h) (Or.inl ⟨by rfl, ?_⟩) hSS ?_
                rotate_left
                · intro w9 hSw
                  (try dsimp only at hSw)
                  (try go_split_ands)
                  first | (go_simp; done) | (go_simp; with_reducible rfl)
                try simp only [Act.put, List.setIfInBounds_toArray, List.set_cons_zero, List.set_cons_succ]
                refine wpAnyH_take (i := 12) (oi := ({ dst := some 49, op := Op.binOp BinOp.neq 3 (Operand.tmp 43) (Operand.tmp 48) 3, type := 4, pos := _, after := _, guard := some (1, true) } : Oper)) (v := ?_) rfl (by kernel_rfl) (by kernel_rfl) (by kernel_rfl) (fun _ _ _ h => h) (Or.inl ⟨by rfl, ?_⟩) hSS ?_
                rotate_left
                · intro w9 hSw
                  (try dsimp only at hSw)
                  (try go_split_ands)
                  first | (go_simp; done) | (go_simp; with_reducible rfl)
                try simp only [Act.put, List.setIfInBounds_toArray, List.set_cons_zero, List.set_cons_succ]
                refine wpAnyH_take (i := 13) (oi := ({ dst := some 50, op := Op.pick (Operand.tmp 38) (Operand.tmp 49) (Operand.const (Value.bool false)), type := 4, pos := _, after := _, guard := none } : Oper)) (v := ?_) rfl (by kernel_rfl) (by kernel_rfl) (by kernel_rfl) (fun _ _ _ h => h) (Or.inl ⟨by rfl, ?_⟩) hSS ?_
                rotate_left
                · intro w9 hSw
                  (try dsimp only at hSw)
                  (try go_split_ands)
                  first | (go_simp; done) | (go_simp; with_reducible rfl)
                try simp only [Act.put, List.setIfInBounds_toArray, List.set_cons_zero, List.set_cons_succ]
                refine wpAnyH_take (i := 14) (oi := ({ dst := some 7, op := Op.assign (Operand.tmp 50), type := 4, pos := _, after := _, guard := none } : Oper)) (v := ?_) rfl (by kernel_rfl) (by kernel_rfl) (by kernel_rfl) (fun _ _ _ h => h) (Or.inl ⟨by rfl, ?_⟩) hSS ?_
                rotate_left
                · intro w9 hSw
                  (try dsimp only at hSw)
                  (try go_split_ands)
                  first | (go_simp; done) | (go_simp; with_reducible rfl)
                try simp only [Act.put, List.setIfInBounds_toArray, List.set_cons_zero, List.set_cons_succ]
                refine wpAnyH_done (by kernel_rfl) ?_ _
                go_wp2
                refine ⟨⟨k + 1, by omega, by go_num, by rw [HFS.out]; simp; by_cases hq : vk = vi <;> simp [hq], FIN.out⟩, ?_⟩
                simp [intOf]
                omega
              | false =>
                rw [hfb, Bool.false_and] at hfs
                have HFS := hid hfs
                clear hfs hfb
                go_wp2_with fail
                refine wp_region_held_drew (S := fun w' => w'.cell? ⟨pb, po + k * 2, none⟩ = some (.int .i64 vk) ∧ w'.cell? ⟨pb, po + i * 2, none⟩ = some (.int .i64 vi)) (by kernel_rfl) ⟨ck, ci⟩ (fun hSS => ?_)
                refine wpAnyH_take (i := 0) (oi := ({ dst := some 37, op := Op.move (Operand.tmp 7), type := 4, pos := _, after := _, guard := none } : Oper)) (v := ?_) rfl (by kernel_rfl) (by kernel_rfl) (by kernel_rfl) (fun _ _ _ h => h) (Or.inl ⟨by rfl, ?_⟩) hSS ?_
                rotate_left
                · intro w9 hSw
                  (try dsimp only at hSw)
                  (try go_split_ands)
                  first | (go_simp; done) | (go_simp; with_reducible rfl)
                try simp only [Act.put, List.setIfInBounds_toArray, List.set_cons_zero, List.set_cons_succ]
                refine wpAnyH_take (i := 1) (oi := ({ dst := some 38, op := Op.move (Operand.tmp 37), type := 4, pos := _, after := _, guard := none } : Oper)) (v := ?_) rfl (by kernel_rfl) (by kernel_rfl) (by kernel_rfl) (fun _ _ _ h => h) (Or.inl ⟨by rfl, ?_⟩) hSS ?_
                rotate_left
                · intro w9 hSw
                  (try dsimp only at hSw)
                  (try go_split_ands)
                  first | (go_simp; done) | (go_simp; with_reducible rfl)
                try simp only [Act.put, List.setIfInBounds_toArray, List.set_cons_zero, List.set_cons_succ]
                refine wpAnyH_take (i := 2) (oi := ({ dst := some 39, op := Op.move (Operand.tmp 1), type := 30, pos := _, after := _, guard := some (1, true) } : Oper)) (v := undef) rfl (by kernel_rfl) (by kernel_rfl) (by kernel_rfl) (fun _ _ _ h => h) (Or.inr ⟨by rfl, rfl⟩) hSS ?_
                try simp only [Act.put, List.setIfInBounds_toArray, List.set_cons_zero, List.set_cons_succ]
                refine wpAnyH_take (i := 3) (oi := ({ dst := some 40, op := Op.move (Operand.tmp 8), type := 3, pos := _, after := _, guard := some (1, true) } : Oper)) (v := undef) rfl (by kernel_rfl) (by kernel_rfl) (by kernel_rfl) (fun _ _ _ h => h) (Or.inr ⟨by rfl, rfl⟩) hSS ?_
                try simp only [Act.put, List.setIfInBounds_toArray, List.set_cons_zero, List.set_cons_succ]
                refine wpAnyH_take (i := 4) (oi := ({ dst := some 41, op := Op.indexAddr 30 (Operand.tmp 39) (Operand.tmp 40), type := 0, pos := _, after := _, guard := some (1, true) } : Oper)) (v := undef) rfl (by kernel_rfl) (by kernel_rfl) (by kernel_rfl) (fun _ _ _ h => h) (Or.inr ⟨by rfl, rfl⟩) hSS ?_
                try simp only [Act.put, List.setIfInBounds_toArray, List.set_cons_zero, List.set_cons_succ]
                refine wpAnyH_take (i := 5) (oi := ({ dst := some 42, op := Op.fieldAddr 68 (Operand.tmp 41) 0, type := 0, pos := _, after := _, guard := some (1, true) } : Oper)) (v := undef) rfl (by kernel_rfl) (by kernel_rfl) (by kernel_rfl) (fun _ _ _ h => h) (Or.inr ⟨by rfl, rfl⟩) hSS ?_
                try simp only [Act.put, List.setIfInBounds_toArray, List.set_cons_zero, List.set_cons_succ]
                refine wpAnyH_take (i := 6) (oi := ({ dst := some 43, op := Op.load 3 (Operand.tmp 42), type := 3, pos := _, after := _, guard := some (1, true) } : Oper)) (v := undef) rfl (by kernel_rfl) (by kernel_rfl) (by kernel_rfl) (fun _ _ _ h => h) (Or.inr ⟨by rfl, rfl⟩) hSS ?_
                try simp only [Act.put, List.setIfInBounds_toArray, List.set_cons_zero, List.set_cons_succ]
                refine wpAnyH_take (i := 7) (oi := ({ dst := some 44, op := Op.move (Operand.tmp 1), type := 30, pos := _, after := _, guard := some (1, true) } : Oper)) (v := undef) rfl (by kernel_rfl) (by kernel_rfl) (by kernel_rfl) (fun _ _ _ h => h) (Or.inr ⟨by rfl, rfl⟩) hSS ?_
                try simp only [Act.put, List.setIfInBounds_toArray, List.set_cons_zero, List.set_cons_succ]
                refine wpAnyH_take (i := 8) (oi := ({ dst := some 45, op := Op.move (Operand.tmp 6), type := 3, pos := _, after := _, guard := some (1, true) } : Oper)) (v := undef) rfl (by kernel_rfl) (by kernel_rfl) (by kernel_rfl) (fun _ _ _ h => h) (Or.inr ⟨by rfl, rfl⟩) hSS ?_
                try simp only [Act.put, List.setIfInBounds_toArray, List.set_cons_zero, List.set_cons_succ]
                refine wpAnyH_take (i := 9) (oi := ({ dst := some 46, op := Op.indexAddr 30 (Operand.tmp 44) (Operand.tmp 45), type := 0, pos := _, after := _, guard := some (1, true) } : Oper)) (v := undef) rfl (by kernel_rfl) (by kernel_rfl) (by kernel_rfl) (fun _ _ _ h => h) (Or.inr ⟨by rfl, rfl⟩) hSS ?_
                try simp only [Act.put, List.setIfInBounds_toArray, List.set_cons_zero, List.set_cons_succ]
                refine wpAnyH_take (i := 10) (oi := ({ dst := some 47, op := Op.fieldAddr 68 (Operand.tmp 46) 0, type := 0, pos := _, after := _, guard := some (1, true) } : Oper)) (v := undef) rfl (by kernel_rfl) (by kernel_rfl) (by kernel_rfl) (fun _ _ _ h => h) (Or.inr ⟨by rfl, rfl⟩) hSS ?_
                try simp only [Act.put, List.setIfInBounds_toArray, List.set_cons_zero, List.set_cons_succ]
                refine wpAnyH_take (i := 11) (oi := ({ dst := some 48, op := Op.load 3 (Operand.tmp 47), type := 3, pos := _, after := _, guard := some (1, true) } : Oper)) (v := undef) rfl (by kernel_rfl) (by kernel_rfl) (by kernel_rfl) (fun _ _ _ h => h) (Or.inr ⟨by rfl, rfl⟩) hSS ?_
                try simp only [Act.put, List.setIfInBounds_toArray, List.set_cons_zero, List.set_cons_succ]
                refine wpAnyH_take (i := 12) (oi := ({ dst := some 49, op := Op.binOp BinOp.neq 3 (Operand.tmp 43) (Operand.tmp 48) 3, type := 4, pos := _, after := _, guard := some (1, true) } : Oper)) (v := undef) rfl (by kernel_rfl) (by kernel_rfl) (by kernel_rfl) (fun _ _ _ h => h) (Or.inr ⟨by rfl, rfl⟩) hSS ?_
                try simp only [Act.put, List.setIfInBounds_toArray, List.set_cons_zero, List.set_cons_succ]
                refine wpAnyH_take (i := 13) (oi := ({ dst := some 50, op := Op.pick (Operand.tmp 38) (Operand.tmp 49) (Operand.const (Value.bool false)), type := 4, pos := _, after := _, guard := none } : Oper)) (v := ?_) rfl (by kernel_rfl) (by kernel_rfl) (by kernel_rfl) (fun _ _ _ h => h) (Or.inl ⟨by rfl, ?_⟩) hSS ?_
                rotate_left
                · intro w9 hSw
                  (try dsimp only at hSw)
                  (try go_split_ands)
                  first | (go_simp; done) | (go_simp; with_reducible rfl)
                try simp only [Act.put, List.setIfInBounds_toArray, List.set_cons_zero, List.set_cons_succ]
                refine wpAnyH_take (i := 14) (oi := ({ dst := some 7, op := Op.assign (Operand.tmp 50), type := 4, pos := _, after := _, guard := none } : Oper)) (v := ?_) rfl (by kernel_rfl) (by kernel_rfl) (by kernel_rfl) (fun _ _ _ h => h) (Or.inl ⟨by rfl, ?_⟩) hSS ?_
                rotate_left
                · intro w9 hSw
                  (try dsimp only at hSw)
                  (try go_split_ands)
                  first | (go_simp; done) | (go_simp; with_reducible rfl)
                try simp only [Act.put, List.setIfInBounds_toArray, List.set_cons_zero, List.set_cons_succ]
                refine wpAnyH_done (by kernel_rfl) ?_ _
                go_wp2
                refine ⟨⟨k + 1, by omega, by go_num, by rw [HFS.out], FIN.out⟩, ?_⟩
                simp [intOf]
                omega
            · have hk' : ¬ (k : Int) < (i : Int) := by omega
              have hke : k = i := by omega
              subst hke
              have hds := diffsTo_succ ps k
              rw [← HDN.out] at hds
              have FIN : Hid ((∀ (t : Nat) (p : Pm), t < k + 1 → ps[t]? = some p → putC nb fr bl p.at_ p.data.length = 0) ∧ Below w.heap.size w wr) := by
                refine ⟨fun t p ht hp => ?_, HB.out⟩
                by_cases hte : t = k
                · subst hte
                  rw [HPI.out] at hp
                  cases hp
                  exact HZ.out
                · exact HOK.out t p (by omega) hp
              cases hfb : firstB ps k k with
              | true =>
                rw [hfb, if_pos rfl] at hds
                have HDS := hid hds
                clear hds hfb
                go_wp2
                refine ⟨⟨k + 1, by omega, by go_num, by rw [HDS.out]; go_num, FIN.out.1, FIN.out.2⟩, ?_⟩
                simp [intOf]
                omega
              | false =>
                rw [hfb, if_neg (by decide)] at hds
                have HDS := hid hds
                clear hds hfb
                go_wp2
                refine ⟨⟨k + 1, by omega, by go_num, by rw [HDS.out]; rfl, FIN.out.1, FIN.out.2⟩, ?_⟩
                simp [intOf]
                omega
        · have hc2 : code = 43 := by
            have hp : putC nb fr bl pi.at_ pi.data.length = 43 := by
              unfold putC
              rw [← HV.out.1, HH.out, if_neg (by decide), ← HV.out.2, if_pos hl]
            rw [HCD.out]
            unfold fitsC
            rw [putsC_hit HOK.out HPI.out (by rw [hp]; decide), hp]
            rfl
          subst hc2
          have hl' : ¬ (ln : Int) = 512 := by omega
          go_wp2
          go_ret
          exact ⟨rfl, B2.out⟩
    · have hi' : ¬ (i : Int) < (N : Int) := by omega
      have hie : i = N := by omega
      subst hie
      have hz : putsC nb fr bl ps = 0 := putsC_zero (fun p hp => by
        obtain ⟨t, ht⟩ := List.mem_iff_getElem?.1 hp
        exact HOK.out t p (by rw [HN.out]; exact (List.getElem?_eq_some_iff.1 ht).1) ht)
      have hdd : diffsTo ps i = diffs ps := by rw [HN.out]; exact diffsTo_all ps
      have hc2 : code = if bl / 2 - 4 < diffsTo ps i then 44 else if 1099511627776 ≤ tn then 45 else 0 := by
        rw [HCD.out, hdd]
        unfold fitsC
        rw [hz, if_neg (by decide)]
      obtain ⟨dn, hdn⟩ : ∃ dn, dn = diffsTo ps i := ⟨_, rfl⟩
      rw [← hdn] at hc2 ⊢
      have c2 := (HLg.out wr HB.out).c2
      have c3 := (HLg.out wr HB.out).c3
      have HM := hid (HMo.out wr)
      have hmb : most = ((bl / 2 - 4 : Nat) : Int) := by have := HMS.out.1; have := HMS.out.2; omega
      obtain ⟨mo, hmo⟩ : ∃ mo : Nat, mo = bl / 2 - 4 := ⟨_, rfl⟩
      rw [← hmo] at hmb hc2
      subst hmb
      clear hdn hmo HMo HOK HPc HAt HLg hdd hz HMS HCD
      go_wp2_with fail
      refine Calls.mono HM.out ?_
      rintro e w2 ⟨rfl, hw2⟩
      rw [hw2]
      clear hw2 HM
      by_cases h1 : mo < dn
      · rw [if_pos h1] at hc2
        subst hc2
        have h1' : (mo : Int) < (dn : Int) := by omega
        go_wp2
        go_ret
        exact ⟨rfl, HB.out⟩
      · rw [if_neg h1] at hc2
        have h1' : ¬ (mo : Int) < (dn : Int) := by omega
        by_cases h2 : 1099511627776 ≤ tn
        · rw [if_pos h2] at hc2
          subst hc2
          have h2' : (1099511627776 : Int) ≤ (tn : Int) := by omega
          clear h2 htn
          go_wp2
          go_ret
          exact ⟨rfl, HB.out⟩
        · rw [if_neg h2] at hc2
          subst hc2
          have h2' : (tn : Int) < (1099511627776 : Int) := by omega
          have h3' : decide ((1099511627776 : Int) ≤ (tn : Int)) = false := decide_eq_false (by omega)
          have h4' : ((1099511627776 : Int) ≤ (tn : Int)) = False := eq_false (by omega)
          clear h2 htn hnb hN hiN
          go_wp2_with fail
          go_ret
          exact ⟨rfl, HB.out⟩
end Go.Proofs.YtldlejpacgphmaaGreat
