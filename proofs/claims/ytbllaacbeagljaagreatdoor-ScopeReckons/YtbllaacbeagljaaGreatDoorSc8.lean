/-
  lex: name.
-/
import Derived.Test.YtbllaacbeagljaaGreatDoorSc7
namespace Go.Proofs.YtbllaacbeagljaaGreatDoor
open Go.RowKit

def nmR (zs : List Int) (a : Nat) (x : Nat × Nat) : Tk × Nat × Int :=
  if x.2 = 0 then (⟨2, subL zs (a + 1) x.1, 0, a⟩, x.1 + 1, 0) else if x.2 = 1 then (tk0 x.1, x.1, 183) else (tk0 a, a, 183)
def oN (o : Bool) : Nat := if o then 1 else 0
theorem inn_close {zs : List Int} {b : Nat} (h : b < zs.length) (hz : zs.getD b 0 = 34) : innA 0 zs b = (b, 0) := by
  have : isPn 34 = false := rfl
  rw [innA_eq h, hz]
  simp [this]
theorem inn_back {zs : List Int} {b : Nat} (h : b < zs.length) (hz : zs.getD b 0 = 125) : innA 1 zs b = innA 0 zs (b + 1) := by
  rw [innA_eq h, hz]
  simp
theorem inn_open {zs : List Int} {b : Nat} (h : b < zs.length) (hz : pfx zs b = true) : innA 0 zs b = innA 1 zs (b + 2) ∧ b + 1 < zs.length := by
  unfold pfx at hz
  simp only [Bool.and_eq_true, decide_eq_true_eq] at hz
  have h1 : b + 1 < zs.length := (List.getElem?_eq_some_iff.1 hz.2).1
  have : isPn 36 = false := rfl
  refine ⟨?_, h1⟩
  have e2 : innA 2 zs (b + 1) = innA 1 zs (b + 2) := by rw [innA_eq h1]; simp
  rw [innA_eq h, hz.1, hz.2, e2]
  simp [this]
theorem inn_plain {zs : List Int} {b : Nat} (o : Bool) (h : b < zs.length) (hz : isPn (zs.getD b 0) = true) : innA (oN o) zs b = innA (oN o) zs (b + 1) := by
  have h5 : zs.getD b 0 ≠ 125 := by intro e; rw [e] at hz; cases hz
  rw [innA_eq h]
  generalize zs.getD b 0 = z at *
  cases o
  · simp [oN, hz]
  · simp [oN, hz, h5]
theorem inn_bad {zs : List Int} {b : Nat} (o : Bool) (h : b < zs.length) (hz : isPn (zs.getD b 0) = false) (h1 : ¬ (zs.getD b 0 = 34 ∧ o = false)) (h2 : ¬ (zs.getD b 0 = 125 ∧ o = true)) (h3 : ¬ (pfx zs b = true ∧ o = false)) : innA (oN o) zs b = (b, 1) := by
  unfold pfx at h3
  rw [innA_eq h]
  generalize zs.getD b 0 = z at *
  cases o
  · simp only [oN, hz]
    simp at h1 h3
    simp [h1]
    intro e
    exact fun e2 => (h3 e e2).elim
  · simp only [oN, hz]
    simp at h2
    simp [h2]

set_option maxRecDepth 100000 in
set_option maxHeartbeats 4000000 in
theorem name_any {w : World} {k : Nat} {zs : List Int} {a : Nat} (hb : Pl.isB zs) (hl : zs.length ≤ 16777216) (ha : a < zs.length) (h : Scn w k (strOfNums zs) a) :
    Calls Tryz.prog 169 #[.pointer (some ⟨k, 0, none⟩)] w (TokC k zs (nmR zs a (innA 0 zs (a + 1))) w) := by
  obtain ⟨W0, hW0⟩ : ∃ W0, W0 = w.alloc (.cells (tcs 0 sE 0 0) 227) := ⟨_, rfl⟩
  obtain ⟨R, hR⟩ : ∃ R, R = w.heap.size := ⟨_, rfl⟩
  have b0 : Below w.heap.size w W0 := by rw [hW0]; exact below1 _ _
  have r0 : TkB W0 R 0 sE 0 0 := by rw [hW0, hR]; exact heap_new _ _
  have s0 : Scn W0 k (strOfNums zs) a := by rw [hW0]; exact h.alloc _
  have hkl := h.lt
  have c1 := fun o => (h.alloc o).c1
  have f1 := fun o => (h.alloc o).fz 1
  have hsz := str_size zs
  obtain ⟨W1, hW1⟩ : ∃ W1, W1 = W0.setCell ⟨k, 1, none⟩ (.int .i64 ((a : Int) + 1)) := ⟨_, rfl⟩
  have s1 : Scn W1 k (strOfNums zs) (a + 1) := by
    rw [hW1]
    have := s0.set (a + 1)
    rwa [show ((a + 1 : Nat) : Int) = (a : Int) + 1 by omega] at this
  have h21 : But (fun x => x = k) W0 W1 := by rw [hW1]; exact set_but _ _ _ _ rfl
  have r1 : TkB W1 R 0 sE 0 0 := r0.keep (h21.block R r0.lt (by omega))
  obtain ⟨PO, hPO⟩ : ∃ PO, PO = TokC k zs (nmR zs a (innA 0 zs (a + 1))) w := ⟨_, rfl⟩
  rw [← hPO]
  have hkR : k ≠ R := by omega
  -- refused, at a place
  have HFb : Hid (∀ (x : Nat) (r : Tk × Nat × Int) (w2 w3 w4 : World), nmR zs a (innA 0 zs (a + 1)) = (tk0 x, r.2.1, 183) → TkB w2 R 0 sE 0 0 → But (fun y => y = k) W0 w2 → Below w2.heap.size w2 w3 → w4 = put4 w3 R 0 sE 0 x → TkB w3 R 0 sE 0 0 ∧ TkB w4 R 0 sE 0 x ∧ PO (.returned (.tuple #[.agg (tcs 0 sE 0 x), .int .i64 183])) w4) := fun x r w2 w3 w4 hr r2 h2 h3 h4 => by
    have hp := but_put4 w3 R 0 sE 0 x
    have r3 := r2.keep (h3.block R r2.lt)
    subst h4
    rw [hPO, hr]
    refine ⟨r3, r3.put4 _ _ _ _, rfl, fun h => (by cases h), ?_⟩
    exact ((((But.of_below b0).trans h2).into (But.of_below (X := fun _ => False) h3) (fun _ _ e => e.elim)).into hp (fun x hx e => by omega))
  -- closed
  have HFc : Hid (∀ (b : Nat) (w2 w4 : World), b < zs.length → innA 0 zs (a + 1) = (b, 0) → TkB w2 R 0 sE 0 0 → Scn w2 k (strOfNums zs) b → But (fun y => y = k) W0 w2 → w4 = (put4 (w2.setCell ⟨k, 1, none⟩ (.int .i64 ((b : Int) + 1))) R 2 (strOfNums (subL zs (a + 1) b)) 0 a).drew.drew.drew → TkB w4 R 2 (strOfNums (subL zs (a + 1) b)) 0 a ∧ PO (.returned (.tuple #[.agg (tcs 2 (strOfNums (subL zs (a + 1) b)) 0 a), .int .i64 0])) w4) := fun b w2 w4 hbl hr r2 hs2 h2 h4 => by
    have hs3 := hs2.set (b + 1)
    rw [show ((b + 1 : Nat) : Int) = (b : Int) + 1 by omega] at hs3
    have hb3 : But (fun y => y = k) w2 (w2.setCell ⟨k, 1, none⟩ (.int .i64 ((b : Int) + 1))) := set_but _ _ _ _ rfl
    have r3 := r2.keep (hb3.block R r2.lt (by omega))
    have hp := but_put4 (w2.setCell ⟨k, 1, none⟩ (.int .i64 ((b : Int) + 1))) R 2 (strOfNums (subL zs (a + 1) b)) 0 a
    have hs4 : Scn (put4 (w2.setCell ⟨k, 1, none⟩ (.int .i64 ((b : Int) + 1))) R 2 (strOfNums (subL zs (a + 1) b)) 0 a) k (strOfNums zs) (b + 1) := hs3.but hp (fun e => hkR e)
    have hb4 : But (fun y => y = k) w (put4 (w2.setCell ⟨k, 1, none⟩ (.int .i64 ((b : Int) + 1))) R 2 (strOfNums (subL zs (a + 1) b)) 0 a) := (((But.of_below b0).trans h2).trans hb3).into hp (fun x hx e => by omega)
    have r4 := r3.put4 2 (strOfNums (subL zs (a + 1) b)) 0 a
    generalize put4 (w2.setCell ⟨k, 1, none⟩ (.int .i64 ((b : Int) + 1))) R 2 (strOfNums (subL zs (a + 1) b)) 0 a = w9 at *
    subst h4
    rw [hPO, hr]
    exact ⟨r4, rfl, fun _ => hs4, hb4.drew.drew.drew⟩
  have HRf := hid (fun (x : Int) (u9 : World) => refused_any x 183 u9)
  have HG := hid (fun i hi h => str_get zs hb i hi h)
  have HX := hid (fun b hbl u => HasPrefix_any zs hb b hbl u)
  have HCUT := hid (fun x y => str_cut zs x y)
  have HI := hid (And.intro s1 (And.intro r1 h21))
  have HW0 := hid hW0
  have HW1 := hid hW1
  have HR := hid hR
  have hlb : (a : Int) ≤ 16777216 := by omega
  clear hb h s0 r0 b0 hW0 hR hkl hPO s1 r1 h21 hW1
  generalize hSS : strOfNums zs = S at *
  have HSS := hid hSS
  clear hSS
  go_enter Tryz.func169, Tryz.ntmps169
  go_wp2_with fail
  rw [← HW0.out, ← HR.out, ← HW1.out]
  go_loopw [5] (fun ov wr => ∃ (b : Nat) (o : Bool), ov = .bool o ∧ a + 1 ≤ b ∧ b ≤ zs.length ∧ innA (oN o) zs b = innA 0 zs (a + 1) ∧ Scn wr k S b ∧ TkB wr R 0 sE 0 0 ∧ But (fun x => x = k) W0 wr) (fun _ wr => zs.length - atN wr k)
  case atStart => exact ⟨a + 1, false, rfl, Nat.le_refl _, ha, rfl, HI.out.1, HI.out.2.1, HI.out.2.2⟩
  case round =>
    clear HI HW1 HW0 HR c1 f1
    obtain ⟨b, o, rfl, hab, hbl, hin, hS, hT, hB⟩ := hrel
    have c0 := hS.c0
    have c1 := hS.c1
    have f1 := hS.fz 1
    have kS := And.intro c0 c1
    have hat : atN wr k = b := by unfold atN; rw [c1]; simp
    have H32 := hid (isAtEnd_any hS)
    by_cases q : b = zs.length
    · rw [decide_eq_true (show b = S.size by omega)] at H32
      have hr : nmR zs a (innA 0 zs (a + 1)) = (tk0 a, a, 183) := by rw [← hin, innA_end (by omega)]; rfl
      have HF := hid (fun w3 w4 => HFb.out a (tk0 a, a, 183) wr.drew w3 w4 hr hT hB.drew)
      clear HFb HFc hr hS hT hB hin
      go_wp2_with (go_at_call 176; refine Calls.mono H32.out ?_; rintro e w3 ⟨rfl, rfl⟩)
      refine Calls.mono (HRf.out _ _) ?_
      rintro e w5 ⟨rfl, h5⟩
      have HFF := hid (HF.out w5 _ h5 rfl)
      clear h5
      have t0 := HFF.out.1.cell 0 _ rfl
      have t1 := HFF.out.1.cell 1 _ rfl
      have t2 := HFF.out.1.cell 2 _ rfl
      have t3 := HFF.out.1.cell 3 _ rfl
      have tf := HFF.out.1.fz
      go_wp2_with fail
      exact bodyPost_ret (results_tok rfl _ _ R 0 sE 0 a (.int .i64 183) rfl rfl HFF.out.2.1) rfl HFF.out.2.2
    · rw [decide_eq_false (show ¬ b = S.size by omega)] at H32
      have hbS : b < S.size := by omega
      have hbz : b < zs.length := by omega
      have hg := HG.out b hbz hbS
      obtain ⟨z, HZ⟩ : ∃ z, Hid (zs.getD b 0 = z) := ⟨_, rfl⟩
      rw [HZ.out] at hg
      have hlt : (b : Int) < zs.length := by omega
      have hlb2 : (b : Int) ≤ 16777216 := by omega
      have HX2 := hid (HX.out b hbz wr.drew.drew.drew)
      have hce := HCUT.out b zs.length
      have HSet : Hid (∀ c : Nat, c = b + 1 ∨ c = b + 2 → Scn (wr.setCell ⟨k, 1, none⟩ (.int .i64 (c : Int))) k S c ∧ TkB (wr.setCell ⟨k, 1, none⟩ (.int .i64 (c : Int))) R 0 sE 0 0 ∧ But (fun x => x = k) W0 (wr.setCell ⟨k, 1, none⟩ (.int .i64 (c : Int)))) := fun c _ => by
        have hbb : But (fun x => x = k) wr (wr.setCell ⟨k, 1, none⟩ (.int .i64 (c : Int))) := set_but _ _ _ _ rfl
        exact ⟨hS.set c, hT.keep (hbb.block R hT.lt (by omega)), hB.trans hbb⟩
      generalize strOfNums (subL zs b zs.length) = U at *
      cases o with
      | false =>
        by_cases z1 : z = 34
        · subst z1
          have hin2 : innA 0 zs (a + 1) = (b, 0) := by rw [← hin]; exact inn_close hbz HZ.out
          have HF := hid (HFc.out b wr _ hbz hin2 hT hS hB rfl)
          have hcu := HCUT.out (a + 1) b
          have hs' := (hS.set (b + 1))
          rw [show ((b + 1 : Nat) : Int) = (b : Int) + 1 by omega] at hs'
          have hb3 : But (fun y => y = k) wr (wr.setCell ⟨k, 1, none⟩ (.int .i64 ((b : Int) + 1))) := set_but _ _ _ _ rfl
          have r3 := hT.keep (hb3.block R hT.lt (by omega))
          have d0 := hs'.c0
          have d1 := hs'.c1
          rw [show ((b + 1 : Nat) : Int) = (b : Int) + 1 by omega] at d1
          have t0 := r3.cell 0 _ rfl
          have t1 := r3.cell 1 _ rfl
          have t2 := r3.cell 2 _ rfl
          have t3 := r3.cell 3 _ rfl
          have tf := r3.fz
          have e1 : (a : Int) + 1 ≤ (b : Int) := by omega
          have e2 : (b : Int) ≤ (S.size : Int) := by omega
          generalize strOfNums (subL zs (a + 1) b) = V at *
          clear HFb HFc HX HX2 hce hS hT hB hin hin2 hs' hb3 r3 HSet HRf HG
          go_wp2_with (go_at_call 176; refine Calls.mono H32.out ?_; rintro e w3 ⟨rfl, rfl⟩)
          go_region
          go_wp2_with fail
          go_region
          go_wp2_with fail
          exact bodyPost_ret (results_tok rfl _ _ R 2 V 0 a (.int .i64 0) rfl rfl HF.out.1) rfl HF.out.2
        by_cases z2 : z = 125
        · have hpf : pfx zs b = false := by unfold pfx; rw [HZ.out, z2]; rfl
          rw [hpf] at HX2
          have hpn : isPn z = false := by rw [z2]; rfl
          have hx1 : ¬ (zs.getD b 0 = 34 ∧ false = false) := fun h => z1 (HZ.out.symm.trans h.1)
          have hx2 : ¬ (zs.getD b 0 = 125 ∧ false = true) := fun h => by cases h.2
          have hx3 : ¬ (pfx zs b = true ∧ false = false) := fun h => by rw [hpf] at h; cases h.1
          subst z2
          have hr : nmR zs a (innA 0 zs (a + 1)) = (tk0 b, b, 183) := by rw [← hin, inn_bad false hbz (by rw [HZ.out]; exact hpn) hx1 hx2 hx3]; rfl
          have HF := hid (fun w3 w4 => HFb.out b (tk0 b, b, 183) wr.drew.drew.drew w3 w4 hr hT hB.drew.drew.drew)
          have HN := hid (fun u => isOfName_any 125 u)
          rw [hpn] at HN
          clear HFb HFc HX hr hS hT hB hin HSet HG HCUT
          go_wp2_with (go_at_call 176; refine Calls.mono H32.out ?_; rintro e w3 ⟨rfl, rfl⟩)
          go_region
          go_wp2_with fail
          refine wp_region_held_drew (S := (fun w' => w'.cell? ⟨k, 0, none⟩ = some (.string S) ∧ w'.cell? ⟨k, 1, none⟩ = some (.int .i64 (b : Int)))) (by kernel_rfl) kS (fun hSS => ?_)
          refine wpAnyH_take (i := 0) (oi := ({ dst := some 72, op := Op.move (Operand.tmp 0), type := 243, pos := _, after := _, guard := none } : Oper)) (v := ?_) rfl (by kernel_rfl) (by kernel_rfl) (by kernel_rfl) (fun _ _ _ h => h) (Or.inl ⟨by rfl, ?_⟩) hSS ?_
          rotate_left
          · intro w9 hSw
            (try dsimp only at hSw)
            (try go_split_ands)
            first | (go_simp; done) | (go_simp; with_reducible rfl)
          try simp only [Act.put, List.setIfInBounds_toArray, List.set_cons_zero, List.set_cons_succ]
          refine wpAnyH_take (i := 1) (oi := ({ dst := some 73, op := Op.nilCheck (Operand.tmp 72), type := 0, pos := _, after := _, guard := none } : Oper)) (v := ?_) rfl (by kernel_rfl) (by kernel_rfl) (by kernel_rfl) (fun _ _ _ h => h) (Or.inl ⟨by rfl, ?_⟩) hSS ?_
          rotate_left
          · intro w9 hSw
            (try dsimp only at hSw)
            (try go_split_ands)
            first | (go_simp; done) | (go_simp; with_reducible rfl)
          try simp only [Act.put, List.setIfInBounds_toArray, List.set_cons_zero, List.set_cons_succ]
          refine wpAnyH_take (i := 2) (oi := ({ dst := some 74, op := Op.fieldAddr 245 (Operand.tmp 73) 0, type := 0, pos := _, after := _, guard := none } : Oper)) (v := ?_) rfl (by kernel_rfl) (by kernel_rfl) (by kernel_rfl) (fun _ _ _ h => h) (Or.inl ⟨by rfl, ?_⟩) hSS ?_
          rotate_left
          · intro w9 hSw
            (try dsimp only at hSw)
            (try go_split_ands)
            first | (go_simp; done) | (go_simp; with_reducible rfl)
          try simp only [Act.put, List.setIfInBounds_toArray, List.set_cons_zero, List.set_cons_succ]
          refine wpAnyH_take (i := 3) (oi := ({ dst := some 75, op := Op.load 9 (Operand.tmp 74), type := 9, pos := _, after := _, guard := none } : Oper)) (v := ?_) rfl (by kernel_rfl) (by kernel_rfl) (by kernel_rfl) (fun _ _ _ h => h) (Or.inl ⟨by rfl, ?_⟩) hSS ?_
          rotate_left
          · intro w9 hSw
            (try dsimp only at hSw)
            (try go_split_ands)
            first | (go_simp; done) | (go_simp; with_reducible rfl)
          try simp only [Act.put, List.setIfInBounds_toArray, List.set_cons_zero, List.set_cons_succ]
          refine wpAnyH_take (i := 4) (oi := ({ dst := some 76, op := Op.move (Operand.tmp 0), type := 243, pos := _, after := _, guard := none } : Oper)) (v := ?_) rfl (by kernel_rfl) (by kernel_rfl) (by kernel_rfl) (fun _ _ _ h => h) (Or.inl ⟨by rfl, ?_⟩) hSS ?_
          rotate_left
          · intro w9 hSw
            (try dsimp only at hSw)
            (try go_split_ands)
            first | (go_simp; done) | (go_simp; with_reducible rfl)
          try simp only [Act.put, List.setIfInBounds_toArray, List.set_cons_zero, List.set_cons_succ]
          refine wpAnyH_take (i := 5) (oi := ({ dst := some 77, op := Op.nilCheck (Operand.tmp 76), type := 0, pos := _, after := _, guard := none } : Oper)) (v := ?_) rfl (by kernel_rfl) (by kernel_rfl) (by kernel_rfl) (fun _ _ _ h => h) (Or.inl ⟨by rfl, ?_⟩) hSS ?_
          rotate_left
          · intro w9 hSw
            (try dsimp only at hSw)
            (try go_split_ands)
            first | (go_simp; done) | (go_simp; with_reducible rfl)
          try simp only [Act.put, List.setIfInBounds_toArray, List.set_cons_zero, List.set_cons_succ]
          refine wpAnyH_take (i := 6) (oi := ({ dst := some 78, op := Op.fieldAddr 245 (Operand.tmp 77) 1, type := 0, pos := _, after := _, guard := none } : Oper)) (v := ?_) rfl (by kernel_rfl) (by kernel_rfl) (by kernel_rfl) (fun _ _ _ h => h) (Or.inl ⟨by rfl, ?_⟩) hSS ?_
          rotate_left
          · intro w9 hSw
            (try dsimp only at hSw)
            (try go_split_ands)
            first | (go_simp; done) | (go_simp; with_reducible rfl)
          try simp only [Act.put, List.setIfInBounds_toArray, List.set_cons_zero, List.set_cons_succ]
          refine wpAnyH_take (i := 7) (oi := ({ dst := some 79, op := Op.load 3 (Operand.tmp 78), type := 3, pos := _, after := _, guard := none } : Oper)) (v := ?_) rfl (by kernel_rfl) (by kernel_rfl) (by kernel_rfl) (fun _ _ _ h => h) (Or.inl ⟨by rfl, ?_⟩) hSS ?_
          rotate_left
          · intro w9 hSw
            (try dsimp only at hSw)
            (try go_split_ands)
            first | (go_simp; done) | (go_simp; with_reducible rfl)
          try simp only [Act.put, List.setIfInBounds_toArray, List.set_cons_zero, List.set_cons_succ]
          refine wpAnyH_take (i := 8) (oi := ({ dst := some 80, op := Op.slice 9 (Operand.tmp 75) (some (Operand.tmp 79)) none none, type := 9, pos := _, after := _, guard := none } : Oper)) (v := .string U) rfl (by kernel_rfl) (by kernel_rfl) (by kernel_rfl) (fun _ _ _ h => h) (Or.inl ⟨by rfl, ?_⟩) hSS ?_
          · intro w9 hSw
            (try dsimp only at hSw)
            (try go_split_ands)
            first | (go_simp; done) | (go_simp; simp [hce]; done)
          try simp only [Act.put, List.setIfInBounds_toArray, List.set_cons_zero, List.set_cons_succ]
          refine wpAnyH_ready (rs := [9]) (by kernel_rfl) (by simp) (AllReadyH.cons (o := ({ dst := some 81, op := Op.call { callee := Callee.value (Operand.func 177), args := #[Operand.tmp 80, Operand.const (Value.string { data := #[36, 123] })], argTypes := #[9, 9] }, type := 4, pos := _, after := _, guard := none } : Oper)) rfl (fun K9 hK9 => ?_) AllReadyH.nil)
          go_simp
          go_at_call 177
          refine Calls.mono HX2.out ?_
          rintro e w3 ⟨rfl, rfl⟩
          refine hK9.out _ _ kS (fun hSS => ?_)
          clear hK9 K9
          try simp only [Act.put, List.setIfInBounds_toArray, List.set_cons_zero, List.set_cons_succ]
          refine wpAnyH_take (i := 10) (oi := ({ dst := some 82, op := Op.move (Operand.tmp 81), type := 4, pos := _, after := _, guard := none } : Oper)) (v := ?_) rfl (by kernel_rfl) (by kernel_rfl) (by kernel_rfl) (fun _ _ _ h => h) (Or.inl ⟨by rfl, ?_⟩) hSS ?_
          rotate_left
          · intro w9 hSw
            (try dsimp only at hSw)
            (try go_split_ands)
            first | (go_simp; done) | (go_simp; with_reducible rfl)
          try simp only [Act.put, List.setIfInBounds_toArray, List.set_cons_zero, List.set_cons_succ]
          refine wpAnyH_take (i := 11) (oi := ({ dst := some 83, op := Op.move (Operand.tmp 5), type := 4, pos := _, after := _, guard := some (10, true) } : Oper)) (v := undef) rfl (by kernel_rfl) (by kernel_rfl) (by kernel_rfl) (fun _ _ _ h => h) (Or.inr ⟨by rfl, rfl⟩) hSS ?_
          try simp only [Act.put, List.setIfInBounds_toArray, List.set_cons_zero, List.set_cons_succ]
          refine wpAnyH_take (i := 12) (oi := ({ dst := some 84, op := Op.unOp UnOp.not 4 (Operand.tmp 83), type := 4, pos := _, after := _, guard := some (10, true) } : Oper)) (v := undef) rfl (by kernel_rfl) (by kernel_rfl) (by kernel_rfl) (fun _ _ _ h => h) (Or.inr ⟨by rfl, rfl⟩) hSS ?_
          try simp only [Act.put, List.setIfInBounds_toArray, List.set_cons_zero, List.set_cons_succ]
          refine wpAnyH_take (i := 13) (oi := ({ dst := some 85, op := Op.pick (Operand.tmp 82) (Operand.tmp 84) (Operand.const (Value.bool false)), type := 4, pos := _, after := _, guard := none } : Oper)) (v := ?_) rfl (by kernel_rfl) (by kernel_rfl) (by kernel_rfl) (fun _ _ _ h => h) (Or.inl ⟨by rfl, ?_⟩) hSS ?_
          rotate_left
          · intro w9 hSw
            (try dsimp only at hSw)
            (try go_split_ands)
            first | (go_simp; done) | (go_simp; with_reducible rfl)
          try simp only [Act.put, List.setIfInBounds_toArray, List.set_cons_zero, List.set_cons_succ]
          refine wpAnyH_take (i := 14) (oi := ({ dst := some 71, op := Op.assign (Operand.tmp 85), type := 4, pos := _, after := _, guard := none } : Oper)) (v := ?_) rfl (by kernel_rfl) (by kernel_rfl) (by kernel_rfl) (fun _ _ _ h => h) (Or.inl ⟨by rfl, ?_⟩) hSS ?_
          rotate_left
          · intro w9 hSw
            (try dsimp only at hSw)
            (try go_split_ands)
            first | (go_simp; done) | (go_simp; with_reducible rfl)
          try simp only [Act.put, List.setIfInBounds_toArray, List.set_cons_zero, List.set_cons_succ]
          refine wpAnyH_done (by kernel_rfl) ?_ _
          go_wp2_with (go_at_call 178; refine Calls.mono (HN.out _) ?_; rintro e w3 ⟨rfl, rfl⟩)
          refine Calls.mono (HRf.out _ _) ?_
          rintro e w5 ⟨rfl, h5⟩
          have HFF := hid (HF.out w5 _ h5 rfl)
          clear h5
          have t0 := HFF.out.1.cell 0 _ rfl
          have t1 := HFF.out.1.cell 1 _ rfl
          have t2 := HFF.out.1.cell 2 _ rfl
          have t3 := HFF.out.1.cell 3 _ rfl
          have tf := HFF.out.1.fz
          go_wp2_with fail
          exact bodyPost_ret (results_tok rfl _ _ R 0 sE 0 b (.int .i64 183) rfl rfl HFF.out.2.1) rfl HFF.out.2.2
        cases hpf : pfx zs b with
        | true =>
          rw [hpf] at HX2
          obtain ⟨hi2, hb2⟩ := inn_open hbz hpf
          have HS1 := hid (HSet.out (b + 1) (.inl rfl))
          rw [show ((b + 1 : Nat) : Int) = (b : Int) + 1 by omega] at HS1
          have HS2 := HS1
          clear HS1
          have HS1 : Hid (Scn ((wr.setCell ⟨k, 1, none⟩ (.int .i64 ((b : Int) + 1))).setCell ⟨k, 1, none⟩ (.int .i64 ((b : Int) + 1 + 1))) k S (b + 2) ∧ TkB ((wr.setCell ⟨k, 1, none⟩ (.int .i64 ((b : Int) + 1))).setCell ⟨k, 1, none⟩ (.int .i64 ((b : Int) + 1 + 1))) R 0 sE 0 0 ∧ But (fun x => x = k) W0 ((wr.setCell ⟨k, 1, none⟩ (.int .i64 ((b : Int) + 1))).setCell ⟨k, 1, none⟩ (.int .i64 ((b : Int) + 1 + 1)))) := by
            have q1 := HS2.out.1.set (b + 2)
            rw [show ((b + 2 : Nat) : Int) = (b : Int) + 1 + 1 by omega] at q1
            have hbb : But (fun x => x = k) (wr.setCell ⟨k, 1, none⟩ (.int .i64 ((b : Int) + 1))) ((wr.setCell ⟨k, 1, none⟩ (.int .i64 ((b : Int) + 1))).setCell ⟨k, 1, none⟩ (.int .i64 ((b : Int) + 1 + 1))) := set_but _ _ _ _ rfl
            exact ⟨q1, HS2.out.2.1.keep (hbb.block R HS2.out.2.1.lt (by omega)), HS2.out.2.2.trans hbb⟩
          have HIN : Hid (innA 1 zs (b + 2) = innA 0 zs (a + 1)) := hi2.symm.trans hin
          have d1 := HS2.out.1.c1
          rw [show ((b + 1 : Nat) : Int) = (b : Int) + 1 by omega] at d1
          have g1 := HS2.out.1.fz 1
          clear HFb HFc HX hS hT hB hin HSet HRf HG HCUT hi2 HS2
          go_wp2_with (go_at_call 176; refine Calls.mono H32.out ?_; rintro e w3 ⟨rfl, rfl⟩)
          go_region
          go_wp2_with fail
          refine wp_region_held_drew (S := (fun w' => w'.cell? ⟨k, 0, none⟩ = some (.string S) ∧ w'.cell? ⟨k, 1, none⟩ = some (.int .i64 (b : Int)))) (by kernel_rfl) kS (fun hSS => ?_)
          refine wpAnyH_take (i := 0) (oi := ({ dst := some 72, op := Op.move (Operand.tmp 0), type := 243, pos := _, after := _, guard := none } : Oper)) (v := ?_) rfl (by kernel_rfl) (by kernel_rfl) (by kernel_rfl) (fun _ _ _ h => h) (Or.inl ⟨by rfl, ?_⟩) hSS ?_
          rotate_left
          · intro w9 hSw
            (try dsimp only at hSw)
            (try go_split_ands)
            first | (go_simp; done) | (go_simp; with_reducible rfl)
          try simp only [Act.put, List.setIfInBounds_toArray, List.set_cons_zero, List.set_cons_succ]
          refine wpAnyH_take (i := 1) (oi := ({ dst := some 73, op := Op.nilCheck (Operand.tmp 72), type := 0, pos := _, after := _, guard := none } : Oper)) (v := ?_) rfl (by kernel_rfl) (by kernel_rfl) (by kernel_rfl) (fun _ _ _ h => h) (Or.inl ⟨by rfl, ?_⟩) hSS ?_
          rotate_left
          · intro w9 hSw
            (try dsimp only at hSw)
            (try go_split_ands)
            first | (go_simp; done) | (go_simp; with_reducible rfl)
          try simp only [Act.put, List.setIfInBounds_toArray, List.set_cons_zero, List.set_cons_succ]
          refine wpAnyH_take (i := 2) (oi := ({ dst := some 74, op := Op.fieldAddr 245 (Operand.tmp 73) 0, type := 0, pos := _, after := _, guard := none } : Oper)) (v := ?_) rfl (by kernel_rfl) (by kernel_rfl) (by kernel_rfl) (fun _ _ _ h => h) (Or.inl ⟨by rfl, ?_⟩) hSS ?_
          rotate_left
          · intro w9 hSw
            (try dsimp only at hSw)
            (try go_split_ands)
            first | (go_simp; done) | (go_simp; with_reducible rfl)
          try simp only [Act.put, List.setIfInBounds_toArray, List.set_cons_zero, List.set_cons_succ]
          refine wpAnyH_take (i := 3) (oi := ({ dst := some 75, op := Op.load 9 (Operand.tmp 74), type := 9, pos := _, after := _, guard := none } : Oper)) (v := ?_) rfl (by kernel_rfl) (by kernel_rfl) (by kernel_rfl) (fun _ _ _ h => h) (Or.inl ⟨by rfl, ?_⟩) hSS ?_
          rotate_left
          · intro w9 hSw
            (try dsimp only at hSw)
            (try go_split_ands)
            first | (go_simp; done) | (go_simp; with_reducible rfl)
          try simp only [Act.put, List.setIfInBounds_toArray, List.set_cons_zero, List.set_cons_succ]
          refine wpAnyH_take (i := 4) (oi := ({ dst := some 76, op := Op.move (Operand.tmp 0), type := 243, pos := _, after := _, guard := none } : Oper)) (v := ?_) rfl (by kernel_rfl) (by kernel_rfl) (by kernel_rfl) (fun _ _ _ h => h) (Or.inl ⟨by rfl, ?_⟩) hSS ?_
          rotate_left
          · intro w9 hSw
            (try dsimp only at hSw)
            (try go_split_ands)
            first | (go_simp; done) | (go_simp; with_reducible rfl)
          try simp only [Act.put, List.setIfInBounds_toArray, List.set_cons_zero, List.set_cons_succ]
          refine wpAnyH_take (i := 5) (oi := ({ dst := some 77, op := Op.nilCheck (Operand.tmp 76), type := 0, pos := _, after := _, guard := none } : Oper)) (v := ?_) rfl (by kernel_rfl) (by kernel_rfl) (by kernel_rfl) (fun _ _ _ h => h) (Or.inl ⟨by rfl, ?_⟩) hSS ?_
          rotate_left
          · intro w9 hSw
            (try dsimp only at hSw)
            (try go_split_ands)
            first | (go_simp; done) | (go_simp; with_reducible rfl)
          try simp only [Act.put, List.setIfInBounds_toArray, List.set_cons_zero, List.set_cons_succ]
          refine wpAnyH_take (i := 6) (oi := ({ dst := some 78, op := Op.fieldAddr 245 (Operand.tmp 77) 1, type := 0, pos := _, after := _, guard := none } : Oper)) (v := ?_) rfl (by kernel_rfl) (by kernel_rfl) (by kernel_rfl) (fun _ _ _ h => h) (Or.inl ⟨by rfl, ?_⟩) hSS ?_
          rotate_left
          · intro w9 hSw
            (try dsimp only at hSw)
            (try go_split_ands)
            first | (go_simp; done) | (go_simp; with_reducible rfl)
          try simp only [Act.put, List.setIfInBounds_toArray, List.set_cons_zero, List.set_cons_succ]
          refine wpAnyH_take (i := 7) (oi := ({ dst := some 79, op := Op.load 3 (Operand.tmp 78), type := 3, pos := _, after := _, guard := none } : Oper)) (v := ?_) rfl (by kernel_rfl) (by kernel_rfl) (by kernel_rfl) (fun _ _ _ h => h) (Or.inl ⟨by rfl, ?_⟩) hSS ?_
          rotate_left
          · intro w9 hSw
            (try dsimp only at hSw)
            (try go_split_ands)
            first | (go_simp; done) | (go_simp; with_reducible rfl)
          try simp only [Act.put, List.setIfInBounds_toArray, List.set_cons_zero, List.set_cons_succ]
          refine wpAnyH_take (i := 8) (oi := ({ dst := some 80, op := Op.slice 9 (Operand.tmp 75) (some (Operand.tmp 79)) none none, type := 9, pos := _, after := _, guard := none } : Oper)) (v := .string U) rfl (by kernel_rfl) (by kernel_rfl) (by kernel_rfl) (fun _ _ _ h => h) (Or.inl ⟨by rfl, ?_⟩) hSS ?_
          · intro w9 hSw
            (try dsimp only at hSw)
            (try go_split_ands)
            first | (go_simp; done) | (go_simp; simp [hce]; done)
          try simp only [Act.put, List.setIfInBounds_toArray, List.set_cons_zero, List.set_cons_succ]
          refine wpAnyH_ready (rs := [9]) (by kernel_rfl) (by simp) (AllReadyH.cons (o := ({ dst := some 81, op := Op.call { callee := Callee.value (Operand.func 177), args := #[Operand.tmp 80, Operand.const (Value.string { data := #[36, 123] })], argTypes := #[9, 9] }, type := 4, pos := _, after := _, guard := none } : Oper)) rfl (fun K9 hK9 => ?_) AllReadyH.nil)
          go_simp
          go_at_call 177
          refine Calls.mono HX2.out ?_
          rintro e w3 ⟨rfl, rfl⟩
          refine hK9.out _ _ kS (fun hSS => ?_)
          clear hK9 K9
          try simp only [Act.put, List.setIfInBounds_toArray, List.set_cons_zero, List.set_cons_succ]
          refine wpAnyH_take (i := 10) (oi := ({ dst := some 82, op := Op.move (Operand.tmp 81), type := 4, pos := _, after := _, guard := none } : Oper)) (v := ?_) rfl (by kernel_rfl) (by kernel_rfl) (by kernel_rfl) (fun _ _ _ h => h) (Or.inl ⟨by rfl, ?_⟩) hSS ?_
          rotate_left
          · intro w9 hSw
            (try dsimp only at hSw)
            (try go_split_ands)
            first | (go_simp; done) | (go_simp; with_reducible rfl)
          try simp only [Act.put, List.setIfInBounds_toArray, List.set_cons_zero, List.set_cons_succ]
          refine wpAnyH_take (i := 11) (oi := ({ dst := some 83, op := Op.move (Operand.tmp 5), type := 4, pos := _, after := _, guard := some (10, true) } : Oper)) (v := ?_) rfl (by kernel_rfl) (by kernel_rfl) (by kernel_rfl) (fun _ _ _ h => h) (Or.inl ⟨by rfl, ?_⟩) hSS ?_
          rotate_left
          · intro w9 hSw
            (try dsimp only at hSw)
            (try go_split_ands)
            first | (go_simp; done) | (go_simp; with_reducible rfl)
          try simp only [Act.put, List.setIfInBounds_toArray, List.set_cons_zero, List.set_cons_succ]
          refine wpAnyH_take (i := 12) (oi := ({ dst := some 84, op := Op.unOp UnOp.not 4 (Operand.tmp 83), type := 4, pos := _, after := _, guard := some (10, true) } : Oper)) (v := ?_) rfl (by kernel_rfl) (by kernel_rfl) (by kernel_rfl) (fun _ _ _ h => h) (Or.inl ⟨by rfl, ?_⟩) hSS ?_
          rotate_left
          · intro w9 hSw
            (try dsimp only at hSw)
            (try go_split_ands)
            first | (go_simp; done) | (go_simp; with_reducible rfl)
          try simp only [Act.put, List.setIfInBounds_toArray, List.set_cons_zero, List.set_cons_succ]
          refine wpAnyH_take (i := 13) (oi := ({ dst := some 85, op := Op.pick (Operand.tmp 82) (Operand.tmp 84) (Operand.const (Value.bool false)), type := 4, pos := _, after := _, guard := none } : Oper)) (v := ?_) rfl (by kernel_rfl) (by kernel_rfl) (by kernel_rfl) (fun _ _ _ h => h) (Or.inl ⟨by rfl, ?_⟩) hSS ?_
          rotate_left
          · intro w9 hSw
            (try dsimp only at hSw)
            (try go_split_ands)
            first | (go_simp; done) | (go_simp; with_reducible rfl)
          try simp only [Act.put, List.setIfInBounds_toArray, List.set_cons_zero, List.set_cons_succ]
          refine wpAnyH_take (i := 14) (oi := ({ dst := some 71, op := Op.assign (Operand.tmp 85), type := 4, pos := _, after := _, guard := none } : Oper)) (v := ?_) rfl (by kernel_rfl) (by kernel_rfl) (by kernel_rfl) (fun _ _ _ h => h) (Or.inl ⟨by rfl, ?_⟩) hSS ?_
          rotate_left
          · intro w9 hSw
            (try dsimp only at hSw)
            (try go_split_ands)
            first | (go_simp; done) | (go_simp; with_reducible rfl)
          try simp only [Act.put, List.setIfInBounds_toArray, List.set_cons_zero, List.set_cons_succ]
          refine wpAnyH_done (by kernel_rfl) ?_ _
          go_wp2
          go_roundw
          case rel => exact ⟨b + 2, true, rfl, by omega, by omega, HIN.out, HS1.out.1, HS1.out.2.1, HS1.out.2.2.drew.drew.drew⟩
          case measure =>
            have e : atN ((wr.setCell ⟨k, 1, none⟩ (.int .i64 ((b : Int) + 1))).setCell ⟨k, 1, none⟩ (.int .i64 ((b : Int) + 1 + 1))) k = b + 2 := by unfold atN; rw [HS1.out.1.c1]; show (((b + 2 : Nat) : Int)).toNat = b + 2; omega
            rw [hat]
            show zs.length - atN ((wr.setCell ⟨k, 1, none⟩ (.int .i64 ((b : Int) + 1))).setCell ⟨k, 1, none⟩ (.int .i64 ((b : Int) + 1 + 1))) k < _
            rw [e]
            omega
        | false =>
          rw [hpf] at HX2
          cases hpn : isPn z with
          | true =>
            have HS1 := hid (HSet.out (b + 1) (.inl rfl))
            rw [show ((b + 1 : Nat) : Int) = (b : Int) + 1 by omega] at HS1
            have HIN : Hid (innA (oN false) zs (b + 1) = innA 0 zs (a + 1)) := (inn_plain false hbz (by rw [HZ.out]; exact hpn)).symm.trans hin
            have HN := hid (fun u => isOfName_any z u)
            rw [hpn] at HN
            clear HFb HFc HX hS hT hB hin HSet HRf HG HCUT
            go_wp2_with (go_at_call 176; refine Calls.mono H32.out ?_; rintro e w3 ⟨rfl, rfl⟩)
            go_region
            go_wp2_with fail
            refine wp_region_held_drew (S := (fun w' => w'.cell? ⟨k, 0, none⟩ = some (.string S) ∧ w'.cell? ⟨k, 1, none⟩ = some (.int .i64 (b : Int)))) (by kernel_rfl) kS (fun hSS => ?_)
            refine wpAnyH_take (i := 0) (oi := ({ dst := some 72, op := Op.move (Operand.tmp 0), type := 243, pos := _, after := _, guard := none } : Oper)) (v := ?_) rfl (by kernel_rfl) (by kernel_rfl) (by kernel_rfl) (fun _ _ _ h => h) (Or.inl ⟨by rfl, ?_⟩) hSS ?_
            rotate_left
            · intro w9 hSw
              (try dsimp only at hSw)
              (try go_split_ands)
              first | (go_simp; done) | (go_simp; with_reducible rfl)
            try simp only [Act.put, List.setIfInBounds_toArray, List.set_cons_zero, List.set_cons_succ]
            refine wpAnyH_take (i := 1) (oi := ({ dst := some 73, op := Op.nilCheck (Operand.tmp 72), type := 0, pos := _, after := _, guard := none } : Oper)) (v := ?_) rfl (by kernel_rfl) (by kernel_rfl) (by kernel_rfl) (fun _ _ _ h => h) (Or.inl ⟨by rfl, ?_⟩) hSS ?_
            rotate_left
            · intro w9 hSw
              (try dsimp only at hSw)
              (try go_split_ands)
              first | (go_simp; done) | (go_simp; with_reducible rfl)
            try simp only [Act.put, List.setIfInBounds_toArray, List.set_cons_zero, List.set_cons_succ]
            refine wpAnyH_take (i := 2) (oi := ({ dst := some 74, op := Op.fieldAddr 245 (Operand.tmp 73) 0, type := 0, pos := _, after := _, guard := none } : Oper)) (v := ?_) rfl (by kernel_rfl) (by kernel_rfl) (by kernel_rfl) (fun _ _ _ h => h) (Or.inl ⟨by rfl, ?_⟩) hSS ?_
            rotate_left
            · intro w9 hSw
              (try dsimp only at hSw)
              (try go_split_ands)
              first | (go_simp; done) | (go_simp; with_reducible rfl)
            try simp only [Act.put, List.setIfInBounds_toArray, List.set_cons_zero, List.set_cons_succ]
            refine wpAnyH_take (i := 3) (oi := ({ dst := some 75, op := Op.load 9 (Operand.tmp 74), type := 9, pos := _, after := _, guard := none } : Oper)) (v := ?_) rfl (by kernel_rfl) (by kernel_rfl) (by kernel_rfl) (fun _ _ _ h => h) (Or.inl ⟨by rfl, ?_⟩) hSS ?_
            rotate_left
            · intro w9 hSw
              (try dsimp only at hSw)
              (try go_split_ands)
              first | (go_simp; done) | (go_simp; with_reducible rfl)
            try simp only [Act.put, List.setIfInBounds_toArray, List.set_cons_zero, List.set_cons_succ]
            refine wpAnyH_take (i := 4) (oi := ({ dst := some 76, op := Op.move (Operand.tmp 0), type := 243, pos := _, after := _, guard := none } : Oper)) (v := ?_) rfl (by kernel_rfl) (by kernel_rfl) (by kernel_rfl) (fun _ _ _ h => h) (Or.inl ⟨by rfl, ?_⟩) hSS ?_
            rotate_left
            · intro w9 hSw
              (try dsimp only at hSw)
              (try go_split_ands)
              first | (go_simp; done) | (go_simp; with_reducible rfl)
            try simp only [Act.put, List.setIfInBounds_toArray, List.set_cons_zero, List.set_cons_succ]
            refine wpAnyH_take (i := 5) (oi := ({ dst := some 77, op := Op.nilCheck (Operand.tmp 76), type := 0, pos := _, after := _, guard := none } : Oper)) (v := ?_) rfl (by kernel_rfl) (by kernel_rfl) (by kernel_rfl) (fun _ _ _ h => h) (Or.inl ⟨by rfl, ?_⟩) hSS ?_
            rotate_left
            · intro w9 hSw
              (try dsimp only at hSw)
              (try go_split_ands)
              first | (go_simp; done) | (go_simp; with_reducible rfl)
            try simp only [Act.put, List.setIfInBounds_toArray, List.set_cons_zero, List.set_cons_succ]
            refine wpAnyH_take (i := 6) (oi := ({ dst := some 78, op := Op.fieldAddr 245 (Operand.tmp 77) 1, type := 0, pos := _, after := _, guard := none } : Oper)) (v := ?_) rfl (by kernel_rfl) (by kernel_rfl) (by kernel_rfl) (fun _ _ _ h => h) (Or.inl ⟨by rfl, ?_⟩) hSS ?_
            rotate_left
            · intro w9 hSw
              (try dsimp only at hSw)
              (try go_split_ands)
              first | (go_simp; done) | (go_simp; with_reducible rfl)
            try simp only [Act.put, List.setIfInBounds_toArray, List.set_cons_zero, List.set_cons_succ]
            refine wpAnyH_take (i := 7) (oi := ({ dst := some 79, op := Op.load 3 (Operand.tmp 78), type := 3, pos := _, after := _, guard := none } : Oper)) (v := ?_) rfl (by kernel_rfl) (by kernel_rfl) (by kernel_rfl) (fun _ _ _ h => h) (Or.inl ⟨by rfl, ?_⟩) hSS ?_
            rotate_left
            · intro w9 hSw
              (try dsimp only at hSw)
              (try go_split_ands)
              first | (go_simp; done) | (go_simp; with_reducible rfl)
            try simp only [Act.put, List.setIfInBounds_toArray, List.set_cons_zero, List.set_cons_succ]
            refine wpAnyH_take (i := 8) (oi := ({ dst := some 80, op := Op.slice 9 (Operand.tmp 75) (some (Operand.tmp 79)) none none, type := 9, pos := _, after := _, guard := none } : Oper)) (v := .string U) rfl (by kernel_rfl) (by kernel_rfl) (by kernel_rfl) (fun _ _ _ h => h) (Or.inl ⟨by rfl, ?_⟩) hSS ?_
            · intro w9 hSw
              (try dsimp only at hSw)
              (try go_split_ands)
              first | (go_simp; done) | (go_simp; simp [hce]; done)
            try simp only [Act.put, List.setIfInBounds_toArray, List.set_cons_zero, List.set_cons_succ]
            refine wpAnyH_ready (rs := [9]) (by kernel_rfl) (by simp) (AllReadyH.cons (o := ({ dst := some 81, op := Op.call { callee := Callee.value (Operand.func 177), args := #[Operand.tmp 80, Operand.const (Value.string { data := #[36, 123] })], argTypes := #[9, 9] }, type := 4, pos := _, after := _, guard := none } : Oper)) rfl (fun K9 hK9 => ?_) AllReadyH.nil)
            go_simp
            go_at_call 177
            refine Calls.mono HX2.out ?_
            rintro e w3 ⟨rfl, rfl⟩
            refine hK9.out _ _ kS (fun hSS => ?_)
            clear hK9 K9
            try simp only [Act.put, List.setIfInBounds_toArray, List.set_cons_zero, List.set_cons_succ]
            refine wpAnyH_take (i := 10) (oi := ({ dst := some 82, op := Op.move (Operand.tmp 81), type := 4, pos := _, after := _, guard := none } : Oper)) (v := ?_) rfl (by kernel_rfl) (by kernel_rfl) (by kernel_rfl) (fun _ _ _ h => h) (Or.inl ⟨by rfl, ?_⟩) hSS ?_
            rotate_left
            · intro w9 hSw
              (try dsimp only at hSw)
              (try go_split_ands)
              first | (go_simp; done) | (go_simp; with_reducible rfl)
            try simp only [Act.put, List.setIfInBounds_toArray, List.set_cons_zero, List.set_cons_succ]
            refine wpAnyH_take (i := 11) (oi := ({ dst := some 83, op := Op.move (Operand.tmp 5), type := 4, pos := _, after := _, guard := some (10, true) } : Oper)) (v := undef) rfl (by kernel_rfl) (by kernel_rfl) (by kernel_rfl) (fun _ _ _ h => h) (Or.inr ⟨by rfl, rfl⟩) hSS ?_
            try simp only [Act.put, List.setIfInBounds_toArray, List.set_cons_zero, List.set_cons_succ]
            refine wpAnyH_take (i := 12) (oi := ({ dst := some 84, op := Op.unOp UnOp.not 4 (Operand.tmp 83), type := 4, pos := _, after := _, guard := some (10, true) } : Oper)) (v := undef) rfl (by kernel_rfl) (by kernel_rfl) (by kernel_rfl) (fun _ _ _ h => h) (Or.inr ⟨by rfl, rfl⟩) hSS ?_
            try simp only [Act.put, List.setIfInBounds_toArray, List.set_cons_zero, List.set_cons_succ]
            refine wpAnyH_take (i := 13) (oi := ({ dst := some 85, op := Op.pick (Operand.tmp 82) (Operand.tmp 84) (Operand.const (Value.bool false)), type := 4, pos := _, after := _, guard := none } : Oper)) (v := ?_) rfl (by kernel_rfl) (by kernel_rfl) (by kernel_rfl) (fun _ _ _ h => h) (Or.inl ⟨by rfl, ?_⟩) hSS ?_
            rotate_left
            · intro w9 hSw
              (try dsimp only at hSw)
              (try go_split_ands)
              first | (go_simp; done) | (go_simp; with_reducible rfl)
            try simp only [Act.put, List.setIfInBounds_toArray, List.set_cons_zero, List.set_cons_succ]
            refine wpAnyH_take (i := 14) (oi := ({ dst := some 71, op := Op.assign (Operand.tmp 85), type := 4, pos := _, after := _, guard := none } : Oper)) (v := ?_) rfl (by kernel_rfl) (by kernel_rfl) (by kernel_rfl) (fun _ _ _ h => h) (Or.inl ⟨by rfl, ?_⟩) hSS ?_
            rotate_left
            · intro w9 hSw
              (try dsimp only at hSw)
              (try go_split_ands)
              first | (go_simp; done) | (go_simp; with_reducible rfl)
            try simp only [Act.put, List.setIfInBounds_toArray, List.set_cons_zero, List.set_cons_succ]
            refine wpAnyH_done (by kernel_rfl) ?_ _
            go_wp2_with (go_at_call 178; refine Calls.mono (HN.out _) ?_; rintro e w3 ⟨rfl, rfl⟩)
            go_roundw
            case rel => exact ⟨b + 1, false, rfl, by omega, by omega, HIN.out, HS1.out.1, HS1.out.2.1, HS1.out.2.2.drew.drew.drew⟩
            case measure =>
              have e : atN (wr.setCell ⟨k, 1, none⟩ (.int .i64 ((b : Int) + 1))) k = b + 1 := by unfold atN; rw [HS1.out.1.c1]; show (((b + 1 : Nat) : Int)).toNat = b + 1; omega
              rw [hat]
              show zs.length - atN (wr.setCell ⟨k, 1, none⟩ (.int .i64 ((b : Int) + 1))) k < _
              rw [e]
              omega
          | false =>
            have hx1 : ¬ (zs.getD b 0 = 34 ∧ false = false) := fun h => z1 (HZ.out.symm.trans h.1)
            have hx2 : ¬ (zs.getD b 0 = 125 ∧ false = true) := fun h => by cases h.2
            have hx3 : ¬ (pfx zs b = true ∧ false = false) := fun h => by rw [hpf] at h; cases h.1
            have hr : nmR zs a (innA 0 zs (a + 1)) = (tk0 b, b, 183) := by rw [← hin, inn_bad false hbz (by rw [HZ.out]; exact hpn) hx1 hx2 hx3]; rfl
            have HF := hid (fun w3 w4 => HFb.out b (tk0 b, b, 183) wr.drew.drew.drew w3 w4 hr hT hB.drew.drew.drew)
            have HN := hid (fun u => isOfName_any z u)
            rw [hpn] at HN
            clear HFb HFc HX hr hS hT hB hin HSet HG HCUT
            go_wp2_with (go_at_call 176; refine Calls.mono H32.out ?_; rintro e w3 ⟨rfl, rfl⟩)
            go_region
            go_wp2_with fail
            refine wp_region_held_drew (S := (fun w' => w'.cell? ⟨k, 0, none⟩ = some (.string S) ∧ w'.cell? ⟨k, 1, none⟩ = some (.int .i64 (b : Int)))) (by kernel_rfl) kS (fun hSS => ?_)
            refine wpAnyH_take (i := 0) (oi := ({ dst := some 72, op := Op.move (Operand.tmp 0), type := 243, pos := _, after := _, guard := none } : Oper)) (v := ?_) rfl (by kernel_rfl) (by kernel_rfl) (by kernel_rfl) (fun _ _ _ h => h) (Or.inl ⟨by rfl, ?_⟩) hSS ?_
            rotate_left
            · intro w9 hSw
              (try dsimp only at hSw)
              (try go_split_ands)
              first | (go_simp; done) | (go_simp; with_reducible rfl)
            try simp only [Act.put, List.setIfInBounds_toArray, List.set_cons_zero, List.set_cons_succ]
            refine wpAnyH_take (i := 1) (oi := ({ dst := some 73, op := Op.nilCheck (Operand.tmp 72), type := 0, pos := _, after := _, guard := none } : Oper)) (v := ?_) rfl (by kernel_rfl) (by kernel_rfl) (by kernel_rfl) (fun _ _ _ h => h) (Or.inl ⟨by rfl, ?_⟩) hSS ?_
            rotate_left
            · intro w9 hSw
              (try dsimp only at hSw)
              (try go_split_ands)
              first | (go_simp; done) | (go_simp; with_reducible rfl)
            try simp only [Act.put, List.setIfInBounds_toArray, List.set_cons_zero, List.set_cons_succ]
            refine wpAnyH_take (i := 2) (oi := ({ dst := some 74, op := Op.fieldAddr 245 (Operand.tmp 73) 0, type := 0, pos := _, after := _, guard := none } : Oper)) (v := ?_) rfl (by kernel_rfl) (by kernel_rfl) (by kernel_rfl) (fun _ _ _ h => h) (Or.inl ⟨by rfl, ?_⟩) hSS ?_
            rotate_left
            · intro w9 hSw
              (try dsimp only at hSw)
              (try go_split_ands)
              first | (go_simp; done) | (go_simp; with_reducible rfl)
            try simp only [Act.put, List.setIfInBounds_toArray, List.set_cons_zero, List.set_cons_succ]
            refine wpAnyH_take (i := 3) (oi := ({ dst := some 75, op := Op.load 9 (Operand.tmp 74), type := 9, pos := _, after := _, guard := none } : Oper)) (v := ?_) rfl (by kernel_rfl) (by kernel_rfl) (by kernel_rfl) (fun _ _ _ h => h) (Or.inl ⟨by rfl, ?_⟩) hSS ?_
            rotate_left
            · intro w9 hSw
              (try dsimp only at hSw)
              (try go_split_ands)
              first | (go_simp; done) | (go_simp; with_reducible rfl)
            try simp only [Act.put, List.setIfInBounds_toArray, List.set_cons_zero, List.set_cons_succ]
            refine wpAnyH_take (i := 4) (oi := ({ dst := some 76, op := Op.move (Operand.tmp 0), type := 243, pos := _, after := _, guard := none } : Oper)) (v := ?_) rfl (by kernel_rfl) (by kernel_rfl) (by kernel_rfl) (fun _ _ _ h => h) (Or.inl ⟨by rfl, ?_⟩) hSS ?_
            rotate_left
            · intro w9 hSw
              (try dsimp only at hSw)
              (try go_split_ands)
              first | (go_simp; done) | (go_simp; with_reducible rfl)
            try simp only [Act.put, List.setIfInBounds_toArray, List.set_cons_zero, List.set_cons_succ]
            refine wpAnyH_take (i := 5) (oi := ({ dst := some 77, op := Op.nilCheck (Operand.tmp 76), type := 0, pos := _, after := _, guard := none } : Oper)) (v := ?_) rfl (by kernel_rfl) (by kernel_rfl) (by kernel_rfl) (fun _ _ _ h => h) (Or.inl ⟨by rfl, ?_⟩) hSS ?_
            rotate_left
            · intro w9 hSw
              (try dsimp only at hSw)
              (try go_split_ands)
              first | (go_simp; done) | (go_simp; with_reducible rfl)
            try simp only [Act.put, List.setIfInBounds_toArray, List.set_cons_zero, List.set_cons_succ]
            refine wpAnyH_take (i := 6) (oi := ({ dst := some 78, op := Op.fieldAddr 245 (Operand.tmp 77) 1, type := 0, pos := _, after := _, guard := none } : Oper)) (v := ?_) rfl (by kernel_rfl) (by kernel_rfl) (by kernel_rfl) (fun _ _ _ h => h) (Or.inl ⟨by rfl, ?_⟩) hSS ?_
            rotate_left
            · intro w9 hSw
              (try dsimp only at hSw)
              (try go_split_ands)
              first | (go_simp; done) | (go_simp; with_reducible rfl)
            try simp only [Act.put, List.setIfInBounds_toArray, List.set_cons_zero, List.set_cons_succ]
            refine wpAnyH_take (i := 7) (oi := ({ dst := some 79, op := Op.load 3 (Operand.tmp 78), type := 3, pos := _, after := _, guard := none } : Oper)) (v := ?_) rfl (by kernel_rfl) (by kernel_rfl) (by kernel_rfl) (fun _ _ _ h => h) (Or.inl ⟨by rfl, ?_⟩) hSS ?_
            rotate_left
            · intro w9 hSw
              (try dsimp only at hSw)
              (try go_split_ands)
              first | (go_simp; done) | (go_simp; with_reducible rfl)
            try simp only [Act.put, List.setIfInBounds_toArray, List.set_cons_zero, List.set_cons_succ]
            refine wpAnyH_take (i := 8) (oi := ({ dst := some 80, op := Op.slice 9 (Operand.tmp 75) (some (Operand.tmp 79)) none none, type := 9, pos := _, after := _, guard := none } : Oper)) (v := .string U) rfl (by kernel_rfl) (by kernel_rfl) (by kernel_rfl) (fun _ _ _ h => h) (Or.inl ⟨by rfl, ?_⟩) hSS ?_
            · intro w9 hSw
              (try dsimp only at hSw)
              (try go_split_ands)
              first | (go_simp; done) | (go_simp; simp [hce]; done)
            try simp only [Act.put, List.setIfInBounds_toArray, List.set_cons_zero, List.set_cons_succ]
            refine wpAnyH_ready (rs := [9]) (by kernel_rfl) (by simp) (AllReadyH.cons (o := ({ dst := some 81, op := Op.call { callee := Callee.value (Operand.func 177), args := #[Operand.tmp 80, Operand.const (Value.string { data := #[36, 123] })], argTypes := #[9, 9] }, type := 4, pos := _, after := _, guard := none } : Oper)) rfl (fun K9 hK9 => ?_) AllReadyH.nil)
            go_simp
            go_at_call 177
            refine Calls.mono HX2.out ?_
            rintro e w3 ⟨rfl, rfl⟩
            refine hK9.out _ _ kS (fun hSS => ?_)
            clear hK9 K9
            try simp only [Act.put, List.setIfInBounds_toArray, List.set_cons_zero, List.set_cons_succ]
            refine wpAnyH_take (i := 10) (oi := ({ dst := some 82, op := Op.move (Operand.tmp 81), type := 4, pos := _, after := _, guard := none } : Oper)) (v := ?_) rfl (by kernel_rfl) (by kernel_rfl) (by kernel_rfl) (fun _ _ _ h => h) (Or.inl ⟨by rfl, ?_⟩) hSS ?_
            rotate_left
            · intro w9 hSw
              (try dsimp only at hSw)
              (try go_split_ands)
              first | (go_simp; done) | (go_simp; with_reducible rfl)
            try simp only [Act.put, List.setIfInBounds_toArray, List.set_cons_zero, List.set_cons_succ]
            refine wpAnyH_take (i := 11) (oi := ({ dst := some 83, op := Op.move (Operand.tmp 5), type := 4, pos := _, after := _, guard := some (10, true) } : Oper)) (v := undef) rfl (by kernel_rfl) (by kernel_rfl) (by kernel_rfl) (fun _ _ _ h => h) (Or.inr ⟨by rfl, rfl⟩) hSS ?_
            try simp only [Act.put, List.setIfInBounds_toArray, List.set_cons_zero, List.set_cons_succ]
            refine wpAnyH_take (i := 12) (oi := ({ dst := some 84, op := Op.unOp UnOp.not 4 (Operand.tmp 83), type := 4, pos := _, after := _, guard := some (10, true) } : Oper)) (v := undef) rfl (by kernel_rfl) (by kernel_rfl) (by kernel_rfl) (fun _ _ _ h => h) (Or.inr ⟨by rfl, rfl⟩) hSS ?_
            try simp only [Act.put, List.setIfInBounds_toArray, List.set_cons_zero, List.set_cons_succ]
            refine wpAnyH_take (i := 13) (oi := ({ dst := some 85, op := Op.pick (Operand.tmp 82) (Operand.tmp 84) (Operand.const (Value.bool false)), type := 4, pos := _, after := _, guard := none } : Oper)) (v := ?_) rfl (by kernel_rfl) (by kernel_rfl) (by kernel_rfl) (fun _ _ _ h => h) (Or.inl ⟨by rfl, ?_⟩) hSS ?_
            rotate_left
            · intro w9 hSw
              (try dsimp only at hSw)
              (try go_split_ands)
              first | (go_simp; done) | (go_simp; with_reducible rfl)
            try simp only [Act.put, List.setIfInBounds_toArray, List.set_cons_zero, List.set_cons_succ]
            refine wpAnyH_take (i := 14) (oi := ({ dst := some 71, op := Op.assign (Operand.tmp 85), type := 4, pos := _, after := _, guard := none } : Oper)) (v := ?_) rfl (by kernel_rfl) (by kernel_rfl) (by kernel_rfl) (fun _ _ _ h => h) (Or.inl ⟨by rfl, ?_⟩) hSS ?_
            rotate_left
            · intro w9 hSw
              (try dsimp only at hSw)
              (try go_split_ands)
              first | (go_simp; done) | (go_simp; with_reducible rfl)
            try simp only [Act.put, List.setIfInBounds_toArray, List.set_cons_zero, List.set_cons_succ]
            refine wpAnyH_done (by kernel_rfl) ?_ _
            go_wp2_with (go_at_call 178; refine Calls.mono (HN.out _) ?_; rintro e w3 ⟨rfl, rfl⟩)
            refine Calls.mono (HRf.out _ _) ?_
            rintro e w5 ⟨rfl, h5⟩
            have HFF := hid (HF.out w5 _ h5 rfl)
            clear h5
            have t0 := HFF.out.1.cell 0 _ rfl
            have t1 := HFF.out.1.cell 1 _ rfl
            have t2 := HFF.out.1.cell 2 _ rfl
            have t3 := HFF.out.1.cell 3 _ rfl
            have tf := HFF.out.1.fz
            go_wp2_with fail
            exact bodyPost_ret (results_tok rfl _ _ R 0 sE 0 b (.int .i64 183) rfl rfl HFF.out.2.1) rfl HFF.out.2.2
      | true =>
        by_cases z2 : z = 125
        · subst z2
          have HS1 := hid (HSet.out (b + 1) (.inl rfl))
          rw [show ((b + 1 : Nat) : Int) = (b : Int) + 1 by omega] at HS1
          have HIN : Hid (innA 0 zs (b + 1) = innA 0 zs (a + 1)) := (inn_back hbz HZ.out).symm.trans hin
          clear HFb HFc HX HX2 hce hS hT hB hin HSet HRf HG HCUT
          go_wp2_with (go_at_call 176; refine Calls.mono H32.out ?_; rintro e w3 ⟨rfl, rfl⟩)
          go_region
          go_wp2
          go_roundw
          case rel => exact ⟨b + 1, false, rfl, by omega, by omega, HIN.out, HS1.out.1, HS1.out.2.1, HS1.out.2.2.drew.drew⟩
          case measure =>
            have e : atN (wr.setCell ⟨k, 1, none⟩ (.int .i64 ((b : Int) + 1))) k = b + 1 := by unfold atN; rw [HS1.out.1.c1]; show (((b + 1 : Nat) : Int)).toNat = b + 1; omega
            rw [hat]
            show zs.length - atN (wr.setCell ⟨k, 1, none⟩ (.int .i64 ((b : Int) + 1))) k < _
            rw [e]
            omega
        by_cases z1 : z = 34
        · have hpf : pfx zs b = false := by unfold pfx; rw [HZ.out, z1]; rfl
          rw [hpf] at HX2
          have hpn : isPn z = false := by rw [z1]; rfl
          have hx1 : ¬ (zs.getD b 0 = 34 ∧ true = false) := fun h => by cases h.2
          have hx2 : ¬ (zs.getD b 0 = 125 ∧ true = true) := fun h => z2 (HZ.out.symm.trans h.1)
          have hx3 : ¬ (pfx zs b = true ∧ true = false) := fun h => by cases h.2
          subst z1
          have hr : nmR zs a (innA 0 zs (a + 1)) = (tk0 b, b, 183) := by rw [← hin, inn_bad true hbz (by rw [HZ.out]; exact hpn) hx1 hx2 hx3]; rfl
          have HF := hid (fun w3 w4 => HFb.out b (tk0 b, b, 183) wr.drew.drew.drew w3 w4 hr hT hB.drew.drew.drew)
          have HN := hid (fun u => isOfName_any 34 u)
          rw [hpn] at HN
          clear HFb HFc HX hr hS hT hB hin HSet HG HCUT
          go_wp2_with (go_at_call 176; refine Calls.mono H32.out ?_; rintro e w3 ⟨rfl, rfl⟩)
          go_region
          go_wp2_with fail
          refine wp_region_held_drew (S := (fun w' => w'.cell? ⟨k, 0, none⟩ = some (.string S) ∧ w'.cell? ⟨k, 1, none⟩ = some (.int .i64 (b : Int)))) (by kernel_rfl) kS (fun hSS => ?_)
          refine wpAnyH_take (i := 0) (oi := ({ dst := some 72, op := Op.move (Operand.tmp 0), type := 243, pos := _, after := _, guard := none } : Oper)) (v := ?_) rfl (by kernel_rfl) (by kernel_rfl) (by kernel_rfl) (fun _ _ _ h => h) (Or.inl ⟨by rfl, ?_⟩) hSS ?_
          rotate_left
          · intro w9 hSw
            (try dsimp only at hSw)
            (try go_split_ands)
            first | (go_simp; done) | (go_simp; with_reducible rfl)
          try simp only [Act.put, List.setIfInBounds_toArray, List.set_cons_zero, List.set_cons_succ]
          refine wpAnyH_take (i := 1) (oi := ({ dst := some 73, op := Op.nilCheck (Operand.tmp 72), type := 0, pos := _, after := _, guard := none } : Oper)) (v := ?_) rfl (by kernel_rfl) (by kernel_rfl) (by kernel_rfl) (fun _ _ _ h => h) (Or.inl ⟨by rfl, ?_⟩) hSS ?_
          rotate_left
          · intro w9 hSw
            (try dsimp only at hSw)
            (try go_split_ands)
            first | (go_simp; done) | (go_simp; with_reducible rfl)
          try simp only [Act.put, List.setIfInBounds_toArray, List.set_cons_zero, List.set_cons_succ]
          refine wpAnyH_take (i := 2) (oi := ({ dst := some 74, op := Op.fieldAddr 245 (Operand.tmp 73) 0, type := 0, pos := _, after := _, guard := none } : Oper)) (v := ?_) rfl (by kernel_rfl) (by kernel_rfl) (by kernel_rfl) (fun _ _ _ h => h) (Or.inl ⟨by rfl, ?_⟩) hSS ?_
          rotate_left
          · intro w9 hSw
            (try dsimp only at hSw)
            (try go_split_ands)
            first | (go_simp; done) | (go_simp; with_reducible rfl)
          try simp only [Act.put, List.setIfInBounds_toArray, List.set_cons_zero, List.set_cons_succ]
          refine wpAnyH_take (i := 3) (oi := ({ dst := some 75, op := Op.load 9 (Operand.tmp 74), type := 9, pos := _, after := _, guard := none } : Oper)) (v := ?_) rfl (by kernel_rfl) (by kernel_rfl) (by kernel_rfl) (fun _ _ _ h => h) (Or.inl ⟨by rfl, ?_⟩) hSS ?_
          rotate_left
          · intro w9 hSw
            (try dsimp only at hSw)
            (try go_split_ands)
            first | (go_simp; done) | (go_simp; with_reducible rfl)
          try simp only [Act.put, List.setIfInBounds_toArray, List.set_cons_zero, List.set_cons_succ]
          refine wpAnyH_take (i := 4) (oi := ({ dst := some 76, op := Op.move (Operand.tmp 0), type := 243, pos := _, after := _, guard := none } : Oper)) (v := ?_) rfl (by kernel_rfl) (by kernel_rfl) (by kernel_rfl) (fun _ _ _ h => h) (Or.inl ⟨by rfl, ?_⟩) hSS ?_
          rotate_left
          · intro w9 hSw
            (try dsimp only at hSw)
            (try go_split_ands)
            first | (go_simp; done) | (go_simp; with_reducible rfl)
          try simp only [Act.put, List.setIfInBounds_toArray, List.set_cons_zero, List.set_cons_succ]
          refine wpAnyH_take (i := 5) (oi := ({ dst := some 77, op := Op.nilCheck (Operand.tmp 76), type := 0, pos := _, after := _, guard := none } : Oper)) (v := ?_) rfl (by kernel_rfl) (by kernel_rfl) (by kernel_rfl) (fun _ _ _ h => h) (Or.inl ⟨by rfl, ?_⟩) hSS ?_
          rotate_left
          · intro w9 hSw
            (try dsimp only at hSw)
            (try go_split_ands)
            first | (go_simp; done) | (go_simp; with_reducible rfl)
          try simp only [Act.put, List.setIfInBounds_toArray, List.set_cons_zero, List.set_cons_succ]
          refine wpAnyH_take (i := 6) (oi := ({ dst := some 78, op := Op.fieldAddr 245 (Operand.tmp 77) 1, type := 0, pos := _, after := _, guard := none } : Oper)) (v := ?_) rfl (by kernel_rfl) (by kernel_rfl) (by kernel_rfl) (fun _ _ _ h => h) (Or.inl ⟨by rfl, ?_⟩) hSS ?_
          rotate_left
          · intro w9 hSw
            (try dsimp only at hSw)
            (try go_split_ands)
            first | (go_simp; done) | (go_simp; with_reducible rfl)
          try simp only [Act.put, List.setIfInBounds_toArray, List.set_cons_zero, List.set_cons_succ]
          refine wpAnyH_take (i := 7) (oi := ({ dst := some 79, op := Op.load 3 (Operand.tmp 78), type := 3, pos := _, after := _, guard := none } : Oper)) (v := ?_) rfl (by kernel_rfl) (by kernel_rfl) (by kernel_rfl) (fun _ _ _ h => h) (Or.inl ⟨by rfl, ?_⟩) hSS ?_
          rotate_left
          · intro w9 hSw
            (try dsimp only at hSw)
            (try go_split_ands)
            first | (go_simp; done) | (go_simp; with_reducible rfl)
          try simp only [Act.put, List.setIfInBounds_toArray, List.set_cons_zero, List.set_cons_succ]
          refine wpAnyH_take (i := 8) (oi := ({ dst := some 80, op := Op.slice 9 (Operand.tmp 75) (some (Operand.tmp 79)) none none, type := 9, pos := _, after := _, guard := none } : Oper)) (v := .string U) rfl (by kernel_rfl) (by kernel_rfl) (by kernel_rfl) (fun _ _ _ h => h) (Or.inl ⟨by rfl, ?_⟩) hSS ?_
          · intro w9 hSw
            (try dsimp only at hSw)
            (try go_split_ands)
            first | (go_simp; done) | (go_simp; simp [hce]; done)
          try simp only [Act.put, List.setIfInBounds_toArray, List.set_cons_zero, List.set_cons_succ]
          refine wpAnyH_ready (rs := [9]) (by kernel_rfl) (by simp) (AllReadyH.cons (o := ({ dst := some 81, op := Op.call { callee := Callee.value (Operand.func 177), args := #[Operand.tmp 80, Operand.const (Value.string { data := #[36, 123] })], argTypes := #[9, 9] }, type := 4, pos := _, after := _, guard := none } : Oper)) rfl (fun K9 hK9 => ?_) AllReadyH.nil)
          go_simp
          go_at_call 177
          refine Calls.mono HX2.out ?_
          rintro e w3 ⟨rfl, rfl⟩
          refine hK9.out _ _ kS (fun hSS => ?_)
          clear hK9 K9
          try simp only [Act.put, List.setIfInBounds_toArray, List.set_cons_zero, List.set_cons_succ]
          refine wpAnyH_take (i := 10) (oi := ({ dst := some 82, op := Op.move (Operand.tmp 81), type := 4, pos := _, after := _, guard := none } : Oper)) (v := ?_) rfl (by kernel_rfl) (by kernel_rfl) (by kernel_rfl) (fun _ _ _ h => h) (Or.inl ⟨by rfl, ?_⟩) hSS ?_
          rotate_left
          · intro w9 hSw
            (try dsimp only at hSw)
            (try go_split_ands)
            first | (go_simp; done) | (go_simp; with_reducible rfl)
          try simp only [Act.put, List.setIfInBounds_toArray, List.set_cons_zero, List.set_cons_succ]
          refine wpAnyH_take (i := 11) (oi := ({ dst := some 83, op := Op.move (Operand.tmp 5), type := 4, pos := _, after := _, guard := some (10, true) } : Oper)) (v := undef) rfl (by kernel_rfl) (by kernel_rfl) (by kernel_rfl) (fun _ _ _ h => h) (Or.inr ⟨by rfl, rfl⟩) hSS ?_
          try simp only [Act.put, List.setIfInBounds_toArray, List.set_cons_zero, List.set_cons_succ]
          refine wpAnyH_take (i := 12) (oi := ({ dst := some 84, op := Op.unOp UnOp.not 4 (Operand.tmp 83), type := 4, pos := _, after := _, guard := some (10, true) } : Oper)) (v := undef) rfl (by kernel_rfl) (by kernel_rfl) (by kernel_rfl) (fun _ _ _ h => h) (Or.inr ⟨by rfl, rfl⟩) hSS ?_
          try simp only [Act.put, List.setIfInBounds_toArray, List.set_cons_zero, List.set_cons_succ]
          refine wpAnyH_take (i := 13) (oi := ({ dst := some 85, op := Op.pick (Operand.tmp 82) (Operand.tmp 84) (Operand.const (Value.bool false)), type := 4, pos := _, after := _, guard := none } : Oper)) (v := ?_) rfl (by kernel_rfl) (by kernel_rfl) (by kernel_rfl) (fun _ _ _ h => h) (Or.inl ⟨by rfl, ?_⟩) hSS ?_
          rotate_left
          · intro w9 hSw
            (try dsimp only at hSw)
            (try go_split_ands)
            first | (go_simp; done) | (go_simp; with_reducible rfl)
          try simp only [Act.put, List.setIfInBounds_toArray, List.set_cons_zero, List.set_cons_succ]
          refine wpAnyH_take (i := 14) (oi := ({ dst := some 71, op := Op.assign (Operand.tmp 85), type := 4, pos := _, after := _, guard := none } : Oper)) (v := ?_) rfl (by kernel_rfl) (by kernel_rfl) (by kernel_rfl) (fun _ _ _ h => h) (Or.inl ⟨by rfl, ?_⟩) hSS ?_
          rotate_left
          · intro w9 hSw
            (try dsimp only at hSw)
            (try go_split_ands)
            first | (go_simp; done) | (go_simp; with_reducible rfl)
          try simp only [Act.put, List.setIfInBounds_toArray, List.set_cons_zero, List.set_cons_succ]
          refine wpAnyH_done (by kernel_rfl) ?_ _
          go_wp2_with (go_at_call 178; refine Calls.mono (HN.out _) ?_; rintro e w3 ⟨rfl, rfl⟩)
          refine Calls.mono (HRf.out _ _) ?_
          rintro e w5 ⟨rfl, h5⟩
          have HFF := hid (HF.out w5 _ h5 rfl)
          clear h5
          have t0 := HFF.out.1.cell 0 _ rfl
          have t1 := HFF.out.1.cell 1 _ rfl
          have t2 := HFF.out.1.cell 2 _ rfl
          have t3 := HFF.out.1.cell 3 _ rfl
          have tf := HFF.out.1.fz
          go_wp2_with fail
          exact bodyPost_ret (results_tok rfl _ _ R 0 sE 0 b (.int .i64 183) rfl rfl HFF.out.2.1) rfl HFF.out.2.2
        cases hpf : pfx zs b with
        | true =>
          rw [hpf] at HX2
          have hpn : isPn z = false := by unfold pfx at hpf; simp only [Bool.and_eq_true, decide_eq_true_eq] at hpf; rw [← HZ.out, hpf.1]; rfl
          have hx1 : ¬ (zs.getD b 0 = 34 ∧ true = false) := fun h => by cases h.2
          have hx2 : ¬ (zs.getD b 0 = 125 ∧ true = true) := fun h => z2 (HZ.out.symm.trans h.1)
          have hx3 : ¬ (pfx zs b = true ∧ true = false) := fun h => by cases h.2
          have hr : nmR zs a (innA 0 zs (a + 1)) = (tk0 b, b, 183) := by rw [← hin, inn_bad true hbz (by rw [HZ.out]; exact hpn) hx1 hx2 hx3]; rfl
          have HF := hid (fun w3 w4 => HFb.out b (tk0 b, b, 183) wr.drew.drew.drew w3 w4 hr hT hB.drew.drew.drew)
          have HN := hid (fun u => isOfName_any z u)
          rw [hpn] at HN
          clear HFb HFc HX hr hS hT hB hin HSet HG HCUT
          go_wp2_with (go_at_call 176; refine Calls.mono H32.out ?_; rintro e w3 ⟨rfl, rfl⟩)
          go_region
          go_wp2_with fail
          refine wp_region_held_drew (S := (fun w' => w'.cell? ⟨k, 0, none⟩ = some (.string S) ∧ w'.cell? ⟨k, 1, none⟩ = some (.int .i64 (b : Int)))) (by kernel_rfl) kS (fun hSS => ?_)
          refine wpAnyH_take (i := 0) (oi := ({ dst := some 72, op := Op.move (Operand.tmp 0), type := 243, pos := _, after := _, guard := none } : Oper)) (v := ?_) rfl (by kernel_rfl) (by kernel_rfl) (by kernel_rfl) (fun _ _ _ h => h) (Or.inl ⟨by rfl, ?_⟩) hSS ?_
          rotate_left
          · intro w9 hSw
            (try dsimp only at hSw)
            (try go_split_ands)
            first | (go_simp; done) | (go_simp; with_reducible rfl)
          try simp only [Act.put, List.setIfInBounds_toArray, List.set_cons_zero, List.set_cons_succ]
          refine wpAnyH_take (i := 1) (oi := ({ dst := some 73, op := Op.nilCheck (Operand.tmp 72), type := 0, pos := _, after := _, guard := none } : Oper)) (v := ?_) rfl (by kernel_rfl) (by kernel_rfl) (by kernel_rfl) (fun _ _ _ h => h) (Or.inl ⟨by rfl, ?_⟩) hSS ?_
          rotate_left
          · intro w9 hSw
            (try dsimp only at hSw)
            (try go_split_ands)
            first | (go_simp; done) | (go_simp; with_reducible rfl)
          try simp only [Act.put, List.setIfInBounds_toArray, List.set_cons_zero, List.set_cons_succ]
          refine wpAnyH_take (i := 2) (oi := ({ dst := some 74, op := Op.fieldAddr 245 (Operand.tmp 73) 0, type := 0, pos := _, after := _, guard := none } : Oper)) (v := ?_) rfl (by kernel_rfl) (by kernel_rfl) (by kernel_rfl) (fun _ _ _ h => h) (Or.inl ⟨by rfl, ?_⟩) hSS ?_
          rotate_left
          · intro w9 hSw
            (try dsimp only at hSw)
            (try go_split_ands)
            first | (go_simp; done) | (go_simp; with_reducible rfl)
          try simp only [Act.put, List.setIfInBounds_toArray, List.set_cons_zero, List.set_cons_succ]
          refine wpAnyH_take (i := 3) (oi := ({ dst := some 75, op := Op.load 9 (Operand.tmp 74), type := 9, pos := _, after := _, guard := none } : Oper)) (v := ?_) rfl (by kernel_rfl) (by kernel_rfl) (by kernel_rfl) (fun _ _ _ h => h) (Or.inl ⟨by rfl, ?_⟩) hSS ?_
          rotate_left
          · intro w9 hSw
            (try dsimp only at hSw)
            (try go_split_ands)
            first | (go_simp; done) | (go_simp; with_reducible rfl)
          try simp only [Act.put, List.setIfInBounds_toArray, List.set_cons_zero, List.set_cons_succ]
          refine wpAnyH_take (i := 4) (oi := ({ dst := some 76, op := Op.move (Operand.tmp 0), type := 243, pos := _, after := _, guard := none } : Oper)) (v := ?_) rfl (by kernel_rfl) (by kernel_rfl) (by kernel_rfl) (fun _ _ _ h => h) (Or.inl ⟨by rfl, ?_⟩) hSS ?_
          rotate_left
          · intro w9 hSw
            (try dsimp only at hSw)
            (try go_split_ands)
            first | (go_simp; done) | (go_simp; with_reducible rfl)
          try simp only [Act.put, List.setIfInBounds_toArray, List.set_cons_zero, List.set_cons_succ]
          refine wpAnyH_take (i := 5) (oi := ({ dst := some 77, op := Op.nilCheck (Operand.tmp 76), type := 0, pos := _, after := _, guard := none } : Oper)) (v := ?_) rfl (by kernel_rfl) (by kernel_rfl) (by kernel_rfl) (fun _ _ _ h => h) (Or.inl ⟨by rfl, ?_⟩) hSS ?_
          rotate_left
          · intro w9 hSw
            (try dsimp only at hSw)
            (try go_split_ands)
            first | (go_simp; done) | (go_simp; with_reducible rfl)
          try simp only [Act.put, List.setIfInBounds_toArray, List.set_cons_zero, List.set_cons_succ]
          refine wpAnyH_take (i := 6) (oi := ({ dst := some 78, op := Op.fieldAddr 245 (Operand.tmp 77) 1, type := 0, pos := _, after := _, guard := none } : Oper)) (v := ?_) rfl (by kernel_rfl) (by kernel_rfl) (by kernel_rfl) (fun _ _ _ h => h) (Or.inl ⟨by rfl, ?_⟩) hSS ?_
          rotate_left
          · intro w9 hSw
            (try dsimp only at hSw)
            (try go_split_ands)
            first | (go_simp; done) | (go_simp; with_reducible rfl)
          try simp only [Act.put, List.setIfInBounds_toArray, List.set_cons_zero, List.set_cons_succ]
          refine wpAnyH_take (i := 7) (oi := ({ dst := some 79, op := Op.load 3 (Operand.tmp 78), type := 3, pos := _, after := _, guard := none } : Oper)) (v := ?_) rfl (by kernel_rfl) (by kernel_rfl) (by kernel_rfl) (fun _ _ _ h => h) (Or.inl ⟨by rfl, ?_⟩) hSS ?_
          rotate_left
          · intro w9 hSw
            (try dsimp only at hSw)
            (try go_split_ands)
            first | (go_simp; done) | (go_simp; with_reducible rfl)
          try simp only [Act.put, List.setIfInBounds_toArray, List.set_cons_zero, List.set_cons_succ]
          refine wpAnyH_take (i := 8) (oi := ({ dst := some 80, op := Op.slice 9 (Operand.tmp 75) (some (Operand.tmp 79)) none none, type := 9, pos := _, after := _, guard := none } : Oper)) (v := .string U) rfl (by kernel_rfl) (by kernel_rfl) (by kernel_rfl) (fun _ _ _ h => h) (Or.inl ⟨by rfl, ?_⟩) hSS ?_
          · intro w9 hSw
            (try dsimp only at hSw)
            (try go_split_ands)
            first | (go_simp; done) | (go_simp; simp [hce]; done)
          try simp only [Act.put, List.setIfInBounds_toArray, List.set_cons_zero, List.set_cons_succ]
          refine wpAnyH_ready (rs := [9]) (by kernel_rfl) (by simp) (AllReadyH.cons (o := ({ dst := some 81, op := Op.call { callee := Callee.value (Operand.func 177), args := #[Operand.tmp 80, Operand.const (Value.string { data := #[36, 123] })], argTypes := #[9, 9] }, type := 4, pos := _, after := _, guard := none } : Oper)) rfl (fun K9 hK9 => ?_) AllReadyH.nil)
          go_simp
          go_at_call 177
          refine Calls.mono HX2.out ?_
          rintro e w3 ⟨rfl, rfl⟩
          refine hK9.out _ _ kS (fun hSS => ?_)
          clear hK9 K9
          try simp only [Act.put, List.setIfInBounds_toArray, List.set_cons_zero, List.set_cons_succ]
          refine wpAnyH_take (i := 10) (oi := ({ dst := some 82, op := Op.move (Operand.tmp 81), type := 4, pos := _, after := _, guard := none } : Oper)) (v := ?_) rfl (by kernel_rfl) (by kernel_rfl) (by kernel_rfl) (fun _ _ _ h => h) (Or.inl ⟨by rfl, ?_⟩) hSS ?_
          rotate_left
          · intro w9 hSw
            (try dsimp only at hSw)
            (try go_split_ands)
            first | (go_simp; done) | (go_simp; with_reducible rfl)
          try simp only [Act.put, List.setIfInBounds_toArray, List.set_cons_zero, List.set_cons_succ]
          refine wpAnyH_take (i := 11) (oi := ({ dst := some 83, op := Op.move (Operand.tmp 5), type := 4, pos := _, after := _, guard := some (10, true) } : Oper)) (v := ?_) rfl (by kernel_rfl) (by kernel_rfl) (by kernel_rfl) (fun _ _ _ h => h) (Or.inl ⟨by rfl, ?_⟩) hSS ?_
          rotate_left
          · intro w9 hSw
            (try dsimp only at hSw)
            (try go_split_ands)
            first | (go_simp; done) | (go_simp; with_reducible rfl)
          try simp only [Act.put, List.setIfInBounds_toArray, List.set_cons_zero, List.set_cons_succ]
          refine wpAnyH_take (i := 12) (oi := ({ dst := some 84, op := Op.unOp UnOp.not 4 (Operand.tmp 83), type := 4, pos := _, after := _, guard := some (10, true) } : Oper)) (v := ?_) rfl (by kernel_rfl) (by kernel_rfl) (by kernel_rfl) (fun _ _ _ h => h) (Or.inl ⟨by rfl, ?_⟩) hSS ?_
          rotate_left
          · intro w9 hSw
            (try dsimp only at hSw)
            (try go_split_ands)
            first | (go_simp; done) | (go_simp; with_reducible rfl)
          try simp only [Act.put, List.setIfInBounds_toArray, List.set_cons_zero, List.set_cons_succ]
          refine wpAnyH_take (i := 13) (oi := ({ dst := some 85, op := Op.pick (Operand.tmp 82) (Operand.tmp 84) (Operand.const (Value.bool false)), type := 4, pos := _, after := _, guard := none } : Oper)) (v := ?_) rfl (by kernel_rfl) (by kernel_rfl) (by kernel_rfl) (fun _ _ _ h => h) (Or.inl ⟨by rfl, ?_⟩) hSS ?_
          rotate_left
          · intro w9 hSw
            (try dsimp only at hSw)
            (try go_split_ands)
            first | (go_simp; done) | (go_simp; with_reducible rfl)
          try simp only [Act.put, List.setIfInBounds_toArray, List.set_cons_zero, List.set_cons_succ]
          refine wpAnyH_take (i := 14) (oi := ({ dst := some 71, op := Op.assign (Operand.tmp 85), type := 4, pos := _, after := _, guard := none } : Oper)) (v := ?_) rfl (by kernel_rfl) (by kernel_rfl) (by kernel_rfl) (fun _ _ _ h => h) (Or.inl ⟨by rfl, ?_⟩) hSS ?_
          rotate_left
          · intro w9 hSw
            (try dsimp only at hSw)
            (try go_split_ands)
            first | (go_simp; done) | (go_simp; with_reducible rfl)
          try simp only [Act.put, List.setIfInBounds_toArray, List.set_cons_zero, List.set_cons_succ]
          refine wpAnyH_done (by kernel_rfl) ?_ _
          go_wp2_with (go_at_call 178; refine Calls.mono (HN.out _) ?_; rintro e w3 ⟨rfl, rfl⟩)
          refine Calls.mono (HRf.out _ _) ?_
          rintro e w5 ⟨rfl, h5⟩
          have HFF := hid (HF.out w5 _ h5 rfl)
          clear h5
          have t0 := HFF.out.1.cell 0 _ rfl
          have t1 := HFF.out.1.cell 1 _ rfl
          have t2 := HFF.out.1.cell 2 _ rfl
          have t3 := HFF.out.1.cell 3 _ rfl
          have tf := HFF.out.1.fz
          go_wp2_with fail
          exact bodyPost_ret (results_tok rfl _ _ R 0 sE 0 b (.int .i64 183) rfl rfl HFF.out.2.1) rfl HFF.out.2.2
        | false =>
          rw [hpf] at HX2
          cases hpn : isPn z with
          | true =>
            have HS1 := hid (HSet.out (b + 1) (.inl rfl))
            rw [show ((b + 1 : Nat) : Int) = (b : Int) + 1 by omega] at HS1
            have HIN : Hid (innA (oN true) zs (b + 1) = innA 0 zs (a + 1)) := (inn_plain true hbz (by rw [HZ.out]; exact hpn)).symm.trans hin
            have HN := hid (fun u => isOfName_any z u)
            rw [hpn] at HN
            clear HFb HFc HX hS hT hB hin HSet HRf HG HCUT
            go_wp2_with (go_at_call 176; refine Calls.mono H32.out ?_; rintro e w3 ⟨rfl, rfl⟩)
            go_region
            go_wp2_with fail
            refine wp_region_held_drew (S := (fun w' => w'.cell? ⟨k, 0, none⟩ = some (.string S) ∧ w'.cell? ⟨k, 1, none⟩ = some (.int .i64 (b : Int)))) (by kernel_rfl) kS (fun hSS => ?_)
            refine wpAnyH_take (i := 0) (oi := ({ dst := some 72, op := Op.move (Operand.tmp 0), type := 243, pos := _, after := _, guard := none } : Oper)) (v := ?_) rfl (by kernel_rfl) (by kernel_rfl) (by kernel_rfl) (fun _ _ _ h => h) (Or.inl ⟨by rfl, ?_⟩) hSS ?_
            rotate_left
            · intro w9 hSw
              (try dsimp only at hSw)
              (try go_split_ands)
              first | (go_simp; done) | (go_simp; with_reducible rfl)
            try simp only [Act.put, List.setIfInBounds_toArray, List.set_cons_zero, List.set_cons_succ]
            refine wpAnyH_take (i := 1) (oi := ({ dst := some 73, op := Op.nilCheck (Operand.tmp 72), type := 0, pos := _, after := _, guard := none } : Oper)) (v := ?_) rfl (by kernel_rfl) (by kernel_rfl) (by kernel_rfl) (fun _ _ _ h => h) (Or.inl ⟨by rfl, ?_⟩) hSS ?_
            rotate_left
            · intro w9 hSw
              (try dsimp only at hSw)
              (try go_split_ands)
              first | (go_simp; done) | (go_simp; with_reducible rfl)
            try simp only [Act.put, List.setIfInBounds_toArray, List.set_cons_zero, List.set_cons_succ]
            refine wpAnyH_take (i := 2) (oi := ({ dst := some 74, op := Op.fieldAddr 245 (Operand.tmp 73) 0, type := 0, pos := _, after := _, guard := none } : Oper)) (v := ?_) rfl (by kernel_rfl) (by kernel_rfl) (by kernel_rfl) (fun _ _ _ h => h) (Or.inl ⟨by rfl, ?_⟩) hSS ?_
            rotate_left
            · intro w9 hSw
              (try dsimp only at hSw)
              (try go_split_ands)
              first | (go_simp; done) | (go_simp; with_reducible rfl)
            try simp only [Act.put, List.setIfInBounds_toArray, List.set_cons_zero, List.set_cons_succ]
            refine wpAnyH_take (i := 3) (oi := ({ dst := some 75, op := Op.load 9 (Operand.tmp 74), type := 9, pos := _, after := _, guard := none } : Oper)) (v := ?_) rfl (by kernel_rfl) (by kernel_rfl) (by kernel_rfl) (fun _ _ _ h => h) (Or.inl ⟨by rfl, ?_⟩) hSS ?_
            rotate_left
            · intro w9 hSw
              (try dsimp only at hSw)
              (try go_split_ands)
              first | (go_simp; done) | (go_simp; with_reducible rfl)
            try simp only [Act.put, List.setIfInBounds_toArray, List.set_cons_zero, List.set_cons_succ]
            refine wpAnyH_take (i := 4) (oi := ({ dst := some 76, op := Op.move (Operand.tmp 0), type := 243, pos := _, after := _, guard := none } : Oper)) (v := ?_) rfl (by kernel_rfl) (by kernel_rfl) (by kernel_rfl) (fun _ _ _ h => h) (Or.inl ⟨by rfl, ?_⟩) hSS ?_
            rotate_left
            · intro w9 hSw
              (try dsimp only at hSw)
              (try go_split_ands)
              first | (go_simp; done) | (go_simp; with_reducible rfl)
            try simp only [Act.put, List.setIfInBounds_toArray, List.set_cons_zero, List.set_cons_succ]
            refine wpAnyH_take (i := 5) (oi := ({ dst := some 77, op := Op.nilCheck (Operand.tmp 76), type := 0, pos := _, after := _, guard := none } : Oper)) (v := ?_) rfl (by kernel_rfl) (by kernel_rfl) (by kernel_rfl) (fun _ _ _ h => h) (Or.inl ⟨by rfl, ?_⟩) hSS ?_
            rotate_left
            · intro w9 hSw
              (try dsimp only at hSw)
              (try go_split_ands)
              first | (go_simp; done) | (go_simp; with_reducible rfl)
            try simp only [Act.put, List.setIfInBounds_toArray, List.set_cons_zero, List.set_cons_succ]
            refine wpAnyH_take (i := 6) (oi := ({ dst := some 78, op := Op.fieldAddr 245 (Operand.tmp 77) 1, type := 0, pos := _, after := _, guard := none } : Oper)) (v := ?_) rfl (by kernel_rfl) (by kernel_rfl) (by kernel_rfl) (fun _ _ _ h => h) (Or.inl ⟨by rfl, ?_⟩) hSS ?_
            rotate_left
            · intro w9 hSw
              (try dsimp only at hSw)
              (try go_split_ands)
              first | (go_simp; done) | (go_simp; with_reducible rfl)
            try simp only [Act.put, List.setIfInBounds_toArray, List.set_cons_zero, List.set_cons_succ]
            refine wpAnyH_take (i := 7) (oi := ({ dst := some 79, op := Op.load 3 (Operand.tmp 78), type := 3, pos := _, after := _, guard := none } : Oper)) (v := ?_) rfl (by kernel_rfl) (by kernel_rfl) (by kernel_rfl) (fun _ _ _ h => h) (Or.inl ⟨by rfl, ?_⟩) hSS ?_
            rotate_left
            · intro w9 hSw
              (try dsimp only at hSw)
              (try go_split_ands)
              first | (go_simp; done) | (go_simp; with_reducible rfl)
            try simp only [Act.put, List.setIfInBounds_toArray, List.set_cons_zero, List.set_cons_succ]
            refine wpAnyH_take (i := 8) (oi := ({ dst := some 80, op := Op.slice 9 (Operand.tmp 75) (some (Operand.tmp 79)) none none, type := 9, pos := _, after := _, guard := none } : Oper)) (v := .string U) rfl (by kernel_rfl) (by kernel_rfl) (by kernel_rfl) (fun _ _ _ h => h) (Or.inl ⟨by rfl, ?_⟩) hSS ?_
            · intro w9 hSw
              (try dsimp only at hSw)
              (try go_split_ands)
              first | (go_simp; done) | (go_simp; simp [hce]; done)
            try simp only [Act.put, List.setIfInBounds_toArray, List.set_cons_zero, List.set_cons_succ]
            refine wpAnyH_ready (rs := [9]) (by kernel_rfl) (by simp) (AllReadyH.cons (o := ({ dst := some 81, op := Op.call { callee := Callee.value (Operand.func 177), args := #[Operand.tmp 80, Operand.const (Value.string { data := #[36, 123] })], argTypes := #[9, 9] }, type := 4, pos := _, after := _, guard := none } : Oper)) rfl (fun K9 hK9 => ?_) AllReadyH.nil)
            go_simp
            go_at_call 177
            refine Calls.mono HX2.out ?_
            rintro e w3 ⟨rfl, rfl⟩
            refine hK9.out _ _ kS (fun hSS => ?_)
            clear hK9 K9
            try simp only [Act.put, List.setIfInBounds_toArray, List.set_cons_zero, List.set_cons_succ]
            refine wpAnyH_take (i := 10) (oi := ({ dst := some 82, op := Op.move (Operand.tmp 81), type := 4, pos := _, after := _, guard := none } : Oper)) (v := ?_) rfl (by kernel_rfl) (by kernel_rfl) (by kernel_rfl) (fun _ _ _ h => h) (Or.inl ⟨by rfl, ?_⟩) hSS ?_
            rotate_left
            · intro w9 hSw
              (try dsimp only at hSw)
              (try go_split_ands)
              first | (go_simp; done) | (go_simp; with_reducible rfl)
            try simp only [Act.put, List.setIfInBounds_toArray, List.set_cons_zero, List.set_cons_succ]
            refine wpAnyH_take (i := 11) (oi := ({ dst := some 83, op := Op.move (Operand.tmp 5), type := 4, pos := _, after := _, guard := some (10, true) } : Oper)) (v := undef) rfl (by kernel_rfl) (by kernel_rfl) (by kernel_rfl) (fun _ _ _ h => h) (Or.inr ⟨by rfl, rfl⟩) hSS ?_
            try simp only [Act.put, List.setIfInBounds_toArray, List.set_cons_zero, List.set_cons_succ]
            refine wpAnyH_take (i := 12) (oi := ({ dst := some 84, op := Op.unOp UnOp.not 4 (Operand.tmp 83), type := 4, pos := _, after := _, guard := some (10, true) } : Oper)) (v := undef) rfl (by kernel_rfl) (by kernel_rfl) (by kernel_rfl) (fun _ _ _ h => h) (Or.inr ⟨by rfl, rfl⟩) hSS ?_
            try simp only [Act.put, List.setIfInBounds_toArray, List.set_cons_zero, List.set_cons_succ]
            refine wpAnyH_take (i := 13) (oi := ({ dst := some 85, op := Op.pick (Operand.tmp 82) (Operand.tmp 84) (Operand.const (Value.bool false)), type := 4, pos := _, after := _, guard := none } : Oper)) (v := ?_) rfl (by kernel_rfl) (by kernel_rfl) (by kernel_rfl) (fun _ _ _ h => h) (Or.inl ⟨by rfl, ?_⟩) hSS ?_
            rotate_left
            · intro w9 hSw
              (try dsimp only at hSw)
              (try go_split_ands)
              first | (go_simp; done) | (go_simp; with_reducible rfl)
            try simp only [Act.put, List.setIfInBounds_toArray, List.set_cons_zero, List.set_cons_succ]
            refine wpAnyH_take (i := 14) (oi := ({ dst := some 71, op := Op.assign (Operand.tmp 85), type := 4, pos := _, after := _, guard := none } : Oper)) (v := ?_) rfl (by kernel_rfl) (by kernel_rfl) (by kernel_rfl) (fun _ _ _ h => h) (Or.inl ⟨by rfl, ?_⟩) hSS ?_
            rotate_left
            · intro w9 hSw
              (try dsimp only at hSw)
              (try go_split_ands)
              first | (go_simp; done) | (go_simp; with_reducible rfl)
            try simp only [Act.put, List.setIfInBounds_toArray, List.set_cons_zero, List.set_cons_succ]
            refine wpAnyH_done (by kernel_rfl) ?_ _
            go_wp2_with (go_at_call 178; refine Calls.mono (HN.out _) ?_; rintro e w3 ⟨rfl, rfl⟩)
            go_roundw
            case rel => exact ⟨b + 1, true, rfl, by omega, by omega, HIN.out, HS1.out.1, HS1.out.2.1, HS1.out.2.2.drew.drew.drew⟩
            case measure =>
              have e : atN (wr.setCell ⟨k, 1, none⟩ (.int .i64 ((b : Int) + 1))) k = b + 1 := by unfold atN; rw [HS1.out.1.c1]; show (((b + 1 : Nat) : Int)).toNat = b + 1; omega
              rw [hat]
              show zs.length - atN (wr.setCell ⟨k, 1, none⟩ (.int .i64 ((b : Int) + 1))) k < _
              rw [e]
              omega
          | false =>
            have hx1 : ¬ (zs.getD b 0 = 34 ∧ true = false) := fun h => by cases h.2
            have hx2 : ¬ (zs.getD b 0 = 125 ∧ true = true) := fun h => z2 (HZ.out.symm.trans h.1)
            have hx3 : ¬ (pfx zs b = true ∧ true = false) := fun h => by cases h.2
            have hr : nmR zs a (innA 0 zs (a + 1)) = (tk0 b, b, 183) := by rw [← hin, inn_bad true hbz (by rw [HZ.out]; exact hpn) hx1 hx2 hx3]; rfl
            have HF := hid (fun w3 w4 => HFb.out b (tk0 b, b, 183) wr.drew.drew.drew w3 w4 hr hT hB.drew.drew.drew)
            have HN := hid (fun u => isOfName_any z u)
            rw [hpn] at HN
            clear HFb HFc HX hr hS hT hB hin HSet HG HCUT
            go_wp2_with (go_at_call 176; refine Calls.mono H32.out ?_; rintro e w3 ⟨rfl, rfl⟩)
            go_region
            go_wp2_with fail
            refine wp_region_held_drew (S := (fun w' => w'.cell? ⟨k, 0, none⟩ = some (.string S) ∧ w'.cell? ⟨k, 1, none⟩ = some (.int .i64 (b : Int)))) (by kernel_rfl) kS (fun hSS => ?_)
            refine wpAnyH_take (i := 0) (oi := ({ dst := some 72, op := Op.move (Operand.tmp 0), type := 243, pos := _, after := _, guard := none } : Oper)) (v := ?_) rfl (by kernel_rfl) (by kernel_rfl) (by kernel_rfl) (fun _ _ _ h => h) (Or.inl ⟨by rfl, ?_⟩) hSS ?_
            rotate_left
            · intro w9 hSw
              (try dsimp only at hSw)
              (try go_split_ands)
              first | (go_simp; done) | (go_simp; with_reducible rfl)
            try simp only [Act.put, List.setIfInBounds_toArray, List.set_cons_zero, List.set_cons_succ]
            refine wpAnyH_take (i := 1) (oi := ({ dst := some 73, op := Op.nilCheck (Operand.tmp 72), type := 0, pos := _, after := _, guard := none } : Oper)) (v := ?_) rfl (by kernel_rfl) (by kernel_rfl) (by kernel_rfl) (fun _ _ _ h => h) (Or.inl ⟨by rfl, ?_⟩) hSS ?_
            rotate_left
            · intro w9 hSw
              (try dsimp only at hSw)
              (try go_split_ands)
              first | (go_simp; done) | (go_simp; with_reducible rfl)
            try simp only [Act.put, List.setIfInBounds_toArray, List.set_cons_zero, List.set_cons_succ]
            refine wpAnyH_take (i := 2) (oi := ({ dst := some 74, op := Op.fieldAddr 245 (Operand.tmp 73) 0, type := 0, pos := _, after := _, guard := none } : Oper)) (v := ?_) rfl (by kernel_rfl) (by kernel_rfl) (by kernel_rfl) (fun _ _ _ h => h) (Or.inl ⟨by rfl, ?_⟩) hSS ?_
            rotate_left
            · intro w9 hSw
              (try dsimp only at hSw)
              (try go_split_ands)
              first | (go_simp; done) | (go_simp; with_reducible rfl)
            try simp only [Act.put, List.setIfInBounds_toArray, List.set_cons_zero, List.set_cons_succ]
            refine wpAnyH_take (i := 3) (oi := ({ dst := some 75, op := Op.load 9 (Operand.tmp 74), type := 9, pos := _, after := _, guard := none } : Oper)) (v := ?_) rfl (by kernel_rfl) (by kernel_rfl) (by kernel_rfl) (fun _ _ _ h => h) (Or.inl ⟨by rfl, ?_⟩) hSS ?_
            rotate_left
            · intro w9 hSw
              (try dsimp only at hSw)
              (try go_split_ands)
              first | (go_simp; done) | (go_simp; with_reducible rfl)
            try simp only [Act.put, List.setIfInBounds_toArray, List.set_cons_zero, List.set_cons_succ]
            refine wpAnyH_take (i := 4) (oi := ({ dst := some 76, op := Op.move (Operand.tmp 0), type := 243, pos := _, after := _, guard := none } : Oper)) (v := ?_) rfl (by kernel_rfl) (by kernel_rfl) (by kernel_rfl) (fun _ _ _ h => h) (Or.inl ⟨by rfl, ?_⟩) hSS ?_
            rotate_left
            · intro w9 hSw
              (try dsimp only at hSw)
              (try go_split_ands)
              first | (go_simp; done) | (go_simp; with_reducible rfl)
            try simp only [Act.put, List.setIfInBounds_toArray, List.set_cons_zero, List.set_cons_succ]
            refine wpAnyH_take (i := 5) (oi := ({ dst := some 77, op := Op.nilCheck (Operand.tmp 76), type := 0, pos := _, after := _, guard := none } : Oper)) (v := ?_) rfl (by kernel_rfl) (by kernel_rfl) (by kernel_rfl) (fun _ _ _ h => h) (Or.inl ⟨by rfl, ?_⟩) hSS ?_
            rotate_left
            · intro w9 hSw
              (try dsimp only at hSw)
              (try go_split_ands)
              first | (go_simp; done) | (go_simp; with_reducible rfl)
            try simp only [Act.put, List.setIfInBounds_toArray, List.set_cons_zero, List.set_cons_succ]
            refine wpAnyH_take (i := 6) (oi := ({ dst := some 78, op := Op.fieldAddr 245 (Operand.tmp 77) 1, type := 0, pos := _, after := _, guard := none } : Oper)) (v := ?_) rfl (by kernel_rfl) (by kernel_rfl) (by kernel_rfl) (fun _ _ _ h => h) (Or.inl ⟨by rfl, ?_⟩) hSS ?_
            rotate_left
            · intro w9 hSw
              (try dsimp only at hSw)
              (try go_split_ands)
              first | (go_simp; done) | (go_simp; with_reducible rfl)
            try simp only [Act.put, List.setIfInBounds_toArray, List.set_cons_zero, List.set_cons_succ]
            refine wpAnyH_take (i := 7) (oi := ({ dst := some 79, op := Op.load 3 (Operand.tmp 78), type := 3, pos := _, after := _, guard := none } : Oper)) (v := ?_) rfl (by kernel_rfl) (by kernel_rfl) (by kernel_rfl) (fun _ _ _ h => h) (Or.inl ⟨by rfl, ?_⟩) hSS ?_
            rotate_left
            · intro w9 hSw
              (try dsimp only at hSw)
              (try go_split_ands)
              first | (go_simp; done) | (go_simp; with_reducible rfl)
            try simp only [Act.put, List.setIfInBounds_toArray, List.set_cons_zero, List.set_cons_succ]
            refine wpAnyH_take (i := 8) (oi := ({ dst := some 80, op := Op.slice 9 (Operand.tmp 75) (some (Operand.tmp 79)) none none, type := 9, pos := _, after := _, guard := none } : Oper)) (v := .string U) rfl (by kernel_rfl) (by kernel_rfl) (by kernel_rfl) (fun _ _ _ h => h) (Or.inl ⟨by rfl, ?_⟩) hSS ?_
            · intro w9 hSw
              (try dsimp only at hSw)
              (try go_split_ands)
              first | (go_simp; done) | (go_simp; simp [hce]; done)
            try simp only [Act.put, List.setIfInBounds_toArray, List.set_cons_zero, List.set_cons_succ]
            refine wpAnyH_ready (rs := [9]) (by kernel_rfl) (by simp) (AllReadyH.cons (o := ({ dst := some 81, op := Op.call { callee := Callee.value (Operand.func 177), args := #[Operand.tmp 80, Operand.const (Value.string { data := #[36, 123] })], argTypes := #[9, 9] }, type := 4, pos := _, after := _, guard := none } : Oper)) rfl (fun K9 hK9 => ?_) AllReadyH.nil)
            go_simp
            go_at_call 177
            refine Calls.mono HX2.out ?_
            rintro e w3 ⟨rfl, rfl⟩
            refine hK9.out _ _ kS (fun hSS => ?_)
            clear hK9 K9
            try simp only [Act.put, List.setIfInBounds_toArray, List.set_cons_zero, List.set_cons_succ]
            refine wpAnyH_take (i := 10) (oi := ({ dst := some 82, op := Op.move (Operand.tmp 81), type := 4, pos := _, after := _, guard := none } : Oper)) (v := ?_) rfl (by kernel_rfl) (by kernel_rfl) (by kernel_rfl) (fun _ _ _ h => h) (Or.inl ⟨by rfl, ?_⟩) hSS ?_
            rotate_left
            · intro w9 hSw
              (try dsimp only at hSw)
              (try go_split_ands)
              first | (go_simp; done) | (go_simp; with_reducible rfl)
            try simp only [Act.put, List.setIfInBounds_toArray, List.set_cons_zero, List.set_cons_succ]
            refine wpAnyH_take (i := 11) (oi := ({ dst := some 83, op := Op.move (Operand.tmp 5), type := 4, pos := _, after := _, guard := some (10, true) } : Oper)) (v := undef) rfl (by kernel_rfl) (by kernel_rfl) (by kernel_rfl) (fun _ _ _ h => h) (Or.inr ⟨by rfl, rfl⟩) hSS ?_
            try simp only [Act.put, List.setIfInBounds_toArray, List.set_cons_zero, List.set_cons_succ]
            refine wpAnyH_take (i := 12) (oi := ({ dst := some 84, op := Op.unOp UnOp.not 4 (Operand.tmp 83), type := 4, pos := _, after := _, guard := some (10, true) } : Oper)) (v := undef) rfl (by kernel_rfl) (by kernel_rfl) (by kernel_rfl) (fun _ _ _ h => h) (Or.inr ⟨by rfl, rfl⟩) hSS ?_
            try simp only [Act.put, List.setIfInBounds_toArray, List.set_cons_zero, List.set_cons_succ]
            refine wpAnyH_take (i := 13) (oi := ({ dst := some 85, op := Op.pick (Operand.tmp 82) (Operand.tmp 84) (Operand.const (Value.bool false)), type := 4, pos := _, after := _, guard := none } : Oper)) (v := ?_) rfl (by kernel_rfl) (by kernel_rfl) (by kernel_rfl) (fun _ _ _ h => h) (Or.inl ⟨by rfl, ?_⟩) hSS ?_
            rotate_left
            · intro w9 hSw
              (try dsimp only at hSw)
              (try go_split_ands)
              first | (go_simp; done) | (go_simp; with_reducible rfl)
            try simp only [Act.put, List.setIfInBounds_toArray, List.set_cons_zero, List.set_cons_succ]
            refine wpAnyH_take (i := 14) (oi := ({ dst := some 71, op := Op.assign (Operand.tmp 85), type := 4, pos := _, after := _, guard := none } : Oper)) (v := ?_) rfl (by kernel_rfl) (by kernel_rfl) (by kernel_rfl) (fun _ _ _ h => h) (Or.inl ⟨by rfl, ?_⟩) hSS ?_
            rotate_left
            · intro w9 hSw
              (try dsimp only at hSw)
              (try go_split_ands)
              first | (go_simp; done) | (go_simp; with_reducible rfl)
            try simp only [Act.put, List.setIfInBounds_toArray, List.set_cons_zero, List.set_cons_succ]
            refine wpAnyH_done (by kernel_rfl) ?_ _
            go_wp2_with (go_at_call 178; refine Calls.mono (HN.out _) ?_; rintro e w3 ⟨rfl, rfl⟩)
            refine Calls.mono (HRf.out _ _) ?_
            rintro e w5 ⟨rfl, h5⟩
            have HFF := hid (HF.out w5 _ h5 rfl)
            clear h5
            have t0 := HFF.out.1.cell 0 _ rfl
            have t1 := HFF.out.1.cell 1 _ rfl
            have t2 := HFF.out.1.cell 2 _ rfl
            have t3 := HFF.out.1.cell 3 _ rfl
            have tf := HFF.out.1.fz
            go_wp2_with fail
            exact bodyPost_ret (results_tok rfl _ _ R 0 sE 0 b (.int .i64 183) rfl rfl HFF.out.2.1) rfl HFF.out.2.2

end Go.Proofs.YtbllaacbeagljaaGreatDoor
