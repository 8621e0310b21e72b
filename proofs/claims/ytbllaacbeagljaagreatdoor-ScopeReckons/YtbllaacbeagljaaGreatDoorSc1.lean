/-
  lex: the scanner: isAtEnd, pass.
-/
import Derived.Test.YtbllaacbeagljaaGreatDoorSc0
import Derived.Laws.Strings3
import Derived.Deep.RegionHeld3
namespace Go.Proofs.YtbllaacbeagljaaGreatDoor
open Go.RowKit

/-! ### strings of bytes -/
theorem str_size (l : List Int) : (strOfNums l).size = l.length := strOfNums_size l
theorem str_get (l : List Int) (hb : Pl.isB l) (i : Nat) (hi : i < l.length) (h : i < (strOfNums l).size) : ((((strOfNums l)[i]'h).toNat : Nat) : Int) = l.getD i 0 := by
  have e : (strOfNums l)[i]'h = UInt8.ofNat (l[i]'hi).toNat := by
    show ((l.map fun n => UInt8.ofNat n.toNat).toArray)[i]'(by simpa using hi) = _
    simp
  have h := hb (l[i]'hi) (List.getElem_mem hi)
  rw [e]
  simp [hi]
  omega
theorem str_cut (l : List Int) (a b : Nat) : (strOfNums l).extract a b = strOfNums (subL l a b) := by
  apply ByteArray.ext
  unfold subL
  simp [strOfNums, List.map_drop, List.map_take, List.drop_take]

/-! ### the scanner -/
/-- block k is a scanner of the text, come to the place -/
def Scn (w : World) (k : Nat) (S : ByteArray) (at_ : Nat) : Prop := w.heap[k]? = some (.cells #[.string S, .int .i64 (at_ : Int)] 245 (0, 0))
theorem Scn.lt {w : World} {k : Nat} {S : ByteArray} {a : Nat} (h : Scn w k S a) : k < w.heap.size := (Array.getElem?_eq_some_iff.1 h).1
theorem Scn.c0 {w : World} {k : Nat} {S : ByteArray} {a : Nat} (h : Scn w k S a) : w.cell? ⟨k, 0, none⟩ = some (.string S) := by unfold Scn at h; simp [World.cell?, h]
theorem Scn.c1 {w : World} {k : Nat} {S : ByteArray} {a : Nat} (h : Scn w k S a) : w.cell? ⟨k, 1, none⟩ = some (.int .i64 (a : Int)) := by unfold Scn at h; simp [World.cell?, h]
theorem Scn.fz {w : World} {k : Nat} {S : ByteArray} {a : Nat} (h : Scn w k S a) (t : Nat) : w.frozen? ⟨k, t, none⟩ = false := by unfold Scn at h; simp [World.frozen?, h]
theorem Scn.set {w : World} {k : Nat} {S : ByteArray} {a : Nat} (h : Scn w k S a) (b : Nat) : Scn (w.setCell ⟨k, 1, none⟩ (.int .i64 (b : Int))) k S b := by
  unfold Scn at *
  simp only [World.setCell, Array.getElem?_modify]
  rw [h]
  simp
theorem Scn.drew {w : World} {k : Nat} {S : ByteArray} {a : Nat} (h : Scn w k S a) : Scn w.drew k S a := h
theorem Scn.but {X : Nat → Prop} {w w' : World} {k : Nat} {S : ByteArray} {a : Nat} (h : Scn w k S a) (hb : But X w w') (hX : ¬ X k) : Scn w' k S a := by
  have hl := h.lt
  unfold Scn at *
  rw [hb.block k hl hX]
  exact h
theorem Scn.alloc {w : World} {k : Nat} {S : ByteArray} {a : Nat} (h : Scn w k S a) (o : Obj) : Scn (w.alloc o) k S a := h.but ((But.refl (fun _ => False) w).alloc o) (fun h => h)
theorem set_but {X : Nat → Prop} (w : World) (k t : Nat) (u : Value) (h : X k) : But X w (w.setCell ⟨k, t, none⟩ u) := (But.refl X w).setCell (p := ⟨k, t, none⟩) h u

set_option maxHeartbeats 1000000 in
theorem isAtEnd_any {w : World} {k : Nat} {S : ByteArray} {a : Nat} (h : Scn w k S a) : Calls Tryz.prog 176 #[.pointer (some ⟨k, 0, none⟩)] w fun e w' => e = .returned (.bool (decide (a = S.size))) ∧ w' = w.drew := by
  have c0 := h.c0
  have c1 := h.c1
  clear h
  by_cases q : a = S.size
  · have q' : (a : Int) = (S.size : Int) := by omega
    rw [decide_eq_true q]
    go_enter Tryz.func176, Tryz.ntmps176
    go_wp2
    go_region
    all_goals go_wp2
    all_goals go_ret
    all_goals exact ⟨by simp, rfl⟩
  · have q' : ¬ (a : Int) = (S.size : Int) := by omega
    rw [decide_eq_false q]
    go_enter Tryz.func176, Tryz.ntmps176
    go_wp2
    go_region
    all_goals go_wp2
    all_goals go_ret
    all_goals exact ⟨by simp [q'], rfl⟩

/-- a function value that tells of a byte what it is -/
structure Tells (cf : Nat) (p : Int → Bool) : Prop where
  ent : ∀ gs u, Sem.run Tryz.prog (callFunc cf gs) u = .ok (.enter cf gs) u
  val : ∀ z u, Calls Tryz.prog cf #[.int .u8 z] u fun e u' => e = .returned (.bool (p z)) ∧ u' = u

def atN (w : World) (k : Nat) : Nat := match w.cell? ⟨k, 1, none⟩ with | some (.int _ n) => n.toNat | _ => 0
set_option maxRecDepth 100000 in
set_option maxHeartbeats 1000000 in
theorem pass_any {cf : Nat} {p : Int → Bool} (hp : Tells cf p) {w : World} {k : Nat} {zs : List Int} {a : Nat} (hb : Pl.isB zs) (hl : zs.length ≤ 16777216) (ha : a ≤ zs.length) (h : Scn w k (strOfNums zs) a) :
    Calls Tryz.prog 182 #[.pointer (some ⟨k, 0, none⟩), .func (.func cf) #[] #[]] w fun e w' => (∃ v, e = .returned v) ∧ Scn w' k (strOfNums zs) (pasA p zs a) ∧ But (fun x => x = k) w w' ∧ w'.heap.size = w.heap.size := by
  have hsz := str_size zs
  have HG := hid (fun i hi h => str_get zs hb i hi h)
  have HI := hid (show Scn w k (strOfNums zs) a ∧ But (fun x => x = k) w w from ⟨h, But.refl _ _⟩)
  have hent := hp.ent
  have HV := hid hp.val
  clear hb h hp
  generalize strOfNums zs = S at *
  go_enter Tryz.func182, Tryz.ntmps182
  go_wp2_with fail
  go_loopw [] (fun wr => ∃ b : Nat, b ≤ zs.length ∧ pasA p zs b = pasA p zs a ∧ Scn wr k S b ∧ But (fun x => x = k) w wr ∧ wr.heap.size = w.heap.size) (fun wr => zs.length - atN wr k)
  case atStart => exact ⟨a, ha, rfl, HI.out.1, HI.out.2, rfl⟩
  case round =>
    clear HI
    obtain ⟨b, hbl, hpa, hS, hB, hz⟩ := hrel
    have c0 := hS.c0
    have c1 := hS.c1
    have f1 := hS.fz 1
    have kS := And.intro c0 c1
    by_cases q : b = zs.length
    · have H32 := hid (isAtEnd_any hS.drew)
      rw [decide_eq_true (show b = S.size by omega)] at H32
      have HE : Hid (Scn wr k S (pasA p zs a) ∧ But (fun x => x = k) w wr ∧ wr.heap.size = w.heap.size) := by
        rw [← hpa, pasA_end (by omega)]
        exact ⟨hS, hB, hz⟩
      clear hS hB hz hpa
      go_wp2_with fail
      refine wp_region_held_drew (S := (fun w' => w'.cell? ⟨k, 0, none⟩ = some (.string S) ∧ w'.cell? ⟨k, 1, none⟩ = some (.int .i64 (b : Int)))) (by kernel_rfl) kS (fun hSS => ?_)
      refine wpAnyH_take (i := 0) (oi := ({ dst := some 4, op := Op.move (Operand.tmp 0), type := 243, pos := _, after := _, guard := none } : Oper)) (v := ?_) rfl (by kernel_rfl) (by kernel_rfl) (by kernel_rfl) (fun _ _ _ h => h) (Or.inl ⟨by rfl, ?_⟩) hSS ?_
      rotate_left
      · intro w9 hSw
        (try dsimp only at hSw)
        (try go_split_ands)
        first | (go_simp; done) | (go_simp; with_reducible rfl)
      try simp only [Act.put, List.setIfInBounds_toArray, List.set_cons_zero, List.set_cons_succ]
      refine wpAnyH_ready (rs := [1]) (by kernel_rfl) (by simp) (AllReadyH.cons (o := ({ dst := some 5, op := Op.call { callee := Callee.value (Operand.func 176), args := #[Operand.tmp 4], argTypes := #[243] }, type := 4, pos := _, after := _, guard := none } : Oper)) rfl (fun K9 hK9 => ?_) AllReadyH.nil)
      go_simp
      go_at_call 176
      refine Calls.mono H32.out ?_
      rintro e w1 ⟨rfl, rfl⟩
      refine hK9.out _ _ kS (fun hSS => ?_)
      clear hK9 K9
      try simp only [Act.put, List.setIfInBounds_toArray, List.set_cons_zero, List.set_cons_succ]
      refine wpAnyH_take (i := 2) (oi := ({ dst := some 6, op := Op.unOp UnOp.not 4 (Operand.tmp 5), type := 4, pos := _, after := _, guard := none } : Oper)) (v := ?_) rfl (by kernel_rfl) (by kernel_rfl) (by kernel_rfl) (fun _ _ _ h => h) (Or.inl ⟨by rfl, ?_⟩) hSS ?_
      rotate_left
      · intro w9 hSw
        (try dsimp only at hSw)
        (try go_split_ands)
        first | (go_simp; done) | (go_simp; with_reducible rfl)
      try simp only [Act.put, List.setIfInBounds_toArray, List.set_cons_zero, List.set_cons_succ]
      refine wpAnyH_take (i := 3) (oi := ({ dst := some 7, op := Op.move (Operand.tmp 6), type := 4, pos := _, after := _, guard := none } : Oper)) (v := ?_) rfl (by kernel_rfl) (by kernel_rfl) (by kernel_rfl) (fun _ _ _ h => h) (Or.inl ⟨by rfl, ?_⟩) hSS ?_
      rotate_left
      · intro w9 hSw
        (try dsimp only at hSw)
        (try go_split_ands)
        first | (go_simp; done) | (go_simp; with_reducible rfl)
      try simp only [Act.put, List.setIfInBounds_toArray, List.set_cons_zero, List.set_cons_succ]
      refine wpAnyH_take (i := 4) (oi := ({ dst := some 8, op := Op.move (Operand.tmp 1), type := 215, pos := _, after := _, guard := some (3, true) } : Oper)) (v := undef) rfl (by kernel_rfl) (by kernel_rfl) (by kernel_rfl) (fun _ _ _ h => h) (Or.inr ⟨by rfl, rfl⟩) hSS ?_
      try simp only [Act.put, List.setIfInBounds_toArray, List.set_cons_zero, List.set_cons_succ]
      refine wpAnyH_take (i := 5) (oi := ({ dst := some 9, op := Op.move (Operand.tmp 0), type := 243, pos := _, after := _, guard := some (3, true) } : Oper)) (v := undef) rfl (by kernel_rfl) (by kernel_rfl) (by kernel_rfl) (fun _ _ _ h => h) (Or.inr ⟨by rfl, rfl⟩) hSS ?_
      try simp only [Act.put, List.setIfInBounds_toArray, List.set_cons_zero, List.set_cons_succ]
      refine wpAnyH_take (i := 6) (oi := ({ dst := some 10, op := Op.nilCheck (Operand.tmp 9), type := 0, pos := _, after := _, guard := some (3, true) } : Oper)) (v := undef) rfl (by kernel_rfl) (by kernel_rfl) (by kernel_rfl) (fun _ _ _ h => h) (Or.inr ⟨by rfl, rfl⟩) hSS ?_
      try simp only [Act.put, List.setIfInBounds_toArray, List.set_cons_zero, List.set_cons_succ]
      refine wpAnyH_take (i := 7) (oi := ({ dst := some 11, op := Op.fieldAddr 245 (Operand.tmp 10) 0, type := 0, pos := _, after := _, guard := some (3, true) } : Oper)) (v := undef) rfl (by kernel_rfl) (by kernel_rfl) (by kernel_rfl) (fun _ _ _ h => h) (Or.inr ⟨by rfl, rfl⟩) hSS ?_
      try simp only [Act.put, List.setIfInBounds_toArray, List.set_cons_zero, List.set_cons_succ]
      refine wpAnyH_take (i := 8) (oi := ({ dst := some 12, op := Op.load 9 (Operand.tmp 11), type := 9, pos := _, after := _, guard := some (3, true) } : Oper)) (v := undef) rfl (by kernel_rfl) (by kernel_rfl) (by kernel_rfl) (fun _ _ _ h => h) (Or.inr ⟨by rfl, rfl⟩) hSS ?_
      try simp only [Act.put, List.setIfInBounds_toArray, List.set_cons_zero, List.set_cons_succ]
      refine wpAnyH_take (i := 9) (oi := ({ dst := some 13, op := Op.move (Operand.tmp 0), type := 243, pos := _, after := _, guard := some (3, true) } : Oper)) (v := undef) rfl (by kernel_rfl) (by kernel_rfl) (by kernel_rfl) (fun _ _ _ h => h) (Or.inr ⟨by rfl, rfl⟩) hSS ?_
      try simp only [Act.put, List.setIfInBounds_toArray, List.set_cons_zero, List.set_cons_succ]
      refine wpAnyH_take (i := 10) (oi := ({ dst := some 14, op := Op.nilCheck (Operand.tmp 13), type := 0, pos := _, after := _, guard := some (3, true) } : Oper)) (v := undef) rfl (by kernel_rfl) (by kernel_rfl) (by kernel_rfl) (fun _ _ _ h => h) (Or.inr ⟨by rfl, rfl⟩) hSS ?_
      try simp only [Act.put, List.setIfInBounds_toArray, List.set_cons_zero, List.set_cons_succ]
      refine wpAnyH_take (i := 11) (oi := ({ dst := some 15, op := Op.fieldAddr 245 (Operand.tmp 14) 1, type := 0, pos := _, after := _, guard := some (3, true) } : Oper)) (v := undef) rfl (by kernel_rfl) (by kernel_rfl) (by kernel_rfl) (fun _ _ _ h => h) (Or.inr ⟨by rfl, rfl⟩) hSS ?_
      try simp only [Act.put, List.setIfInBounds_toArray, List.set_cons_zero, List.set_cons_succ]
      refine wpAnyH_take (i := 12) (oi := ({ dst := some 16, op := Op.load 3 (Operand.tmp 15), type := 3, pos := _, after := _, guard := some (3, true) } : Oper)) (v := undef) rfl (by kernel_rfl) (by kernel_rfl) (by kernel_rfl) (fun _ _ _ h => h) (Or.inr ⟨by rfl, rfl⟩) hSS ?_
      try simp only [Act.put, List.setIfInBounds_toArray, List.set_cons_zero, List.set_cons_succ]
      refine wpAnyH_take (i := 13) (oi := ({ dst := some 17, op := Op.index 9 (Operand.tmp 12) (Operand.tmp 16), type := 5, pos := _, after := _, guard := some (3, true) } : Oper)) (v := undef) rfl (by kernel_rfl) (by kernel_rfl) (by kernel_rfl) (fun _ _ _ h => h) (Or.inr ⟨by rfl, rfl⟩) hSS ?_
      try simp only [Act.put, List.setIfInBounds_toArray, List.set_cons_zero, List.set_cons_succ]
      refine wpAnyH_take (i := 14) (oi := ({ dst := some 18, op := Op.call { callee := Callee.value (Operand.tmp 8), args := #[Operand.tmp 17], argTypes := #[5] }, type := 4, pos := _, after := _, guard := some (3, true) } : Oper)) (v := undef) rfl (by kernel_rfl) (by kernel_rfl) (by kernel_rfl) (fun _ _ _ h => h) (Or.inr ⟨by rfl, rfl⟩) hSS ?_
      try simp only [Act.put, List.setIfInBounds_toArray, List.set_cons_zero, List.set_cons_succ]
      refine wpAnyH_take (i := 15) (oi := ({ dst := some 19, op := Op.pick (Operand.tmp 7) (Operand.tmp 18) (Operand.const (Value.bool false)), type := 4, pos := _, after := _, guard := none } : Oper)) (v := ?_) rfl (by kernel_rfl) (by kernel_rfl) (by kernel_rfl) (fun _ _ _ h => h) (Or.inl ⟨by rfl, ?_⟩) hSS ?_
      rotate_left
      · intro w9 hSw
        (try dsimp only at hSw)
        (try go_split_ands)
        first | (go_simp; done) | (go_simp; with_reducible rfl)
      try simp only [Act.put, List.setIfInBounds_toArray, List.set_cons_zero, List.set_cons_succ]
      refine wpAnyH_done (by kernel_rfl) ?_ _
      go_wp2
      go_end0
      exact ⟨⟨_, rfl⟩, HE.out.1, HE.out.2.1.drew.drew, HE.out.2.2⟩
    · have H32 := hid (isAtEnd_any hS.drew)
      rw [decide_eq_false (show ¬ b = S.size by omega)] at H32
      have hbS : b < S.size := by omega
      have hg := HG.out b (by omega) hbS
      obtain ⟨z, HZ⟩ : ∃ z, Hid (zs.getD b 0 = z) := ⟨_, rfl⟩
      rw [HZ.out] at hg
      have hlt : (b : Int) < zs.length := by omega
      have hlb : (b : Int) ≤ 16777216 := by omega
      cases hpb : p z with
      | true =>
        have HE : Hid (pasA p zs (b + 1) = pasA p zs a ∧ Scn (wr.setCell ⟨k, 1, none⟩ (.int .i64 ((b : Int) + 1))) k S (b + 1) ∧ But (fun x => x = k) w (wr.setCell ⟨k, 1, none⟩ (.int .i64 ((b : Int) + 1))) ∧ (wr.setCell ⟨k, 1, none⟩ (.int .i64 ((b : Int) + 1))).heap.size = w.heap.size) := by
          refine ⟨(pasA_step (by omega) (by rw [HZ.out]; exact hpb)).symm.trans hpa, ?_, hB.setCell (p := ⟨k, 1, none⟩) rfl _, by simp [World.setCell, hz]⟩
          have := hS.set (b + 1)
          rwa [show ((b + 1 : Nat) : Int) = (b : Int) + 1 by omega] at this
        have hat : atN wr k = b := by unfold atN; rw [c1]; simp
        clear hS hB hz hpa
        go_wp2_with fail
        refine wp_region_held_drew (S := (fun w' => w'.cell? ⟨k, 0, none⟩ = some (.string S) ∧ w'.cell? ⟨k, 1, none⟩ = some (.int .i64 (b : Int)))) (by kernel_rfl) kS (fun hSS => ?_)
        refine wpAnyH_take (i := 0) (oi := ({ dst := some 4, op := Op.move (Operand.tmp 0), type := 243, pos := _, after := _, guard := none } : Oper)) (v := ?_) rfl (by kernel_rfl) (by kernel_rfl) (by kernel_rfl) (fun _ _ _ h => h) (Or.inl ⟨by rfl, ?_⟩) hSS ?_
        rotate_left
        · intro w9 hSw
          (try dsimp only at hSw)
          (try go_split_ands)
          first | (go_simp; done) | (go_simp; with_reducible rfl)
        try simp only [Act.put, List.setIfInBounds_toArray, List.set_cons_zero, List.set_cons_succ]
        refine wpAnyH_ready (rs := [1]) (by kernel_rfl) (by simp) (AllReadyH.cons (o := ({ dst := some 5, op := Op.call { callee := Callee.value (Operand.func 176), args := #[Operand.tmp 4], argTypes := #[243] }, type := 4, pos := _, after := _, guard := none } : Oper)) rfl (fun K9 hK9 => ?_) AllReadyH.nil)
        go_simp
        go_at_call 176
        refine Calls.mono H32.out ?_
        rintro e w1 ⟨rfl, rfl⟩
        refine hK9.out _ _ kS (fun hSS => ?_)
        clear hK9 K9
        try simp only [Act.put, List.setIfInBounds_toArray, List.set_cons_zero, List.set_cons_succ]
        refine wpAnyH_take (i := 2) (oi := ({ dst := some 6, op := Op.unOp UnOp.not 4 (Operand.tmp 5), type := 4, pos := _, after := _, guard := none } : Oper)) (v := ?_) rfl (by kernel_rfl) (by kernel_rfl) (by kernel_rfl) (fun _ _ _ h => h) (Or.inl ⟨by rfl, ?_⟩) hSS ?_
        rotate_left
        · intro w9 hSw
          (try dsimp only at hSw)
          (try go_split_ands)
          first | (go_simp; done) | (go_simp; with_reducible rfl)
        try simp only [Act.put, List.setIfInBounds_toArray, List.set_cons_zero, List.set_cons_succ]
        refine wpAnyH_take (i := 3) (oi := ({ dst := some 7, op := Op.move (Operand.tmp 6), type := 4, pos := _, after := _, guard := none } : Oper)) (v := ?_) rfl (by kernel_rfl) (by kernel_rfl) (by kernel_rfl) (fun _ _ _ h => h) (Or.inl ⟨by rfl, ?_⟩) hSS ?_
        rotate_left
        · intro w9 hSw
          (try dsimp only at hSw)
          (try go_split_ands)
          first | (go_simp; done) | (go_simp; with_reducible rfl)
        try simp only [Act.put, List.setIfInBounds_toArray, List.set_cons_zero, List.set_cons_succ]
        refine wpAnyH_take (i := 4) (oi := ({ dst := some 8, op := Op.move (Operand.tmp 1), type := 215, pos := _, after := _, guard := some (3, true) } : Oper)) (v := ?_) rfl (by kernel_rfl) (by kernel_rfl) (by kernel_rfl) (fun _ _ _ h => h) (Or.inl ⟨by rfl, ?_⟩) hSS ?_
        rotate_left
        · intro w9 hSw
          (try dsimp only at hSw)
          (try go_split_ands)
          first | (go_simp; done) | (go_simp; with_reducible rfl)
        try simp only [Act.put, List.setIfInBounds_toArray, List.set_cons_zero, List.set_cons_succ]
        refine wpAnyH_take (i := 5) (oi := ({ dst := some 9, op := Op.move (Operand.tmp 0), type := 243, pos := _, after := _, guard := some (3, true) } : Oper)) (v := ?_) rfl (by kernel_rfl) (by kernel_rfl) (by kernel_rfl) (fun _ _ _ h => h) (Or.inl ⟨by rfl, ?_⟩) hSS ?_
        rotate_left
        · intro w9 hSw
          (try dsimp only at hSw)
          (try go_split_ands)
          first | (go_simp; done) | (go_simp; with_reducible rfl)
        try simp only [Act.put, List.setIfInBounds_toArray, List.set_cons_zero, List.set_cons_succ]
        refine wpAnyH_take (i := 6) (oi := ({ dst := some 10, op := Op.nilCheck (Operand.tmp 9), type := 0, pos := _, after := _, guard := some (3, true) } : Oper)) (v := ?_) rfl (by kernel_rfl) (by kernel_rfl) (by kernel_rfl) (fun _ _ _ h => h) (Or.inl ⟨by rfl, ?_⟩) hSS ?_
        rotate_left
        · intro w9 hSw
          (try dsimp only at hSw)
          (try go_split_ands)
          first | (go_simp; done) | (go_simp; with_reducible rfl)
        try simp only [Act.put, List.setIfInBounds_toArray, List.set_cons_zero, List.set_cons_succ]
        refine wpAnyH_take (i := 7) (oi := ({ dst := some 11, op := Op.fieldAddr 245 (Operand.tmp 10) 0, type := 0, pos := _, after := _, guard := some (3, true) } : Oper)) (v := ?_) rfl (by kernel_rfl) (by kernel_rfl) (by kernel_rfl) (fun _ _ _ h => h) (Or.inl ⟨by rfl, ?_⟩) hSS ?_
        rotate_left
        · intro w9 hSw
          (try dsimp only at hSw)
          (try go_split_ands)
          first | (go_simp; done) | (go_simp; with_reducible rfl)
        try simp only [Act.put, List.setIfInBounds_toArray, List.set_cons_zero, List.set_cons_succ]
        refine wpAnyH_take (i := 8) (oi := ({ dst := some 12, op := Op.load 9 (Operand.tmp 11), type := 9, pos := _, after := _, guard := some (3, true) } : Oper)) (v := ?_) rfl (by kernel_rfl) (by kernel_rfl) (by kernel_rfl) (fun _ _ _ h => h) (Or.inl ⟨by rfl, ?_⟩) hSS ?_
        rotate_left
        · intro w9 hSw
          (try dsimp only at hSw)
          (try go_split_ands)
          first | (go_simp; done) | (go_simp; with_reducible rfl)
        try simp only [Act.put, List.setIfInBounds_toArray, List.set_cons_zero, List.set_cons_succ]
        refine wpAnyH_take (i := 9) (oi := ({ dst := some 13, op := Op.move (Operand.tmp 0), type := 243, pos := _, after := _, guard := some (3, true) } : Oper)) (v := ?_) rfl (by kernel_rfl) (by kernel_rfl) (by kernel_rfl) (fun _ _ _ h => h) (Or.inl ⟨by rfl, ?_⟩) hSS ?_
        rotate_left
        · intro w9 hSw
          (try dsimp only at hSw)
          (try go_split_ands)
          first | (go_simp; done) | (go_simp; with_reducible rfl)
        try simp only [Act.put, List.setIfInBounds_toArray, List.set_cons_zero, List.set_cons_succ]
        refine wpAnyH_take (i := 10) (oi := ({ dst := some 14, op := Op.nilCheck (Operand.tmp 13), type := 0, pos := _, after := _, guard := some (3, true) } : Oper)) (v := ?_) rfl (by kernel_rfl) (by kernel_rfl) (by kernel_rfl) (fun _ _ _ h => h) (Or.inl ⟨by rfl, ?_⟩) hSS ?_
        rotate_left
        · intro w9 hSw
          (try dsimp only at hSw)
          (try go_split_ands)
          first | (go_simp; done) | (go_simp; with_reducible rfl)
        try simp only [Act.put, List.setIfInBounds_toArray, List.set_cons_zero, List.set_cons_succ]
        refine wpAnyH_take (i := 11) (oi := ({ dst := some 15, op := Op.fieldAddr 245 (Operand.tmp 14) 1, type := 0, pos := _, after := _, guard := some (3, true) } : Oper)) (v := ?_) rfl (by kernel_rfl) (by kernel_rfl) (by kernel_rfl) (fun _ _ _ h => h) (Or.inl ⟨by rfl, ?_⟩) hSS ?_
        rotate_left
        · intro w9 hSw
          (try dsimp only at hSw)
          (try go_split_ands)
          first | (go_simp; done) | (go_simp; with_reducible rfl)
        try simp only [Act.put, List.setIfInBounds_toArray, List.set_cons_zero, List.set_cons_succ]
        refine wpAnyH_take (i := 12) (oi := ({ dst := some 16, op := Op.load 3 (Operand.tmp 15), type := 3, pos := _, after := _, guard := some (3, true) } : Oper)) (v := ?_) rfl (by kernel_rfl) (by kernel_rfl) (by kernel_rfl) (fun _ _ _ h => h) (Or.inl ⟨by rfl, ?_⟩) hSS ?_
        rotate_left
        · intro w9 hSw
          (try dsimp only at hSw)
          (try go_split_ands)
          first | (go_simp; done) | (go_simp; with_reducible rfl)
        try simp only [Act.put, List.setIfInBounds_toArray, List.set_cons_zero, List.set_cons_succ]
        refine wpAnyH_take (i := 13) (oi := ({ dst := some 17, op := Op.index 9 (Operand.tmp 12) (Operand.tmp 16), type := 5, pos := _, after := _, guard := some (3, true) } : Oper)) (v := .int .u8 z) rfl (by kernel_rfl) (by kernel_rfl) (by kernel_rfl) (fun _ _ _ h => h) (Or.inl ⟨by rfl, ?_⟩) hSS ?_
        · intro w9 hSw
          (try dsimp only at hSw)
          (try go_split_ands)
          first | (go_simp; done) | (go_simp; simp [hg, hbS]; done)
        try simp only [Act.put, List.setIfInBounds_toArray, List.set_cons_zero, List.set_cons_succ]
        refine wpAnyH_ready (rs := [14]) (by kernel_rfl) (by simp) (AllReadyH.cons (o := ({ dst := some 18, op := Op.call { callee := Callee.value (Operand.tmp 8), args := #[Operand.tmp 17], argTypes := #[5] }, type := 4, pos := _, after := _, guard := some (3, true) } : Oper)) rfl (fun K9 hK9 => ?_) AllReadyH.nil)
        go_simp
        refine Calls.mono (HV.out _ _) ?_
        rintro e w1 ⟨rfl, rfl⟩
        refine hK9.out _ _ kS (fun hSS => ?_)
        clear hK9 K9
        try simp only [Act.put, List.setIfInBounds_toArray, List.set_cons_zero, List.set_cons_succ]
        refine wpAnyH_take (i := 15) (oi := ({ dst := some 19, op := Op.pick (Operand.tmp 7) (Operand.tmp 18) (Operand.const (Value.bool false)), type := 4, pos := _, after := _, guard := none } : Oper)) (v := ?_) rfl (by kernel_rfl) (by kernel_rfl) (by kernel_rfl) (fun _ _ _ h => h) (Or.inl ⟨by rfl, ?_⟩) hSS ?_
        rotate_left
        · intro w9 hSw
          (try dsimp only at hSw)
          (try go_split_ands)
          first | (go_simp; done) | (go_simp; with_reducible rfl)
        try simp only [Act.put, List.setIfInBounds_toArray, List.set_cons_zero, List.set_cons_succ]
        refine wpAnyH_done (by kernel_rfl) ?_ _
        rw [hpb]
        go_wp2
        go_roundw
        case rel => exact ⟨b + 1, by omega, HE.out.1, HE.out.2.1, HE.out.2.2.1.drew.drew, HE.out.2.2.2⟩
        case measure =>
          have e : atN (wr.setCell ⟨k, 1, none⟩ (.int .i64 ((b : Int) + 1))) k = b + 1 := by unfold atN; rw [HE.out.2.1.c1]; simp
          rw [hat]
          show zs.length - atN (wr.setCell ⟨k, 1, none⟩ (.int .i64 ((b : Int) + 1))) k < _
          rw [e]
          omega
      | false =>
        have HE : Hid (Scn wr k S (pasA p zs a) ∧ But (fun x => x = k) w wr ∧ wr.heap.size = w.heap.size) := by
          rw [← hpa, pasA_stop (by omega) (by rw [HZ.out]; exact hpb)]
          exact ⟨hS, hB, hz⟩
        clear hS hB hz hpa
        go_wp2_with fail
        refine wp_region_held_drew (S := (fun w' => w'.cell? ⟨k, 0, none⟩ = some (.string S) ∧ w'.cell? ⟨k, 1, none⟩ = some (.int .i64 (b : Int)))) (by kernel_rfl) kS (fun hSS => ?_)
        refine wpAnyH_take (i := 0) (oi := ({ dst := some 4, op := Op.move (Operand.tmp 0), type := 243, pos := _, after := _, guard := none } : Oper)) (v := ?_) rfl (by kernel_rfl) (by kernel_rfl) (by kernel_rfl) (fun _ _ _ h => h) (Or.inl ⟨by rfl, ?_⟩) hSS ?_
        rotate_left
        · intro w9 hSw
          (try dsimp only at hSw)
          (try go_split_ands)
          first | (go_simp; done) | (go_simp; with_reducible rfl)
        try simp only [Act.put, List.setIfInBounds_toArray, List.set_cons_zero, List.set_cons_succ]
        refine wpAnyH_ready (rs := [1]) (by kernel_rfl) (by simp) (AllReadyH.cons (o := ({ dst := some 5, op := Op.call { callee := Callee.value (Operand.func 176), args := #[Operand.tmp 4], argTypes := #[243] }, type := 4, pos := _, after := _, guard := none } : Oper)) rfl (fun K9 hK9 => ?_) AllReadyH.nil)
        go_simp
        go_at_call 176
        refine Calls.mono H32.out ?_
        rintro e w1 ⟨rfl, rfl⟩
        refine hK9.out _ _ kS (fun hSS => ?_)
        clear hK9 K9
        try simp only [Act.put, List.setIfInBounds_toArray, List.set_cons_zero, List.set_cons_succ]
        refine wpAnyH_take (i := 2) (oi := ({ dst := some 6, op := Op.unOp UnOp.not 4 (Operand.tmp 5), type := 4, pos := _, after := _, guard := none } : Oper)) (v := ?_) rfl (by kernel_rfl) (by kernel_rfl) (by kernel_rfl) (fun _ _ _ h => h) (Or.inl ⟨by rfl, ?_⟩) hSS ?_
        rotate_left
        · intro w9 hSw
          (try dsimp only at hSw)
          (try go_split_ands)
          first | (go_simp; done) | (go_simp; with_reducible rfl)
        try simp only [Act.put, List.setIfInBounds_toArray, List.set_cons_zero, List.set_cons_succ]
        refine wpAnyH_take (i := 3) (oi := ({ dst := some 7, op := Op.move (Operand.tmp 6), type := 4, pos := _, after := _, guard := none } : Oper)) (v := ?_) rfl (by kernel_rfl) (by kernel_rfl) (by kernel_rfl) (fun _ _ _ h => h) (Or.inl ⟨by rfl, ?_⟩) hSS ?_
        rotate_left
        · intro w9 hSw
          (try dsimp only at hSw)
          (try go_split_ands)
          first | (go_simp; done) | (go_simp; with_reducible rfl)
        try simp only [Act.put, List.setIfInBounds_toArray, List.set_cons_zero, List.set_cons_succ]
        refine wpAnyH_take (i := 4) (oi := ({ dst := some 8, op := Op.move (Operand.tmp 1), type := 215, pos := _, after := _, guard := some (3, true) } : Oper)) (v := ?_) rfl (by kernel_rfl) (by kernel_rfl) (by kernel_rfl) (fun _ _ _ h => h) (Or.inl ⟨by rfl, ?_⟩) hSS ?_
        rotate_left
        · intro w9 hSw
          (try dsimp only at hSw)
          (try go_split_ands)
          first | (go_simp; done) | (go_simp; with_reducible rfl)
        try simp only [Act.put, List.setIfInBounds_toArray, List.set_cons_zero, List.set_cons_succ]
        refine wpAnyH_take (i := 5) (oi := ({ dst := some 9, op := Op.move (Operand.tmp 0), type := 243, pos := _, after := _, guard := some (3, true) } : Oper)) (v := ?_) rfl (by kernel_rfl) (by kernel_rfl) (by kernel_rfl) (fun _ _ _ h => h) (Or.inl ⟨by rfl, ?_⟩) hSS ?_
        rotate_left
        · intro w9 hSw
          (try dsimp only at hSw)
          (try go_split_ands)
          first | (go_simp; done) | (go_simp; with_reducible rfl)
        try simp only [Act.put, List.setIfInBounds_toArray, List.set_cons_zero, List.set_cons_succ]
        refine wpAnyH_take (i := 6) (oi := ({ dst := some 10, op := Op.nilCheck (Operand.tmp 9), type := 0, pos := _, after := _, guard := some (3, true) } : Oper)) (v := ?_) rfl (by kernel_rfl) (by kernel_rfl) (by kernel_rfl) (fun _ _ _ h => h) (Or.inl ⟨by rfl, ?_⟩) hSS ?_
        rotate_left
        · intro w9 hSw
          (try dsimp only at hSw)
          (try go_split_ands)
          first | (go_simp; done) | (go_simp; with_reducible rfl)
        try simp only [Act.put, List.setIfInBounds_toArray, List.set_cons_zero, List.set_cons_succ]
        refine wpAnyH_take (i := 7) (oi := ({ dst := some 11, op := Op.fieldAddr 245 (Operand.tmp 10) 0, type := 0, pos := _, after := _, guard := some (3, true) } : Oper)) (v := ?_) rfl (by kernel_rfl) (by kernel_rfl) (by kernel_rfl) (fun _ _ _ h => h) (Or.inl ⟨by rfl, ?_⟩) hSS ?_
        rotate_left
        · intro w9 hSw
          (try dsimp only at hSw)
          (try go_split_ands)
          first | (go_simp; done) | (go_simp; with_reducible rfl)
        try simp only [Act.put, List.setIfInBounds_toArray, List.set_cons_zero, List.set_cons_succ]
        refine wpAnyH_take (i := 8) (oi := ({ dst := some 12, op := Op.load 9 (Operand.tmp 11), type := 9, pos := _, after := _, guard := some (3, true) } : Oper)) (v := ?_) rfl (by kernel_rfl) (by kernel_rfl) (by kernel_rfl) (fun _ _ _ h => h) (Or.inl ⟨by rfl, ?_⟩) hSS ?_
        rotate_left
        · intro w9 hSw
          (try dsimp only at hSw)
          (try go_split_ands)
          first | (go_simp; done) | (go_simp; with_reducible rfl)
        try simp only [Act.put, List.setIfInBounds_toArray, List.set_cons_zero, List.set_cons_succ]
        refine wpAnyH_take (i := 9) (oi := ({ dst := some 13, op := Op.move (Operand.tmp 0), type := 243, pos := _, after := _, guard := some (3, true) } : Oper)) (v := ?_) rfl (by kernel_rfl) (by kernel_rfl) (by kernel_rfl) (fun _ _ _ h => h) (Or.inl ⟨by rfl, ?_⟩) hSS ?_
        rotate_left
        · intro w9 hSw
          (try dsimp only at hSw)
          (try go_split_ands)
          first | (go_simp; done) | (go_simp; with_reducible rfl)
        try simp only [Act.put, List.setIfInBounds_toArray, List.set_cons_zero, List.set_cons_succ]
        refine wpAnyH_take (i := 10) (oi := ({ dst := some 14, op := Op.nilCheck (Operand.tmp 13), type := 0, pos := _, after := _, guard := some (3, true) } : Oper)) (v := ?_) rfl (by kernel_rfl) (by kernel_rfl) (by kernel_rfl) (fun _ _ _ h => h) (Or.inl ⟨by rfl, ?_⟩) hSS ?_
        rotate_left
        · intro w9 hSw
          (try dsimp only at hSw)
          (try go_split_ands)
          first | (go_simp; done) | (go_simp; with_reducible rfl)
        try simp only [Act.put, List.setIfInBounds_toArray, List.set_cons_zero, List.set_cons_succ]
        refine wpAnyH_take (i := 11) (oi := ({ dst := some 15, op := Op.fieldAddr 245 (Operand.tmp 14) 1, type := 0, pos := _, after := _, guard := some (3, true) } : Oper)) (v := ?_) rfl (by kernel_rfl) (by kernel_rfl) (by kernel_rfl) (fun _ _ _ h => h) (Or.inl ⟨by rfl, ?_⟩) hSS ?_
        rotate_left
        · intro w9 hSw
          (try dsimp only at hSw)
          (try go_split_ands)
          first | (go_simp; done) | (go_simp; with_reducible rfl)
        try simp only [Act.put, List.setIfInBounds_toArray, List.set_cons_zero, List.set_cons_succ]
        refine wpAnyH_take (i := 12) (oi := ({ dst := some 16, op := Op.load 3 (Operand.tmp 15), type := 3, pos := _, after := _, guard := some (3, true) } : Oper)) (v := ?_) rfl (by kernel_rfl) (by kernel_rfl) (by kernel_rfl) (fun _ _ _ h => h) (Or.inl ⟨by rfl, ?_⟩) hSS ?_
        rotate_left
        · intro w9 hSw
          (try dsimp only at hSw)
          (try go_split_ands)
          first | (go_simp; done) | (go_simp; with_reducible rfl)
        try simp only [Act.put, List.setIfInBounds_toArray, List.set_cons_zero, List.set_cons_succ]
        refine wpAnyH_take (i := 13) (oi := ({ dst := some 17, op := Op.index 9 (Operand.tmp 12) (Operand.tmp 16), type := 5, pos := _, after := _, guard := some (3, true) } : Oper)) (v := .int .u8 z) rfl (by kernel_rfl) (by kernel_rfl) (by kernel_rfl) (fun _ _ _ h => h) (Or.inl ⟨by rfl, ?_⟩) hSS ?_
        · intro w9 hSw
          (try dsimp only at hSw)
          (try go_split_ands)
          first | (go_simp; done) | (go_simp; simp [hg, hbS]; done)
        try simp only [Act.put, List.setIfInBounds_toArray, List.set_cons_zero, List.set_cons_succ]
        refine wpAnyH_ready (rs := [14]) (by kernel_rfl) (by simp) (AllReadyH.cons (o := ({ dst := some 18, op := Op.call { callee := Callee.value (Operand.tmp 8), args := #[Operand.tmp 17], argTypes := #[5] }, type := 4, pos := _, after := _, guard := some (3, true) } : Oper)) rfl (fun K9 hK9 => ?_) AllReadyH.nil)
        go_simp
        refine Calls.mono (HV.out _ _) ?_
        rintro e w1 ⟨rfl, rfl⟩
        refine hK9.out _ _ kS (fun hSS => ?_)
        clear hK9 K9
        try simp only [Act.put, List.setIfInBounds_toArray, List.set_cons_zero, List.set_cons_succ]
        refine wpAnyH_take (i := 15) (oi := ({ dst := some 19, op := Op.pick (Operand.tmp 7) (Operand.tmp 18) (Operand.const (Value.bool false)), type := 4, pos := _, after := _, guard := none } : Oper)) (v := ?_) rfl (by kernel_rfl) (by kernel_rfl) (by kernel_rfl) (fun _ _ _ h => h) (Or.inl ⟨by rfl, ?_⟩) hSS ?_
        rotate_left
        · intro w9 hSw
          (try dsimp only at hSw)
          (try go_split_ands)
          first | (go_simp; done) | (go_simp; with_reducible rfl)
        try simp only [Act.put, List.setIfInBounds_toArray, List.set_cons_zero, List.set_cons_succ]
        refine wpAnyH_done (by kernel_rfl) ?_ _
        rw [hpb]
        go_wp2
        go_end0
        exact ⟨⟨_, rfl⟩, HE.out.1, HE.out.2.1.drew.drew, HE.out.2.2⟩

end Go.Proofs.YtbllaacbeagljaaGreatDoor
