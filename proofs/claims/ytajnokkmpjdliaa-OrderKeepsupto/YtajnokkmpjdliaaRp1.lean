/-
  slices.Repeat of one number.
-/
import Derived.Test.YtajnokkmpjdliaaRp0
import Derived.Lib.AppendZeros
namespace Go.Proofs.Ytajnokkmpjdliaa
open Go.RowKit

theorem wpList_copy_run {P : Program} (w : World) {ops : Array Oper} {rest : List Oper} {o : Oper} {a : Act} {Q : Exit → Act → World → Prop} (hgd : o.guard = none) (s x : Operand) (t tn : TypeId)
    (ho : o.op = .call { callee := .builtin .copy, args := #[s, x], argTypes := #[t, tn] }) (vs vx : Value) (hs : a.eval s = vs) (hx : a.eval x = vx)
    (v' : Value) (w' : World) (hr : (Builtin.copy_ #[t, tn] o.type #[vs, vx]).run P w = .ok v' w') (h : wpList P ops Q rest (a.put o.dst v') w') : wpList P ops Q (o :: rest) a w := by
  refine wpList_plain hgd fun K hK => ?_
  unfold Oper.wp execOp
  simp only [ho, resolve, invoke, builtin, Sem.run_bind, Sem.run_pure, Result.andThen_ok, List.map_toArray, List.map_cons, List.map_nil, hs, hx, hr]
  exact hK _ _ h

theorem rep_len (n : Nat) (x : Int) : (rep n x).length = n := by simp [rep]
/-- what has been laid, and what has not -/
def rz (p q : Nat) (x : Int) : List Int := rep p x ++ zeros q
theorem rz_len (p q : Nat) (x : Int) : (rz p q x).length = p + q := by simp [rz, rep, zeros]
theorem rz_get (p q : Nat) (x : Int) (j : Nat) (hj : j < p) : (rz p q x).getD j 0 = x := by
  simp [rz, rep, List.getD_eq_getElem?_getD, List.getElem?_append_left, hj]
theorem rz_lay (p q k : Nat) (x : Int) (hk : k ≤ q) : (rz p q x).take p ++ (rep k x ++ (rz p q x).drop (p + k)) = rz (p + k) (q - k) x := by
  simp only [rz, rep, zeros]
  rw [List.take_append_of_le_length (by simp), List.take_of_length_le (by simp), List.drop_append, List.drop_of_length_le (by simp)]
  simp only [List.length_replicate, List.nil_append, List.drop_replicate, ← List.append_assoc, List.replicate_append_replicate]
  congr 2
  omega

def RpQ (n : Nat) (x : Int) (w : World) (e : Ending) (w' : World) : Prop := ∃ g, e = .returned (.slice (some ⟨g, 0, none⟩) n n) ∧ w.heap.size ≤ g ∧ Blk w' g (rep n x) ∧ Below w.heap.size w w'

set_option maxRecDepth 100000 in
set_option maxHeartbeats 4000000 in
theorem Repeat_any (n X : Nat) (x : Int) (hn : n ≤ 1048576) (w : World) (hx : w.cell? ⟨X, 0, none⟩ = some (.int .i64 x)) :
    Calls Try.prog 28 #[.slice (some ⟨X, 0, none⟩) 1 1, .int .i64 (n : Int)] w (RpQ n x w) := by
  obtain ⟨PO, hPO⟩ : ∃ PO, PO = RpQ n x w := ⟨_, rfl⟩
  rw [← hPO]
  have HPO := hid hPO
  have HM := hid (Mul_any n hn w)
  have hmk := fun u => make_i64 n (by omega) u
  have q0 : ¬ (n : Int) < 0 := by omega
  have u1 : IntKind.u64.wrap (n : Int) = n := uw _ (by omega)
  have u3 : IntKind.u64.wrap 1 = 1 := rfl
  have u2 : IntKind.i64.wrap (n : Int) = n := iw64 _ (by omega)
  have q9 : (n : Int) ≤ 9223372036854775807 := by omega
  have q8 : ¬ (9223372036854775807 : Int) < (n : Int) := by omega
  have q7 : decide ((9223372036854775807 : Int) < (n : Int)) = false := decide_eq_false q8
  obtain ⟨g, hg⟩ : ∃ g, g = w.heap.size := ⟨_, rfl⟩
  obtain ⟨w1, hw1⟩ : ∃ w1, w1 = w.alloc (.cells ((zeros n).map (Value.int .i64)).toArray 3) := ⟨_, rfl⟩
  have hB0 : Below g w w1 := by rw [hw1, hg]; exact below1 _ _
  have hG : Blk w1 g (rz 0 n x) := by rw [hw1, hg]; exact Blk.new w (zeros n)
  have hX : X < w.heap.size := World.block_lt_of_cell? w ⟨X, 0, none⟩ hx
  have hst : ∃ (p0 : Nat) (w2 : World), (Builtin.copy_ #[23, 23] 3 #[.slice (some ⟨w.heap.size, 0, none⟩) n n, .slice (some ⟨X, 0, none⟩) 1 1]).run Try.prog w1 = .ok (.int .i64 (p0 : Int)) w2 ∧ Below g w w2 ∧ Blk w2 g (rz p0 (n - p0) x) ∧ p0 ≤ n ∧ (n = 0 ∨ 0 < p0) := by
    by_cases hn0 : n = 0
    · refine ⟨0, w1, ?_, hB0, hG, by omega, .inl hn0⟩
      have := run_copy_none (P := Try.prog) w1 23 23 3 3 (some ⟨w.heap.size, 0, none⟩) (some ⟨X, 0, none⟩) n n 1 1 Try.underlying23 size3 (by show min 1 n = 0; omega)
      rw [this]
      rfl
    · refine ⟨1, w1.setRow g ((rz 1 (n - 1) x).map (Value.int .i64)).toArray, ?_, below_setRow hB0 (Nat.le_refl _) _, blk_setRow hG _, by omega, .inr (by omega)⟩
      have := copy_ints w1 g 0 n n X 0 1 1 (rz 0 n x) hG [x] (by show 1 = min 1 n; omega) (fun j hj => by
        simp at hj
        subst hj
        rw [hB0.cell (by simp; omega)]
        exact hx) (by rw [rz_len]; simp; omega)
      rw [show [x] = rep 1 x from rfl, rep_len, rz_lay 0 n 1 x (by omega), Nat.zero_add] at this
      rw [← hg]
      exact this
  obtain ⟨p0, w2, hc, hB2, hG2, hp0, hp1⟩ := hst
  have HE : Hid (∀ wr, Below g w wr → Blk wr g (rz n 0 x) → PO (.returned (.slice (some ⟨w.heap.size, 0, none⟩) n n)) wr) := fun wr h1 h2 => by
    rw [HPO.out]
    refine ⟨w.heap.size, rfl, by omega, ?_, by rw [← hg]; exact h1⟩
    have : rz n 0 x = rep n x := by simp [rz, zeros]
    rw [← this, ← hg]
    exact h2
  have HI0 : Hid (Below g w w2 ∧ Blk w2 g (rz p0 (n - p0) x) ∧ p0 ≤ n ∧ (n = 0 ∨ 0 < p0)) := ⟨hB2, hG2, hp0, hp1⟩
  have HW1 := hid hw1
  have HGW := hid hg
  rw [hw1] at hc
  have HN := hid hn
  clear hPO hw1 hB0 hG hg hB2 hG2 hp0 hp1 hn
  go_enter Try.func28, Try.ntmps28
  go_wp2_with fail
  go_at_call 32
  refine Calls.mono HM.out ?_
  rintro e w0 ⟨rfl, hw0⟩
  have hw0 := hw0.symm
  subst hw0
  go_wp2_with (refine wpList_copy_run _ rfl _ _ _ _ rfl _ _ rfl rfl _ _ hc ?_)
  clear hc HM hmk hx
  go_loopw [8] (fun iv wr => ∃ p : Nat, iv = .int .i64 (p : Int) ∧ Below g w wr ∧ Blk wr g (rz p (n - p) x) ∧ p ≤ n ∧ (n = 0 ∨ 0 < p)) (fun iv _ => n - (intOf iv).toNat)
  case atStart => exact ⟨p0, rfl, HI0.out⟩
  case round =>
    obtain ⟨p, rfl, hb, hG, hp, hp1⟩ := hrel
    clear HI0
    by_cases q : p = n
    · have HF := hid (HE.out wr hb (by rw [q, Nat.sub_self] at hG; exact hG))
      have qq : (n : Int) ≤ (p : Int) := by omega
      clear hb hG hp hp1 q
      go_wp2_with fail
      exact HF.out
    · have hn := HN.out
      obtain ⟨k, hk⟩ : ∃ k, k = min p (n - p) := ⟨_, rfl⟩
      have hk1 : 0 < k := by omega
      obtain ⟨w4, hw4⟩ : ∃ w4, w4 = wr.drew.setRow g ((rz (p + k) (n - (p + k)) x).map (Value.int .i64)).toArray := ⟨_, rfl⟩
      have hGd : Blk wr.drew g (rz p (n - p) x) := hG
      have HC : Hid ((Builtin.copy_ #[23, 23] 3 #[.slice (some ⟨w.heap.size, p, none⟩) (n - p) (n - p), .slice (some ⟨w.heap.size, 0, none⟩) p n]).run Try.prog wr.drew = .ok (.int .i64 (k : Int)) w4) := by
        have := copy_ints wr.drew g p (n - p) (n - p) g 0 p n (rz p (n - p) x) hGd (rep k x) (by rw [rep_len]; exact hk) (fun j hj => by
          rw [rep_len] at hj
          rw [Nat.zero_add, hGd.cell j (by rw [rz_len]; omega), rz_get _ _ _ _ (by omega)]
          simp [rep, List.getD_eq_getElem?_getD, hj]) (by rw [rz_len, rep_len]; omega)
        rw [rep_len, rz_lay p (n - p) k x (by omega), show n - p - k = n - (p + k) by omega, ← hw4] at this
        rw [← HGW.out]
        exact this
      have HI1 : Hid (Below g w w4 ∧ Blk w4 g (rz (p + k) (n - (p + k)) x) ∧ p + k ≤ n ∧ (n = 0 ∨ 0 < p + k)) := ⟨by rw [hw4]; exact below_setRow (hb.trans (below_drew _ _)) (Nat.le_refl _) _, by rw [hw4]; exact blk_setRow hGd _, by omega, .inr (by omega)⟩
      have q1 : (p : Int) < (n : Int) := by omega
      have q2 : ¬ n = p := by omega
      have q3 : p ≤ n := hp
      have e3 : IntKind.i64.wrap ((p : Int) + (k : Int)) = ((p + k : Nat) : Int) := by rw [iw64 _ (by omega)]; omega
      have HK : Hid (0 < k ∧ p + k ≤ n) := ⟨hk1, by omega⟩
      clear hb hG hp hp1 q hGd hw4 hk hk1 hn
      go_wp2_with fail
      refine wp_region_held_drew (S := (fun _ => True)) (by kernel_rfl) trivial (fun hSS => ?_)
      refine wpAnyH_take (i := 0) (oi := ({ dst := some 38, op := Op.move (Operand.tmp 8), type := 3, pos := _, after := _, guard := none } : Oper)) (v := ?_) rfl (by kernel_rfl) (by kernel_rfl) (by kernel_rfl) (fun _ _ _ h => h) (Or.inl ⟨by rfl, ?_⟩) hSS ?_
      rotate_left
      · intro w9 hSw
        (try dsimp only at hSw)
        (try go_split_ands)
        first | (go_simp; done) | (go_simp; with_reducible rfl)
      try simp only [Act.put, List.setIfInBounds_toArray, List.set_cons_zero, List.set_cons_succ]
      refine wpAnyH_take (i := 1) (oi := ({ dst := some 39, op := Op.move (Operand.tmp 7), type := 23, pos := _, after := _, guard := none } : Oper)) (v := ?_) rfl (by kernel_rfl) (by kernel_rfl) (by kernel_rfl) (fun _ _ _ h => h) (Or.inl ⟨by rfl, ?_⟩) hSS ?_
      rotate_left
      · intro w9 hSw
        (try dsimp only at hSw)
        (try go_split_ands)
        first | (go_simp; done) | (go_simp; with_reducible rfl)
      try simp only [Act.put, List.setIfInBounds_toArray, List.set_cons_zero, List.set_cons_succ]
      refine wpAnyH_take (i := 2) (oi := ({ dst := some 40, op := Op.move (Operand.tmp 8), type := 3, pos := _, after := _, guard := none } : Oper)) (v := ?_) rfl (by kernel_rfl) (by kernel_rfl) (by kernel_rfl) (fun _ _ _ h => h) (Or.inl ⟨by rfl, ?_⟩) hSS ?_
      rotate_left
      · intro w9 hSw
        (try dsimp only at hSw)
        (try go_split_ands)
        first | (go_simp; done) | (go_simp; with_reducible rfl)
      try simp only [Act.put, List.setIfInBounds_toArray, List.set_cons_zero, List.set_cons_succ]
      refine wpAnyH_take (i := 3) (oi := ({ dst := some 41, op := Op.slice 23 (Operand.tmp 39) (some (Operand.tmp 40)) none none, type := 23, pos := _, after := _, guard := none } : Oper)) (v := ?_) rfl (by kernel_rfl) (by kernel_rfl) (by kernel_rfl) (fun _ _ _ h => h) (Or.inl ⟨by rfl, ?_⟩) hSS ?_
      rotate_left
      · intro w9 hSw
        (try dsimp only at hSw)
        (try go_split_ands)
        first | (go_simp; done) | (go_simp; with_reducible rfl)
      try simp only [Act.put, List.setIfInBounds_toArray, List.set_cons_zero, List.set_cons_succ]
      refine wpAnyH_take (i := 4) (oi := ({ dst := some 42, op := Op.move (Operand.tmp 7), type := 23, pos := _, after := _, guard := none } : Oper)) (v := ?_) rfl (by kernel_rfl) (by kernel_rfl) (by kernel_rfl) (fun _ _ _ h => h) (Or.inl ⟨by rfl, ?_⟩) hSS ?_
      rotate_left
      · intro w9 hSw
        (try dsimp only at hSw)
        (try go_split_ands)
        first | (go_simp; done) | (go_simp; with_reducible rfl)
      try simp only [Act.put, List.setIfInBounds_toArray, List.set_cons_zero, List.set_cons_succ]
      refine wpAnyH_take (i := 5) (oi := ({ dst := some 43, op := Op.move (Operand.tmp 8), type := 3, pos := _, after := _, guard := none } : Oper)) (v := ?_) rfl (by kernel_rfl) (by kernel_rfl) (by kernel_rfl) (fun _ _ _ h => h) (Or.inl ⟨by rfl, ?_⟩) hSS ?_
      rotate_left
      · intro w9 hSw
        (try dsimp only at hSw)
        (try go_split_ands)
        first | (go_simp; done) | (go_simp; with_reducible rfl)
      try simp only [Act.put, List.setIfInBounds_toArray, List.set_cons_zero, List.set_cons_succ]
      refine wpAnyH_take (i := 6) (oi := ({ dst := some 44, op := Op.slice 23 (Operand.tmp 42) none (some (Operand.tmp 43)) none, type := 23, pos := _, after := _, guard := none } : Oper)) (v := ?_) rfl (by kernel_rfl) (by kernel_rfl) (by kernel_rfl) (fun _ _ _ h => h) (Or.inl ⟨by rfl, ?_⟩) hSS ?_
      rotate_left
      · intro w9 hSw
        (try dsimp only at hSw)
        (try go_split_ands)
        first | (go_simp; done) | (go_simp; with_reducible rfl)
      try simp only [Act.put, List.setIfInBounds_toArray, List.set_cons_zero, List.set_cons_succ]
      refine wpAnyH_ready (rs := [7]) (by kernel_rfl) (by simp) (AllReadyH.cons (o := ({ dst := some 45, op := Op.call { callee := Callee.builtin Builtin.copy, args := #[Operand.tmp 41, Operand.tmp 44], argTypes := #[23, 23] }, type := 3, pos := _, after := _, guard := none } : Oper)) rfl (fun K9 hK9 => ?_) AllReadyH.nil)
      refine step_copy_run rfl _ _ _ _ (by rfl) _ _ (by rfl) (by rfl) _ _ (by exact HC.out) ?_
      refine hK9.out _ _ trivial (fun hSS => ?_)
      clear hK9 K9
      try simp only [Act.put, List.setIfInBounds_toArray, List.set_cons_zero, List.set_cons_succ]
      refine wpAnyH_take (i := 8) (oi := ({ dst := some 46, op := Op.binOp BinOp.add 3 (Operand.tmp 38) (Operand.tmp 45) 3, type := 3, pos := _, after := _, guard := none } : Oper)) (v := ?_) rfl (by kernel_rfl) (by kernel_rfl) (by kernel_rfl) (fun _ _ _ h => h) (Or.inl ⟨by rfl, ?_⟩) hSS ?_
      rotate_left
      · intro w9 hSw
        (try dsimp only at hSw)
        (try go_split_ands)
        first | (go_simp; done) | (go_simp; with_reducible rfl)
      try simp only [Act.put, List.setIfInBounds_toArray, List.set_cons_zero, List.set_cons_succ]
      refine wpAnyH_take (i := 9) (oi := ({ dst := some 8, op := Op.assign (Operand.tmp 46), type := 3, pos := _, after := _, guard := none } : Oper)) (v := ?_) rfl (by kernel_rfl) (by kernel_rfl) (by kernel_rfl) (fun _ _ _ h => h) (Or.inl ⟨by rfl, ?_⟩) hSS ?_
      rotate_left
      · intro w9 hSw
        (try dsimp only at hSw)
        (try go_split_ands)
        first | (go_simp; done) | (go_simp; with_reducible rfl)
      try simp only [Act.put, List.setIfInBounds_toArray, List.set_cons_zero, List.set_cons_succ]
      refine wpAnyH_done (by kernel_rfl) ?_ _
      go_wp2_with fail
      refine ⟨⟨p + k, by rw [Int.natCast_add], HI1.out⟩, ?_⟩
      have := HK.out
      simp only [intOf]
      omega
end Go.Proofs.Ytajnokkmpjdliaa
