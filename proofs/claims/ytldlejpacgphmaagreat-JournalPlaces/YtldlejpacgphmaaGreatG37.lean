import Derived.Test.YtldlejpacgphmaaGreatG36
import Derived.Test.YtldlejpacgphmaaGreatG00
import Derived.Test.YtldlejpacgphmaaGreatG09
namespace Go.Proofs.YtldlejpacgphmaaGreat
open Go.RowKit
set_option maxRecDepth 100000 in
set_option maxHeartbeats 4000000 in
/-- LEFT -/
theorem left_any {Z : Nat → Prop} {w : World} {wb p c : Nat} {jv : Value} {g : Nat} {rm lasted : Int} {off trying : Bool} {tried tl td : Value} {hb hc nb fr bl : Nat} {ta : Option Addr} {tn tc : Nat} {d : Pd} (hW : Wb w wb p c jv g rm lasted off trying tried tl td) (hL : Lg w g (some ⟨hb, 0, none⟩) nb hc fr bl ta tn tc) (hD : Dk Z w p d.img d.puts d.fu d.off nb) (hf : d.Fits nb) (hpl : d.puts.length ≤ 1073741824) (mask : Int) :
    Calls Tryz.prog 12 #[.pointer (some ⟨wb, 0, none⟩), .int .u64 mask] w fun e w' => ∃ ib ic I, e = .returned (.tuple #[.slice (some ⟨ib, 0, none⟩) (512 * nb) ic, .bool true]) ∧ w.heap.size ≤ ib ∧ Own w' ib (512 * nb) ic I ∧ Pl.isB I ∧ (∀ x, d.poss x (imgB I x)) ∧ (d.puts = [] → I = d.img) ∧ Below w.heap.size w w' := by
  obtain ⟨L, hLe⟩ : ∃ L, L = 512 * nb := ⟨_, rfl⟩
  obtain ⟨PO, hPO⟩ : ∃ PO : Ending → World → Prop, PO = fun e w' => ∃ ib ic I, e = .returned (.tuple #[.slice (some ⟨ib, 0, none⟩) (512 * nb) ic, .bool true]) ∧ w.heap.size ≤ ib ∧ Own w' ib (512 * nb) ic I ∧ Pl.isB I ∧ (∀ x, d.poss x (imgB I x)) ∧ (d.puts = [] → I = d.img) ∧ Below w.heap.size w w' := ⟨_, rfl⟩
  rw [← hPO]
  have k0 : w.cell? ⟨wb, 0, none⟩ = some (.pointer (some ⟨p, 0, none⟩)) := hW.cell 0
  have k3 : w.cell? ⟨wb, 3, none⟩ = some (.pointer (some ⟨g, 0, none⟩)) := hW.cell 3
  have c0 := hL.c0
  rw [← hLe] at c0
  have hwl := hW.lt
  have hgl := hL.lt
  have HP := hid (Pending_any hD hpl)
  obtain ⟨n, hn⟩ : ∃ n, n = d.puts.length := ⟨_, rfl⟩
  have hlen : d.img.length = L := by rw [hf.1, hLe]
  have HCr0 : Hid (∀ (w1 w2 : World) (a : Option Addr) (m cp : Nat) (ks : List Int), Below w.heap.size w w1 → Below w1.heap.size w1 w2 → w2.ownsRow w1.heap.size 3 1 (.slice a m cp) m (ks.map (Value.int .i64)) → m ≤ n → GoodK n ks → Calls Tryz.prog 52 #[.pointer (some ⟨p, 0, none⟩), .slice a m cp] w2 fun e w3 => ∃ ib ic, e = .returned (.tuple #[.slice (some ⟨ib, 0, none⟩) L ic, .int .i64 0]) ∧ w3.cell? ⟨wb, 0, none⟩ = some (.pointer (some ⟨p, 0, none⟩)) ∧ (w3.cell? ⟨wb, 3, none⟩ = some (.pointer (some ⟨g, 0, none⟩)) ∧ w3.cell? ⟨g, 0, none⟩ = some (.slice (some ⟨hb, 0, none⟩) L hc) ∧ ∀ w4, w4.heap = w3.heap → Below w3.heap.size w3 w4 → PO (.returned (.tuple #[.slice (some ⟨ib, 0, none⟩) L ic, .bool true])) w4)) := fun w1 w2 a m cp ks b1 b2 q1 q2 q3 => by
    have s1 := b1.size
    have bb : Below w.heap.size w w2 := b1.trans (b2.mono s1)
    have hks : ∀ k ∈ ks, 0 ≤ k ∧ k < (d.puts.length : Int) := fun k hk => by
      obtain ⟨i, hi⟩ := List.mem_iff_getElem?.1 hk
      have hil := (List.getElem?_eq_some_iff.1 hi).1
      have e : ks.getD i 0 = k := by rw [List.getD_eq_getElem?_getD, hi]; rfl
      have h1 := good_lo q3 i hil
      have h2 := (q3 i hil).2
      rw [e] at h1 h2
      rw [← hn]
      exact ⟨h1, h2⟩
    have hpz : placesC d.puts.length ks = 0 := by unfold placesC; rw [← hn, if_pos q3]
    refine Calls.mono (Crash_any (hD.keep (fun k _ hk => bb.block k hk)) hpl a m cp ks (by omega) (rdi_of_owns q1)) ?_
    rintro e w3 ⟨b3, hcase⟩
    rcases hcase with ⟨h1, _⟩ | ⟨_, ib, ic, rfl, hib, hown, hisb⟩
    · exact absurd hpz h1
    · have s2 := bb.size
      have b4 : Below w.heap.size w w3 := bb.trans (b3.mono s2)
      refine ⟨ib, ic, by rw [hlen], (b4.cell (p := ⟨wb, 0, none⟩) hwl).trans k0, (b4.cell (p := ⟨wb, 3, none⟩) hwl).trans k3, (b4.cell (p := ⟨g, 0, none⟩) hgl).trans c0, fun w4 he b5 => ?_⟩
      rw [hPO]
      refine ⟨ib, ic, crashZ d.img d.puts ks, by rw [← hLe], by omega, ?_, hisb, fun x => (Pd.poss_crash hf ks hks x).1, fun hp0 => ?_, b4.trans (b5.mono b4.size)⟩
      · rw [← hf.1]
        exact hown.keep (by rw [he])
      · have hk0 : ks = [] := by
          rcases ks with _ | ⟨k, ks⟩
          · rfl
          · have := hks k (by simp)
            rw [hp0] at this
            simp at this
            omega
        rw [hk0]
        rfl
  have HK0 := hid (fun w1 => kept_any mask n (by omega) w1)
  have HNm0 := hid (num_any 0)
  rw [← hn] at HP
  have hn2 : n ≤ 1073741824 := by omega
  clear hW hL hD hf hpl hn hlen hPO hLe
  go_enter Tryz.func12, Tryz.ntmps12
  go_wp2_with fail
  refine Calls.mono HP.out ?_
  rintro e w1 ⟨g1, rfl, hg1, _, b1⟩
  have HNm1 := hid (HNm0.out w1)
  have m0 := (b1.cell (p := ⟨wb, 0, none⟩) hwl).trans k0
  have hs1 := b1.size
  have hwl1 : wb < w1.heap.size := by omega
  have HK := hid (HK0.out w1.drew)
  have HCr : Hid (∀ (w2 : World) (a : Option Addr) (m cp : Nat) (ks : List Int), Below w1.heap.size w1.drew w2 → w2.ownsRow w1.heap.size 3 1 (.slice a m cp) m (ks.map (Value.int .i64)) → m ≤ n → GoodK n ks → _) := fun w2 a m cp ks b2 => HCr0.out w1.drew w2 a m cp ks b1.drew b2
  clear HP HK0 HCr0 b1 k0 k3 c0
  go_wp2_with fail
  refine Calls.mono HNm1.out ?_
  rintro e w9 ⟨rfl, hw9⟩
  rw [hw9]
  clear hw9 HNm1
  go_wp2_with fail
  refine wp_region_held_drew (S := fun w' => w'.cell? ⟨wb, 0, none⟩ = some (.pointer (some ⟨p, 0, none⟩))) (by kernel_rfl) m0 (fun hSS => ?_)
  refine wpAnyH_take (i := 0) (oi := ({ dst := some 22, op := Op.move (Operand.tmp 0), type := 27, pos := _, after := _, guard := none } : Oper)) (v := ?_) rfl (by kernel_rfl) (by kernel_rfl) (by kernel_rfl) (fun _ _ _ h => h) (Or.inl ⟨by rfl, ?_⟩) hSS ?_
  rotate_left
  · intro w9 hSw
    (try dsimp only at hSw)
    (try go_split_ands)
    first | (go_simp; done) | (go_simp; with_reducible rfl)
  try simp only [Act.put, List.setIfInBounds_toArray, List.set_cons_zero, List.set_cons_succ]
  refine wpAnyH_take (i := 1) (oi := ({ dst := some 23, op := Op.nilCheck (Operand.tmp 22), type := 0, pos := _, after := _, guard := none } : Oper)) (v := ?_) rfl (by kernel_rfl) (by kernel_rfl) (by kernel_rfl) (fun _ _ _ h => h) (Or.inl ⟨by rfl, ?_⟩) hSS ?_
  rotate_left
  · intro w9 hSw
    (try dsimp only at hSw)
    (try go_split_ands)
    first | (go_simp; done) | (go_simp; with_reducible rfl)
  try simp only [Act.put, List.setIfInBounds_toArray, List.set_cons_zero, List.set_cons_succ]
  refine wpAnyH_take (i := 2) (oi := ({ dst := some 24, op := Op.fieldAddr 45 (Operand.tmp 23) 0, type := 0, pos := _, after := _, guard := none } : Oper)) (v := ?_) rfl (by kernel_rfl) (by kernel_rfl) (by kernel_rfl) (fun _ _ _ h => h) (Or.inl ⟨by rfl, ?_⟩) hSS ?_
  rotate_left
  · intro w9 hSw
    (try dsimp only at hSw)
    (try go_split_ands)
    first | (go_simp; done) | (go_simp; with_reducible rfl)
  try simp only [Act.put, List.setIfInBounds_toArray, List.set_cons_zero, List.set_cons_succ]
  refine wpAnyH_take (i := 3) (oi := ({ dst := some 25, op := Op.load 37 (Operand.tmp 24), type := 37, pos := _, after := _, guard := none } : Oper)) (v := ?_) rfl (by kernel_rfl) (by kernel_rfl) (by kernel_rfl) (fun _ _ _ h => h) (Or.inl ⟨by rfl, ?_⟩) hSS ?_
  rotate_left
  · intro w9 hSw
    (try dsimp only at hSw)
    (try go_split_ands)
    first | (go_simp; done) | (go_simp; with_reducible rfl)
  try simp only [Act.put, List.setIfInBounds_toArray, List.set_cons_zero, List.set_cons_succ]
  refine wpAnyH_take (i := 4) (oi := ({ dst := some 26, op := Op.move (Operand.tmp 1), type := 31, pos := _, after := _, guard := none } : Oper)) (v := ?_) rfl (by kernel_rfl) (by kernel_rfl) (by kernel_rfl) (fun _ _ _ h => h) (Or.inl ⟨by rfl, ?_⟩) hSS ?_
  rotate_left
  · intro w9 hSw
    (try dsimp only at hSw)
    (try go_split_ands)
    first | (go_simp; done) | (go_simp; with_reducible rfl)
  try simp only [Act.put, List.setIfInBounds_toArray, List.set_cons_zero, List.set_cons_succ]
  refine wpAnyH_take (i := 5) (oi := ({ dst := some 27, op := Op.move (Operand.tmp 6), type := 94, pos := _, after := _, guard := none } : Oper)) (v := ?_) rfl (by kernel_rfl) (by kernel_rfl) (by kernel_rfl) (fun _ _ _ h => h) (Or.inl ⟨by rfl, ?_⟩) hSS ?_
  rotate_left
  · intro w9 hSw
    (try dsimp only at hSw)
    (try go_split_ands)
    first | (go_simp; done) | (go_simp; with_reducible rfl)
  try simp only [Act.put, List.setIfInBounds_toArray, List.set_cons_zero, List.set_cons_succ]
  refine wpAnyH_take (i := 6) (oi := ({ dst := some 28, op := Op.call { callee := Callee.builtin Builtin.len, args := #[Operand.tmp 27], argTypes := #[94] }, type := 3, pos := _, after := _, guard := none } : Oper)) (v := ?_) rfl (by kernel_rfl) (by kernel_rfl) (by kernel_rfl) (fun _ _ _ h => h) (Or.inl ⟨by rfl, ?_⟩) hSS ?_
  rotate_left
  · intro w9 hSw
    (try dsimp only at hSw)
    (try go_split_ands)
    first | (go_simp; done) | (go_simp; with_reducible rfl)
  try simp only [Act.put, List.setIfInBounds_toArray, List.set_cons_zero, List.set_cons_succ]
  refine wpAnyH_ready (rs := [7]) (by kernel_rfl) (by simp) (AllReadyH.cons (o := ({ dst := some 29, op := Op.call { callee := Callee.value (Operand.func 53), args := #[Operand.tmp 26, Operand.tmp 28], argTypes := #[31, 3] }, type := 94, pos := _, after := _, guard := none } : Oper)) rfl (fun K9 hK9 => ?_) AllReadyH.nil)
  go_simp
  go_at_call 53
  refine Calls.mono HK.out ?_
  rintro e w2 ⟨a2, m2, cp2, ks, rfl, q1, q2, q3, b2⟩
  have HC2 := hid (HCr.out w2 a2 m2 cp2 ks b2 q1 q2 q3)
  have n0 := (b2.cell (p := ⟨wb, 0, none⟩) hwl1).trans m0
  clear HK HCr q1 q2 q3 b2
  refine hK9.out _ _ n0 (fun hSS => ?_)
  clear hK9 K9
  try simp only [Act.put, List.setIfInBounds_toArray, List.set_cons_zero, List.set_cons_succ]
  refine wpAnyH_ready (rs := [8]) (by kernel_rfl) (by simp) (AllReadyH.cons (o := ({ dst := some 30, op := Op.call { callee := Callee.value (Operand.func 52), args := #[Operand.tmp 25, Operand.tmp 29], argTypes := #[37, 94] }, type := 72, pos := _, after := _, guard := none } : Oper)) rfl (fun K9 hK9 => ?_) AllReadyH.nil)
  go_simp
  go_at_call 52
  refine Calls.mono HC2.out ?_
  rintro e w3 ⟨ib, ic, rfl, r0, r1⟩
  have HR3 := hid r1
  clear r1 HC2
  refine hK9.out _ _ r0 (fun hSS => ?_)
  clear hK9 K9
  try simp only [Act.put, List.setIfInBounds_toArray, List.set_cons_zero, List.set_cons_succ]
  refine wpAnyH_take (i := 9) (oi := ({ dst := some 21, op := Op.move (Operand.tmp 30), type := 72, pos := _, after := _, guard := none } : Oper)) (v := ?_) rfl (by kernel_rfl) (by kernel_rfl) (by kernel_rfl) (fun _ _ _ h => h) (Or.inl ⟨by rfl, ?_⟩) hSS ?_
  rotate_left
  · intro w9 hSw
    (try dsimp only at hSw)
    (try go_split_ands)
    first | (go_simp; done) | (go_simp; with_reducible rfl)
  try simp only [Act.put, List.setIfInBounds_toArray, List.set_cons_zero, List.set_cons_succ]
  refine wpAnyH_take (i := 10) (oi := ({ dst := some 31, op := Op.extract (Operand.tmp 21) 0, type := 22, pos := _, after := _, guard := none } : Oper)) (v := ?_) rfl (by kernel_rfl) (by kernel_rfl) (by kernel_rfl) (fun _ _ _ h => h) (Or.inl ⟨by rfl, ?_⟩) hSS ?_
  rotate_left
  · intro w9 hSw
    (try dsimp only at hSw)
    (try go_split_ands)
    first | (go_simp; done) | (go_simp; with_reducible rfl)
  try simp only [Act.put, List.setIfInBounds_toArray, List.set_cons_zero, List.set_cons_succ]
  refine wpAnyH_take (i := 11) (oi := ({ dst := some 32, op := Op.extract (Operand.tmp 21) 1, type := 55, pos := _, after := _, guard := none } : Oper)) (v := ?_) rfl (by kernel_rfl) (by kernel_rfl) (by kernel_rfl) (fun _ _ _ h => h) (Or.inl ⟨by rfl, ?_⟩) hSS ?_
  rotate_left
  · intro w9 hSw
    (try dsimp only at hSw)
    (try go_split_ands)
    first | (go_simp; done) | (go_simp; with_reducible rfl)
  try simp only [Act.put, List.setIfInBounds_toArray, List.set_cons_zero, List.set_cons_succ]
  refine wpAnyH_take (i := 12) (oi := ({ dst := some 8, op := Op.assign (Operand.tmp 31), type := 22, pos := _, after := _, guard := none } : Oper)) (v := ?_) rfl (by kernel_rfl) (by kernel_rfl) (by kernel_rfl) (fun _ _ _ h => h) (Or.inl ⟨by rfl, ?_⟩) hSS ?_
  rotate_left
  · intro w9 hSw
    (try dsimp only at hSw)
    (try go_split_ands)
    first | (go_simp; done) | (go_simp; with_reducible rfl)
  try simp only [Act.put, List.setIfInBounds_toArray, List.set_cons_zero, List.set_cons_succ]
  refine wpAnyH_take (i := 13) (oi := ({ dst := some 9, op := Op.assign (Operand.tmp 32), type := 55, pos := _, after := _, guard := none } : Oper)) (v := ?_) rfl (by kernel_rfl) (by kernel_rfl) (by kernel_rfl) (fun _ _ _ h => h) (Or.inl ⟨by rfl, ?_⟩) hSS ?_
  rotate_left
  · intro w9 hSw
    (try dsimp only at hSw)
    (try go_split_ands)
    first | (go_simp; done) | (go_simp; with_reducible rfl)
  try simp only [Act.put, List.setIfInBounds_toArray, List.set_cons_zero, List.set_cons_succ]
  refine wpAnyH_done (by kernel_rfl) ?_ _
  obtain ⟨s3, s0, HE⟩ := HR3.out
  have HEh := hid HE
  have HNm := hid (HNm0.out w3.drew)
  have FIN : Hid (PO (.returned (.tuple #[.slice (some ⟨ib, 0, none⟩) L ic, .bool true])) w3.drew) := HE w3.drew rfl (Below.refl _ _).drew
  clear HE HR3 r0 n0 m0 hSS HNm0 HEh
  go_wp2_with fail
  refine wp_region_held_drew (S := fun w' => w'.cell? ⟨wb, 3, none⟩ = some (.pointer (some ⟨g, 0, none⟩)) ∧ w'.cell? ⟨g, 0, none⟩ = some (.slice (some ⟨hb, 0, none⟩) L hc)) (by kernel_rfl) ⟨s3, s0⟩ (fun hSS => ?_)
  refine wpAnyH_take (i := 0) (oi := ({ dst := some 33, op := Op.move (Operand.tmp 8), type := 22, pos := _, after := _, guard := none } : Oper)) (v := ?_) rfl (by kernel_rfl) (by kernel_rfl) (by kernel_rfl) (fun _ _ _ h => h) (Or.inl ⟨by rfl, ?_⟩) hSS ?_
  rotate_left
  · intro w9 hSw
    (try dsimp only at hSw)
    (try go_split_ands)
    first | (go_simp; done) | (go_simp; with_reducible rfl)
  try simp only [Act.put, List.setIfInBounds_toArray, List.set_cons_zero, List.set_cons_succ]
  refine wpAnyH_take (i := 1) (oi := ({ dst := some 34, op := Op.move (Operand.tmp 9), type := 55, pos := _, after := _, guard := none } : Oper)) (v := ?_) rfl (by kernel_rfl) (by kernel_rfl) (by kernel_rfl) (fun _ _ _ h => h) (Or.inl ⟨by rfl, ?_⟩) hSS ?_
  rotate_left
  · intro w9 hSw
    (try dsimp only at hSw)
    (try go_split_ands)
    first | (go_simp; done) | (go_simp; with_reducible rfl)
  try simp only [Act.put, List.setIfInBounds_toArray, List.set_cons_zero, List.set_cons_succ]
  refine wpAnyH_ready (rs := [2]) (by kernel_rfl) (by simp) (AllReadyH.cons (o := ({ dst := some 35, op := Op.call { callee := Callee.value (Operand.func 20), args := #[Operand.tmp 34], argTypes := #[55] }, type := 3, pos := _, after := _, guard := none } : Oper)) rfl (fun K9 hK9 => ?_) AllReadyH.nil)
  go_simp
  go_at_call 20
  refine Calls.mono HNm.out ?_
  rintro e w9 ⟨rfl, hw9⟩
  rw [hw9]
  clear hw9 HNm
  refine hK9.out _ _ hSS (fun hSS => ?_)
  clear hK9 K9
  try simp only [Act.put, List.setIfInBounds_toArray, List.set_cons_zero, List.set_cons_succ]
  refine wpAnyH_take (i := 3) (oi := ({ dst := some 36, op := Op.binOp BinOp.eql 3 (Operand.tmp 35) (Operand.const (Value.int IntKind.i64 0)) 3, type := 4, pos := _, after := _, guard := none } : Oper)) (v := ?_) rfl (by kernel_rfl) (by kernel_rfl) (by kernel_rfl) (fun _ _ _ h => h) (Or.inl ⟨by rfl, ?_⟩) hSS ?_
  rotate_left
  · intro w9 hSw
    (try dsimp only at hSw)
    (try go_split_ands)
    first | (go_simp; done) | (go_simp; with_reducible rfl)
  try simp only [Act.put, List.setIfInBounds_toArray, List.set_cons_zero, List.set_cons_succ]
  refine wpAnyH_take (i := 4) (oi := ({ dst := some 37, op := Op.move (Operand.tmp 36), type := 4, pos := _, after := _, guard := none } : Oper)) (v := ?_) rfl (by kernel_rfl) (by kernel_rfl) (by kernel_rfl) (fun _ _ _ h => h) (Or.inl ⟨by rfl, ?_⟩) hSS ?_
  rotate_left
  · intro w9 hSw
    (try dsimp only at hSw)
    (try go_split_ands)
    first | (go_simp; done) | (go_simp; with_reducible rfl)
  try simp only [Act.put, List.setIfInBounds_toArray, List.set_cons_zero, List.set_cons_succ]
  refine wpAnyH_take (i := 5) (oi := ({ dst := some 38, op := Op.move (Operand.tmp 8), type := 22, pos := _, after := _, guard := some (4, true) } : Oper)) (v := ?_) rfl (by kernel_rfl) (by kernel_rfl) (by kernel_rfl) (fun _ _ _ h => h) (Or.inl ⟨by rfl, ?_⟩) hSS ?_
  rotate_left
  · intro w9 hSw
    (try dsimp only at hSw)
    (try go_split_ands)
    first | (go_simp; done) | (go_simp; with_reducible rfl)
  try simp only [Act.put, List.setIfInBounds_toArray, List.set_cons_zero, List.set_cons_succ]
  refine wpAnyH_take (i := 6) (oi := ({ dst := some 39, op := Op.call { callee := Callee.builtin Builtin.len, args := #[Operand.tmp 38], argTypes := #[22] }, type := 3, pos := _, after := _, guard := some (4, true) } : Oper)) (v := ?_) rfl (by kernel_rfl) (by kernel_rfl) (by kernel_rfl) (fun _ _ _ h => h) (Or.inl ⟨by rfl, ?_⟩) hSS ?_
  rotate_left
  · intro w9 hSw
    (try dsimp only at hSw)
    (try go_split_ands)
    first | (go_simp; done) | (go_simp; with_reducible rfl)
  try simp only [Act.put, List.setIfInBounds_toArray, List.set_cons_zero, List.set_cons_succ]
  refine wpAnyH_take (i := 7) (oi := ({ dst := some 40, op := Op.move (Operand.tmp 0), type := 27, pos := _, after := _, guard := some (4, true) } : Oper)) (v := ?_) rfl (by kernel_rfl) (by kernel_rfl) (by kernel_rfl) (fun _ _ _ h => h) (Or.inl ⟨by rfl, ?_⟩) hSS ?_
  rotate_left
  · intro w9 hSw
    (try dsimp only at hSw)
    (try go_split_ands)
    first | (go_simp; done) | (go_simp; with_reducible rfl)
  try simp only [Act.put, List.setIfInBounds_toArray, List.set_cons_zero, List.set_cons_succ]
  refine wpAnyH_take (i := 8) (oi := ({ dst := some 41, op := Op.nilCheck (Operand.tmp 40), type := 0, pos := _, after := _, guard := some (4, true) } : Oper)) (v := ?_) rfl (by kernel_rfl) (by kernel_rfl) (by kernel_rfl) (fun _ _ _ h => h) (Or.inl ⟨by rfl, ?_⟩) hSS ?_
  rotate_left
  · intro w9 hSw
    (try dsimp only at hSw)
    (try go_split_ands)
    first | (go_simp; done) | (go_simp; with_reducible rfl)
  try simp only [Act.put, List.setIfInBounds_toArray, List.set_cons_zero, List.set_cons_succ]
  refine wpAnyH_take (i := 9) (oi := ({ dst := some 42, op := Op.fieldAddr 45 (Operand.tmp 41) 3, type := 0, pos := _, after := _, guard := some (4, true) } : Oper)) (v := ?_) rfl (by kernel_rfl) (by kernel_rfl) (by kernel_rfl) (fun _ _ _ h => h) (Or.inl ⟨by rfl, ?_⟩) hSS ?_
  rotate_left
  · intro w9 hSw
    (try dsimp only at hSw)
    (try go_split_ands)
    first | (go_simp; done) | (go_simp; with_reducible rfl)
  try simp only [Act.put, List.setIfInBounds_toArray, List.set_cons_zero, List.set_cons_succ]
  refine wpAnyH_take (i := 10) (oi := ({ dst := some 43, op := Op.load 40 (Operand.tmp 42), type := 40, pos := _, after := _, guard := some (4, true) } : Oper)) (v := ?_) rfl (by kernel_rfl) (by kernel_rfl) (by kernel_rfl) (fun _ _ _ h => h) (Or.inl ⟨by rfl, ?_⟩) hSS ?_
  rotate_left
  · intro w9 hSw
    (try dsimp only at hSw)
    (try go_split_ands)
    first | (go_simp; done) | (go_simp; with_reducible rfl)
  try simp only [Act.put, List.setIfInBounds_toArray, List.set_cons_zero, List.set_cons_succ]
  refine wpAnyH_take (i := 11) (oi := ({ dst := some 44, op := Op.nilCheck (Operand.tmp 43), type := 0, pos := _, after := _, guard := some (4, true) } : Oper)) (v := ?_) rfl (by kernel_rfl) (by kernel_rfl) (by kernel_rfl) (fun _ _ _ h => h) (Or.inl ⟨by rfl, ?_⟩) hSS ?_
  rotate_left
  · intro w9 hSw
    (try dsimp only at hSw)
    (try go_split_ands)
    first | (go_simp; done) | (go_simp; with_reducible rfl)
  try simp only [Act.put, List.setIfInBounds_toArray, List.set_cons_zero, List.set_cons_succ]
  refine wpAnyH_take (i := 12) (oi := ({ dst := some 45, op := Op.fieldAddr 48 (Operand.tmp 44) 0, type := 0, pos := _, after := _, guard := some (4, true) } : Oper)) (v := ?_) rfl (by kernel_rfl) (by kernel_rfl) (by kernel_rfl) (fun _ _ _ h => h) (Or.inl ⟨by rfl, ?_⟩) hSS ?_
  rotate_left
  · intro w9 hSw
    (try dsimp only at hSw)
    (try go_split_ands)
    first | (go_simp; done) | (go_simp; with_reducible rfl)
  try simp only [Act.put, List.setIfInBounds_toArray, List.set_cons_zero, List.set_cons_succ]
  refine wpAnyH_take (i := 13) (oi := ({ dst := some 46, op := Op.load 22 (Operand.tmp 45), type := 22, pos := _, after := _, guard := some (4, true) } : Oper)) (v := ?_) rfl (by kernel_rfl) (by kernel_rfl) (by kernel_rfl) (fun _ _ _ h => h) (Or.inl ⟨by rfl, ?_⟩) hSS ?_
  rotate_left
  · intro w9 hSw
    (try dsimp only at hSw)
    (try go_split_ands)
    first | (go_simp; done) | (go_simp; with_reducible rfl)
  try simp only [Act.put, List.setIfInBounds_toArray, List.set_cons_zero, List.set_cons_succ]
  refine wpAnyH_take (i := 14) (oi := ({ dst := some 47, op := Op.call { callee := Callee.builtin Builtin.len, args := #[Operand.tmp 46], argTypes := #[22] }, type := 3, pos := _, after := _, guard := some (4, true) } : Oper)) (v := ?_) rfl (by kernel_rfl) (by kernel_rfl) (by kernel_rfl) (fun _ _ _ h => h) (Or.inl ⟨by rfl, ?_⟩) hSS ?_
  rotate_left
  · intro w9 hSw
    (try dsimp only at hSw)
    (try go_split_ands)
    first | (go_simp; done) | (go_simp; with_reducible rfl)
  try simp only [Act.put, List.setIfInBounds_toArray, List.set_cons_zero, List.set_cons_succ]
  refine wpAnyH_take (i := 15) (oi := ({ dst := some 48, op := Op.binOp BinOp.eql 3 (Operand.tmp 39) (Operand.tmp 47) 3, type := 4, pos := _, after := _, guard := some (4, true) } : Oper)) (v := ?_) rfl (by kernel_rfl) (by kernel_rfl) (by kernel_rfl) (fun _ _ _ h => h) (Or.inl ⟨by rfl, ?_⟩) hSS ?_
  rotate_left
  · intro w9 hSw
    (try dsimp only at hSw)
    (try go_split_ands)
    first | (go_simp; done) | (go_simp; with_reducible rfl)
  try simp only [Act.put, List.setIfInBounds_toArray, List.set_cons_zero, List.set_cons_succ]
  refine wpAnyH_take (i := 16) (oi := ({ dst := some 49, op := Op.pick (Operand.tmp 37) (Operand.tmp 48) (Operand.const (Value.bool false)), type := 4, pos := _, after := _, guard := none } : Oper)) (v := ?_) rfl (by kernel_rfl) (by kernel_rfl) (by kernel_rfl) (fun _ _ _ h => h) (Or.inl ⟨by rfl, ?_⟩) hSS ?_
  rotate_left
  · intro w9 hSw
    (try dsimp only at hSw)
    (try go_split_ands)
    first | (go_simp; done) | (go_simp; with_reducible rfl)
  try simp only [Act.put, List.setIfInBounds_toArray, List.set_cons_zero, List.set_cons_succ]
  refine wpAnyH_take (i := 17) (oi := ({ dst := some 4, op := Op.assign (Operand.tmp 33), type := 22, pos := _, after := _, guard := none } : Oper)) (v := ?_) rfl (by kernel_rfl) (by kernel_rfl) (by kernel_rfl) (fun _ _ _ h => h) (Or.inl ⟨by rfl, ?_⟩) hSS ?_
  rotate_left
  · intro w9 hSw
    (try dsimp only at hSw)
    (try go_split_ands)
    first | (go_simp; done) | (go_simp; with_reducible rfl)
  try simp only [Act.put, List.setIfInBounds_toArray, List.set_cons_zero, List.set_cons_succ]
  refine wpAnyH_take (i := 18) (oi := ({ dst := some 5, op := Op.assign (Operand.tmp 49), type := 4, pos := _, after := _, guard := none } : Oper)) (v := ?_) rfl (by kernel_rfl) (by kernel_rfl) (by kernel_rfl) (fun _ _ _ h => h) (Or.inl ⟨by rfl, ?_⟩) hSS ?_
  rotate_left
  · intro w9 hSw
    (try dsimp only at hSw)
    (try go_split_ands)
    first | (go_simp; done) | (go_simp; with_reducible rfl)
  try simp only [Act.put, List.setIfInBounds_toArray, List.set_cons_zero, List.set_cons_succ]
  refine wpAnyH_done (by kernel_rfl) ?_ _
  go_wp2
  exact FIN.out
end Go.Proofs.YtldlejpacgphmaaGreat
namespace Go.Proofs.YtldlejpacgphmaaGreat
open Go.RowKit
theorem idx117 (a b c : Int) (w : World) (i : Int) (v : Int) (hi : 0 ≤ i) (hi3 : i < 3) (h : #[Value.int .u64 a, .int .u64 b, .int .u64 c][i.toNat]? = some (.int .u64 v)) : (Instr.index 117 (.agg #[.int .u64 a, .int .u64 b, .int .u64 c]) (.int .i64 i)).run Tryz.prog w = .ok (.int .u64 v) w := by
  have hcase : i = 0 ∨ i = 1 ∨ i = 2 := by omega
  unfold Instr.index
  rcases hcase with rfl | rfl | rfl
  · simp at h
    subst h
    simp [run_underlying Tryz.underlying117, asIntOf, go_sem, part]
  · simp at h
    subst h
    simp [run_underlying Tryz.underlying117, asIntOf, go_sem, part]
  · simp at h
    subst h
    simp [run_underlying Tryz.underlying117, asIntOf, go_sem, part]
set_option maxRecDepth 100000 in
set_option maxHeartbeats 4000000 in
/-- PROBES -/
theorem probes_any {X Z : Nat → Prop} {w : World} {wb p c : Nat} {jv : Value} {g room : Nat} {lasted : Int} {off : Bool} {tried tl td : Value} {hb hc nb fr bl : Nat} {H : List Int} {ta : Option Addr} {tc : Nat} {vs : List Value} {Us : List (List Pm)} {d : Pd} {lo : Nat} (hW : Wb w wb p c jv g (room : Int) lasted off false tried tl td) (hL : LgW X w g hb hc nb fr bl H ta tc vs Us) (r1 : 1 ≤ room) (r2 : room ≤ 4096) (hD : Dk Z w p d.img d.puts d.fu d.off nb) (hf : d.Fits nb)
    (hC : Cut d nb fr bl lo (imgB H) (plainT Us)) (hla : lasted ≤ (lo : Int)) (hlo : 16 ≤ bl) (hfit : fr + bl ≤ nb) (hnb : nb ≤ 524288) (hUs : Us.length ≤ 1099511627776) (mask : Int) :
    Calls Tryz.prog 31 #[.pointer (some ⟨wb, 0, none⟩), .int .u64 mask] w fun e w' => e = .returned (.bool true) ∧ Below w.heap.size w w' := by
  have hpl : d.puts.length ≤ 1073741824 := by have := hC.pl; omega
  have HLe : Hid (∀ (w' : World) (m : Int), Below w.heap.size w w' → Calls Tryz.prog 12 #[.pointer (some ⟨wb, 0, none⟩), .int .u64 m] w' fun e w'' => ∃ ib ic, e = .returned (.tuple #[.slice (some ⟨ib, 0, none⟩) (512 * nb) ic, .bool true]) ∧ Calls Tryz.prog 13 #[.pointer (some ⟨wb, 0, none⟩), .slice (some ⟨ib, 0, none⟩) (512 * nb) ic] w'' fun e w3 => e = .returned (.bool true) ∧ Below w.heap.size w w3) := fun w' m hb' => by
    refine Calls.mono (left_any (hW.keep (hb'.block wb hW.lt)) (hL.lg.keep (hb'.block g hL.gl)) (hD.keep (fun k _ hk => hb'.block k hk)) hf hpl m) ?_
    rintro e w'' ⟨ib, ic, I, rfl, _, q2, q3, q4, _, q6⟩
    have bb : Below w.heap.size w w'' := hb'.trans (q6.mono hb'.size)
    refine ⟨ib, ic, rfl, Calls.mono (probe_any (hW.keep (bb.block wb hW.lt)) (hL.below bb X (fun _ _ q => q)) r1 r2 q2 q3 hC (fun x _ => q4 x) hla hlo hfit hnb hUs) ?_⟩
    rintro e w3 ⟨rfl, b3⟩
    exact ⟨rfl, bb.trans (b3.mono bb.size)⟩
  clear hW hL hD hf hC hla hpl hUs r1 r2
  obtain ⟨L, hLe⟩ : ∃ L, L = 512 * nb := ⟨_, rfl⟩
  rw [← hLe] at HLe
  clear hLe
  go_enter Tryz.func31, Tryz.ntmps31
  go_wp2_with fail
  go_loopw [5] (fun iv wr => ∃ i : Nat, i ≤ 3 ∧ iv = .int .i64 (i : Int) ∧ Below w.heap.size w wr) (fun iv _ => 3 - (intOf iv).toNat)
  case atStart => exact ⟨0, by omega, rfl, Below.refl _ _⟩
  case round =>
    obtain ⟨i, hi, rfl, hbt⟩ := hrel
    by_cases hi3 : i < 3
    · have key : ∀ m : Int, Hid (Calls Tryz.prog 12 #[.pointer (some ⟨wb, 0, none⟩), .int .u64 m] wr fun e w'' => ∃ ib ic, e = .returned (.tuple #[.slice (some ⟨ib, 0, none⟩) L ic, .bool true]) ∧ Calls Tryz.prog 13 #[.pointer (some ⟨wb, 0, none⟩), .slice (some ⟨ib, 0, none⟩) L ic] w'' fun e w3 => e = .returned (.bool true) ∧ Below w.heap.size w w3) := fun m => HLe.out wr m hbt
      have hcases : i = 0 ∨ i = 1 ∨ i = 2 := by omega
      clear hbt HLe
      rcases hcases with rfl | rfl | rfl
      · have HK := key 0
        have hix := idx117 0 18446744073709551615 mask wr 0 0 (by decide) (by decide) rfl
        clear key
        go_wp2_with fail
        refine Calls.mono HK.out ?_
        rintro e w2 ⟨ib, ic, rfl, HP⟩
        have HP2 := hid HP
        clear HP HK
        go_wp2_with fail
        refine Calls.mono HP2.out ?_
        rintro e w3 ⟨rfl, b3⟩
        have FIN := hid b3
        clear b3 HP2
        go_wp2
        refine ⟨⟨1, by omega, by go_num, FIN.out⟩, ?_⟩
        simp [intOf]
      · have HK := key 18446744073709551615
        have hix := idx117 0 18446744073709551615 mask wr 1 18446744073709551615 (by decide) (by decide) rfl
        clear key
        go_wp2_with fail
        refine Calls.mono HK.out ?_
        rintro e w2 ⟨ib, ic, rfl, HP⟩
        have HP2 := hid HP
        clear HP HK
        go_wp2_with fail
        refine Calls.mono HP2.out ?_
        rintro e w3 ⟨rfl, b3⟩
        have FIN := hid b3
        clear b3 HP2
        go_wp2
        refine ⟨⟨2, by omega, by go_num, FIN.out⟩, ?_⟩
        simp [intOf]
      · have HK := key mask
        have hix := idx117 0 18446744073709551615 mask wr 2 mask (by decide) (by decide) rfl
        clear key
        go_wp2_with fail
        refine Calls.mono HK.out ?_
        rintro e w2 ⟨ib, ic, rfl, HP⟩
        have HP2 := hid HP
        clear HP HK
        go_wp2_with fail
        refine Calls.mono HP2.out ?_
        rintro e w3 ⟨rfl, b3⟩
        have FIN := hid b3
        clear b3 HP2
        go_wp2
        refine ⟨⟨3, by omega, by go_num, FIN.out⟩, ?_⟩
        simp [intOf]
    · have hie : i = 3 := by omega
      subst hie
      have FIN := hid hbt
      clear hbt HLe
      go_wp2
      go_ret
      exact ⟨rfl, FIN.out⟩
end Go.Proofs.YtldlejpacgphmaaGreat
namespace Go.Proofs.YtldlejpacgphmaaGreat
open Go.RowKit
/-! ### the lender -/
/-- block L is a lender whose buffer is bv and whose number is N -/
def Lnd (w : World) (L : Nat) (bv : Value) (N : Int) : Prop := w.heap[L]? = some (.cells #[bv, .int .i64 N] 160 (0, 0))
theorem Lnd.lt {w : World} {L : Nat} {bv : Value} {N : Int} (h : Lnd w L bv N) : L < w.heap.size := (Array.getElem?_eq_some_iff.1 h).1
theorem Lnd.buf {w : World} {L : Nat} {bv : Value} {N : Int} (h : Lnd w L bv N) : w.cell? ⟨L, 0, none⟩ = some bv := by unfold Lnd at h; simp [World.cell?, h]
theorem Lnd.num {w : World} {L : Nat} {bv : Value} {N : Int} (h : Lnd w L bv N) : w.cell? ⟨L, 1, none⟩ = some (.int .i64 N) := by unfold Lnd at h; simp [World.cell?, h]
theorem Lnd.frozen {w : World} {L : Nat} {bv : Value} {N : Int} (h : Lnd w L bv N) (t : Nat) : w.frozen? ⟨L, t, none⟩ = false := by unfold Lnd at h; simp [World.frozen?, h]
theorem Lnd.of_block {w w' : World} {L : Nat} {bv : Value} {N : Int} (h : Lnd w L bv N) (hw : w'.heap[L]? = w.heap[L]?) : Lnd w' L bv N := by unfold Lnd at *; rw [hw]; exact h
theorem Lnd.setOther {w : World} {L : Nat} {bv : Value} {N : Int} (h : Lnd w L bv N) {p : Addr} (hp : L ≠ p.block) (u : Value) : Lnd (w.setCell p u) L bv N := h.of_block (Below.heap_setCell _ _ _ _ hp)
theorem Lnd.alloc {w : World} {L : Nat} {bv : Value} {N : Int} (h : Lnd w L bv N) (o : Obj) : Lnd (w.alloc o) L bv N := h.of_block (Below.heap_alloc _ _ _ h.lt)
theorem Lnd.setBuf {w : World} {L : Nat} {bv : Value} {N : Int} (h : Lnd w L bv N) (u : Value) : Lnd (w.setCell ⟨L, 0, none⟩ u) L u N := by
  unfold Lnd at *
  simp only [World.setCell, Array.getElem?_modify]
  rw [h]
  simp
theorem Lnd.setNum {w : World} {L : Nat} {bv : Value} {N : Int} (h : Lnd w L bv N) (u : Int) : Lnd (w.setCell ⟨L, 1, none⟩ (.int .i64 u)) L bv u := by
  unfold Lnd at *
  simp only [World.setCell, Array.getElem?_modify]
  rw [h]
  simp
/-- the mark at a place; what lies in the buffer -/
def mk (i : Nat) : Int := (203 - 5 * (i : Int)) % 256
def lent (zs : List Int) : List Int := zs ++ (List.range (zs.length + 70)).map fun i => mk (zs.length + i)
theorem length_lent (zs : List Int) : (lent zs).length = 2 * zs.length + 70 := by simp [lent]; omega
theorem lent_lo {zs : List Int} {k : Nat} (h : k < zs.length) : (lent zs).getD k 0 = zs.getD k 0 := by
  simp [lent, h, List.getElem?_append_left]
theorem lent_hi {zs : List Int} {k : Nat} (h : zs.length ≤ k) (h2 : k < 2 * zs.length + 70) : (lent zs).getD k 0 = mk k := by
  have h3 : k - zs.length < zs.length + 70 := by omega
  simp [lent, List.getElem?_append_right h, h3]
  congr 1
  omega
set_option maxHeartbeats 400000 in
theorem mark_any (p : Value) (i : Nat) (w : World) (h : i ≤ 1073741824) :
    Calls Tryz.prog 135 #[p, .int .i64 (i : Int)] w fun e w' => e = .returned (.int .u8 (mk i)) ∧ w' = w := by
  go_enter Tryz.func135, Tryz.ntmps135
  go_wp2
  go_ret
  exact ⟨rfl, rfl⟩
end Go.Proofs.YtldlejpacgphmaaGreat
