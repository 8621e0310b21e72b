import Derived.Test.YtoifmiloaefanaaDoorZUl0
import Derived.Test.YtoifmiloaefanaaDoorZRt0
/-
  fair: any token as one that may be: a number, a mark.
-/
namespace Go.Proofs.YtoifmiloaefanaaDoor
open Go.RowKit

theorem and62 (x : Int) : bits .and .i64 x 4611686018427387903 = x % 4611686018427387904 := by
  show IntKind.i64.wrap ((BitVec.ofInt 64 x &&& BitVec.ofInt 64 4611686018427387903).toNat : Int) = _
  rw [BitVec.toNat_and, show (BitVec.ofInt 64 4611686018427387903).toNat = 2 ^ 62 - 1 from by decide, Nat.and_two_pow_sub_one_eq_mod, BitVec.toNat_ofInt, IntKind.wrap_i64]
  omega
theorem and3 (x : Int) : bits .and .i64 x 3 = x % 4 := by
  show IntKind.i64.wrap ((BitVec.ofInt 64 x &&& BitVec.ofInt 64 3).toNat : Int) = _
  rw [BitVec.toNat_and, show (BitVec.ofInt 64 3).toNat = 2 ^ 2 - 1 from by decide, Nat.and_two_pow_sub_one_eq_mod, BitVec.toNat_ofInt, IntKind.wrap_i64]
  omega
theorem results_one {P : Program} {fn : Func} {p : Tmp} {ty : TypeId} (h : fn.results = #[.cell p ty]) (tmps : Array Value) (w : World) (g : Nat) (t : TypeId) (cs : Array Value) (fr : Nat × Nat) (d : TypeDesc)
    (hp : tmps.getD p undef = .pointer (some ⟨g, 0, none⟩)) (hg : w.heap[g]? = some (.cells cs t fr))
    (hu : P.underlying ty = some d) (hd : (match d with | .struct _ | .array _ _ => true | _ => false) = true) (hi : (P.info? ty).map (·.size) = some cs.size) :
    (results fn tmps).run P w = .ok (.agg cs) w := by
  have hp' : tmps[p]?.getD undef = .pointer (some ⟨g, 0, none⟩) := by rw [← Array.getD_eq_getD_getElem?]; exact hp
  simp only [results, h]
  simp [asAddr, hp', run_loadVar_row w g t ty cs fr d hg hu hd hi]
theorem results_tok1 {fn : Func} {p : Tmp} (h : fn.results = #[.cell p 29]) (tmps : Array Value) (w : World) (R : Nat) (k : Int) (s : ByteArray) (n a : Int) (hp : tmps.getD p undef = .pointer (some ⟨R, 0, none⟩)) (hB : TkB w R k s n a) :
    (results fn tmps).run Tryd.prog w = .ok (.agg (tcs k s n a)) w :=
  results_one h tmps w R 29 _ (0, 0) _ hp hB Tryd.underlying29 rfl (by kernel_rfl)
/-- what fair answers -/
def FrQ (w : World) (e : Ending) (w' : World) : Prop := ∃ u : Tk, e = .returned (tokV u) ∧ mayT u = true ∧ TkH u ∧ u.tx.length ≤ 600000 ∧ Below w.heap.size w w'
theorem FrQ.mk {w : World} {k n : Int} {l : List Int} (w' : World) (hm : mayT ⟨k, l, n, 0⟩ = true) (hB : Pl.isB l) (hl : l.length ≤ 600000) (hn : 0 ≤ n ∧ n ≤ 1099511627776) (hb : Below w.heap.size w w') : FrQ w (.returned (.agg (tcs k (strOfNums l) n 0))) w' :=
  ⟨⟨k, l, n, 0⟩, rfl, hm, ⟨hB, by simp only; omega, by simp only; omega, by simp only; omega⟩, hl, hb⟩
theorem str_take_cut (l : List Int) (m : Nat) : (strOfNums l).extract 0 m = strOfNums (l.take m) := by
  rw [str_cut]
  rfl
theorem tkb2 (w : World) (A : Obj) (k : Int) (s : ByteArray) (n a : Int) : TkB ((w.alloc A).alloc (.cells (tcs k s n a) 29)) (w.heap.size + 1) k s n a := by
  have := heap_new (w.alloc A) (.cells (tcs k s n a) 29)
  unfold TkB
  simpa using this
theorem below2 (w : World) (A B : Obj) : Below w.heap.size w ((w.alloc A).alloc B) := (below1 w A).trans ((below1 _ B).mono (by simp))
set_option maxRecDepth 100000 in
set_option maxHeartbeats 2000000 in
theorem fair_num (k : Int) (l : List Int) (n a : Int) (w : World) (hk : k % 4 = 2) (hl : l.length ≤ 140737488355328) : Calls Tryd.prog 10 #[.agg (tcs k (strOfNums l) n a)] w (FrQ w) := by
  obtain ⟨PQ, hPQ⟩ : ∃ PQ, PQ = FrQ w := ⟨_, rfl⟩
  rw [← hPQ]
  have hand := (and3 k).trans hk
  have ha62 := and62 n
  obtain ⟨x, hx⟩ : ∃ x : Int, x = n % 4611686018427387904 := ⟨_, rfl⟩
  rw [← hx] at ha62
  obtain ⟨y, hy⟩ : ∃ y : Int, y = x.tmod 1099511627777 := ⟨_, rfl⟩
  have hyb : 0 ≤ y ∧ y ≤ 1099511627776 := by
    rw [hy, Int.tmod_eq_emod_of_nonneg (by omega)]
    omega
  have hxb0 : 0 ≤ x := by omega
  have hxb1 : x < 4611686018427387904 := by omega
  have HP : Hid (∀ w', Below w.heap.size w w' → PQ (.returned (.agg (tcs 3 ⟨#[]⟩ y 0))) w') := fun w' h => by
    rw [hPQ]
    exact FrQ.mk (l := []) w' (by unfold mayT; simp; omega) (fun z hz => by simp at hz) (by simp) hyb h
  have hy' : x.tmod 1099511627777 = y := hy.symm
  have hsz := str_size l
  have Hx := hid hx
  clear hx hk hPQ hy
  by_cases hlong : 65536 < l.length
  · have h1 : (65536 : Int) < ((strOfNums l).size : Int) := by omega
    have h2 : (65537 : Int) ≤ ((strOfNums l).size : Int) := by omega
    have h2n : 65537 ≤ (strOfNums l).size := by omega
    clear hsz hlong hl
    generalize strOfNums l = S at *
    go_enter Tryd.func10, Tryd.ntmps10
    go_wp2_with fail
    exact bodyPost_ret (results_tok1 rfl _ _ (w.heap.size + 1) 3 ⟨#[]⟩ y 0 rfl (tkb2 _ _ _ _ _ _)) rfl (HP.out _ (below2 _ _ _))
  · have h1 : ¬ (65536 : Int) < ((strOfNums l).size : Int) := by omega
    clear hsz hlong hl
    generalize strOfNums l = S at *
    go_enter Tryd.func10, Tryd.ntmps10
    go_wp2_with fail
    exact bodyPost_ret (results_tok1 rfl _ _ (w.heap.size + 1) 3 ⟨#[]⟩ y 0 rfl (tkb2 _ _ _ _ _ _)) rfl (HP.out _ (below2 _ _ _))
theorem mk13 (m : Nat) (h : m < 13) : ∃ c : Int, (⟨#[59, 123, 125, 40, 41, 44, 61, 60, 43, 45, 42, 47, 37]⟩ : ByteArray).extract m (m + 1) = strOfNums [c] ∧ isMk c = true ∧ 0 ≤ c ∧ c ≤ 126 := by
  rcases (show m = 0 ∨ m = 1 ∨ m = 2 ∨ m = 3 ∨ m = 4 ∨ m = 5 ∨ m = 6 ∨ m = 7 ∨ m = 8 ∨ m = 9 ∨ m = 10 ∨ m = 11 ∨ m = 12 by omega) with rfl | rfl | rfl | rfl | rfl | rfl | rfl | rfl | rfl | rfl | rfl | rfl | rfl
  · exact ⟨59, rfl, rfl, by omega, by omega⟩
  · exact ⟨123, rfl, rfl, by omega, by omega⟩
  · exact ⟨125, rfl, rfl, by omega, by omega⟩
  · exact ⟨40, rfl, rfl, by omega, by omega⟩
  · exact ⟨41, rfl, rfl, by omega, by omega⟩
  · exact ⟨44, rfl, rfl, by omega, by omega⟩
  · exact ⟨61, rfl, rfl, by omega, by omega⟩
  · exact ⟨60, rfl, rfl, by omega, by omega⟩
  · exact ⟨43, rfl, rfl, by omega, by omega⟩
  · exact ⟨45, rfl, rfl, by omega, by omega⟩
  · exact ⟨42, rfl, rfl, by omega, by omega⟩
  · exact ⟨47, rfl, rfl, by omega, by omega⟩
  · exact ⟨37, rfl, rfl, by omega, by omega⟩
set_option maxRecDepth 100000 in
set_option maxHeartbeats 2000000 in
theorem fair_mark (k : Int) (l : List Int) (n a : Int) (w : World) (hk : k % 4 = 3) (hl : l.length ≤ 140737488355328) : Calls Tryd.prog 10 #[.agg (tcs k (strOfNums l) n a)] w (FrQ w) := by
  obtain ⟨PQ, hPQ⟩ : ∃ PQ, PQ = FrQ w := ⟨_, rfl⟩
  rw [← hPQ]
  have hand := (and3 k).trans hk
  have ha62 := and62 n
  obtain ⟨x, hx⟩ : ∃ x : Int, x = n % 4611686018427387904 := ⟨_, rfl⟩
  rw [← hx] at ha62
  obtain ⟨y, hy⟩ : ∃ y : Nat, (y : Int) = x.tmod 13 := ⟨(x.tmod 13).toNat, by rw [Int.tmod_eq_emod_of_nonneg (by omega)]; omega⟩
  have hyb : y < 13 := by
    rw [Int.tmod_eq_emod_of_nonneg (by omega)] at hy
    omega
  have hxb0 : 0 ≤ x := by omega
  have hxb1 : x < 4611686018427387904 := by omega
  obtain ⟨c, hc1, hc2, hc3, hc4⟩ := mk13 y hyb
  have HP : Hid (∀ w', Below w.heap.size w w' → PQ (.returned (.agg (tcs 4 (strOfNums [c]) 0 0))) w') := fun w' h => by
    rw [hPQ]
    exact FrQ.mk (l := [c]) w' (by unfold mayT; simp [hc2]) (fun z hz => by simp at hz; omega) (by simp) ⟨by omega, by omega⟩ h
  have hy' : x.tmod 13 = (y : Int) := hy.symm
  have hyi : (y : Int) ≤ 12 := by omega
  have hsz := str_size l
  have Hx := hid hx
  clear hx hk hPQ hy hc2 hc3 hc4
  generalize strOfNums [c] = U at *
  by_cases hlong : 65536 < l.length
  · have h1 : (65536 : Int) < ((strOfNums l).size : Int) := by omega
    have h2 : (65537 : Int) ≤ ((strOfNums l).size : Int) := by omega
    have h2n : 65537 ≤ (strOfNums l).size := by omega
    clear hsz hlong hl
    generalize strOfNums l = S at *
    go_enter Tryd.func10, Tryd.ntmps10
    go_wp2_with fail
    exact bodyPost_ret (results_tok1 rfl _ _ (w.heap.size + 1) 4 U 0 0 rfl (tkb2 _ _ _ _ _ _)) rfl (HP.out _ (below2 _ _ _))
  · have h1 : ¬ (65536 : Int) < ((strOfNums l).size : Int) := by omega
    clear hsz hlong hl
    generalize strOfNums l = S at *
    go_enter Tryd.func10, Tryd.ntmps10
    go_wp2_with fail
    exact bodyPost_ret (results_tok1 rfl _ _ (w.heap.size + 1) 4 U 0 0 rfl (tkb2 _ _ _ _ _ _)) rfl (HP.out _ (below2 _ _ _))

end Go.Proofs.YtoifmiloaefanaaDoor
/-
  fair: any token as one that may be: a word.
-/
namespace Go.Proofs.YtoifmiloaefanaaDoor
open Go.RowKit

theorem wd25 (m : Nat) (h : m < 25) : ∃ c : Int, (∀ hm, ((((⟨#[97, 98, 99, 120, 121, 122, 65, 66, 67, 88, 89, 90, 95, 48, 49, 50, 51, 52, 53, 54, 55, 56, 57, 75, 77]⟩ : ByteArray)[m]'hm).toNat : Nat) : Int) = c) ∧ isWd c = true ∧ 0 ≤ c ∧ c ≤ 126 := by
  have k : ∀ (l : List Int) (hb : Pl.isB l) (i : Nat) (hi : i < l.length) (hw : ∀ z ∈ l, isWd z = true ∧ 0 ≤ z ∧ z ≤ 126), ∃ c : Int, (∀ hm, ((((strOfNums l)[i]'hm).toNat : Nat) : Int) = c) ∧ isWd c = true ∧ 0 ≤ c ∧ c ≤ 126 := fun l hb i hi hw =>
    ⟨l.getD i 0, fun hm => str_get l hb i hi hm, hw _ (by rw [List.getD_eq_getElem?_getD, List.getElem?_eq_getElem hi]; exact List.getElem_mem hi)⟩
  exact k [97, 98, 99, 120, 121, 122, 65, 66, 67, 88, 89, 90, 95, 48, 49, 50, 51, 52, 53, 54, 55, 56, 57, 75, 77] (fun z hz => by simp at hz; omega) m h (by decide)
/-- a loop that writes a list of its own beside both blocks -/
structure FaI (w W0 wr : World) (k : Int) (S : ByteArray) (n a : Int) : Prop where
  t : TkB wr w.heap.size k S n a
  r : TkB wr (w.heap.size + 1) 0 sE 0 0
  b : Below (w.heap.size + 2) W0 wr
  o : Below w.heap.size w wr
theorem FaI.next {w W0 wr w1 : World} {k : Int} {S : ByteArray} {n a : Int} (h : FaI w W0 wr k S n a) (hb : Below (w.heap.size + 2) wr w1) : FaI w W0 w1 k S n a :=
  ⟨h.t.keep (hb.block _ (by omega)), h.r.keep (hb.block _ (by omega)), h.b.trans hb, h.o.trans (hb.mono (by omega))⟩
theorem FaI.start (w : World) (k : Int) (S : ByteArray) (n a : Int) : FaI w ((w.alloc (.cells (tcs k S n a) 29)).alloc (.cells (tcs 0 sE 0 0) 29)) ((w.alloc (.cells (tcs k S n a) 29)).alloc (.cells (tcs 0 sE 0 0) 29)) k S n a := by
  refine ⟨?_, tkb2 _ _ _ _ _ _, Below.refl _ _, below2 _ _ _⟩
  have h1 : TkB (w.alloc (.cells (tcs k S n a) 29)) w.heap.size k S n a := heap_new _ _
  exact h1.keep ((below1 _ _).block _ h1.lt)
def WdI (w W0 : World) (k : Int) (S : ByteArray) (n a : Int) (sv iv : Value) (wr : World) : Prop := ∃ (j g c : Nat) (l2 : List Int), iv = .int .i64 (j : Int) ∧ sv = .slice (some ⟨g, 0, none⟩) (j + 1) c ∧ l2.length = j + 1 ∧ j ≤ S.size ∧ OwB (w.heap.size + 2) wr sv l2 ∧ (∀ z ∈ l2, isWd z = true ∧ 0 ≤ z ∧ z ≤ 126) ∧ isLet (l2.getD 0 0) = true ∧ w.heap.size + 2 ≤ wr.heap.size ∧ FaI w W0 wr k S n a
theorem put4_below {B : Nat} {w wr : World} (h : Below B w wr) {b : Nat} (hb : B ≤ b) (k : Int) (s : ByteArray) (n a : Int) : Below B w (put4 wr b k s n a) :=
  (((h.setCell (p := ⟨b, 0, none⟩) hb _).setCell (p := ⟨b, 1, none⟩) hb _).setCell (p := ⟨b, 2, none⟩) hb _).setCell (p := ⟨b, 3, none⟩) hb _
/-- the calls of a round -/
theorem wd_round {w W0 wr : World} {k : Int} {S : ByteArray} {n a : Int} {j g c : Nat} {l2 : List Int} (hl : l2.length = j + 1) (hj : j < S.size) (hS : S.size ≤ 65537) (hO : OwB (w.heap.size + 2) wr (.slice (some ⟨g, 0, none⟩) (j + 1) c) l2) (hw : ∀ z ∈ l2, isWd z = true ∧ 0 ≤ z ∧ z ≤ 126) (h0 : isLet (l2.getD 0 0) = true) (hz : w.heap.size + 2 ≤ wr.heap.size) (hF : FaI w W0 wr k S n a) (z : Int) (hzw : isWd z = true) (h1 : 0 ≤ z) (h2 : z ≤ 126) :
    ∃ v' w', (Builtin.append_ #[22, 22] 22 #[.slice (some ⟨g, 0, none⟩) (j + 1) c, .slice (some ⟨wr.heap.size, 0, none⟩) 1 1]).run Tryd.prog (wr.alloc (.cells #[.int .u8 z] 5)) = .ok v' w' ∧ ∀ iv, iv = .int .i64 ((j : Int) + 1) → WdI w W0 k S n a v' iv w' := by
  obtain ⟨v', w', hr, k1, k2⟩ := OwB.pushB 22 (hO.next (below1 wr (.cells #[.int .u8 z] 5))) z (heap_new _ _) (by omega) (by simp; omega)
  obtain ⟨g2, c2, rfl, _⟩ := k1.form (by simp)
  have hb : Below (w.heap.size + 2) wr w' := ((below1 wr _).mono hz).trans k2
  refine ⟨_, w', hr, fun iv hiv => ⟨j + 1, g2, c2, l2 ++ [z], by rw [hiv, Int.natCast_add]; rfl, by rw [List.length_append, hl]; rfl, by simp [hl], by omega, k1, fun y hy => ?_, ?_, by have := hb.size; omega, hF.next hb⟩⟩
  · rcases List.mem_append.1 hy with hy | hy
    · exact hw y hy
    · simp at hy; subst hy; exact ⟨hzw, h1, h2⟩
  · rw [head_app (by intro e; rw [e] at hl; simp at hl)]
    exact h0
theorem may_word {l2 : List Int} (hw : ∀ z ∈ l2, isWd z = true ∧ 0 ≤ z ∧ z ≤ 126) (h0 : isLet (l2.getD 0 0) = true) (hl : 0 < l2.length) : mayT ⟨1, l2, 0, 0⟩ = true := by
  unfold mayT
  have hp : pasA isWd l2 0 = l2.length := by unfold pasA; rw [List.drop_zero, pas_all l2 (fun z hz => (hw z hz).1)]; omega
  simp only [hp, h0, hl]
  simp
set_option maxRecDepth 100000 in
set_option maxHeartbeats 2000000 in
theorem fair_word (k : Int) (l : List Int) (n a : Int) (w : World) (hk : k % 4 = 0) (hl : l.length ≤ 140737488355328) : Calls Tryd.prog 10 #[.agg (tcs k (strOfNums l) n a)] w (FrQ w) := by
  obtain ⟨PQ, hPQ⟩ : ∃ PQ, PQ = FrQ w := ⟨_, rfl⟩
  rw [← hPQ]
  have hand := (and3 k).trans hk
  have HPQ := hid hPQ
  have hsz := str_size l
  have HS0 : Hid (∀ S : ByteArray, WdI w ((w.alloc (.cells (tcs k S n a) 29)).alloc (.cells (tcs 0 sE 0 0) 29)) k S n a (.slice (some ⟨w.heap.size + 2, 0, none⟩) 1 1) (.int .i64 0) (((w.alloc (.cells (tcs k S n a) 29)).alloc (.cells (tcs 0 sE 0 0) 29)).alloc (.cells #[.int .u8 119] 5))) := fun S => by
    have hz : ((w.alloc (.cells (tcs k S n a) 29)).alloc (.cells (tcs 0 sE 0 0) 29)).heap.size = w.heap.size + 2 := by simp
    have ho := OwB.first ((w.alloc (.cells (tcs k S n a) 29)).alloc (.cells (tcs 0 sE 0 0) 29)) 119
    rw [hz] at ho
    refine ⟨0, w.heap.size + 2, 1, [119], rfl, rfl, rfl, Nat.zero_le _, ho, fun z hz => ?_, rfl, by simp, (FaI.start w k S n a).next ((below1 _ _).mono (by rw [hz]; omega))⟩
    simp at hz
    subst hz
    exact ⟨rfl, by omega, by omega⟩
  clear hk hPQ
  by_cases hlong : 65536 < l.length
  · have h1 : (65536 : Int) < ((strOfNums l).size : Int) := by omega
    have h2 : (65537 : Int) ≤ ((strOfNums l).size : Int) := by omega
    have h2n : 65537 ≤ (strOfNums l).size := by omega
    obtain ⟨S1, hS1⟩ : ∃ S1, (strOfNums l).extract 0 65537 = S1 := ⟨_, rfl⟩
    have hS1b : S1.size ≤ 65537 := by rw [← hS1]; simp; omega
    have HS := hid (HS0.out S1)
    clear hsz hlong hl HS0
    generalize strOfNums l = S at *
    go_enter Tryd.func10, Tryd.ntmps10
    go_wp2_with fail
    obtain ⟨W0, HW0⟩ : ∃ W0, Hid (W0 = (w.alloc (.cells (tcs k S1 n a) 29)).alloc (.cells (tcs 0 sE 0 0) 29)) := ⟨_, rfl⟩
    go_loopw [3, 4] (fun sv iv wr => WdI w W0 k S1 n a sv iv wr) (fun _ iv _ => S1.size - (intOf iv).toNat)
    case atStart => rw [HW0.out]; exact HS.out
    case round =>
      clear HS
      obtain ⟨j, g, c, l2, rfl, rfl, hll, hj, hO, hw, hw0, hz, hF⟩ := hrel
      have u1 := hF.t.cell 1 _ rfl
      by_cases q : j < S1.size
      · have q' : (j : Int) < (S1.size : Int) := by omega
        obtain ⟨y, HY⟩ : ∃ y : Nat, Hid (y = (S1[j]'q).toNat) := ⟨_, rfl⟩
        have hg : ((((S1[j]'q).toNat : Nat)) : Int) = (y : Int) := by rw [HY.out]
        have hyb : y < 256 := by have := (S1[j]'q).toNat_lt; have := HY.out; omega
        obtain ⟨m, HM⟩ : ∃ m : Nat, Hid (m = y % 25) := ⟨_, rfl⟩
        have hmb : m < 25 := by have := HM.out; omega
        have htm : ((y : Int)).tmod 25 = (m : Int) := by rw [Int.tmod_eq_emod_of_nonneg (by omega)]; have := HM.out; omega
        obtain ⟨z, hz1, hz2, hz3, hz4⟩ := wd25 m hmb
        obtain ⟨v', w', hr, hnx⟩ := wd_round hll q (by omega) hO hw hw0 hz hF z hz2 hz3 hz4
        have hzx := hz1 hmb
        have HNX := hid hnx
        have hmb' : (m : Int) < 25 := by omega
        clear hnx hO hw hw0 hz hF hz1 hz2 hz3 hz4 HY HM
        go_wp2_with (at_builtin; refine Lib.wpList_append_run _ rfl _ _ _ _ rfl _ _ rfl rfl _ _ hr ?_)
        exact ⟨HNX.out _ rfl, by simp [intOf]; omega⟩
      · obtain rfl : j = S1.size := by omega
        have q' : ¬ (S1.size : Int) < (S1.size : Int) := by omega
        have HE : Hid (∀ w2, w2 = put4 wr (w.heap.size + 1) 1 (strOfNums l2) 0 0 → TkB w2 (w.heap.size + 1) 1 (strOfNums l2) 0 0 ∧ PQ (.returned (.agg (tcs 1 (strOfNums l2) 0 0))) w2) := fun w2 hw2 => by
          rw [hw2, HPQ.out]
          exact ⟨hF.r.put4 _ _ _ _, FrQ.mk _ (may_word hw hw0 (by omega)) (fun z hz => by have := hw z hz; omega) (by omega) ⟨by omega, by omega⟩ (put4_below hF.o (by omega) _ _ _ _)⟩
        have hcv : (convert 22 9 (.slice (some ⟨g, 0, none⟩) (S1.size + 1) c)).run Tryd.prog wr = .ok (.string (strOfNums l2)) wr := by
          have := conv_str (hO.rd hll.symm (fun z hz => by have := hw z hz; omega) (own_blk hO (g := g) rfl).2.1) c
          rw [hll] at this
          exact this
        have t0 := hF.r.cell 0 _ rfl
        have t1 := hF.r.cell 1 _ rfl
        have t2 := hF.r.cell 2 _ rfl
        have t3 := hF.r.cell 3 _ rfl
        have tf := hF.r.fz
        clear hO hw hw0 hz hF hll
        generalize strOfNums l2 = U at *
        go_wp2_with fail
        exact bodyPost_ret (results_tok1 rfl _ _ (w.heap.size + 1) 1 U 0 0 rfl (HE.out _ rfl).1) rfl (HE.out _ rfl).2
  · have h1 : ¬ (65536 : Int) < ((strOfNums l).size : Int) := by omega
    have hS1b : (strOfNums l).size ≤ 65537 := by omega
    have HS := hid (HS0.out (strOfNums l))
    clear hsz hlong hl HS0
    generalize strOfNums l = S1 at *
    go_enter Tryd.func10, Tryd.ntmps10
    go_wp2_with fail
    obtain ⟨W0, HW0⟩ : ∃ W0, Hid (W0 = (w.alloc (.cells (tcs k S1 n a) 29)).alloc (.cells (tcs 0 sE 0 0) 29)) := ⟨_, rfl⟩
    go_loopw [3, 4] (fun sv iv wr => WdI w W0 k S1 n a sv iv wr) (fun _ iv _ => S1.size - (intOf iv).toNat)
    case atStart => rw [HW0.out]; exact HS.out
    case round =>
      clear HS
      obtain ⟨j, g, c, l2, rfl, rfl, hll, hj, hO, hw, hw0, hz, hF⟩ := hrel
      have u1 := hF.t.cell 1 _ rfl
      by_cases q : j < S1.size
      · have q' : (j : Int) < (S1.size : Int) := by omega
        obtain ⟨y, HY⟩ : ∃ y : Nat, Hid (y = (S1[j]'q).toNat) := ⟨_, rfl⟩
        have hg : ((((S1[j]'q).toNat : Nat)) : Int) = (y : Int) := by rw [HY.out]
        have hyb : y < 256 := by have := (S1[j]'q).toNat_lt; have := HY.out; omega
        obtain ⟨m, HM⟩ : ∃ m : Nat, Hid (m = y % 25) := ⟨_, rfl⟩
        have hmb : m < 25 := by have := HM.out; omega
        have htm : ((y : Int)).tmod 25 = (m : Int) := by rw [Int.tmod_eq_emod_of_nonneg (by omega)]; have := HM.out; omega
        obtain ⟨z, hz1, hz2, hz3, hz4⟩ := wd25 m hmb
        obtain ⟨v', w', hr, hnx⟩ := wd_round hll q (by omega) hO hw hw0 hz hF z hz2 hz3 hz4
        have hzx := hz1 hmb
        have HNX := hid hnx
        have hmb' : (m : Int) < 25 := by omega
        clear hnx hO hw hw0 hz hF hz1 hz2 hz3 hz4 HY HM
        go_wp2_with (at_builtin; refine Lib.wpList_append_run _ rfl _ _ _ _ rfl _ _ rfl rfl _ _ hr ?_)
        exact ⟨HNX.out _ rfl, by simp [intOf]; omega⟩
      · obtain rfl : j = S1.size := by omega
        have q' : ¬ (S1.size : Int) < (S1.size : Int) := by omega
        have HE : Hid (∀ w2, w2 = put4 wr (w.heap.size + 1) 1 (strOfNums l2) 0 0 → TkB w2 (w.heap.size + 1) 1 (strOfNums l2) 0 0 ∧ PQ (.returned (.agg (tcs 1 (strOfNums l2) 0 0))) w2) := fun w2 hw2 => by
          rw [hw2, HPQ.out]
          exact ⟨hF.r.put4 _ _ _ _, FrQ.mk _ (may_word hw hw0 (by omega)) (fun z hz => by have := hw z hz; omega) (by omega) ⟨by omega, by omega⟩ (put4_below hF.o (by omega) _ _ _ _)⟩
        have hcv : (convert 22 9 (.slice (some ⟨g, 0, none⟩) (S1.size + 1) c)).run Tryd.prog wr = .ok (.string (strOfNums l2)) wr := by
          have := conv_str (hO.rd hll.symm (fun z hz => by have := hw z hz; omega) (own_blk hO (g := g) rfl).2.1) c
          rw [hll] at this
          exact this
        have t0 := hF.r.cell 0 _ rfl
        have t1 := hF.r.cell 1 _ rfl
        have t2 := hF.r.cell 2 _ rfl
        have t3 := hF.r.cell 3 _ rfl
        have tf := hF.r.fz
        clear hO hw hw0 hz hF hll
        generalize strOfNums l2 = U at *
        go_wp2_with fail
        exact bodyPost_ret (results_tok1 rfl _ _ (w.heap.size + 1) 1 U 0 0 rfl (HE.out _ rfl).1) rfl (HE.out _ rfl).2

end Go.Proofs.YtoifmiloaefanaaDoor
/-
  fair: any token as one that may be: a name; any token.
-/
namespace Go.Proofs.YtoifmiloaefanaaDoor
open Go.RowKit

/-- what may stand between quotes -/
def NmL (l : List Int) : Prop := ∀ rest, inn 0 (l ++ rest) = (l.length + (inn 0 rest).1, (inn 0 rest).2)
theorem NmL.nil : NmL [] := fun rest => by simp
theorem NmL.app {a b : List Int} (ha : NmL a) (hb : NmL b) : NmL (a ++ b) := fun rest => by
  rw [List.append_assoc, ha, hb, List.length_append]
  simp
  omega
theorem NmL.plain {c : Int} (h : isPn c = true) : NmL [c] := fun rest => by
  have e : inn 0 (c :: rest) = up (inn 0 rest) := by simp [inn, h]
  show inn 0 (c :: rest) = _
  rw [e]
  simp [up]
  omega
theorem NmL.seq : NmL ([36, 123, 97, 35, 59, 49, 43] ++ [125]) := fun rest => by
  have p : isPn 97 = true ∧ isPn 35 = true ∧ isPn 59 = true ∧ isPn 49 = true ∧ isPn 43 = true ∧ isPn 36 = false := ⟨rfl, rfl, rfl, rfl, rfl, rfl⟩
  obtain ⟨p1, p2, p3, p4, p5, p6⟩ := p
  show inn 0 (36 :: 123 :: 97 :: 35 :: 59 :: 49 :: 43 :: 125 :: rest) = _
  simp [inn, p1, p2, p3, p4, p5, p6, up]
  omega
theorem may_name {l : List Int} (h : NmL l) : mayT ⟨2, l, 0, 0⟩ = true := by
  have e : innA 0 (l ++ [34]) 0 = (l.length, 0) := by
    unfold innA
    rw [List.drop_zero, h]
    have : inn 0 [34] = (0, 0) := rfl
    rw [this]
    simp
  unfold mayT
  simp [e]
theorem pn_of {c : Int} (h1 : 32 ≤ c) (h2 : c ≤ 126) (q1 : c ≠ 34) (q2 : c ≠ 36) (q3 : c ≠ 123) (q4 : c ≠ 125) : isPn c = true := by
  unfold isPn isQt
  simp
  omega
def NmI (w W0 : World) (k : Int) (S : ByteArray) (n a : Int) (sv iv : Value) (wr : World) : Prop := ∃ (j : Nat) (oa : Option Addr) (c : Nat) (l2 : List Int), iv = .int .i64 (j : Int) ∧ sv = .slice oa l2.length c ∧ l2.length ≤ 8 * j ∧ j ≤ S.size ∧ OwB (w.heap.size + 2) wr sv l2 ∧ (∀ z ∈ l2, 0 ≤ z ∧ z ≤ 126) ∧ NmL l2 ∧ w.heap.size + 2 ≤ wr.heap.size ∧ FaI w W0 wr k S n a
theorem isB_126 {l : List Int} (h : ∀ z ∈ l, 0 ≤ z ∧ z ≤ 126) : Pl.isB l := fun z hz => by have := h z hz; omega
/-- one byte behind -/
theorem nm_push {w W0 wr : World} {k : Int} {S : ByteArray} {n a : Int} {j c : Nat} {oa : Option Addr} {l2 : List Int} (l3 : List Int) (m : Nat) (hl : l2.length ≤ m) (hm : m + 1 ≤ 8 * (j + 1)) (hj : j < S.size) (hS : S.size ≤ 65537) (hO : OwB (w.heap.size + 2) wr (.slice oa l2.length c) l2) (hz : w.heap.size + 2 ≤ wr.heap.size) (hF : FaI w W0 wr k S n a) (z : Int) (h3 : l3 = l2 ++ [z]) (hw : ∀ z ∈ l3, 0 ≤ z ∧ z ≤ 126) (hN : NmL l3) :
    ∃ oa' c' w', (Builtin.append_ #[22, 22] 22 #[.slice oa l2.length c, .slice (some ⟨wr.heap.size, 0, none⟩) 1 1]).run Tryd.prog (wr.alloc (.cells #[.int .u8 z] 5)) = .ok (.slice oa' (l2.length + 1) c') w' ∧ ∀ iv, iv = .int .i64 ((j : Int) + 1) → NmI w W0 k S n a (.slice oa' (l2.length + 1) c') iv w' := by
  obtain ⟨v', w', hr, k1, k2⟩ := OwB.pushB 22 (hO.next (below1 wr (.cells #[.int .u8 z] 5))) z (heap_new _ _) (by omega) (by simp; omega)
  obtain ⟨g2, c2, e2, _⟩ := k1.form (by simp)
  rw [List.length_append] at e2
  subst e2
  have hb : Below (w.heap.size + 2) wr w' := ((below1 wr _).mono hz).trans k2
  rw [← h3] at k1
  refine ⟨_, _, w', hr, fun iv hiv => ⟨j + 1, _, c2, l3, by rw [hiv, Int.natCast_add]; rfl, by rw [h3, List.length_append]; rfl, by rw [h3]; simp; omega, by omega, k1, hw, hN, by have := hb.size; omega, hF.next hb⟩⟩
/-- some bytes behind -/
theorem nm_str {w W0 wr : World} {k : Int} {S : ByteArray} {n a : Int} {c : Nat} {oa : Option Addr} {l2 : List Int} (hl : l2.length ≤ 16777216) (hO : OwB (w.heap.size + 2) wr (.slice oa l2.length c) l2) (hz : w.heap.size + 2 ≤ wr.heap.size) (hF : FaI w W0 wr k S n a) :
    ∃ oa' c' w', (Builtin.append_ #[22, 9] 22 #[.slice oa l2.length c, .string ⟨#[36, 123, 97, 35, 59, 49, 43]⟩]).run Tryd.prog wr = .ok (.slice oa' (l2 ++ [36, 123, 97, 35, 59, 49, 43]).length c') w' ∧ OwB (w.heap.size + 2) w' (.slice oa' (l2 ++ [36, 123, 97, 35, 59, 49, 43]).length c') (l2 ++ [36, 123, 97, 35, 59, 49, 43]) ∧ w.heap.size + 2 ≤ w'.heap.size ∧ FaI w W0 w' k S n a := by
  obtain ⟨v', w', hr, k1, k2⟩ := hO.str 22 [36, 123, 97, 35, 59, 49, 43] (fun z hz => by simp at hz; omega) (by simp; omega) hz
  obtain ⟨g2, c2, rfl, _⟩ := k1.form (by simp)
  exact ⟨_, _, w', hr, k1, by have := k2.size; omega, hF.next k2⟩
set_option maxRecDepth 100000 in
set_option maxHeartbeats 4000000 in
theorem fair_name (k : Int) (l : List Int) (n a : Int) (w : World) (hk : k % 4 = 1) (hl : l.length ≤ 140737488355328) : Calls Tryd.prog 10 #[.agg (tcs k (strOfNums l) n a)] w (FrQ w) := by
  obtain ⟨PQ, hPQ⟩ : ∃ PQ, PQ = FrQ w := ⟨_, rfl⟩
  rw [← hPQ]
  have hand := (and3 k).trans hk
  have HPQ := hid hPQ
  have hsz := str_size l
  have HS0 : Hid (∀ S : ByteArray, NmI w ((w.alloc (.cells (tcs k S n a) 29)).alloc (.cells (tcs 0 sE 0 0) 29)) k S n a (.slice none 0 0) (.int .i64 0) ((w.alloc (.cells (tcs k S n a) 29)).alloc (.cells (tcs 0 sE 0 0) 29))) := fun S => by
    exact ⟨0, none, 0, [], rfl, rfl, Nat.zero_le _, Nat.zero_le _, ⟨rfl, .inl ⟨rfl, rfl⟩⟩, fun z hz => by simp at hz, NmL.nil, by simp, FaI.start w k S n a⟩
  clear hk hPQ
  by_cases hlong : 65536 < l.length
  · have h1 : (65536 : Int) < ((strOfNums l).size : Int) := by omega
    have h2 : (65537 : Int) ≤ ((strOfNums l).size : Int) := by omega
    have h2n : 65537 ≤ (strOfNums l).size := by omega
    obtain ⟨S1, hS1⟩ : ∃ S1, (strOfNums l).extract 0 65537 = S1 := ⟨_, rfl⟩
    have hS1b : S1.size ≤ 65537 := by rw [← hS1]; simp; omega
    have HS := hid (HS0.out S1)
    clear hsz hlong hl HS0
    generalize strOfNums l = S at *
    go_enter Tryd.func10, Tryd.ntmps10
    go_wp2_with fail
    obtain ⟨W0, HW0⟩ : ∃ W0, Hid (W0 = (w.alloc (.cells (tcs k S1 n a) 29)).alloc (.cells (tcs 0 sE 0 0) 29)) := ⟨_, rfl⟩
    go_loopw [5, 6, 7] (fun sv iv _ wr => NmI w W0 k S1 n a sv iv wr) (fun _ iv _ _ => S1.size - (intOf iv).toNat)
    case atStart => rw [HW0.out]; exact HS.out
    case round =>
      clear HS
      obtain ⟨j, oa, c, l2, rfl, rfl, hll, hj, hO, hw, hN, hz, hF⟩ := hrel
      have u1 := hF.t.cell 1 _ rfl
      by_cases q : j < S1.size
      · have q' : (j : Int) < (S1.size : Int) := by omega
        obtain ⟨y, HY⟩ : ∃ y : Nat, Hid (y = (S1[j]'q).toNat) := ⟨_, rfl⟩
        have hg : ((((S1[j]'q).toNat : Nat)) : Int) = (y : Int) := by rw [HY.out]
        have hyb : y < 256 := by have := (S1[j]'q).toNat_lt; have := HY.out; omega
        obtain ⟨m, HM⟩ : ∃ m : Nat, Hid (m = y % 95) := ⟨_, rfl⟩
        have hmb : m < 95 := by have := HM.out; omega
        have htm : ((y : Int)).tmod 95 = (m : Int) := by rw [Int.tmod_eq_emod_of_nonneg (by omega)]; have := HM.out; omega
        obtain ⟨cz, hcz⟩ : ∃ cz : Int, cz = 32 + (m : Int) := ⟨_, rfl⟩
        have hc1 : (32 + (m : Int)) % 256 = cz := by omega
        have hc2 : 32 + (m : Int) = cz := hcz.symm
        have hcb : 32 ≤ cz ∧ cz ≤ 126 := by omega
        by_cases q34 : cz = 34
        · have e1 : (cz == 34) = true := by simpa using q34
          clear q34
          obtain ⟨oa1, c1, w1, hr1, hO1, hz1, hF1⟩ := nm_str (by omega) hO hz hF
          have hN3 : NmL (l2 ++ [36, 123, 97, 35, 59, 49, 43] ++ [125]) := by rw [List.append_assoc]; exact hN.app NmL.seq
          obtain ⟨oa2, c2, w2, hr2, hnx⟩ := nm_push (l2 := l2 ++ [36, 123, 97, 35, 59, 49, 43]) (l2 ++ [36, 123, 97, 35, 59, 49, 43] ++ [125]) (8 * j + 7) (by simp; omega) (by omega) q (by omega) hO1 hz1 hF1 125 rfl (fun z hz => by
            rcases List.mem_append.1 hz with hz | hz
            · rcases List.mem_append.1 hz with hz | hz
              · exact hw z hz
              · simp at hz; omega
            · simp at hz; omega) hN3
          have HNX := hid hnx
          clear hnx hO hw hz hF hN hN3 hO1 hz1 hF1 HY HM hcz
          obtain ⟨N1, hN1⟩ : ∃ N1, N1 = (l2 ++ [36, 123, 97, 35, 59, 49, 43]).length := ⟨_, rfl⟩
          rw [← hN1] at hr1 hr2 HNX
          clear hN1
          go_wp2_with (first | (at_builtin; refine Lib.wpList_append_run _ rfl _ _ _ _ rfl _ _ rfl rfl _ _ hr1 ?_) | (at_builtin; refine Lib.wpList_append_run _ rfl _ _ _ _ rfl _ _ rfl rfl _ _ hr2 ?_))
          exact ⟨HNX.out _ rfl, by simp [intOf]; omega⟩
        have e1 : (cz == 34) = false := by simpa using q34
        by_cases q36 : cz = 36
        · have e2 : (cz == 36) = true := by simpa using q36
          clear q36 q34
          obtain ⟨oa1, c1, w1, hr1, hO1, hz1, hF1⟩ := nm_str (by omega) hO hz hF
          have hN3 : NmL (l2 ++ [36, 123, 97, 35, 59, 49, 43] ++ [125]) := by rw [List.append_assoc]; exact hN.app NmL.seq
          obtain ⟨oa2, c2, w2, hr2, hnx⟩ := nm_push (l2 := l2 ++ [36, 123, 97, 35, 59, 49, 43]) (l2 ++ [36, 123, 97, 35, 59, 49, 43] ++ [125]) (8 * j + 7) (by simp; omega) (by omega) q (by omega) hO1 hz1 hF1 125 rfl (fun z hz => by
            rcases List.mem_append.1 hz with hz | hz
            · rcases List.mem_append.1 hz with hz | hz
              · exact hw z hz
              · simp at hz; omega
            · simp at hz; omega) hN3
          have HNX := hid hnx
          clear hnx hO hw hz hF hN hN3 hO1 hz1 hF1 HY HM hcz
          obtain ⟨N1, hN1⟩ : ∃ N1, N1 = (l2 ++ [36, 123, 97, 35, 59, 49, 43]).length := ⟨_, rfl⟩
          rw [← hN1] at hr1 hr2 HNX
          clear hN1
          go_wp2_with (first | (at_builtin; refine Lib.wpList_append_run _ rfl _ _ _ _ rfl _ _ rfl rfl _ _ hr1 ?_) | (at_builtin; refine Lib.wpList_append_run _ rfl _ _ _ _ rfl _ _ rfl rfl _ _ hr2 ?_))
          exact ⟨HNX.out _ rfl, by simp [intOf]; omega⟩
        have e2 : (cz == 36) = false := by simpa using q36
        by_cases q123 : cz = 123
        · have e3 : (cz == 123) = true := by simpa using q123
          clear q36 q34 q123
          obtain ⟨oa1, c1, w1, hr1, hO1, hz1, hF1⟩ := nm_str (by omega) hO hz hF
          have hN3 : NmL (l2 ++ [36, 123, 97, 35, 59, 49, 43] ++ [125]) := by rw [List.append_assoc]; exact hN.app NmL.seq
          obtain ⟨oa2, c2, w2, hr2, hnx⟩ := nm_push (l2 := l2 ++ [36, 123, 97, 35, 59, 49, 43]) (l2 ++ [36, 123, 97, 35, 59, 49, 43] ++ [125]) (8 * j + 7) (by simp; omega) (by omega) q (by omega) hO1 hz1 hF1 125 rfl (fun z hz => by
            rcases List.mem_append.1 hz with hz | hz
            · rcases List.mem_append.1 hz with hz | hz
              · exact hw z hz
              · simp at hz; omega
            · simp at hz; omega) hN3
          have HNX := hid hnx
          clear hnx hO hw hz hF hN hN3 hO1 hz1 hF1 HY HM hcz
          obtain ⟨N1, hN1⟩ : ∃ N1, N1 = (l2 ++ [36, 123, 97, 35, 59, 49, 43]).length := ⟨_, rfl⟩
          rw [← hN1] at hr1 hr2 HNX
          clear hN1
          go_wp2_with (first | (at_builtin; refine Lib.wpList_append_run _ rfl _ _ _ _ rfl _ _ rfl rfl _ _ hr1 ?_) | (at_builtin; refine Lib.wpList_append_run _ rfl _ _ _ _ rfl _ _ rfl rfl _ _ hr2 ?_))
          exact ⟨HNX.out _ rfl, by simp [intOf]; omega⟩
        have e3 : (cz == 123) = false := by simpa using q123
        by_cases q125 : cz = 125
        · have e4 : (cz == 125) = true := by simpa using q125
          clear q36 q34 q123 q125
          obtain ⟨oa1, c1, w1, hr1, hO1, hz1, hF1⟩ := nm_str (by omega) hO hz hF
          have hN3 : NmL (l2 ++ [36, 123, 97, 35, 59, 49, 43] ++ [125]) := by rw [List.append_assoc]; exact hN.app NmL.seq
          obtain ⟨oa2, c2, w2, hr2, hnx⟩ := nm_push (l2 := l2 ++ [36, 123, 97, 35, 59, 49, 43]) (l2 ++ [36, 123, 97, 35, 59, 49, 43] ++ [125]) (8 * j + 7) (by simp; omega) (by omega) q (by omega) hO1 hz1 hF1 125 rfl (fun z hz => by
            rcases List.mem_append.1 hz with hz | hz
            · rcases List.mem_append.1 hz with hz | hz
              · exact hw z hz
              · simp at hz; omega
            · simp at hz; omega) hN3
          have HNX := hid hnx
          clear hnx hO hw hz hF hN hN3 hO1 hz1 hF1 HY HM hcz
          obtain ⟨N1, hN1⟩ : ∃ N1, N1 = (l2 ++ [36, 123, 97, 35, 59, 49, 43]).length := ⟨_, rfl⟩
          rw [← hN1] at hr1 hr2 HNX
          clear hN1
          go_wp2_with (first | (at_builtin; refine Lib.wpList_append_run _ rfl _ _ _ _ rfl _ _ rfl rfl _ _ hr1 ?_) | (at_builtin; refine Lib.wpList_append_run _ rfl _ _ _ _ rfl _ _ rfl rfl _ _ hr2 ?_))
          exact ⟨HNX.out _ rfl, by simp [intOf]; omega⟩
        have e4 : (cz == 125) = false := by simpa using q125
        obtain ⟨oa2, c2, w2, hr2, hnx⟩ := nm_push (l2 := l2) (l2 ++ [cz]) (8 * j) hll (by omega) q (by omega) hO hz hF cz rfl (fun z hz => by
            rcases List.mem_append.1 hz with hz | hz
            · exact hw z hz
            · simp at hz; omega) (hN.app (NmL.plain (pn_of hcb.1 hcb.2 q34 q36 q123 q125)))
        have HNX := hid hnx
        clear hnx hO hw hz hF hN HY HM q36 q34 q123 q125 hcz
        go_wp2_with (at_builtin; refine Lib.wpList_append_run _ rfl _ _ _ _ rfl _ _ rfl rfl _ _ hr2 ?_)
        exact ⟨HNX.out _ rfl, by simp [intOf]; omega⟩
      · obtain rfl : j = S1.size := by omega
        have q' : ¬ (S1.size : Int) < (S1.size : Int) := by omega
        have HE : Hid (∀ w2, w2 = put4 wr (w.heap.size + 1) 2 (strOfNums l2) 0 0 → TkB w2 (w.heap.size + 1) 2 (strOfNums l2) 0 0 ∧ PQ (.returned (.agg (tcs 2 (strOfNums l2) 0 0))) w2) := fun w2 hw2 => by
          rw [hw2, HPQ.out]
          exact ⟨hF.r.put4 _ _ _ _, FrQ.mk _ (may_name hN) (isB_126 hw) (by omega) ⟨by omega, by omega⟩ (put4_below hF.o (by omega) _ _ _ _)⟩
        have hcv : (convert 22 9 (.slice oa l2.length c)).run Tryd.prog wr = .ok (.string (strOfNums l2)) wr := by
          by_cases q0 : 0 < l2.length
          · obtain ⟨g4, c4, e4, h4, h5⟩ := hO.form q0
            simp at e4
            obtain ⟨rfl, rfl⟩ := e4
            exact conv_str (hO.rd rfl (isB_126 hw) h5) _
          · have e0 : l2 = [] := List.eq_nil_of_length_eq_zero (by omega)
            rw [e0]
            exact conv_str (B := wr.heap.size) (zs := []) ⟨rfl, fun z hz => by simp at hz, .inl rfl⟩ _
        have t0 := hF.r.cell 0 _ rfl
        have t1 := hF.r.cell 1 _ rfl
        have t2 := hF.r.cell 2 _ rfl
        have t3 := hF.r.cell 3 _ rfl
        have tf := hF.r.fz
        clear hO hw hN hz hF
        generalize strOfNums l2 = U at *
        go_wp2_with fail
        exact bodyPost_ret (results_tok1 rfl _ _ (w.heap.size + 1) 2 U 0 0 rfl (HE.out _ rfl).1) rfl (HE.out _ rfl).2
  · have h1 : ¬ (65536 : Int) < ((strOfNums l).size : Int) := by omega
    have hS1b : (strOfNums l).size ≤ 65537 := by omega
    have HS := hid (HS0.out (strOfNums l))
    clear hsz hlong hl HS0
    generalize strOfNums l = S1 at *
    go_enter Tryd.func10, Tryd.ntmps10
    go_wp2_with fail
    obtain ⟨W0, HW0⟩ : ∃ W0, Hid (W0 = (w.alloc (.cells (tcs k S1 n a) 29)).alloc (.cells (tcs 0 sE 0 0) 29)) := ⟨_, rfl⟩
    go_loopw [5, 6, 7] (fun sv iv _ wr => NmI w W0 k S1 n a sv iv wr) (fun _ iv _ _ => S1.size - (intOf iv).toNat)
    case atStart => rw [HW0.out]; exact HS.out
    case round =>
      clear HS
      obtain ⟨j, oa, c, l2, rfl, rfl, hll, hj, hO, hw, hN, hz, hF⟩ := hrel
      have u1 := hF.t.cell 1 _ rfl
      by_cases q : j < S1.size
      · have q' : (j : Int) < (S1.size : Int) := by omega
        obtain ⟨y, HY⟩ : ∃ y : Nat, Hid (y = (S1[j]'q).toNat) := ⟨_, rfl⟩
        have hg : ((((S1[j]'q).toNat : Nat)) : Int) = (y : Int) := by rw [HY.out]
        have hyb : y < 256 := by have := (S1[j]'q).toNat_lt; have := HY.out; omega
        obtain ⟨m, HM⟩ : ∃ m : Nat, Hid (m = y % 95) := ⟨_, rfl⟩
        have hmb : m < 95 := by have := HM.out; omega
        have htm : ((y : Int)).tmod 95 = (m : Int) := by rw [Int.tmod_eq_emod_of_nonneg (by omega)]; have := HM.out; omega
        obtain ⟨cz, hcz⟩ : ∃ cz : Int, cz = 32 + (m : Int) := ⟨_, rfl⟩
        have hc1 : (32 + (m : Int)) % 256 = cz := by omega
        have hc2 : 32 + (m : Int) = cz := hcz.symm
        have hcb : 32 ≤ cz ∧ cz ≤ 126 := by omega
        by_cases q34 : cz = 34
        · have e1 : (cz == 34) = true := by simpa using q34
          clear q34
          obtain ⟨oa1, c1, w1, hr1, hO1, hz1, hF1⟩ := nm_str (by omega) hO hz hF
          have hN3 : NmL (l2 ++ [36, 123, 97, 35, 59, 49, 43] ++ [125]) := by rw [List.append_assoc]; exact hN.app NmL.seq
          obtain ⟨oa2, c2, w2, hr2, hnx⟩ := nm_push (l2 := l2 ++ [36, 123, 97, 35, 59, 49, 43]) (l2 ++ [36, 123, 97, 35, 59, 49, 43] ++ [125]) (8 * j + 7) (by simp; omega) (by omega) q (by omega) hO1 hz1 hF1 125 rfl (fun z hz => by
            rcases List.mem_append.1 hz with hz | hz
            · rcases List.mem_append.1 hz with hz | hz
              · exact hw z hz
              · simp at hz; omega
            · simp at hz; omega) hN3
          have HNX := hid hnx
          clear hnx hO hw hz hF hN hN3 hO1 hz1 hF1 HY HM hcz
          obtain ⟨N1, hN1⟩ : ∃ N1, N1 = (l2 ++ [36, 123, 97, 35, 59, 49, 43]).length := ⟨_, rfl⟩
          rw [← hN1] at hr1 hr2 HNX
          clear hN1
          go_wp2_with (first | (at_builtin; refine Lib.wpList_append_run _ rfl _ _ _ _ rfl _ _ rfl rfl _ _ hr1 ?_) | (at_builtin; refine Lib.wpList_append_run _ rfl _ _ _ _ rfl _ _ rfl rfl _ _ hr2 ?_))
          exact ⟨HNX.out _ rfl, by simp [intOf]; omega⟩
        have e1 : (cz == 34) = false := by simpa using q34
        by_cases q36 : cz = 36
        · have e2 : (cz == 36) = true := by simpa using q36
          clear q36 q34
          obtain ⟨oa1, c1, w1, hr1, hO1, hz1, hF1⟩ := nm_str (by omega) hO hz hF
          have hN3 : NmL (l2 ++ [36, 123, 97, 35, 59, 49, 43] ++ [125]) := by rw [List.append_assoc]; exact hN.app NmL.seq
          obtain ⟨oa2, c2, w2, hr2, hnx⟩ := nm_push (l2 := l2 ++ [36, 123, 97, 35, 59, 49, 43]) (l2 ++ [36, 123, 97, 35, 59, 49, 43] ++ [125]) (8 * j + 7) (by simp; omega) (by omega) q (by omega) hO1 hz1 hF1 125 rfl (fun z hz => by
            rcases List.mem_append.1 hz with hz | hz
            · rcases List.mem_append.1 hz with hz | hz
              · exact hw z hz
              · simp at hz; omega
            · simp at hz; omega) hN3
          have HNX := hid hnx
          clear hnx hO hw hz hF hN hN3 hO1 hz1 hF1 HY HM hcz
          obtain ⟨N1, hN1⟩ : ∃ N1, N1 = (l2 ++ [36, 123, 97, 35, 59, 49, 43]).length := ⟨_, rfl⟩
          rw [← hN1] at hr1 hr2 HNX
          clear hN1
          go_wp2_with (first | (at_builtin; refine Lib.wpList_append_run _ rfl _ _ _ _ rfl _ _ rfl rfl _ _ hr1 ?_) | (at_builtin; refine Lib.wpList_append_run _ rfl _ _ _ _ rfl _ _ rfl rfl _ _ hr2 ?_))
          exact ⟨HNX.out _ rfl, by simp [intOf]; omega⟩
        have e2 : (cz == 36) = false := by simpa using q36
        by_cases q123 : cz = 123
        · have e3 : (cz == 123) = true := by simpa using q123
          clear q36 q34 q123
          obtain ⟨oa1, c1, w1, hr1, hO1, hz1, hF1⟩ := nm_str (by omega) hO hz hF
          have hN3 : NmL (l2 ++ [36, 123, 97, 35, 59, 49, 43] ++ [125]) := by rw [List.append_assoc]; exact hN.app NmL.seq
          obtain ⟨oa2, c2, w2, hr2, hnx⟩ := nm_push (l2 := l2 ++ [36, 123, 97, 35, 59, 49, 43]) (l2 ++ [36, 123, 97, 35, 59, 49, 43] ++ [125]) (8 * j + 7) (by simp; omega) (by omega) q (by omega) hO1 hz1 hF1 125 rfl (fun z hz => by
            rcases List.mem_append.1 hz with hz | hz
            · rcases List.mem_append.1 hz with hz | hz
              · exact hw z hz
              · simp at hz; omega
            · simp at hz; omega) hN3
          have HNX := hid hnx
          clear hnx hO hw hz hF hN hN3 hO1 hz1 hF1 HY HM hcz
          obtain ⟨N1, hN1⟩ : ∃ N1, N1 = (l2 ++ [36, 123, 97, 35, 59, 49, 43]).length := ⟨_, rfl⟩
          rw [← hN1] at hr1 hr2 HNX
          clear hN1
          go_wp2_with (first | (at_builtin; refine Lib.wpList_append_run _ rfl _ _ _ _ rfl _ _ rfl rfl _ _ hr1 ?_) | (at_builtin; refine Lib.wpList_append_run _ rfl _ _ _ _ rfl _ _ rfl rfl _ _ hr2 ?_))
          exact ⟨HNX.out _ rfl, by simp [intOf]; omega⟩
        have e3 : (cz == 123) = false := by simpa using q123
        by_cases q125 : cz = 125
        · have e4 : (cz == 125) = true := by simpa using q125
          clear q36 q34 q123 q125
          obtain ⟨oa1, c1, w1, hr1, hO1, hz1, hF1⟩ := nm_str (by omega) hO hz hF
          have hN3 : NmL (l2 ++ [36, 123, 97, 35, 59, 49, 43] ++ [125]) := by rw [List.append_assoc]; exact hN.app NmL.seq
          obtain ⟨oa2, c2, w2, hr2, hnx⟩ := nm_push (l2 := l2 ++ [36, 123, 97, 35, 59, 49, 43]) (l2 ++ [36, 123, 97, 35, 59, 49, 43] ++ [125]) (8 * j + 7) (by simp; omega) (by omega) q (by omega) hO1 hz1 hF1 125 rfl (fun z hz => by
            rcases List.mem_append.1 hz with hz | hz
            · rcases List.mem_append.1 hz with hz | hz
              · exact hw z hz
              · simp at hz; omega
            · simp at hz; omega) hN3
          have HNX := hid hnx
          clear hnx hO hw hz hF hN hN3 hO1 hz1 hF1 HY HM hcz
          obtain ⟨N1, hN1⟩ : ∃ N1, N1 = (l2 ++ [36, 123, 97, 35, 59, 49, 43]).length := ⟨_, rfl⟩
          rw [← hN1] at hr1 hr2 HNX
          clear hN1
          go_wp2_with (first | (at_builtin; refine Lib.wpList_append_run _ rfl _ _ _ _ rfl _ _ rfl rfl _ _ hr1 ?_) | (at_builtin; refine Lib.wpList_append_run _ rfl _ _ _ _ rfl _ _ rfl rfl _ _ hr2 ?_))
          exact ⟨HNX.out _ rfl, by simp [intOf]; omega⟩
        have e4 : (cz == 125) = false := by simpa using q125
        obtain ⟨oa2, c2, w2, hr2, hnx⟩ := nm_push (l2 := l2) (l2 ++ [cz]) (8 * j) hll (by omega) q (by omega) hO hz hF cz rfl (fun z hz => by
            rcases List.mem_append.1 hz with hz | hz
            · exact hw z hz
            · simp at hz; omega) (hN.app (NmL.plain (pn_of hcb.1 hcb.2 q34 q36 q123 q125)))
        have HNX := hid hnx
        clear hnx hO hw hz hF hN HY HM q36 q34 q123 q125 hcz
        go_wp2_with (at_builtin; refine Lib.wpList_append_run _ rfl _ _ _ _ rfl _ _ rfl rfl _ _ hr2 ?_)
        exact ⟨HNX.out _ rfl, by simp [intOf]; omega⟩
      · obtain rfl : j = S1.size := by omega
        have q' : ¬ (S1.size : Int) < (S1.size : Int) := by omega
        have HE : Hid (∀ w2, w2 = put4 wr (w.heap.size + 1) 2 (strOfNums l2) 0 0 → TkB w2 (w.heap.size + 1) 2 (strOfNums l2) 0 0 ∧ PQ (.returned (.agg (tcs 2 (strOfNums l2) 0 0))) w2) := fun w2 hw2 => by
          rw [hw2, HPQ.out]
          exact ⟨hF.r.put4 _ _ _ _, FrQ.mk _ (may_name hN) (isB_126 hw) (by omega) ⟨by omega, by omega⟩ (put4_below hF.o (by omega) _ _ _ _)⟩
        have hcv : (convert 22 9 (.slice oa l2.length c)).run Tryd.prog wr = .ok (.string (strOfNums l2)) wr := by
          by_cases q0 : 0 < l2.length
          · obtain ⟨g4, c4, e4, h4, h5⟩ := hO.form q0
            simp at e4
            obtain ⟨rfl, rfl⟩ := e4
            exact conv_str (hO.rd rfl (isB_126 hw) h5) _
          · have e0 : l2 = [] := List.eq_nil_of_length_eq_zero (by omega)
            rw [e0]
            exact conv_str (B := wr.heap.size) (zs := []) ⟨rfl, fun z hz => by simp at hz, .inl rfl⟩ _
        have t0 := hF.r.cell 0 _ rfl
        have t1 := hF.r.cell 1 _ rfl
        have t2 := hF.r.cell 2 _ rfl
        have t3 := hF.r.cell 3 _ rfl
        have tf := hF.r.fz
        clear hO hw hN hz hF
        generalize strOfNums l2 = U at *
        go_wp2_with fail
        exact bodyPost_ret (results_tok1 rfl _ _ (w.heap.size + 1) 2 U 0 0 rfl (HE.out _ rfl).1) rfl (HE.out _ rfl).2

/-- FAIR: ANY TOKEN -/
theorem fair_any (t : Tk) (w : World) (hl : t.tx.length ≤ 140737488355328) : Calls Tryd.prog 10 #[tokV t] w (FrQ w) := by
  obtain ⟨k, l, n, a⟩ := t
  rcases (show k % 4 = 0 ∨ k % 4 = 1 ∨ k % 4 = 2 ∨ k % 4 = 3 by omega) with h | h | h | h
  · exact fair_word k l n a w h hl
  · exact fair_name k l n a w h hl
  · exact fair_num k l n a w h hl
  · exact fair_mark k l n a w h hl

end Go.Proofs.YtoifmiloaefanaaDoor
