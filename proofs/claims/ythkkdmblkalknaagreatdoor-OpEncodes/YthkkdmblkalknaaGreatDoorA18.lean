import Derived.Test.YthkkdmblkalknaaGreatDoorA16
import Derived.Test.YthkkdmblkalknaaGreatDoorRows
import Derived.ProofKit
import Derived.OpenShut
import Derived.SizedLaws
import Derived.SliceStrings
import Derived.Deep.Slices
/-
  OpOneForm: how large its bytes and its text are.
-/
namespace Go.Proofs.YthkkdmblkalknaaGreatDoor
open Go.RowKit

/-- the bulk of operations, at least -/
def blk : List PO → Nat
  | [] => 0
  | o :: os => 7 + o.nm.size + o.ot.size + o.da.length + blk os
theorem blk_good : ∀ (os : List PO), blk (goodL os) ≤ blk os
  | [] => Nat.le_refl _
  | o :: os => by
    have := blk_good os
    unfold goodL at this ⊢
    rw [List.filter_cons]
    split
    · simp only [blk]; omega
    · simp only [blk]; omega
theorem blk_len : ∀ (os : List PO), 7 * os.length ≤ blk os
  | [] => Nat.le_refl _
  | o :: os => by
    have := blk_len os
    simp only [blk, List.length_cons]
    omega
theorem encK_len (m : Nat) (o : PO) : (encK m o).length ≤ 10 + o.nm.size + o.ot.size + o.da.length := by
  unfold encK
  split
  all_goals (simp only [List.length_append, txtB, Pl.length_dig, length_nums]; omega)
theorem encL_blk : ∀ (os : List PO), (∀ o ∈ os, o.ck = 0) → (encL os).length ≤ 2 * blk os
  | [], _ => by simp [encL]
  | o :: os, h => by
    have ih := encL_blk os (fun q hq => h q (by simp [hq]))
    obtain ⟨m, hF⟩ := ck_f (h o (by simp))
    have e : (encO o).length ≤ 11 + o.nm.size + o.ot.size + o.da.length := by
      have := encK_len m o
      rw [encO_eq hF.fit, List.length_append, Pl.length_dig]
      omega
    rw [encL_cons, List.length_append]
    simp only [blk]
    omega
theorem itoa_len {v : Int} (h0 : 0 ≤ v) (h1 : v ≤ 262144) : (itoaB v).data.toList.length ≤ 6 := by
  obtain ⟨u, rfl⟩ := Int.eq_ofNat_of_zero_le h0
  have e : (itoaB (u : Int)).data.toList = Lib.decDigits u := by
    show (Lib.itoa (u : Int)).toArray.toList = _
    rw [List.toList_toArray, Lib.itoa_nonneg]
  rw [e]
  exact digits_len 5 u (by omega)
set_option maxRecDepth 100000 in
theorem line_len {o : PO} (h : o.ck = 0) : (lineL o).length ≤ 32 + o.nm.size + o.ot.size + 2 * o.da.length := by
  obtain ⟨m, hF⟩ := ck_f h
  have nf := itoa_len hF.ok.f0 hF.ok.f1
  have nt := itoa_len hF.ok.t0 hF.ok.t1
  have sn : o.nm.data.toList.length = o.nm.size := by rw [Array.length_toList]; rfl
  have so : o.ot.data.toList.length = o.ot.size := by rw [Array.length_toList]; rfl
  have sh := len_hexL o.da
  have m1 := hF.m1
  have m2 := hF.m2
  rw [lineL_body, List.length_append]
  unfold bodyL
  rw [hF.kk, Int.toNat_natCast]
  rcases nat_kinds m1 m2 with rfl | rfl | rfl | rfl | rfl | rfl | rfl | rfl | rfl | rfl | rfl
  all_goals
    simp [wordsOf, frm, nw, tl, kw, txts, shownB, join_cons, join_one] at nf nt sn so ⊢
    omega
theorem prtL_blk : ∀ (os : List PO), (∀ o ∈ os, o.ck = 0) → (prtL os).length ≤ 7 * blk os
  | [], _ => by simp [prtL]
  | o :: os, h => by
    have ih := prtL_blk os (fun q hq => h q (by simp [hq]))
    have e := line_len (h o (by simp))
    have e2 : prtL (o :: os) = lineL o ++ prtL os := by simp [prtL]
    rw [e2, List.length_append]
    simp only [blk]
    omega

end Go.Proofs.YthkkdmblkalknaaGreatDoor
/-
  A list of operations, as an argument: opened.
-/
namespace Go.Proofs.YthkkdmblkalknaaGreatDoor
open Go.RowKit Go.ChangeShapes Go.WideShapes Go.ChangeAt

theorem bulk_one {H : Type} (d : DataW H) : 1 ≤ Rows.uptoBulk d := by
  cases d with
  | lit l => cases l <;> simp [Rows.uptoBulk]
  | _ => simp [Rows.uptoBulk]
theorem bulk_lits {H : Type} (k : IntKind) (zs : List Int) : Rows.uptoBulkAll (H := H) (lits k zs) = zs.length := by
  induction zs with
  | nil => rfl
  | cons z r ih =>
    have e : lits (H := H) k (z :: r) = .lit (.int k z) :: lits k r := rfl
    rw [e, Rows.uptoBulkAll, ih]
    simp [Rows.uptoBulk]
    omega
theorem spot_none {W : World} {x : Addr} {v : Value} (h : W.cell? (x.add 0) = some v) : ∃ b off, x = ⟨b, off, none⟩ := by
  obtain ⟨b, off, spot⟩ := x
  have hspot : spot = none := by simpa [Addr.add] using World.cell?_spot h
  subst hspot
  exact ⟨b, off, rfl⟩
theorem add_plain (b off t : Nat) : (⟨b, off, none⟩ : Addr).add t = ⟨b, off + t, none⟩ := by unfold Addr.add; split <;> simp_all
theorem rd_of_open {W : World} {x : Addr} {len cap : Nat} {zs : List Int} (hl : len ≤ cap) (hz : zs.length = cap) (hcell : ∀ i, i < zs.length → W.cell? (x.add i) = some (.int .u8 (zs.getD i 0))) (hwz : ∀ n ∈ zs, (Lit.int .u8 n).wf = true) :
    Rd W.heap.size W (some x) len (zs.take len) := by
  refine ⟨by simp; omega, fun z hzm => ?_, ?_⟩
  · have := bounds_u8 (hwz z (List.mem_of_mem_take hzm))
    omega
  · by_cases h0 : len = 0
    · exact .inl h0
    · have hc := hcell 0 (by omega)
      obtain ⟨b, off, rfl⟩ := spot_none hc
      refine .inr ⟨b, off, rfl, World.block_lt_of_cell? W ⟨b, off, none⟩ (by rw [add_plain] at hc; exact hc), fun t ht => ?_⟩
      rw [← add_plain, hcell t (by omega), List.getD_eq_getElem?_getD, List.getD_eq_getElem?_getD, List.getElem?_take_of_lt ht]
/-- bytes -/
theorem open_bytes {H : Type} {enc : TypeId × Value → H} {W : World} {fuel : Nat} {cs : List Value} {y : DataW H × List MemPlace} (h : DataW.trod enc Tryz.prog W 0 (fun _ => true) true fuel 23 cs = some y) :
    ∃ a n c zs, cs = [.slice a n c] ∧ (a = none → c = 0) ∧ Rd W.heap.size W a n zs ∧ n + 1 ≤ Rows.uptoBulk y.1 := by
  rcases open_ints Tryz.underlying23 Tryz.underlying5 (by kernel_rfl) h with ⟨hcs, hx⟩ | ⟨x, l, c, zs, hcs, hp, hl, hm, hz, hx, hcell, hwz⟩
  · refine ⟨none, 0, 0, [], hcs, fun _ => rfl, ⟨rfl, Pl.isB_nil, .inl rfl⟩, bulk_one _⟩
  · refine ⟨some x, l, c, zs.take l, hcs, fun h => (by cases h), rd_of_open hl (by simpa using hz) hcell hwz, ?_⟩
    rw [hx]
    simp only [Rows.uptoBulk, bulk_lits]
    simp at hz
    rw [List.length_take]
    omega

end Go.Proofs.YthkkdmblkalknaaGreatDoor
