/-
  THE SUM: sumOf, Sum.
-/
import Derived.Test.YtahaehjmnafhbaaLeaf
namespace Go.Proofs.Ytahaehjmnafhbaa
open Go.RowKit

def cat (Z : Nat → List Int) : Nat → List Int
  | 0 => []
  | k + 1 => cat Z k ++ Z k
/-- the register behind these bytes, and the sum -/
def reg (L : List Int) : Nat := Pl.sums 4294967295 (L.map Int.toNat)
def crc (L : List Int) : Int := ((4294967295 ^^^ reg L : Nat) : Int)

theorem reg_lt {L : List Int} (h : Pl.isB L) : reg L < 4294967296 := by
  have : ∀ (l : List Int) (s : Nat), Pl.isB l → s < 4294967296 → Pl.sums s (l.map Int.toNat) < 4294967296 := by
    intro l
    induction l with
    | nil => intro s _ hs; exact hs
    | cons z r ih => intro s hb hs; rw [Pl.isB_cons] at hb; simp only [List.map_cons, Pl.sums, List.foldl_cons]; exact ih _ hb.2 (Pl.sumB_lt hs (by omega))
  exact this L _ h (by decide)
theorem reg_snoc (L : List Int) (z : Int) : reg (L ++ [z]) = Pl.sumB (reg L) z.toNat := by simp [reg, Pl.sums]
theorem isB_cat {Z : Nat → List Int} {k : Nat} (h : ∀ t, t < k → Pl.isB (Z t)) : Pl.isB (cat Z k) := by
  induction k with
  | zero => exact Pl.isB_nil
  | succ k ih => rw [cat, Pl.isB_append]; exact ⟨ih fun t ht => h t (by omega), h k (by omega)⟩
theorem take_snoc {L : List Int} {j : Nat} (h : j < L.length) : L.take (j + 1) = L.take j ++ [L[j]?.getD 0] := by
  rw [List.take_succ_eq_append_getElem h]; simp [h]

theorem xor_u32 {S z : Nat} (hS : S < 4294967296) (hz : z < 4294967296) : bits BinOp.xor IntKind.u32 (S : Int) (z : Int) = ((S ^^^ z : Nat) : Int) := u32_xor_nat S z hS hz
theorem not_u32 {z : Nat} (hz : z < 4294967296) : bits BinOp.xor IntKind.u32 IntKind.u32.max (z : Int) = ((4294967295 ^^^ z : Nat) : Int) := u32_xor_nat 4294967295 z (by decide) hz
theorem and15 {T : Nat} (hT : T < 4294967296) : bits BinOp.and IntKind.u32 (T : Int) 15 = ((T % 16 : Nat) : Int) := by
  have h := u32_and_nat T 15 hT (by decide)
  rw [show T &&& 15 = T % 16 from Nat.and_two_pow_sub_one_eq_mod T 4] at h
  exact h
theorem half {T : Nat} (hT : T < 4294967296) : bits BinOp.xor IntKind.u32 ((T : Int) / 16) ((Pl.stepN 4 (T % 16) : Nat) : Int) = ((Pl.stepN 4 T : Nat) : Int) := by
  have h := u32_xor_nat (T / 16) (Pl.stepN 4 (T % 16)) (by omega) (Pl.stepN_lt 4 (by omega))
  rw [Pl.step4 T, ← h]
  rfl
theorem tab_getD {x : Nat} (h : x < 16) : tab.getD x 0 = ((Pl.stepN 4 x : Nat) : Int) := by
  unfold tab
  simp [h]
theorem tab_cell (w : World) {x : Nat} (h : x < 16) : ((w.alloc (.cells (tab.map (Value.int .u32)).toArray 102)).alloc (.cells (tab.map (Value.int .u32)).toArray 102)).cell? ⟨w.heap.size + 1, x, none⟩ = some (.int .u32 ((Pl.stepN 4 x : Nat) : Int)) := by
  have hl : tab.length = 16 := by decide
  have h2 := Blk.cell (Blk.new (k := .u32) (e := 102) (w.alloc (.cells (tab.map (Value.int .u32)).toArray 102)) tab) x (by omega)
  rw [tab_getD h] at h2
  simpa using h2

theorem tab_store (w : World) : Sem.run Try.prog (storeCells ⟨w.heap.size + 1, 0, none⟩ (tab.map (Value.int .u32)))
    ((w.alloc (.cells (tab.map (Value.int .u32)).toArray 102)).alloc (.cells #[.int .u32 0, .int .u32 0, .int .u32 0, .int .u32 0, .int .u32 0, .int .u32 0, .int .u32 0, .int .u32 0, .int .u32 0, .int .u32 0, .int .u32 0, .int .u32 0, .int .u32 0, .int .u32 0, .int .u32 0, .int .u32 0] 102)) =
    .ok () ((w.alloc (.cells (tab.map (Value.int .u32)).toArray 102)).alloc (.cells (tab.map (Value.int .u32)).toArray 102)) := by
  rw [show tab = _ from steps_tab]
  simp [go_sem]

theorem two_below (w : World) (o p : Obj) : Below w.heap.size w ((w.alloc o).alloc p) := ((Below.refl _ _).alloc (Nat.le_refl _) _).alloc (by simp) _

theorem hid {p : Prop} (h : p) : Hid p := h
theorem not_not_u32 {r : Nat} (h : r < 4294967296) : bits BinOp.xor IntKind.u32 IntKind.u32.max ((4294967295 ^^^ r : Nat) : Int) = (r : Int) := by
  rw [not_u32 (Nat.xor_lt_two_pow (n := 32) (by decide) h), ← Nat.xor_assoc, Nat.xor_self, Nat.zero_xor]
set_option maxHeartbeats 1000000 in
theorem SumOn_any (L0 : List Int) (a : Option Addr) (n c : Nat) (zs : List Int) (w : World) (hL : Pl.isB L0) (hn : n ≤ 16777216) (hR : Rd w.heap.size w a n zs) :
    Calls Try.prog 34 #[.int .u32 (crc L0), .slice a n c] w fun e w' => e = .returned (.int .u32 (crc (L0 ++ zs))) ∧ Below w.heap.size w w' := by
  have hst := tab_store w
  have hbb := two_below w (.cells (tab.map (Value.int .u32)).toArray 102) (.cells (tab.map (Value.int .u32)).toArray 102)
  have htc := fun x => @tab_cell w x
  have HB := hR.below hbb
  have e0 := not_not_u32 (reg_lt hL)
  have H : Hid (_ ∧ _ ∧ _) := ⟨hbb, htc, HB⟩
  unfold crc
  clear hbb htc HB hR
  go_enter Try.func34, Try.ntmps34
  go_wp2_with (go_at_call 40; refine (sumSteps_any _).mono ?_; rintro e w' ⟨rfl, rfl⟩)
  obtain ⟨hbb, htc, hzl, hzb, hz3⟩ := H
  clear hst e0
  generalize ((w.alloc (.cells (tab.map (Value.int .u32)).toArray 102)).alloc (.cells (tab.map (Value.int .u32)).toArray 102)) = w1 at *
  generalize w.heap.size + 1 = gt at *
  generalize (List.map (Value.int IntKind.u32) tab).toArray = ar at *
  go_loop [0, 13] (fun s i => ∃ j : Nat, j ≤ n ∧ i = .int .i64 (j : Int) ∧ s = .int .u32 ((reg (L0 ++ zs.take j) : Nat) : Int)) (fun _ i => n - (intOf i).toNat)
  case atStart => exact ⟨0, Nat.zero_le _, rfl, by simp⟩
  case round =>
    obtain ⟨j, hj, rfl, rfl⟩ := hrel
    by_cases hjn : j < n
    · rcases hz3 with hz3 | ⟨b, off, rfl, hlt, hc⟩
      · omega
      · obtain ⟨z, hz⟩ : ∃ z : Nat, (z : Int) = zs.getD j 0 := ⟨(zs.getD j 0).toNat, by have := Pl.isB_getD hzb j; rw [List.getD_eq_getElem?_getD]; omega⟩
        have hz2 : z < 256 := by have := Pl.isB_getD hzb j; rw [List.getD_eq_getElem?_getD] at hz; omega
        have hcj := hc j hjn
        rw [← hz] at hcj
        have hS : reg (L0 ++ zs.take j) < 4294967296 := reg_lt (Pl.isB_append.2 ⟨hL, Pl.isB_take hzb j⟩)
        have hnext : reg (L0 ++ zs.take (j + 1)) = Pl.stepN 4 (Pl.stepN 4 (reg (L0 ++ zs.take j) ^^^ z)) := by
          rw [take_snoc (by omega), ← List.append_assoc, reg_snoc, ← List.getD_eq_getElem?_getD, ← hz, ← Pl.step8]; rfl
        have HN : Hid (reg (L0 ++ zs.take (j + 1)) = Pl.stepN 4 (Pl.stepN 4 (reg (L0 ++ zs.take j) ^^^ z))) := hnext
        clear hnext hc hz hL hzb
        generalize reg (L0 ++ zs.take j) = S at *
        have e1 := xor_u32 (S := S) (z := z) hS (by omega)
        have hT : S ^^^ z < 4294967296 := Nat.xor_lt_two_pow (n := 32) hS (by omega)
        generalize S ^^^ z = T at *
        have e2 := and15 hT
        have e3 := half hT
        have c1 := htc (T % 16) (by omega)
        have hT2 : Pl.stepN 4 T < 4294967296 := Pl.stepN_lt 4 hT
        generalize Pl.stepN 4 (T % 16) = q1 at *
        generalize Pl.stepN 4 T = T2 at *
        have e4 := and15 hT2
        have e5 := half hT2
        have c2 := htc (T2 % 16) (by omega)
        generalize Pl.stepN 4 (T2 % 16) = q2 at *
        generalize Pl.stepN 4 T2 = T3 at *
        clear htc
        go_wp2
        go_round
        case rel => exact ⟨j + 1, by omega, by go_num, by rw [HN.out]⟩
        case measure => simp [intOf]; omega
    · have hjn' : zs.take j = zs := List.take_of_length_le (by omega)
      rw [hjn']
      have e1 := not_u32 (reg_lt (Pl.isB_append.2 ⟨hL, hzb⟩))
      go_wp2
      go_ret
      refine ⟨?_, hbb⟩
      rw [← e1]
      rfl

theorem isB_catz {zs : List Int} (h : Pl.isB zs) (k : Nat) : Pl.isB (cat (fun _ => zs) k) := isB_cat fun _ _ => h
theorem crc_nil : crc [] = 0 := by unfold crc reg Pl.sums; rfl
set_option maxHeartbeats 1000000 in
theorem Sum_any (a : Option Addr) (n c : Nat) (zs : List Int) (w : World) (hn : n ≤ 16777216) (hR : Rd w.heap.size w a n zs) :
    Calls Try.prog 17 #[.slice a n c] w fun e w' => e = .returned (.int .u32 (crc zs)) ∧ Below w.heap.size w w' := by
  obtain ⟨w1, hw1⟩ : ∃ w1, w1 = w.alloc (.cells #[.slice a n c] 22) := ⟨_, rfl⟩
  have hb : Below w.heap.size w w1 := by rw [hw1]; exact (Below.refl _ _).alloc (Nat.le_refl _) _
  have hR2 := (hR.below hb).mono hb.size
  have hc : w1.cell? ⟨w.heap.size, 0, none⟩ = some (.slice a n c) := by rw [hw1]; simp
  have HS := hid (SumOn_any [] a n c zs w1 Pl.isB_nil hn hR2)
  rw [crc_nil] at HS
  have HF : Hid (Calls Try.prog 25 #[.slice (some ⟨w.heap.size, 0, none⟩) 1 1] w1 fun e w' => e = .returned (.int .u32 (crc zs)) ∧ Below w.heap.size w w') := by
    clear hw1
    go_enter Try.func25, Try.ntmps25
    go_wp2_with fail
    refine wp_loop_rounds 2 ?_
    rw [rounds_succ]
    go_wp2_with fail
    refine Calls.mono HS.out ?_
    rintro e w2 ⟨rfl, b2⟩
    have B2 := hid b2
    clear b2 HS hc
    rw [List.nil_append]
    go_wp2_with fail
    rw [rounds_succ]
    go_wp2
    go_ret
    exact ⟨rfl, hb.trans (B2.out.mono hb.size)⟩
  have HW := hid hw1
  clear hw1 hb hR2 hc HS hR
  go_enter Try.func17, Try.ntmps17
  go_wp2_with fail
  rw [← HW.out]
  refine Calls.mono HF.out ?_
  rintro e w2 ⟨rfl, b2⟩
  go_wp2
  go_ret
  exact ⟨rfl, b2⟩

end Go.Proofs.Ytahaehjmnafhbaa
