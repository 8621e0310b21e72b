/-
  THE SUM: sumOf, Sum.
-/
import Derived.Test.YteaebdonnicbkaaLeaf
namespace Go.Proofs.Yteaebdonnicbkaa
open Go.RowKit

def cat (Z : Nat → List Int) : Nat → List Int
  | 0 => []
  | k + 1 => cat Z k ++ Z k
/-- the register behind these bytes, and the sum -/
def reg (L : List Int) : Nat := Pl.sums 4294967295 (L.map Int.toNat)
def crc (L : List Int) : Int := ((4294967295 ^^^ reg L : Nat) : Int)

theorem reg_lt {L : List Int} (h : Pl.isB L) : reg L < 4294967296 := by
  have : ∀ (l : List Int) (s : Nat), Pl.isB l → s < 4294967296 → Pl.sums s (l.map Int.toNat) < 4294967296 := by
    intro l
    induction l with
    | nil => intro s _ hs; exact hs
    | cons z r ih => intro s hb hs; rw [Pl.isB_cons] at hb; simp only [List.map_cons, Pl.sums, List.foldl_cons]; exact ih _ hb.2 (Pl.sumB_lt hs (by omega))
  exact this L _ h (by decide)
theorem reg_snoc (L : List Int) (z : Int) : reg (L ++ [z]) = Pl.sumB (reg L) z.toNat := by simp [reg, Pl.sums]
theorem isB_cat {Z : Nat → List Int} {k : Nat} (h : ∀ t, t < k → Pl.isB (Z t)) : Pl.isB (cat Z k) := by
  induction k with
  | zero => exact Pl.isB_nil
  | succ k ih => rw [cat, Pl.isB_append]; exact ⟨ih fun t ht => h t (by omega), h k (by omega)⟩
theorem take_snoc {L : List Int} {j : Nat} (h : j < L.length) : L.take (j + 1) = L.take j ++ [L[j]?.getD 0] := by
  rw [List.take_succ_eq_append_getElem h]; simp [h]

theorem xor_u32 {S z : Nat} (hS : S < 4294967296) (hz : z < 4294967296) : bits BinOp.xor IntKind.u32 (S : Int) (z : Int) = ((S ^^^ z : Nat) : Int) := u32_xor_nat S z hS hz
theorem not_u32 {z : Nat} (hz : z < 4294967296) : bits BinOp.xor IntKind.u32 IntKind.u32.max (z : Int) = ((4294967295 ^^^ z : Nat) : Int) := u32_xor_nat 4294967295 z (by decide) hz
theorem and15 {T : Nat} (hT : T < 4294967296) : bits BinOp.and IntKind.u32 (T : Int) 15 = ((T % 16 : Nat) : Int) := by
  have h := u32_and_nat T 15 hT (by decide)
  rw [show T &&& 15 = T % 16 from Nat.and_two_pow_sub_one_eq_mod T 4] at h
  exact h
theorem half {T : Nat} (hT : T < 4294967296) : bits BinOp.xor IntKind.u32 ((T : Int) / 16) ((Pl.stepN 4 (T % 16) : Nat) : Int) = ((Pl.stepN 4 T : Nat) : Int) := by
  have h := u32_xor_nat (T / 16) (Pl.stepN 4 (T % 16)) (by omega) (Pl.stepN_lt 4 (by omega))
  rw [Pl.step4 T, ← h]
  rfl
theorem tab_getD {x : Nat} (h : x < 16) : tab.getD x 0 = ((Pl.stepN 4 x : Nat) : Int) := by
  unfold tab
  simp [h]
theorem tab_cell (w : World) {x : Nat} (h : x < 16) : ((w.alloc (.cells (tab.map (Value.int .u32)).toArray 102)).alloc (.cells (tab.map (Value.int .u32)).toArray 102)).cell? ⟨w.heap.size + 1, x, none⟩ = some (.int .u32 ((Pl.stepN 4 x : Nat) : Int)) := by
  have hl : tab.length = 16 := by decide
  have h2 := Blk.cell (Blk.new (k := .u32) (e := 102) (w.alloc (.cells (tab.map (Value.int .u32)).toArray 102)) tab) x (by omega)
  rw [tab_getD h] at h2
  simpa using h2

theorem tab_store (w : World) : Sem.run Try.prog (storeCells ⟨w.heap.size + 1, 0, none⟩ (tab.map (Value.int .u32)))
    ((w.alloc (.cells (tab.map (Value.int .u32)).toArray 102)).alloc (.cells #[.int .u32 0, .int .u32 0, .int .u32 0, .int .u32 0, .int .u32 0, .int .u32 0, .int .u32 0, .int .u32 0, .int .u32 0, .int .u32 0, .int .u32 0, .int .u32 0, .int .u32 0, .int .u32 0, .int .u32 0, .int .u32 0] 102)) =
    .ok () ((w.alloc (.cells (tab.map (Value.int .u32)).toArray 102)).alloc (.cells (tab.map (Value.int .u32)).toArray 102)) := by
  rw [show tab = _ from steps_tab]
  simp [go_sem]

theorem two_below (w : World) (o p : Obj) : Below w.heap.size w ((w.alloc o).alloc p) := ((Below.refl _ _).alloc (Nat.le_refl _) _).alloc (by simp) _

theorem not_not_u32 {r : Nat} (h : r < 4294967296) : bits BinOp.xor IntKind.u32 IntKind.u32.max ((4294967295 ^^^ r : Nat) : Int) = (r : Int) := by
  rw [not_u32 (Nat.xor_lt_two_pow (n := 32) (by decide) h), ← Nat.xor_assoc, Nat.xor_self, Nat.zero_xor]
set_option maxHeartbeats 1000000 in
theorem SumOn_any (L0 : List Int) (a : Option Addr) (n c : Nat) (zs : List Int) (w : World) (hL : Pl.isB L0) (hn : n ≤ 16777216) (hR : Rd w.heap.size w a n zs) :
    Calls Try.prog 54 #[.int .u32 (crc L0), .slice a n c] w fun e w' => e = .returned (.int .u32 (crc (L0 ++ zs))) ∧ Below w.heap.size w w' := by
  have hst := tab_store w
  have hbb := two_below w (.cells (tab.map (Value.int .u32)).toArray 102) (.cells (tab.map (Value.int .u32)).toArray 102)
  have htc := fun x => @tab_cell w x
  have HB := hR.below hbb
  have e0 := not_not_u32 (reg_lt hL)
  have H : Hid (_ ∧ _ ∧ _) := ⟨hbb, htc, HB⟩
  unfold crc
  clear hbb htc HB hR
  go_enter Try.func54, Try.ntmps54
  go_wp2_with (go_at_call 63; refine (sumSteps_any _).mono ?_; rintro e w' ⟨rfl, rfl⟩)
  obtain ⟨hbb, htc, hzl, hzb, hz3⟩ := H
  clear hst e0
  generalize ((w.alloc (.cells (tab.map (Value.int .u32)).toArray 102)).alloc (.cells (tab.map (Value.int .u32)).toArray 102)) = w1 at *
  generalize w.heap.size + 1 = gt at *
  generalize (List.map (Value.int IntKind.u32) tab).toArray = ar at *
  go_loop [0, 13] (fun s i => ∃ j : Nat, j ≤ n ∧ i = .int .i64 (j : Int) ∧ s = .int .u32 ((reg (L0 ++ zs.take j) : Nat) : Int)) (fun _ i => n - (intOf i).toNat)
  case atStart => exact ⟨0, Nat.zero_le _, rfl, by simp⟩
  case round =>
    obtain ⟨j, hj, rfl, rfl⟩ := hrel
    by_cases hjn : j < n
    · rcases hz3 with hz3 | ⟨b, off, rfl, hlt, hc⟩
      · omega
      · obtain ⟨z, hz⟩ : ∃ z : Nat, (z : Int) = zs.getD j 0 := ⟨(zs.getD j 0).toNat, by have := Pl.isB_getD hzb j; rw [List.getD_eq_getElem?_getD]; omega⟩
        have hz2 : z < 256 := by have := Pl.isB_getD hzb j; rw [List.getD_eq_getElem?_getD] at hz; omega
        have hcj := hc j hjn
        rw [← hz] at hcj
        have hS : reg (L0 ++ zs.take j) < 4294967296 := reg_lt (Pl.isB_append.2 ⟨hL, Pl.isB_take hzb j⟩)
        have hnext : reg (L0 ++ zs.take (j + 1)) = Pl.stepN 4 (Pl.stepN 4 (reg (L0 ++ zs.take j) ^^^ z)) := by
          rw [take_snoc (by omega), ← List.append_assoc, reg_snoc, ← List.getD_eq_getElem?_getD, ← hz, ← Pl.step8]; rfl
        have HN : Hid (reg (L0 ++ zs.take (j + 1)) = Pl.stepN 4 (Pl.stepN 4 (reg (L0 ++ zs.take j) ^^^ z))) := hnext
        clear hnext hc hz hL hzb
        generalize reg (L0 ++ zs.take j) = S at *
        have e1 := xor_u32 (S := S) (z := z) hS (by omega)
        have hT : S ^^^ z < 4294967296 := Nat.xor_lt_two_pow (n := 32) hS (by omega)
        generalize S ^^^ z = T at *
        have e2 := and15 hT
        have e3 := half hT
        have c1 := htc (T % 16) (by omega)
        have hT2 : Pl.stepN 4 T < 4294967296 := Pl.stepN_lt 4 hT
        generalize Pl.stepN 4 (T % 16) = q1 at *
        generalize Pl.stepN 4 T = T2 at *
        have e4 := and15 hT2
        have e5 := half hT2
        have c2 := htc (T2 % 16) (by omega)
        generalize Pl.stepN 4 (T2 % 16) = q2 at *
        generalize Pl.stepN 4 T2 = T3 at *
        clear htc
        go_wp2
        go_round
        case rel => exact ⟨j + 1, by omega, by go_num, by rw [HN.out]⟩
        case measure => simp [intOf]; omega
    · have hjn' : zs.take j = zs := List.take_of_length_le (by omega)
      rw [hjn']
      have e1 := not_u32 (reg_lt (Pl.isB_append.2 ⟨hL, hzb⟩))
      go_wp2
      go_ret
      refine ⟨?_, hbb⟩
      rw [← e1]
      rfl

theorem crc_nil : crc [] = 0 := by unfold crc reg Pl.sums; rfl
set_option maxHeartbeats 1000000 in
theorem sumOf_any (pb po m pc : Nat) (A : Nat → Option Addr) (Nn C : Nat → Nat) (Z : Nat → List Int) (w : World) (hm : m ≤ 1048576) (hpb : pb < w.heap.size)
    (hN : ∀ t, t < m → Nn t ≤ 16777216) (hp : ∀ t, t < m → w.cell? ⟨pb, po + t, none⟩ = some (.slice (A t) (Nn t) (C t))) (hR : ∀ t, t < m → Rd w.heap.size w (A t) (Nn t) (Z t)) :
    Calls Try.prog 39 #[.slice (some ⟨pb, po, none⟩) m pc] w fun e w' => e = .returned (.int .u32 (crc (cat Z m))) ∧ Below w.heap.size w w' := by
  have HS : Hid (∀ k, k < m → ∀ wr, Below w.heap.size w wr → Calls Try.prog 54 #[.int .u32 (crc (cat Z k)), .slice (A k) (Nn k) (C k)] wr fun e w' => e = .returned (.int .u32 (crc (cat Z (k + 1)))) ∧ Below w.heap.size w w') := fun k hk wr hb =>
    (SumOn_any (cat Z k) (A k) (Nn k) (C k) (Z k) wr (isB_cat fun t ht => (hR t (by omega)).2.1) (hN k hk) (((hR k hk).below hb).mono hb.size)).mono (fun e w' h => ⟨h.1, hb.trans (h.2.mono hb.size)⟩)
  have HP : Hid (∀ k, k < m → ∀ wr, Below w.heap.size w wr → wr.cell? ⟨pb, po + k, none⟩ = some (.slice (A k) (Nn k) (C k))) := fun k hk wr hb => (hb.cell (by exact hpb)).trans (hp k hk)
  have HB0 : Hid (Below w.heap.size w w) := Below.refl _ _
  have H0 : Hid (Value.int .u32 0 = Value.int .u32 (crc (cat Z 0))) := congrArg _ crc_nil.symm
  clear hp hR hN
  go_enter Try.func39, Try.ntmps39
  go_wp2
  go_loopw [3, 8] (fun s i wt => ∃ k : Nat, k ≤ m ∧ i = .int .i64 (k : Int) ∧ s = .int .u32 (crc (cat Z k)) ∧ Below w.heap.size w wt) (fun _ i _ => m - (intOf i).toNat)
  case atStart => exact ⟨0, Nat.zero_le _, rfl, H0.out, HB0.out⟩
  case round =>
    obtain ⟨k, hk, rfl, rfl, hb⟩ := hrel
    by_cases hkm : k < m
    · have hpk := HP.out k hkm wr hb
      have HSk : Hid _ := HS.out k hkm wr hb
      have hkm' : (k : Int) < (m : Int) := by omega
      have HK : Hid (Value.int .u32 (crc (cat Z (k + 1))) = Value.int .u32 (crc (cat Z (k + 1)))) := rfl
      clear HP HS HB0 H0 hb
      generalize A k = a at *
      generalize Nn k = n at *
      generalize C k = c at *
      generalize crc (cat Z k) = s0 at *
      go_wp2_with fail
      refine Calls.mono HSk.out ?_
      rintro e w2 ⟨rfl, b2⟩
      have B2 : Hid _ := b2
      clear b2
      go_wp2
      go_roundw
      case rel => exact ⟨k + 1, by omega, by go_num, rfl, B2.out⟩
      case measure => simp [intOf]; omega
    · have e : k = m := by omega
      subst e
      have hkm' : ¬ (k : Int) < (k : Int) := by omega
      have B2 : Hid _ := hb
      clear hb
      go_wp2
      go_ret
      exact ⟨rfl, B2.out⟩

end Go.Proofs.Yteaebdonnicbkaa
