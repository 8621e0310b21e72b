/-
  The reference's Sum.
-/
import Derived.Test.YteaebdonnicbkaaPack
namespace Go.Proofs.Yteaebdonnicbkaa
open Go.RowKit

theorem and1 {T : Nat} (hT : T < 4294967296) : bits BinOp.and IntKind.u32 (T : Int) 1 = ((T % 2 : Nat) : Int) := by
  have h := u32_and_nat T 1 hT (by decide)
  rw [show T &&& 1 = T % 2 from Nat.and_two_pow_sub_one_eq_mod T 1] at h
  exact h
theorem stepN_succ (n s : Nat) : Pl.stepN (n + 1) s = Pl.step1 (Pl.stepN n s) := by
  rw [Pl.stepN_add n 1 s]; rfl

set_option maxHeartbeats 1000000 in
theorem refSum_any (B : Nat) (a : Option Addr) (n c : Nat) (zs : List Int) (w : World) (hn : n ≤ 16777216) (hR : Rd B w a n zs) :
    Calls Try.prog 24 #[.slice a n c] w fun e w' => e = .returned (.int .u32 (crc zs)) ∧ w' = w := by
  obtain ⟨hzl, hzb, hz3⟩ := hR
  go_enter Try.func24, Try.ntmps24
  go_wp2
  go_loop [3, 4] (fun s i => ∃ j : Nat, j ≤ n ∧ i = .int .i64 (j : Int) ∧ s = .int .u32 ((reg (zs.take j) : Nat) : Int)) (fun _ i => n - (intOf i).toNat)
  case atStart => exact ⟨0, Nat.zero_le _, rfl, by simp [reg, Pl.sums]⟩
  case round =>
    obtain ⟨j, hj, rfl, rfl⟩ := hrel
    by_cases hjn : j < n
    · obtain ⟨b, off, rfl, hlt, hc⟩ := hz3.resolve_left (by omega)
      obtain ⟨z, hz⟩ : ∃ z : Nat, (z : Int) = zs.getD j 0 := ⟨(zs.getD j 0).toNat, by have := Pl.isB_getD hzb j; rw [List.getD_eq_getElem?_getD]; omega⟩
      have hz2 : z < 256 := by have := Pl.isB_getD hzb j; rw [List.getD_eq_getElem?_getD] at hz; omega
      have hcj := hc j hjn
      rw [← hz] at hcj
      have hS : reg (zs.take j) < 4294967296 := reg_lt (Pl.isB_take hzb j)
      have HN : Hid (reg (zs.take (j + 1)) = Pl.stepN 8 (reg (zs.take j) ^^^ z)) := by
        show _ = _
        rw [take_snoc (by omega), reg_snoc, ← List.getD_eq_getElem?_getD, ← hz]; rfl
      have HS0 := hid hz3
      clear hc hz hz3
      generalize reg (zs.take j) = S at *
      have e1 := xor_u32 (S := S) (z := z) hS (by omega)
      have hT : S ^^^ z < 4294967296 := Nat.xor_lt_two_pow (n := 32) hS (by omega)
      generalize S ^^^ z = T at *
      go_wp2
      clear e1 hcj
      go_loop [3, 5] (fun s i => ∃ k : Nat, k ≤ 8 ∧ i = .int .i64 (k : Int) ∧ s = .int .u32 ((Pl.stepN k T : Nat) : Int)) (fun _ i => 8 - (intOf i).toNat)
      case atStart => exact ⟨0, by decide, rfl, rfl⟩
      case round =>
        obtain ⟨k, hk, rfl, rfl⟩ := hrel
        by_cases hk8 : k < 8
        · have hR2 : Pl.stepN k T < 4294967296 := Pl.stepN_lt k hT
          have HK := hid (stepN_succ k T)
          generalize Pl.stepN k T = R at *
          have e2 := and1 hR2
          by_cases hodd : R % 2 = 1
          · have hv : Hid (Pl.step1 R = (R / 2) ^^^ 2197175160) := by show _ = _; unfold Pl.step1; rw [if_pos hodd]; rfl
            have e3 := xor_u32 (S := R / 2) (z := 2197175160) (by omega) (by decide)
            have hd : ((R : Int) / 2) = ((R / 2 : Nat) : Int) := by omega
            rw [hodd] at e2
            have e4 : bits BinOp.xor IntKind.u32 ((R : Int) / 2) 2197175160 = (((R / 2) ^^^ 2197175160 : Nat) : Int) := by rw [hd]; exact e3
            clear hd e3
            generalize R / 2 ^^^ 2197175160 = Q at *
            go_wp2
            go_round
            case rel => exact ⟨k + 1, by omega, by go_num, by rw [HK.out, hv.out]⟩
            case measure => simp [intOf]; omega
          · have hev : R % 2 = 0 := by omega
            have hv : Hid (Pl.step1 R = R / 2) := by show _ = _; unfold Pl.step1; rw [if_neg hodd]
            rw [hev] at e2
            clear hodd
            go_wp2
            go_round
            case rel => exact ⟨k + 1, by omega, by go_num, by rw [HK.out, hv.out]; rfl⟩
            case measure => simp [intOf]; omega
        · have e : k = 8 := by omega
          subst e
          rw [← HN.out]
          go_wp2
          go_round
          case rel => exact ⟨j + 1, by omega, by go_num, rfl⟩
          case measure => simp [intOf]; omega
    · have e : zs.take j = zs := List.take_of_length_le (by omega)
      rw [e]
      have e1 := not_u32 (reg_lt hzb)
      go_wp2
      go_ret
      refine ⟨?_, rfl⟩
      unfold crc
      rw [← e1]
      rfl

end Go.Proofs.Yteaebdonnicbkaa
