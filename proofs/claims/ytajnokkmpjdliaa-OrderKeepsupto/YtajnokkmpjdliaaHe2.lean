/-
  heap.down.
-/
import Derived.Test.YtajnokkmpjdliaaHe1
namespace Go.Proofs.Ytajnokkmpjdliaa
open Go.RowKit

theorem sw_get (l : List Int) {i j : Nat} (hi : i < l.length) (hj : j < l.length) (k : Nat) (h1 : k ≠ i) (h2 : k ≠ j) : gt (sw l i j) k = gt l k := by rw [sw_gt l hi hj, if_neg h2, if_neg h1]
theorem IsM59 : IsM 59 "Less" := by unfold IsM; kernel_rfl
theorem IsM62 : IsM 62 "Swap" := by unfold IsM; kernel_rfl
theorem IsM33 : IsM 33 "Len" := by unfold IsM; kernel_rfl
theorem IsM60 : IsM 60 "Pop" := by unfold IsM; kernel_rfl
theorem IsM61 : IsM 61 "Push" := by unfold IsM; kernel_rfl

/-- what down leaves -/
def DnQ (B g c n Lb : Nat) (l : List Int) (w : World) (e : Ending) (w' : World) : Prop := (∃ b, e = .returned (.bool b)) ∧ ∃ l' : List Int, l'.length = l.length ∧ Hp B w' Lb (.slice (some ⟨g, 0, none⟩) l.length c) l' ∧ IsH n l' ∧ l'.Perm l ∧ (∀ k, n ≤ k → gt l' k = gt l k) ∧ But (fun k => k = g) w w'

set_option maxRecDepth 100000 in
set_option maxHeartbeats 4000000 in
theorem down_any (B g c n Lb : Nat) (l : List Int) (hn : n ≤ l.length) (hl : l.length ≤ 1048576) (w : World) (h : Hp B w Lb (.slice (some ⟨g, 0, none⟩) l.length c) l) (hd : DnH n 0 l) :
    Calls Try.prog 39 #[.iface 65 (.pointer (some ⟨Lb, 0, none⟩)), .int .i64 0, .int .i64 (n : Int)] w (DnQ B g c n Lb l w) := by
  have HH := hid h
  have HD := hid hd
  have HL := hid hl
  have HN := hid hn
  clear h hd hl hn
  go_enter Try.func39, Try.ntmps39
  go_wp2_with fail
  go_loopw [7] (fun iv wr => ∃ (i : Nat) (l1 : List Int), iv = .int .i64 (i : Int) ∧ i ≤ 1048576 ∧ l1.length = l.length ∧ Hp B wr Lb (.slice (some ⟨g, 0, none⟩) l.length c) l1 ∧ DnH n i l1 ∧ l1.Perm l ∧ (∀ k, n ≤ k → gt l1 k = gt l k) ∧ But (fun k => k = g) w wr) (fun iv _ => n - (intOf iv).toNat)
  case atStart => exact ⟨0, l, rfl, by omega, rfl, HH.out, HD.out, List.Perm.refl _, fun _ _ => rfl, But.refl _ _⟩
  case round =>
    obtain ⟨i, l1, rfl, hi0, e1, hp, hd, hpm, hfx, hb⟩ := hrel
    have hlen := HL.out
    have hnl := HN.out
    obtain ⟨j1, hj1⟩ : ∃ j1, j1 = 2 * i + 1 := ⟨_, rfl⟩
    obtain ⟨j2, hj2⟩ : ∃ j2, j2 = j1 + 1 := ⟨_, rfl⟩
    have hneg : ¬ (2 * (i : Int) + 1) < 0 := by omega
    have hij : (i : Int) ≤ 1048576 := by omega
    have HJ : Hid (j1 = 2 * i + 1 ∧ j2 = j1 + 1) := ⟨hj1, hj2⟩
    clear hj1 hj2
    by_cases q : j1 < n
    · have q' : ¬ (n : Int) ≤ 2 * (i : Int) + 1 := by have := HJ.out; omega
      have HLs : Hid (∀ wi, Below wr.heap.size wr wi → wi.cell? ⟨Lb, 0, none⟩ = some (.slice (some ⟨g, 0, none⟩) l.length c) ∧ (∀ (a b : Nat) (za zb : Int), za = a → zb = b → a < n → b < n → Calls Try.prog 59 #[.slice (some ⟨g, 0, none⟩) l.length c, .int .i64 za, .int .i64 zb] wi fun e w' => e = .returned (.bool (decide (gt l1 a < gt l1 b))) ∧ Below wi.heap.size wi w')) := fun wi hbi => by
        have hp2 := hp.next hbi
        refine ⟨hp2.cell, fun a b za zb e3 e4 ha hb => ?_⟩
        subst e3 e4
        rw [← e1] at hp2 ⊢
        exact Less_any g l1.length c a b l1 (by omega) (by omega) wi (fun k hk => getD_list l1 g wi hp2.row k hk)
      have HSw : Hid (∀ wi, Below wr.heap.size wr wi → ∀ (b : Nat) (zb : Int), zb = b → Kid n i b l1 → gt l1 b < gt l1 i → Calls Try.prog 62 #[.slice (some ⟨g, 0, none⟩) l.length c, .int .i64 (i : Int), .int .i64 zb] wi fun e w' => e = .returned (.tuple #[]) ∧ ((sw l1 i b).length = l.length ∧ Hp B w' Lb (.slice (some ⟨g, 0, none⟩) l.length c) (sw l1 i b) ∧ DnH n b (sw l1 i b) ∧ (sw l1 i b).Perm l ∧ (∀ k, n ≤ k → gt (sw l1 i b) k = gt l k) ∧ But (fun k => k = g) w w')) := fun wi hbi b zb e3 hk hlt => by
        subst e3
        have hp2 := hp.next hbi
        have hk1 := hk.1
        have hk2 := hk.2.1
        have hbi2 : But (fun k => k = g) wr wi := But.of_below hbi
        rw [← e1] at hp2 ⊢
        refine (Swap_hp B g c i b l1 (by omega) (by omega) Lb wi hp2).mono ?_
        rintro e w' ⟨he, h1, h2⟩
        exact ⟨he, sw_len _ _ _, h1, hd.step (by omega) hk hlt, (sw_perm l1 (by omega) (by omega)).trans hpm, fun k hk => (sw_get l1 (by omega) (by omega) k (by omega) (by omega)).trans (hfx k hk), (hb.trans hbi2).trans h2⟩
      have HDn : Hid (∀ wi, Below wr.heap.size wr wi → ∀ b, Kid n i b l1 → ¬ gt l1 b < gt l1 i → l1.length = l.length ∧ Hp B wi Lb (.slice (some ⟨g, 0, none⟩) l.length c) l1 ∧ IsH n l1 ∧ l1.Perm l ∧ (∀ k, n ≤ k → gt l1 k = gt l k) ∧ But (fun k => k = g) w wi) := fun wi hbi b hk hlt => ⟨e1, hp.next hbi, hd.done hk (by omega), hpm, hfx, hb.trans (But.of_below hbi)⟩
      clear hd hp hpm hfx hb
      by_cases q2 : j2 < n
      · have q2' : (2 * (i : Int) + 1 + 1) < (n : Int) := by have := HJ.out; omega
        obtain ⟨b2, hb2⟩ : ∃ b2, b2 = decide (gt l1 j2 < gt l1 j1) := ⟨_, rfl⟩
        have HK : Hid (b2 = decide (gt l1 j2 < gt l1 j1)) := hb2
        clear hb2
        go_wp2_with fail
        rw [m59 _ IsM59, load66 _ _ _ _ (HLs.out _ (Below.refl _ _)).1]
        go_wp2_with fail
        go_at_call 59
        refine Calls.mono ((HLs.out _ (Below.refl _ _)).2 j2 j1 _ _ (by have := HJ.out; omega) (by have := HJ.out; omega) q2 q) ?_
        rintro e w2 ⟨rfl, hb2⟩
        have HB2 := hid hb2
        clear hb2
        rw [← HK.out]
        cases b2
        · have HKid : Hid (Kid n i j1 l1) := ⟨q, .inl HJ.out.1, fun k k1 k2 k3 => by
            obtain ⟨hj1, hj2⟩ := HJ.out
            have := HK.out
            simp at this
            rcases (show k = j1 ∨ k = j2 by omega) with rfl | rfl <;> omega⟩
          by_cases p : gt l1 j1 < gt l1 i
          · go_wp2_with fail
            rw [m59 _ IsM59, load66 _ _ _ _ (HLs.out _ HB2.out).1]
            go_wp2_with fail
            go_at_call 59
            refine Calls.mono ((HLs.out _ HB2.out).2 j1 i _ _ (by have := HJ.out; omega) rfl HKid.out.1 (by have := HJ.out; omega)) ?_
            rintro e w3 ⟨rfl, hb3⟩
            have HB3 : Hid (Below wr.heap.size wr w3) := HB2.out.trans (hb3.mono HB2.out.size)
            clear hb3
            rw [decide_eq_true p]
            go_wp2_with fail
            rw [m62 _ IsM62, load66 _ _ _ _ (HLs.out _ HB3.out).1]
            go_wp2_with fail
            go_at_call 62
            refine Calls.mono (HSw.out _ HB3.out j1 _ (by have := HJ.out; omega) HKid.out p) ?_
            rintro e w4 ⟨rfl, hr⟩
            have HR := hid hr
            have hjn := HKid.out.1
            have hji : i < j1 := by have := HJ.out; omega
            clear hr
            go_wp2_with fail
            go_roundw
            case rel => exact ⟨j1, _, by congr 1; have := HJ.out; omega, by omega, HR.out⟩
            case measure =>
              have := HJ.out
              simp [intOf]
              omega
          · have HP : Hid (¬ gt l1 j1 < gt l1 i) := p
            clear p
            go_wp2_with fail
            rw [m59 _ IsM59, load66 _ _ _ _ (HLs.out _ HB2.out).1]
            go_wp2_with fail
            go_at_call 59
            refine Calls.mono ((HLs.out _ HB2.out).2 j1 i _ _ (by have := HJ.out; omega) rfl HKid.out.1 (by have := HJ.out; omega)) ?_
            rintro e w3 ⟨rfl, hb3⟩
            have HB3 : Hid (Below wr.heap.size wr w3) := HB2.out.trans (hb3.mono HB2.out.size)
            clear hb3
            rw [decide_eq_false (show ¬ _ < _ from by have := HP.out; omega)]
            go_wp2_with fail
            go_ret
            exact ⟨⟨_, rfl⟩, l1, HDn.out _ HB3.out j1 HKid.out (by have := HP.out; omega)⟩
        · have HKid : Hid (Kid n i j2 l1) := ⟨q2, .inr (by have := HJ.out; omega), fun k k1 k2 k3 => by
            obtain ⟨hj1, hj2⟩ := HJ.out
            have := HK.out
            simp at this
            rcases (show k = j1 ∨ k = j2 by omega) with rfl | rfl <;> omega⟩
          by_cases p : gt l1 j2 < gt l1 i
          · go_wp2_with fail
            rw [m59 _ IsM59, load66 _ _ _ _ (HLs.out _ HB2.out).1]
            go_wp2_with fail
            go_at_call 59
            refine Calls.mono ((HLs.out _ HB2.out).2 j2 i _ _ (by have := HJ.out; omega) rfl HKid.out.1 (by have := HJ.out; omega)) ?_
            rintro e w3 ⟨rfl, hb3⟩
            have HB3 : Hid (Below wr.heap.size wr w3) := HB2.out.trans (hb3.mono HB2.out.size)
            clear hb3
            rw [decide_eq_true p]
            go_wp2_with fail
            rw [m62 _ IsM62, load66 _ _ _ _ (HLs.out _ HB3.out).1]
            go_wp2_with fail
            go_at_call 62
            refine Calls.mono (HSw.out _ HB3.out j2 _ (by have := HJ.out; omega) HKid.out p) ?_
            rintro e w4 ⟨rfl, hr⟩
            have HR := hid hr
            have hjn := HKid.out.1
            have hji : i < j2 := by have := HJ.out; omega
            clear hr
            go_wp2_with fail
            go_roundw
            case rel => exact ⟨j2, _, by congr 1; have := HJ.out; omega, by omega, HR.out⟩
            case measure =>
              have := HJ.out
              simp [intOf]
              omega
          · have HP : Hid (¬ gt l1 j2 < gt l1 i) := p
            clear p
            go_wp2_with fail
            rw [m59 _ IsM59, load66 _ _ _ _ (HLs.out _ HB2.out).1]
            go_wp2_with fail
            go_at_call 59
            refine Calls.mono ((HLs.out _ HB2.out).2 j2 i _ _ (by have := HJ.out; omega) rfl HKid.out.1 (by have := HJ.out; omega)) ?_
            rintro e w3 ⟨rfl, hb3⟩
            have HB3 : Hid (Below wr.heap.size wr w3) := HB2.out.trans (hb3.mono HB2.out.size)
            clear hb3
            rw [decide_eq_false (show ¬ _ < _ from by have := HP.out; omega)]
            go_wp2_with fail
            go_ret
            exact ⟨⟨_, rfl⟩, l1, HDn.out _ HB3.out j2 HKid.out (by have := HP.out; omega)⟩
      · have q2' : ¬ (2 * (i : Int) + 1 + 1) < (n : Int) := by have := HJ.out; omega
        have HKid : Hid (Kid n i j1 l1) := ⟨q, .inl HJ.out.1, fun k k1 k2 k3 => by
          obtain rfl : k = j1 := by have := HJ.out; omega
          exact Int.le_refl _⟩
        by_cases p : gt l1 j1 < gt l1 i
        · go_wp2_with fail
          rw [m59 _ IsM59, load66 _ _ _ _ (HLs.out _ (Below.refl _ _)).1]
          go_wp2_with fail
          go_at_call 59
          refine Calls.mono ((HLs.out _ (Below.refl _ _)).2 j1 i _ _ (by have := HJ.out; omega) rfl HKid.out.1 (by have := HJ.out; omega)) ?_
          rintro e w3 ⟨rfl, hb3⟩
          have HB3 : Hid (Below wr.heap.size wr w3) := hb3
          clear hb3
          rw [decide_eq_true p]
          go_wp2_with fail
          rw [m62 _ IsM62, load66 _ _ _ _ (HLs.out _ HB3.out).1]
          go_wp2_with fail
          go_at_call 62
          refine Calls.mono (HSw.out _ HB3.out j1 _ (by have := HJ.out; omega) HKid.out p) ?_
          rintro e w4 ⟨rfl, hr⟩
          have HR := hid hr
          have hjn := HKid.out.1
          have hji : i < j1 := by have := HJ.out; omega
          clear hr
          go_wp2_with fail
          go_roundw
          case rel => exact ⟨j1, _, by congr 1; have := HJ.out; omega, by omega, HR.out⟩
          case measure =>
            have := HJ.out
            simp [intOf]
            omega
        · have HP : Hid (¬ gt l1 j1 < gt l1 i) := p
          clear p
          go_wp2_with fail
          rw [m59 _ IsM59, load66 _ _ _ _ (HLs.out _ (Below.refl _ _)).1]
          go_wp2_with fail
          go_at_call 59
          refine Calls.mono ((HLs.out _ (Below.refl _ _)).2 j1 i _ _ (by have := HJ.out; omega) rfl HKid.out.1 (by have := HJ.out; omega)) ?_
          rintro e w3 ⟨rfl, hb3⟩
          have HB3 : Hid (Below wr.heap.size wr w3) := hb3
          clear hb3
          rw [decide_eq_false (show ¬ _ < _ from by have := HP.out; omega)]
          go_wp2_with fail
          go_ret
          exact ⟨⟨_, rfl⟩, l1, HDn.out _ HB3.out j1 HKid.out (by have := HP.out; omega)⟩
    · have q' : (n : Int) ≤ 2 * (i : Int) + 1 := by have := HJ.out; omega
      have HF : Hid (l1.length = l.length ∧ Hp B wr Lb (.slice (some ⟨g, 0, none⟩) l.length c) l1 ∧ IsH n l1 ∧ l1.Perm l ∧ (∀ k, n ≤ k → gt l1 k = gt l k) ∧ But (fun k => k = g) w wr) := ⟨e1, hp, hd.leaf (by have := HJ.out; omega), hpm, hfx, hb⟩
      clear hd hp hpm hfx hb
      go_wp2_with fail
      go_ret
      exact ⟨⟨_, rfl⟩, l1, HF.out⟩
end Go.Proofs.Ytajnokkmpjdliaa
