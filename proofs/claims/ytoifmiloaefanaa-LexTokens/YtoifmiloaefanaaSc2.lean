/-
  lex: skip, refused, begun.
-/
import Derived.Test.YtoifmiloaefanaaSc1
namespace Go.Proofs.Ytoifmiloaefanaa
open Go.RowKit

theorem tells34 : Tells 34 isLn := ⟨fun _ _ => by kernel_rfl, isOfLine_any⟩
theorem tells48 : Tells 48 isWd := ⟨fun _ _ => by kernel_rfl, isOfWord_any⟩
theorem tells50 : Tells 50 isDig := ⟨fun _ _ => by kernel_rfl, isDigit_any⟩

set_option maxRecDepth 100000 in
set_option maxHeartbeats 1000000 in
theorem skip_any {w : World} {k : Nat} {zs : List Int} {a : Nat} (hb : Pl.isB zs) (hl : zs.length ≤ 16777216) (ha : a ≤ zs.length) (h : Scn w k (strOfNums zs) a) :
    Calls Try.prog 23 #[.pointer (some ⟨k, 0, none⟩)] w fun e w' => e = .returned (.bool (decide (skA false zs a < zs.length))) ∧ Scn w' k (strOfNums zs) (skA false zs a) ∧ But (fun x => x = k) w w' ∧ w'.heap.size = w.heap.size := by
  have hsz := str_size zs
  have HG := hid (fun i hi h => str_get zs hb i hi h)
  have HP := hid (fun (u : World) (b : Nat) (hbl : b ≤ zs.length) (hu : Scn u k (strOfNums zs) b) => pass_any tells34 hb hl hbl hu)
  have HI := hid (show Scn w k (strOfNums zs) a ∧ But (fun x => x = k) w w from ⟨h, But.refl _ _⟩)
  clear hb h
  generalize strOfNums zs = S at *
  go_enter Try.func23, Try.ntmps23
  go_wp2_with fail
  go_loopw [] (fun wr => ∃ b : Nat, b ≤ zs.length ∧ skA false zs b = skA false zs a ∧ Scn wr k S b ∧ But (fun x => x = k) w wr ∧ wr.heap.size = w.heap.size) (fun wr => zs.length - atN wr k)
  case atStart => exact ⟨a, ha, rfl, HI.out.1, HI.out.2, rfl⟩
  case round =>
    clear HI
    obtain ⟨b, hbl, hpa, hS, hB, hz⟩ := hrel
    have c0 := hS.c0
    have c1 := hS.c1
    have f1 := hS.fz 1
    have H32 := hid (isAtEnd_any hS)
    have hat : atN wr k = b := by unfold atN; rw [c1]; simp
    by_cases q : b = zs.length
    · rw [decide_eq_true (show b = S.size by omega)] at H32
      have HE : Hid (decide (skA false zs a < zs.length) = false ∧ Scn wr k S (skA false zs a) ∧ But (fun x => x = k) w wr ∧ wr.heap.size = w.heap.size) := by
        rw [← hpa, skA_end (by omega)]
        exact ⟨decide_eq_false (by omega), hS, hB, hz⟩
      clear hS hB hz hpa
      go_wp2_with (go_at_call 32; refine Calls.mono H32.out ?_; rintro e w1 ⟨rfl, rfl⟩)
      go_ret
      exact ⟨by rw [HE.out.1]; rfl, HE.out.2.1, HE.out.2.2.1.drew, HE.out.2.2.2⟩
    · rw [decide_eq_false (show ¬ b = S.size by omega)] at H32
      have hbS : b < S.size := by omega
      have hg := HG.out b (by omega) hbS
      obtain ⟨z, HZ⟩ : ∃ z, Hid (zs.getD b 0 = z) := ⟨_, rfl⟩
      rw [HZ.out] at hg
      have hlt : (b : Int) < zs.length := by omega
      have hlb : (b : Int) ≤ 16777216 := by omega
      by_cases hbk : isBl z = true
      · have hzz : z = 32 ∨ z = 9 ∨ z = 10 ∨ z = 13 := by simpa [isBl, or_assoc] using hbk
        have HE : Hid (skA false zs (b + 1) = skA false zs a ∧ Scn (wr.setCell ⟨k, 1, none⟩ (.int .i64 ((b : Int) + 1))) k S (b + 1) ∧ But (fun x => x = k) w (wr.setCell ⟨k, 1, none⟩ (.int .i64 ((b : Int) + 1))) ∧ (wr.setCell ⟨k, 1, none⟩ (.int .i64 ((b : Int) + 1))).heap.size = w.heap.size) := by
          refine ⟨(skA_blank (by omega) (by rw [HZ.out]; exact hbk)).symm.trans hpa, ?_, hB.setCell (p := ⟨k, 1, none⟩) rfl _, by simp [World.setCell, hz]⟩
          have := hS.set (b + 1)
          rwa [show ((b + 1 : Nat) : Int) = (b : Int) + 1 by omega] at this
        clear hS hB hz hpa hbk
        rcases hzz with rfl | rfl | rfl | rfl
        all_goals
          go_wp2_with (go_at_call 32; refine Calls.mono H32.out ?_; rintro e w1 ⟨rfl, rfl⟩)
          go_region
          all_goals go_wp2
          all_goals go_roundw
          case rel => exact ⟨b + 1, by omega, HE.out.1, HE.out.2.1, HE.out.2.2.1.drew.drew, HE.out.2.2.2⟩
          case measure =>
            have e : atN (wr.setCell ⟨k, 1, none⟩ (.int .i64 ((b : Int) + 1))) k = b + 1 := by unfold atN; rw [HE.out.2.1.c1]; simp
            rw [hat]
            show zs.length - atN (wr.setCell ⟨k, 1, none⟩ (.int .i64 ((b : Int) + 1))) k < _
            rw [e]
            omega
      · have hnb : isBl z = false := by simpa using hbk
        have hn : z ≠ 32 ∧ z ≠ 9 ∧ z ≠ 10 ∧ z ≠ 13 := by simpa [isBl, and_assoc] using hnb
        obtain ⟨n1, n2, n3, n4⟩ := hn
        by_cases hsh : z = 35
        · have HPA := hid (HP.out wr.drew.drew b hbl hS)
          have HE : Hid (∀ w' : World, Scn w' k S (pasA isLn zs b) → But (fun x => x = k) wr.drew.drew w' → w'.heap.size = wr.drew.drew.heap.size → b < pasA isLn zs b ∧ pasA isLn zs b ≤ zs.length ∧ skA false zs (pasA isLn zs b) = skA false zs a ∧ But (fun x => x = k) w w' ∧ w'.heap.size = w.heap.size) := fun w' h1 h2 h3 => by
            refine ⟨pasA_pos (by omega) (by rw [HZ.out, hsh]; rfl), pasA_le hbl, (skA_sharp (by omega) (by rw [HZ.out]; exact hsh)).symm.trans hpa, hB.drew.drew.trans h2, ?_⟩
            rw [h3]; exact hz
          subst hsh
          clear hS hB hz hpa hbk hnb
          go_wp2_with (go_at_call 32; refine Calls.mono H32.out ?_; rintro e w1 ⟨rfl, rfl⟩)
          go_region
          all_goals go_wp2_with fail
          all_goals (refine Calls.mono HPA.out ?_; rintro e w1 ⟨⟨v, rfl⟩, h1, h2, h3⟩)
          all_goals (have H1 := hid h1; have H2 := hid (HE.out w1 h1 h2 h3); clear h1 h2 h3)
          all_goals go_wp2
          all_goals go_roundw
          case rel => exact ⟨_, H2.out.2.1, H2.out.2.2.1, H1.out, H2.out.2.2.2.1, H2.out.2.2.2.2⟩
          case measure =>
            have e : atN w1 k = pasA isLn zs b := by unfold atN; rw [H1.out.c1]; simp
            rw [hat, e]
            have := H2.out.1
            have := H2.out.2.1
            omega
        · have HE : Hid (decide (skA false zs a < zs.length) = true ∧ Scn wr k S (skA false zs a) ∧ But (fun x => x = k) w wr ∧ wr.heap.size = w.heap.size) := by
            rw [← hpa, skA_stop (by omega) (by rw [HZ.out]; exact hnb) (by rw [HZ.out]; exact hsh)]
            exact ⟨decide_eq_true (by omega), hS, hB, hz⟩
          clear hS hB hz hpa hbk hnb
          go_wp2_with (go_at_call 32; refine Calls.mono H32.out ?_; rintro e w1 ⟨rfl, rfl⟩)
          go_region
          all_goals go_wp2
          all_goals go_ret
          all_goals exact ⟨by rw [HE.out.1]; rfl, HE.out.2.1, HE.out.2.2.1.drew.drew, HE.out.2.2.2⟩

end Go.Proofs.Ytoifmiloaefanaa
