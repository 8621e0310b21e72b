/-
  least: was each next thing the least one that was ready?
-/
import Derived.Test.YtajnokkmpjdliaaKf0
namespace Go.Proofs.Ytajnokkmpjdliaa
open Go.RowKit

set_option maxRecDepth 100000 in
set_option maxHeartbeats 2000000 in
theorem leastLaw_any (n c lb : Nat) (a : Option Addr) (l : List Nat) (lt : List Int) (hn : n ≤ 4000) (w : World) (hR : RdN w a n l) (hB : Blk w lb lt) (hl : lt.length = n) (hlt : ∀ x ∈ l, x < n) (hH : ∀ i j, i < j → j < n → l.getD j 0 < l.getD i 0 → (i : Int) < gt lt (l.getD j 0)) :
    Calls Try.prog 16 #[.slice a n c, .slice (some ⟨lb, 0, none⟩) n n] w fun e w' => e = .returned (.bool true) ∧ Below w.heap.size w w' := by
  obtain ⟨PO, hPO⟩ : ∃ PO : Ending → World → Prop, PO = fun e w' => e = .returned (.bool true) ∧ Below w.heap.size w w' := ⟨_, rfl⟩
  rw [← hPO]
  have HPO := hid hPO
  have HR := hid hR
  have HB := hid hB
  have HL := hid hl
  have HLT := hid hlt
  have HH := hid hH
  have HN := hid hn
  clear hPO hR hB hl hlt hH hn
  go_enter Try.func16, Try.ntmps16
  go_wp2_with fail
  go_loopw [5] (fun iv wr => ∃ i : Nat, iv = .int .i64 (i : Int) ∧ i ≤ n ∧ Below w.heap.size w wr) (fun iv _ => n - (intOf iv).toNat)
  case atStart => exact ⟨0, rfl, by omega, Below.refl _ _⟩
  case round =>
    obtain ⟨i, rfl, hi, hb⟩ := hrel
    by_cases p : i = n
    · have HD : Hid (PO (.returned (.bool true)) wr) := by
        unfold Hid
        rw [HPO.out]
        exact ⟨rfl, hb⟩
      have qq : (n : Int) ≤ (i : Int) := by omega
      clear hi hb p
      go_wp2_with fail
      exact HD.out
    · have hiL : i < n := by omega
      have qi : (i : Int) < (n : Int) := by omega
      have HI : Hid (i < n) := hiL
      have HBW := hid hb
      have hn9 := HN.out
      obtain ⟨ew, ewb⟩ := inc_w i (by omega)
      clear hi hb p hn9
      go_wp2_with fail
      generalize decide (i < n) = bq
      generalize wr = wo at *
      go_loopw [6] (fun jv wr => ∃ j : Nat, jv = .int .i64 (j : Int) ∧ i + 1 ≤ j ∧ j ≤ n ∧ Below w.heap.size w wr) (fun jv _ => n - (intOf jv).toNat)
      case atStart => exact ⟨i + 1, by rw [Int.natCast_add]; rfl, Nat.le_refl _, HI.out, HBW.out⟩
      case round =>
        obtain ⟨j, rfl, hj1, hj, hb⟩ := hrel
        by_cases q : j = n
        · have HNx : Hid (i + 1 ≤ n ∧ Below w.heap.size w wr) := ⟨HI.out, hb⟩
          have qq : (n : Int) ≤ (j : Int) := by omega
          clear hj1 hj hb q
          go_wp2_with fail
          refine ⟨⟨i + 1, by rw [Int.natCast_add]; rfl, HNx.out⟩, ?_⟩
          exact mea_i HNx.out.1
        · have hjn : j < n := Nat.lt_of_le_of_ne hj q
          have qj : (j : Int) < (n : Int) := by omega
          have hn9 := HN.out
          have hi9 := HI.out
          obtain ⟨g, ha, d1⟩ := (HR.out.next hb).2 i hi9
          obtain ⟨g2, ha2, d2⟩ := (HR.out.next hb).2 j hjn
          rw [ha] at ha2
          cases ha2
          obtain ⟨x, hx⟩ : ∃ x, x = l.getD i 0 := ⟨_, rfl⟩
          obtain ⟨y, hy⟩ : ∃ y, y = l.getD j 0 := ⟨_, rfl⟩
          rw [← hx] at d1
          rw [← hy] at d2
          have hyn : y < n := by rw [hy]; exact HLT.out _ (getD_mem (by rw [HR.out.1]; exact hjn))
          have qy : (y : Int) < (n : Int) := by omega
          have qy0 : 0 ≤ (y : Int) := by omega
          obtain ⟨z, hz⟩ : ∃ z, z = gt lt y := ⟨_, rfl⟩
          have d3 := (HB.out.below hb HB.out.lt).cell y (by rw [HL.out]; exact hyn)
          rw [show lt.getD y 0 = z from hz.symm] at d3
          have hh := HH.out i j hj1 hjn
          rw [← hx, ← hy, ← hz] at hh
          have HNx : Hid (∀ q, i + 1 ≤ j + 1 ∧ j + 1 ≤ n ∧ Below w.heap.size w (wr.drewN q)) := fun q => ⟨by omega, hjn, hb.trans (below_drewN _ _ _)⟩
          have hme := mea_i (m := n) (i := j) hjn
          have HME := hid hme
          by_cases r : y < x
          · have hz1 := hh r
            have r1 : (y : Int) < (x : Int) := by omega
            have r2 : ¬ z ≤ (i : Int) := by omega
            have r3 : decide (z ≤ (i : Int)) = false := decide_eq_false r2
            have r4 : decide ((y : Int) < (x : Int)) = true := decide_eq_true r1
            have r5 : decide (y < x) = true := decide_eq_true r
            obtain ⟨ex, exb⟩ := inc_w j (by omega)
            clear hj1 hj hb q hn9 hi9 hx hy hz hh hz1 hme hyn
            subst ha
            go_wp2_with fail
            go_quiet (fail)
            all_goals go_wp2_with fail
            all_goals
              refine ⟨⟨j + 1, by rw [Int.natCast_add]; rfl, HNx.out _⟩, ?_⟩
              exact HME.out
          · have r1 : ¬ (y : Int) < (x : Int) := by omega
            have r4 : decide ((y : Int) < (x : Int)) = false := decide_eq_false r1
            have r5 : decide (y < x) = false := decide_eq_false r
            obtain ⟨ex, exb⟩ := inc_w j (by omega)
            clear hj1 hj hb q hn9 hi9 hx hy hz hh hme hyn d3
            subst ha
            go_wp2_with fail
            go_quiet (fail)
            all_goals go_wp2_with fail
            all_goals
              refine ⟨⟨j + 1, by rw [Int.natCast_add]; rfl, HNx.out _⟩, ?_⟩
              exact HME.out
end Go.Proofs.Ytajnokkmpjdliaa
