/-
  The laws of the five: plays, and nils.
-/
import Derived.Test.YteokekllbpkemaaPy3
namespace Go.Proofs.Yteokekllbpkemaa
open Go.RowKit

set_option maxRecDepth 100000 in
set_option maxHeartbeats 4000000 in
theorem reads_law {B : Nat} {w : World} (hB : B ≤ w.heap.size) (nw nw2 : Bool) (bl bl2 : Int) {a a2 : Option Addr} {n c n2 c2 : Nat} {zs zs2 : List Int} (hI : BegIn B w a n c zs) (hI2 : BegIn B w a2 n2 c2 zs2) {aS : Option Addr} {nS cS : Nat} {L : List ActD} (hS : ScrIn B w aS nS L) (hm : nS ≤ 16777216) :
    Calls Try.prog 3 #[beginV nw bl (.slice a n c), beginV nw2 bl2 (.slice a2 n2 c2), .slice aS nS cS] w fun e w' => e = .returned (.bool true) ∧ Below B w w' := by
  have bW : Below w.heap.size w ((w.alloc (.cells #[.bool nw, .int .i64 bl, .slice a n c] 24)).alloc (.cells #[.bool nw2, .int .i64 bl2, .slice a2 n2 c2] 24)) := ((Below.refl _ _).alloc (Nat.le_refl _) _).alloc (by simp) _
  have bB := bW.mono hB
  have HP := hid (plays_any (Nat.le_trans hB bW.size) nw nw2 bl bl2 (hI.below bB) (hI2.below bB) (hS.below bB) hm 1 1 (cS := cS))
  have Hb := hid bB
  unfold beginV at HP
  clear bW bB hI hI2 hS
  go_enter Try.func3, Try.ntmps3
  unfold beginV
  go_wp2_with fail
  refine Calls.mono HP.out ?_
  rintro e w2 ⟨rfl, hb2⟩
  have Hb2 := hid hb2
  clear hb2 HP
  go_wp2
  go_ret
  exact ⟨rfl, Hb.out.trans Hb2.out⟩
set_option maxRecDepth 100000 in
set_option maxHeartbeats 4000000 in
theorem writes_law {B : Nat} {w : World} (hB : B ≤ w.heap.size) (nw nw2 : Bool) (bl bl2 : Int) {a a2 : Option Addr} {n c n2 c2 : Nat} {zs zs2 : List Int} (hI : BegIn B w a n c zs) (hI2 : BegIn B w a2 n2 c2 zs2) {aS : Option Addr} {nS cS : Nat} {L : List ActD} (hS : ScrIn B w aS nS L) (hm : nS ≤ 16777216) :
    Calls Try.prog 4 #[beginV nw bl (.slice a n c), beginV nw2 bl2 (.slice a2 n2 c2), .slice aS nS cS] w fun e w' => e = .returned (.bool true) ∧ Below B w w' := by
  have bW : Below w.heap.size w ((w.alloc (.cells #[.bool nw, .int .i64 bl, .slice a n c] 24)).alloc (.cells #[.bool nw2, .int .i64 bl2, .slice a2 n2 c2] 24)) := ((Below.refl _ _).alloc (Nat.le_refl _) _).alloc (by simp) _
  have bB := bW.mono hB
  have HP := hid (plays_any (Nat.le_trans hB bW.size) nw nw2 bl bl2 (hI.below bB) (hI2.below bB) (hS.below bB) hm 2 4 (cS := cS))
  have Hb := hid bB
  unfold beginV at HP
  clear bW bB hI hI2 hS
  go_enter Try.func4, Try.ntmps4
  unfold beginV
  go_wp2_with fail
  refine Calls.mono HP.out ?_
  rintro e w2 ⟨rfl, hb2⟩
  have Hb2 := hid hb2
  clear hb2 HP
  go_wp2
  go_ret
  exact ⟨rfl, Hb.out.trans Hb2.out⟩
set_option maxRecDepth 100000 in
set_option maxHeartbeats 4000000 in
theorem power_law {B : Nat} {w : World} (hB : B ≤ w.heap.size) (nw nw2 : Bool) (bl bl2 : Int) {a a2 : Option Addr} {n c n2 c2 : Nat} {zs zs2 : List Int} (hI : BegIn B w a n c zs) (hI2 : BegIn B w a2 n2 c2 zs2) {aS : Option Addr} {nS cS : Nat} {L : List ActD} (hS : ScrIn B w aS nS L) (hm : nS ≤ 16777216) :
    Calls Try.prog 5 #[beginV nw bl (.slice a n c), beginV nw2 bl2 (.slice a2 n2 c2), .slice aS nS cS] w fun e w' => e = .returned (.bool true) ∧ Below B w w' := by
  have bW : Below w.heap.size w ((w.alloc (.cells #[.bool nw, .int .i64 bl, .slice a n c] 24)).alloc (.cells #[.bool nw2, .int .i64 bl2, .slice a2 n2 c2] 24)) := ((Below.refl _ _).alloc (Nat.le_refl _) _).alloc (by simp) _
  have bB := bW.mono hB
  have HP := hid (plays_any (Nat.le_trans hB bW.size) nw nw2 bl bl2 (hI.below bB) (hI2.below bB) (hS.below bB) hm 5 7 (cS := cS))
  have Hb := hid bB
  unfold beginV at HP
  clear bW bB hI hI2 hS
  go_enter Try.func5, Try.ntmps5
  unfold beginV
  go_wp2_with fail
  refine Calls.mono HP.out ?_
  rintro e w2 ⟨rfl, hb2⟩
  have Hb2 := hid hb2
  clear hb2 HP
  go_wp2
  go_ret
  exact ⟨rfl, Hb.out.trans Hb2.out⟩
set_option maxRecDepth 100000 in
set_option maxHeartbeats 4000000 in
theorem asks_law {B : Nat} {w : World} (hB : B ≤ w.heap.size) (nw nw2 : Bool) (bl bl2 : Int) {a a2 : Option Addr} {n c n2 c2 : Nat} {zs zs2 : List Int} (hI : BegIn B w a n c zs) (hI2 : BegIn B w a2 n2 c2 zs2) {aS : Option Addr} {nS cS : Nat} {L : List ActD} (hS : ScrIn B w aS nS L) (hm : nS ≤ 16777216) :
    Calls Try.prog 6 #[beginV nw bl (.slice a n c), beginV nw2 bl2 (.slice a2 n2 c2), .slice aS nS cS] w fun e w' => e = .returned (.bool true) ∧ Below B w w' := by
  have bW : Below w.heap.size w ((w.alloc (.cells #[.bool nw, .int .i64 bl, .slice a n c] 24)).alloc (.cells #[.bool nw2, .int .i64 bl2, .slice a2 n2 c2] 24)) := ((Below.refl _ _).alloc (Nat.le_refl _) _).alloc (by simp) _
  have bB := bW.mono hB
  have HP := hid (plays_any (Nat.le_trans hB bW.size) nw nw2 bl bl2 (hI.below bB) (hI2.below bB) (hS.below bB) hm 8 10 (cS := cS))
  have Hb := hid bB
  unfold beginV at HP
  clear bW bB hI hI2 hS
  go_enter Try.func6, Try.ntmps6
  unfold beginV
  go_wp2_with fail
  refine Calls.mono HP.out ?_
  rintro e w2 ⟨rfl, hb2⟩
  have Hb2 := hid hb2
  clear hb2 HP
  go_wp2
  go_ret
  exact ⟨rfl, Hb.out.trans Hb2.out⟩
set_option maxRecDepth 100000 in
set_option maxHeartbeats 4000000 in
theorem all_law {B : Nat} {w : World} (hB : B ≤ w.heap.size) (nw nw2 : Bool) (bl bl2 : Int) {a a2 : Option Addr} {n c n2 c2 : Nat} {zs zs2 : List Int} (hI : BegIn B w a n c zs) (hI2 : BegIn B w a2 n2 c2 zs2) {aS : Option Addr} {nS cS : Nat} {L : List ActD} (hS : ScrIn B w aS nS L) (hm : nS ≤ 16777216) :
    Calls Try.prog 7 #[beginV nw bl (.slice a n c), beginV nw2 bl2 (.slice a2 n2 c2), .slice aS nS cS] w fun e w' => e = .returned (.bool true) ∧ Below B w w' := by
  have bW : Below w.heap.size w ((w.alloc (.cells #[.bool nw, .int .i64 bl, .slice a n c] 24)).alloc (.cells #[.bool nw2, .int .i64 bl2, .slice a2 n2 c2] 24)) := ((Below.refl _ _).alloc (Nat.le_refl _) _).alloc (by simp) _
  obtain ⟨W, hW⟩ : ∃ W, W = (w.alloc (.cells #[.bool nw, .int .i64 bl, .slice a n c] 24)).alloc (.cells #[.bool nw2, .int .i64 bl2, .slice a2 n2 c2] 24) := ⟨_, rfl⟩
  rw [← hW] at bW
  have bB := bW.mono hB
  have HW := hid hW
  have Hb := hid bB
  have HN := hid (nils_any W)
  have hA : w.heap.size + 1 < W.heap.size := by rw [hW]; simp
  have e0 : W.cell? ⟨w.heap.size, 0, none⟩ = some (.bool nw) ∧ W.cell? ⟨w.heap.size, 1, none⟩ = some (.int .i64 bl) ∧ W.cell? ⟨w.heap.size, 2, none⟩ = some (.slice a n c) := by
    rw [hW]
    exact ⟨(World.cell?_alloc_past _ _ _ (by simp)).trans (cell_new rfl 0 _ rfl), (World.cell?_alloc_past _ _ _ (by simp)).trans (cell_new rfl 1 _ rfl), (World.cell?_alloc_past _ _ _ (by simp)).trans (cell_new rfl 2 _ rfl)⟩
  have e1 : W.cell? ⟨w.heap.size + 1, 0, none⟩ = some (.bool nw2) ∧ W.cell? ⟨w.heap.size + 1, 1, none⟩ = some (.int .i64 bl2) ∧ W.cell? ⟨w.heap.size + 1, 2, none⟩ = some (.slice a2 n2 c2) := by
    rw [hW]
    exact ⟨cell_new (by simp) 0 _ rfl, cell_new (by simp) 1 _ rfl, cell_new (by simp) 2 _ rfl⟩
  have HP : Hid (∀ w', Below W.heap.size W w' → Below B w w' ∧ (w'.cell? ⟨w.heap.size, 0, none⟩ = some (.bool nw) ∧ w'.cell? ⟨w.heap.size, 1, none⟩ = some (.int .i64 bl) ∧ w'.cell? ⟨w.heap.size, 2, none⟩ = some (.slice a n c)) ∧ (w'.cell? ⟨w.heap.size + 1, 0, none⟩ = some (.bool nw2) ∧ w'.cell? ⟨w.heap.size + 1, 1, none⟩ = some (.int .i64 bl2) ∧ w'.cell? ⟨w.heap.size + 1, 2, none⟩ = some (.slice a2 n2 c2)) ∧
      Calls Try.prog 9 #[beginV nw bl (.slice a n c), beginV nw2 bl2 (.slice a2 n2 c2), .slice aS nS cS, .int .i64 1, .int .i64 10] w' fun e w'' => e = .returned (.bool true) ∧ Below B w' w'') := by
    intro w' hb
    have b2 := bB.trans (hb.mono (Nat.le_trans hB bW.size))
    exact ⟨b2, ⟨(hb.cell (p := ⟨w.heap.size, 0, none⟩) (by show w.heap.size < _; omega)).trans e0.1, (hb.cell (p := ⟨w.heap.size, 1, none⟩) (by show w.heap.size < _; omega)).trans e0.2.1, (hb.cell (p := ⟨w.heap.size, 2, none⟩) (by show w.heap.size < _; omega)).trans e0.2.2⟩,
      ⟨(hb.cell (p := ⟨w.heap.size + 1, 0, none⟩) hA).trans e1.1, (hb.cell (p := ⟨w.heap.size + 1, 1, none⟩) hA).trans e1.2.1, (hb.cell (p := ⟨w.heap.size + 1, 2, none⟩) hA).trans e1.2.2⟩, plays_any (Nat.le_trans hB b2.size) nw nw2 bl bl2 (hI.below b2) (hI2.below b2) (hS.below b2) hm 1 10⟩
  clear bW bB hI hI2 hS hW e0 e1
  go_enter Try.func7, Try.ntmps7
  unfold beginV
  go_wp2_with fail
  rw [← HW.out]
  refine Calls.mono HN.out ?_
  rintro e w2 ⟨rfl, hb2⟩
  obtain ⟨b2, ⟨u0, u1, u2⟩, ⟨v0, v1, v2⟩, hP⟩ := HP.out w2 hb2
  unfold beginV at hP
  have HP2 := hid (And.intro b2 hP)
  clear hb2 HN HP b2 hP
  go_wp2_with fail
  refine Calls.mono HP2.out.2 ?_
  rintro e w3 ⟨rfl, hb3⟩
  have Hb3 := hid hb3
  clear hb3
  go_wp2
  go_ret
  exact ⟨rfl, HP2.out.1.trans Hb3.out⟩

end Go.Proofs.Yteokekllbpkemaa
