/-
  plays (function 9).
-/
import Derived.Test.YteokekllbpkemaaPya
namespace Go.Proofs.Yteokekllbpkemaa
open Go.RowKit

theorem apart2 (x y : Nat) : Apart [(4, y), (0, x)] := by
  intro q hq q' hq'
  simp only [List.mem_cons, List.not_mem_nil, or_false] at hq hq'
  rcases hq with rfl | rfl <;> rcases hq' with rfl | rfl <;> simp
theorem desks_none (w : World) {B : Nat} (hB : B ≤ w.heap.size) : Desks B w w [] 0 := ⟨hB, Below.refl _ _, fun _ => 0, fun _ _ => rfl, fun _ h => by cases h⟩

theorem BegIn.mono {B B' : Nat} {w : World} {a : Option Addr} {n c : Nat} {zs : List Int} (h : BegIn B w a n c zs) (hb : B ≤ B') : BegIn B' w a n c zs := ⟨h.small, h.cap, h.rd.mono hb⟩
theorem ScrIn.mono {B B' : Nat} {w : World} {a : Option Addr} {n : Nat} {L : List ActD} (h : ScrIn B w a n L) (hb : B ≤ B') : ScrIn B' w a n L :=
  ⟨h.len, fun d hd => ⟨(h.ok d hd).1, (h.ok d hd).2.mono (fun _ hy => Nat.le_trans hb hy)⟩, h.cel.imp id (fun ⟨b, o, e, l, q⟩ => ⟨b, o, e, Nat.lt_of_lt_of_le l hb, q⟩)⟩

set_option maxRecDepth 100000 in
set_option maxHeartbeats 4000000 in
theorem plays_any {B : Nat} {w : World} (hB : B ≤ w.heap.size) (nw nw2 : Bool) (bl bl2 : Int) {a a2 : Option Addr} {n c n2 c2 : Nat} {zs zs2 : List Int} (hI : BegIn B w a n c zs) (hI2 : BegIn B w a2 n2 c2 zs2) {aS : Option Addr} {nS cS : Nat} {L : List ActD} (hS : ScrIn B w aS nS L) (hm : nS ≤ 16777216) (lo hi : Int) :
    Calls Try.prog 9 #[beginV nw bl (.slice a n c), beginV nw2 bl2 (.slice a2 n2 c2), .slice aS nS cS, .int .i64 lo, .int .i64 hi] w fun e w' => e = .returned (.bool true) ∧ Below B w w' := by
  obtain ⟨W, hW⟩ : ∃ W, W = (w.alloc (.cells #[.bool nw, .int .i64 bl, .slice a n c] 24)).alloc (.cells #[.bool nw2, .int .i64 bl2, .slice a2 n2 c2] 24) := ⟨_, rfl⟩
  have bW : Below w.heap.size w W := by rw [hW]; exact ((Below.refl _ _).alloc (Nat.le_refl _) _).alloc (by simp) _
  have hA : w.heap.size + 1 < W.heap.size := by rw [hW]; simp
  have bB := bW.mono hB
  have hBW : B ≤ W.heap.size := Nat.le_trans hB bW.size
  have h1 := desks_none W (Nat.le_refl W.heap.size)
  have HI := hid (And.intro ((hI.below bB).mono hBW) ((hI2.below bB).mono hBW))
  have HS := hid ((hS.below bB).mono hBW)
  have HO := hid (h1.opens 0 nw bl HI.out.1)
  unfold beginV at HO
  have e0 : W.cell? ⟨w.heap.size, 0, none⟩ = some (.bool nw) ∧ W.cell? ⟨w.heap.size, 1, none⟩ = some (.int .i64 bl) ∧ W.cell? ⟨w.heap.size, 2, none⟩ = some (.slice a n c) := by
    rw [hW]
    exact ⟨(World.cell?_alloc_past _ _ _ (by simp)).trans (cell_new rfl 0 _ rfl), (World.cell?_alloc_past _ _ _ (by simp)).trans (cell_new rfl 1 _ rfl), (World.cell?_alloc_past _ _ _ (by simp)).trans (cell_new rfl 2 _ rfl)⟩
  have e1 : W.cell? ⟨w.heap.size + 1, 0, none⟩ = some (.bool nw2) ∧ W.cell? ⟨w.heap.size + 1, 1, none⟩ = some (.int .i64 bl2) ∧ W.cell? ⟨w.heap.size + 1, 2, none⟩ = some (.slice a2 n2 c2) := by
    rw [hW]
    exact ⟨cell_new (by simp) 0 _ rfl, cell_new (by simp) 1 _ rfl, cell_new (by simp) 2 _ rfl⟩
  have E0 : Hid (∀ w', Below W.heap.size W w' → w'.cell? ⟨w.heap.size, 0, none⟩ = some (.bool nw) ∧ w'.cell? ⟨w.heap.size, 1, none⟩ = some (.int .i64 bl) ∧ w'.cell? ⟨w.heap.size, 2, none⟩ = some (.slice a n c)) := fun w' hb =>
    ⟨(hb.cell (p := ⟨w.heap.size, 0, none⟩) (by show w.heap.size < _; omega)).trans e0.1, (hb.cell (p := ⟨w.heap.size, 1, none⟩) (by show w.heap.size < _; omega)).trans e0.2.1, (hb.cell (p := ⟨w.heap.size, 2, none⟩) (by show w.heap.size < _; omega)).trans e0.2.2⟩
  have E1 : Hid (∀ w', Below W.heap.size W w' → w'.cell? ⟨w.heap.size + 1, 0, none⟩ = some (.bool nw2) ∧ w'.cell? ⟨w.heap.size + 1, 1, none⟩ = some (.int .i64 bl2) ∧ w'.cell? ⟨w.heap.size + 1, 2, none⟩ = some (.slice a2 n2 c2)) := fun w' hb =>
    ⟨(hb.cell (p := ⟨w.heap.size + 1, 0, none⟩) hA).trans e1.1, (hb.cell (p := ⟨w.heap.size + 1, 1, none⟩) hA).trans e1.2.1, (hb.cell (p := ⟨w.heap.size + 1, 2, none⟩) hA).trans e1.2.2⟩
  have HW := hid hW
  have HbW := hid bB
  clear h1 hI hI2 hS hW bW bB e0 e1
  unfold beginV
  go_enter Try.func9, Try.ntmps9
  go_wp2_with fail
  rw [← HW.out]
  refine Calls.mono HO.out ?_
  rintro e w1 ⟨x, rfl, hD1⟩
  have HO2 := hid (hD1.opens 4 nw2 bl2 (HI.out.2.below hD1.2.1))
  unfold beginV at HO2
  obtain ⟨v0, v1, v2⟩ := E1.out w1 hD1.2.1
  clear HO hD1 E1
  go_wp2_with fail
  refine Calls.mono HO2.out ?_
  rintro e w2 ⟨y, rfl, hD2⟩
  have HD2 := hid hD2
  clear hD2 HO2 v0 v1 v2
  go_wp2_with fail
  go_loopw [15] (fun i wt => ∃ k : Nat, k ≤ nS ∧ i = .int .i64 (k : Int) ∧ Desks W.heap.size W wt [(4, y), (0, x)] k) (fun i _ => nS - (intOf i).toNat)
  case atStart => exact ⟨0, Nat.zero_le _, rfl, HD2.out⟩
  case round =>
    clear HD2
    obtain ⟨k, hk, rfl, hD⟩ := hrel
    have hSt := HS.out.below hD.2.1
    have hlen := hSt.len
    by_cases hkn : k < nS
    · obtain ⟨b, o, rfl, hb, hc⟩ := hSt.cel.resolve_left (by omega)
      have hkL : k < L.length := by omega
      have hdk : L[k]? = some L[k] := List.getElem?_eq_getElem hkL
      obtain ⟨q0, q1, q2, q3, q4, q5⟩ := hc k _ hdk
      have HAx := hid (hD.act (apart2 x y) (by omega) (q := (0, x)) (by simp) (d := L[k]) (hSt.ok L[k] (List.getElem_mem hkL)))
      have HAy := hid (hD.act (apart2 x y) (by omega) (q := (4, y)) (by simp) (d := L[k]) (hSt.ok L[k] (List.getElem_mem hkL)))
      have hkn' : (k : Int) < (nS : Int) := by omega
      clear hSt hD hc hdk hlen
      generalize L[k] = d at *
      clear hkL
      unfold ActD.val actV at HAx HAy
      by_cases hwb : bits BinOp.and IntKind.i64 d.wh 1 = 1
      · go_wp2_with fail
        refine Calls.mono HAy.out ?_
        rintro e w3 ⟨⟨lv, rfl⟩, hD3⟩
        have HD3 := hid hD3
        clear hD3 HAx HAy
        go_wp2_with fail
        go_roundw
        case rel => exact ⟨k + 1, by omega, by go_num, HD3.out⟩
        case measure => simp [intOf]; omega
      · go_wp2_with fail
        refine Calls.mono HAx.out ?_
        rintro e w3 ⟨⟨lv, rfl⟩, hD3⟩
        have HD3 := hid hD3
        clear hD3 HAx HAy
        go_wp2_with fail
        go_roundw
        case rel => exact ⟨k + 1, by omega, by go_num, HD3.out⟩
        case measure => simp [intOf]; omega
    · obtain rfl : k = nS := by omega
      obtain ⟨v0, v1, v2⟩ := E0.out wr hD.2.1
      have HLt := hid (later_any hD nw bl HI.out.1 HS.out (by omega) lo hi (cS := cS))
      unfold beginV at HLt
      clear hSt hlen hkn hD
      go_wp2_with fail
      refine Calls.mono HLt.out ?_
      rintro e w4 ⟨rfl, hb4⟩
      have Hb4 := hid hb4
      clear hb4 HLt v0 v1 v2
      go_wp2
      go_ret
      exact ⟨rfl, HbW.out.trans (Hb4.out.mono (by omega))⟩

end Go.Proofs.Yteokekllbpkemaa
