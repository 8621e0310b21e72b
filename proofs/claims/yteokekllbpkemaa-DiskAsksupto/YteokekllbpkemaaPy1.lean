/-
  later (function 20).
-/
import Derived.Test.YteokekllbpkemaaPy2
namespace Go.Proofs.Yteokekllbpkemaa
open Go.RowKit

theorem apart3 (x y z : Nat) : Apart [(8, z), (4, y), (0, x)] := by
  intro q hq q' hq'
  simp only [List.mem_cons, List.not_mem_nil, or_false] at hq hq'
  rcases hq with rfl | rfl | rfl <;> rcases hq' with rfl | rfl | rfl <;> simp

set_option maxRecDepth 100000 in
set_option maxHeartbeats 4000000 in
theorem later_any {B : Nat} {w0 w : World} {x y m : Nat} (h : Desks B w0 w [(4, y), (0, x)] m) (nw : Bool) (bl : Int) {a : Option Addr} {n c : Nat} {zs : List Int} (hI : BegIn B w0 a n c zs) {aS : Option Addr} {nS cS : Nat} {L : List ActD} (hS : ScrIn B w0 aS nS L) (hm : m + nS + 10 ≤ 134217727) (lo hi : Int) :
    Calls Try.prog 20 #[.pointer (some ⟨x, 0, none⟩), .pointer (some ⟨y, 0, none⟩), beginV nw bl (.slice a n c), .slice aS nS cS, .int .i64 lo, .int .i64 hi] w fun e w' => e = .returned (.bool true) ∧ Below B w0 w' := by
  obtain ⟨W, hW⟩ : ∃ W, W = w.alloc (.cells #[.bool nw, .int .i64 bl, .slice a n c] 24) := ⟨_, rfl⟩
  have bW : Below w.heap.size w W := by rw [hW]; exact (Below.refl _ _).alloc (Nat.le_refl _) _
  have h1 := h.below bW
  have hI1 := hI.below h1.2.1
  have HS := hid hS
  have HO := hid (h1.opens 8 nw bl hI1)
  unfold beginV at HO
  have HW := hid hW
  clear h h1 hI hI1 hS hW bW
  unfold beginV
  go_enter Try.func20, Try.ntmps20
  go_wp2_with fail
  rw [← HW.out]
  refine Calls.mono HO.out ?_
  rintro e w1 ⟨z, rfl, hD1⟩
  have HD1 := hid hD1
  clear hD1 HO
  go_wp2_with fail
  go_loopw [15] (fun i wt => ∃ k : Nat, k ≤ nS ∧ i = .int .i64 (k : Int) ∧ Desks B w0 wt [(8, z), (4, y), (0, x)] (m + k)) (fun i _ => nS - (intOf i).toNat)
  case atStart => exact ⟨0, Nat.zero_le _, rfl, HD1.out⟩
  case round =>
    clear HD1
    obtain ⟨k, hk, rfl, hD⟩ := hrel
    have hSt := HS.out.below hD.2.1
    have hlen := hSt.len
    by_cases hkn : k < nS
    · obtain ⟨b, o, rfl, hb, hc⟩ := hSt.cel.resolve_left (by omega)
      have hkL : k < L.length := by omega
      have hdk : L[k]? = some L[k] := List.getElem?_eq_getElem hkL
      obtain ⟨q0, q1, q2, q3, q4, q5⟩ := hc k _ hdk
      have HAc := hid (hD.act (apart3 x y z) (by omega) (q := (8, z)) (by simp) (d := L[k]) (hSt.ok L[k] (List.getElem_mem hkL)))
      have hkn' : (k : Int) < (nS : Int) := by omega
      have HD := hid hD
      clear hSt hD hc hdk hlen
      generalize L[k] = d at *
      clear hkL
      unfold ActD.val actV at HAc
      by_cases hwb : bits BinOp.and IntKind.i64 d.wh 1 = 1
      · go_wp2_with fail
        go_roundw
        case rel => exact ⟨k + 1, by omega, by go_num, HD.out.more (by omega)⟩
        case measure => simp [intOf]; omega
      · go_wp2_with fail
        refine Calls.mono HAc.out ?_
        rintro e w2 ⟨⟨lv, rfl⟩, hD2⟩
        have HD2 := hid hD2
        clear hD2 HAc
        go_wp2_with fail
        go_roundw
        case rel => exact ⟨k + 1, by omega, by go_num, by rw [← Nat.add_assoc]; exact HD2.out⟩
        case measure => simp [intOf]; omega
    · obtain rfl : k = nS := by omega
      have HG := hid hD.last
      clear hSt hD hlen hkn
      go_wp2_with fail
      unfold lastA at HG
      generalize hV : wr.alloc _ = V at *
      have HV := hid hV
      clear hV
      generalize hg : wr.heap.size = g at *
      clear hg
      go_loopw [19] (fun i wt => ∃ j : Nat, j ≤ 4 ∧ i = .int .i64 (j : Int) ∧ DesksG B g w0 wt [(8, z), (4, y), (0, x)] (m + k + 2 * j)) (fun i _ => 4 - (intOf i).toNat)
      case atStart => exact ⟨0, by omega, rfl, HG.out⟩
      case round =>
        clear HG HV
        obtain ⟨j, hj, rfl, hD⟩ := hrel
        by_cases hjn : j < 4
        · have hll : lastL.length = 4 := rfl
          have hdj : lastL[j]? = some lastL[j] := List.getElem?_eq_getElem (by omega)
          obtain ⟨q0, q1, q2, q3, q4, q5⟩ := last_cell hD.2.2.1 hdj
          have HA1 := hid (hD.act (apart3 x y z) (by omega) (q := (0, x)) (by simp) (d := lastL[j]) (last_ok B wr _ (List.getElem_mem _)))
          have HA2 : Hid (∀ w2, DesksG B g w0 w2 [(8, z), (4, y), (0, x)] (m + k + 2 * j + 1) → (w2.cell? ⟨g, j * 6, none⟩ = some (.int .i64 lastL[j].wh) ∧ w2.cell? ⟨g, j * 6 + 1, none⟩ = some (.int .i64 lastL[j].kd) ∧ w2.cell? ⟨g, j * 6 + 2, none⟩ = some (.int .i64 lastL[j].at_) ∧ w2.cell? ⟨g, j * 6 + 3, none⟩ = some (.int .i64 lastL[j].fi) ∧ w2.cell? ⟨g, j * 6 + 4, none⟩ = some (.slice lastL[j].aR lastL[j].nR lastL[j].cR) ∧ w2.cell? ⟨g, j * 6 + 5, none⟩ = some (.slice lastL[j].aK lastL[j].nK lastL[j].cK)) ∧
              Calls Try.prog 12 #[.pointer (some ⟨y, 0, none⟩), lastL[j].val] w2 fun e w' => (∃ lv, e = .returned (.tuple #[.bool true, lv])) ∧ DesksG B g w0 w' [(8, z), (4, y), (0, x)] (m + k + 2 * j + 1 + 1)) := fun w2 h2 => ⟨last_cell h2.2.2.1 hdj, h2.act (apart3 x y z) (by omega) (q := (4, y)) (by simp) (d := lastL[j]) (last_ok B w2 _ (List.getElem_mem _))⟩
          have hjn' : (j : Int) < 4 := by omega
          clear hdj hD
          generalize lastL[j] = d at *
          unfold ActD.val actV at HA1 HA2
          go_wp2_with fail
          refine Calls.mono HA1.out ?_
          rintro e w2 ⟨⟨lv, rfl⟩, hD2⟩
          obtain ⟨⟨r0, r1, r2, r3, r4, r5⟩, hA3⟩ := HA2.out w2 hD2
          have HA3 := hid hA3
          clear hD2 HA1 HA2 hA3 q0 q1 q2 q3 q4 q5
          go_wp2_with fail
          refine Calls.mono HA3.out ?_
          rintro e w3 ⟨⟨lv2, rfl⟩, hD3⟩
          have HD3 := hid hD3
          clear hD3 HA3
          go_wp2_with fail
          go_roundw
          case rel => exact ⟨j + 1, by omega, by go_num, by rw [show m + k + 2 * (j + 1) = m + k + 2 * j + 1 + 1 by omega]; exact HD3.out⟩
          case measure => simp [intOf]; omega
        · have HD := hid hD
          clear hD
          have hjn' : ¬ (j : Int) < 4 := by omega
          go_wp2
          go_ret
          exact ⟨rfl, HD.out.2.1⟩

end Go.Proofs.Yteokekllbpkemaa
