/-
  place.
-/
import Derived.Test.YtajnokkmpjdliaaCi6
namespace Go.Proofs.Ytajnokkmpjdliaa
open Go.RowKit

set_option maxRecDepth 100000 in
set_option maxHeartbeats 1000000 in
theorem place_any (L c i0 : Nat) (al : Option Addr) (l : List Nat) (hL : L ≤ 1048576) (w : World) (hl : RdN w al L l) (hd : l.Nodup) (h0 : i0 < L) :
    Calls Try.prog 23 #[.slice al L c, .int .i64 ((l.getD i0 0 : Nat) : Int)] w fun e w' => e = .returned (.int .i64 (i0 : Int)) ∧ w' = w := by
  obtain ⟨PO, hPO⟩ : ∃ PO : Ending → World → Prop, PO = fun e w' => e = .returned (.int .i64 (i0 : Int)) ∧ w' = w := ⟨_, rfl⟩
  rw [← hPO]
  have HPO := hid hPO
  have HLs := hid hl
  have HD := hid hd
  have HI := hid h0
  have HL := hid hL
  obtain ⟨x, hx⟩ : ∃ x, x = l.getD i0 0 := ⟨_, rfl⟩
  have HX := hid hx
  rw [← hx]
  clear hPO hl hd h0 hL hx
  go_enter Try.func23, Try.ntmps23
  go_wp2_with fail
  go_loopw [5] (fun iv wr => ∃ i : Nat, iv = .int .i64 (i : Int) ∧ i ≤ i0 ∧ wr = w) (fun iv _ => L - (intOf iv).toNat)
  case atStart => exact ⟨0, rfl, by omega, rfl⟩
  case round =>
    obtain ⟨i, rfl, hi, hw⟩ := hrel
    subst hw
    have h0 := HI.out
    have hL := HL.out
    have hiL : i < L := by omega
    obtain ⟨g, hal, c1⟩ := HLs.out.2 i hiL
    obtain ⟨y, hy⟩ : ∃ y, y = l.getD i 0 := ⟨_, rfl⟩
    rw [← hy] at c1
    have q1 : (i : Int) < (L : Int) := by omega
    by_cases q : i = i0
    · have hyx : y = x := by rw [hy, HX.out, q]
      have HF : Hid (PO (.returned (.int .i64 (i : Int))) wr) := by
        unfold Hid
        rw [HPO.out]
        exact ⟨by rw [q], rfl⟩
      rw [hyx] at c1
      clear hi h0 hL hiL hy q hyx
      subst hal
      go_wp2_with fail
      exact HF.out
    · have hyx : ¬ y = x := fun e => q (nd_inj HD.out (by rw [HLs.out.1]; exact hiL) (by rw [HLs.out.1]; exact h0) (by rw [← hy, e, HX.out]))
      have q2 : ¬ (y : Int) = (x : Int) := by omega
      have HNx : Hid (i + 1 ≤ i0 ∧ i + 1 ≤ L) := ⟨by omega, by omega⟩
      have HI9 : Hid (i ≤ 2097152) := by show i ≤ 2097152; omega
      clear hi h0 hL hiL hy q
      obtain ⟨ew, ewb⟩ := inc_w i HI9.out
      subst hal
      go_wp2_with fail
      refine ⟨⟨i + 1, by rw [Int.natCast_add]; rfl, HNx.out.1, trivial⟩, ?_⟩
      exact mea_i HNx.out.2
end Go.Proofs.Ytajnokkmpjdliaa
