/-
  other: back to front.
-/
import Derived.Test.YtoifmiloaefanaaDoorOt1
namespace Go.Proofs.YtoifmiloaefanaaDoor
open Go.RowKit

set_option maxRecDepth 100000 in
set_option maxHeartbeats 1000000 in
theorem other_two (a : Option Addr) (n c : Nat) (ts : List Tk) (w : World) (hn : ts.length = n) (hN : n ≤ 1048576) (hO : TkO w a c ts) : Calls Tryd.prog 14 #[.slice a n c, .int .i64 2] w (OtQ w n (revK ts n)) := by
  have HC := hid (CopyTokens_rd a n c ts w hn hO (by omega))
  have HO := hid hO
  obtain ⟨PQ, hPQ⟩ : ∃ PQ, PQ = OtQ w n (revK ts n) := ⟨_, rfl⟩
  rw [← hPQ]
  have HPQ := hid hPQ
  clear hO hPQ
  go_enter Tryd.func14, Tryd.ntmps14
  go_wp2_with fail
  refine Calls.mono HC.out ?_
  rintro e w1 ⟨g, cc, rfl, k1, k2, k3⟩
  have HK := hid (And.intro k2 k3)
  have HK1 := hid k1
  clear k1 k2 k3 HC
  go_wp2_with fail
  go_loopw [6] (fun iv wr => ∃ k : Nat, iv = .int .i64 (k : Int) ∧ k ≤ n ∧ OwT w.heap.size wr (.slice (some ⟨g, 0, none⟩) n cc) (revK ts k) ∧ Below w.heap.size w wr) (fun iv _ => n - (intOf iv).toNat)
  case atStart => exact ⟨0, rfl, Nat.zero_le _, HK.out.1, HK.out.2⟩
  case round =>
    clear HK
    obtain ⟨k, rfl, hk, hOw, hB⟩ := hrel
    have hkl : k < n → k < (revK ts k).length := fun h => by rw [revK_len, hn]; exact h
    have hkn : n = (revK ts k).length := by rw [revK_len, hn]
    by_cases q : k < n
    · have q' : (k : Int) < (n : Int) := by omega
      obtain ⟨p, hp⟩ : ∃ p, p = n - 1 - k := ⟨_, rfl⟩
      have hp' : (n : Int) - 1 - (k : Int) = (p : Int) := by omega
      have hpn : (p : Int) < (n : Int) := by omega
      have hpt : p < ts.length := by omega
      obtain ⟨g0, off, rfl, _, hcs⟩ := (HO.out.next hB).resolve_left (by rintro (⟨_, _, e⟩ | ⟨_, _, e⟩) <;> (rw [e] at hn; simp at hn; omega))
      have cc4 : ∀ i, i < 4 → ∀ v, (cellsT ts[p])[i]? = some v → wr.cell? ⟨g0, off + (p * 4 + i), none⟩ = some v := fun i hi v hv => hcs _ _ ((flatT_at ts p hpt i hi).trans hv)
      have s0 : wr.cell? ⟨g0, off + p * 4, none⟩ = some (.int .i64 ts[p].k) := cc4 0 (by decide) _ rfl
      have s1 : wr.cell? ⟨g0, off + p * 4 + 1, none⟩ = some (.string (strOfNums ts[p].tx)) := cc4 1 (by decide) _ rfl
      have s2 : wr.cell? ⟨g0, off + p * 4 + 2, none⟩ = some (.int .i64 ts[p].n) := cc4 2 (by decide) _ rfl
      have s3 : wr.cell? ⟨g0, off + p * 4 + 3, none⟩ = some (.int .i64 ts[p].a) := cc4 3 (by decide) _ rfl
      have hkl' := hkl q
      obtain ⟨x, hx⟩ : ∃ x : Tk, x = (revK ts k)[k] := ⟨_, rfl⟩
      obtain ⟨c0, c1, c2, c3⟩ := hOw.cell4 hkn k hkl'
      rw [← hx] at c0 c1 c2 c3
      have fzz : ∀ o, wr.frozen? ⟨g, o, none⟩ = false := fun o => World.ownsRow.frozenAt (by unfold OwT at hOw; rw [← hkn] at hOw; exact hOw) o
      have f0 := fzz (k * 4)
      have f1 := fzz (k * 4 + 1)
      have f2 := fzz (k * 4 + 2)
      have f3 := fzz (k * 4 + 3)
      have HNX : Hid (∀ W, W = (((wr.setCell ⟨g, k * 4, none⟩ (.int .i64 ts[p].k)).setCell ⟨g, k * 4 + 1, none⟩ (.string (strOfNums ts[p].tx))).setCell ⟨g, k * 4 + 2, none⟩ (.int .i64 ts[p].n)).setCell ⟨g, k * 4 + 3, none⟩ (.int .i64 ts[p].a) → OwT w.heap.size W (.slice (some ⟨g, 0, none⟩) n cc) (revK ts (k + 1)) ∧ Below w.heap.size w W) := fun W hW => by
        have h4 := hOw.set4 hkn.symm k ts[p] hkl'
        rw [← hW] at h4
        refine ⟨?_, by rw [hW]; exact set4_below hB HK1.out _ _ _ _ _⟩
        rw [revK, hn, ← hp, List.getD_eq_getElem?_getD, List.getElem?_eq_getElem hpt]
        exact h4
      clear hOw hB cc4 hcs fzz hx hkl hkl' hkn hp
      generalize ts[p] = t at *
      obtain ⟨tk, tl, tn, ta⟩ := t
      simp only at s0 s1 s2 s3 HNX
      generalize strOfNums tl = U at *
      go_wp2_with fail
      exact ⟨⟨k + 1, by go_num, by omega, (HNX.out _ rfl).1, (HNX.out _ rfl).2⟩, by simp [intOf]; omega⟩
    · obtain rfl : k = n := by omega
      have HE := hid (And.intro hOw hB)
      clear hOw hB hkl hkn
      go_wp2_with fail
      rw [HPQ.out]
      exact ⟨g, cc, rfl, HK1.out, HE.out.1, HE.out.2⟩

end Go.Proofs.YtoifmiloaefanaaDoor
