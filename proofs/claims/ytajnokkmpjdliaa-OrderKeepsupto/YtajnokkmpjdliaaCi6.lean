/-
  Circled: every answer of Circle passes.
-/
import Derived.Test.YtajnokkmpjdliaaCi5
namespace Go.Proofs.Ytajnokkmpjdliaa
open Go.RowKit

set_option maxRecDepth 100000 in
set_option maxHeartbeats 1000000 in
theorem circled_nil (u s : Int) (m c cl : Nat) (a al : Option Addr) (hu : u = 240 ∨ u = 0) (w : World) (hO : Calls Try.prog 18 #[.int .i64 s, .slice a m c] w fun e w' => ∃ a0 c0 n0, e = .returned (.tuple #[.slice a0 n0 c0, .int .i64 u]) ∧ Below w.heap.size w w') :
    Calls Try.prog 11 #[.int .i64 s, .slice a m c, .slice al 0 cl, .int .i64 u] w (CdQ w) := by
  obtain ⟨PO, hPO⟩ : ∃ PO, PO = CdQ w := ⟨_, rfl⟩
  rw [← hPO]
  have HO : Hid (Calls Try.prog 18 #[.int .i64 s, .slice a m c] w fun e w' => ∃ a0 c0 n0, e = .returned (.tuple #[.slice a0 n0 c0, .int .i64 u]) ∧ PO (.returned (.bool true)) w') := by
    refine hO.mono ?_
    rintro e w' ⟨a0, c0, n0, rfl, hb⟩
    refine ⟨a0, c0, n0, rfl, ?_⟩
    rw [hPO]
    exact ⟨rfl, hb⟩
  clear hO hPO
  rcases hu with rfl | rfl
  all_goals
    go_enter Try.func11, Try.ntmps11
    go_wp2_with fail
    go_at_call 18
    refine Calls.mono HO.out ?_
    rintro e w1 ⟨a0, c0, n0, rfl, h1⟩
    have HD := hid h1
    clear h1 HO
    go_wp2_with fail
    exact HD.out
theorem orq_ret {s : Int} {Z : List (Int × Int)} {w : World} {u : Int} (hu : (orX s Z).2 = u) {e : Ending} {w' : World} (h : OrQ s Z w e w') : ∃ a0 c0 n0, e = .returned (.tuple #[.slice a0 n0 c0, .int .i64 u]) ∧ Below w.heap.size w w' := by
  obtain ⟨ov, rfl, h1, h2⟩ := h
  obtain ⟨a1, c1, rfl⟩ := own_sl h1
  exact ⟨a1, c1, _, by rw [hu], h2⟩
theorem Circled_any (m c L cl : Nat) (a al : Option Addr) (s f : Int) (Z : List (Int × Int)) (l : List Nat) (hm : m ≤ 1048576) (w : World) (hR : RdZ w a m Z) (hl : RdN w al L l) (hC : CirR s Z l f) :
    Calls Try.prog 11 #[.int .i64 s, .slice a m c, .slice al L cl, .int .i64 f] w (CdQ w) := by
  have hO := refOrder_any m c a s Z hm w hR
  by_cases p : okZ s Z = true
  · have hf := hC.ok p
    subst hf
    have hok := okZ_iff.1 p
    by_cases q : (ordP s.toNat (toN Z)).length < s.toNat
    · have hu : (orX s Z).2 = 241 := by
        unfold orX
        rw [if_pos p, if_pos q]
      have h9 := circled_ring s.toNat m c L cl a al (toN Z) l hm (by omega) w (by rw [Int.toNat_of_nonneg hok.1]; exact hO.mono fun _ _ h => orq_ret hu h) (hR.toE p) (okZ.ed p) hl (hC.ring p q)
      rw [Int.toNat_of_nonneg hok.1] at h9
      exact h9
    · have hu : (orX s Z).2 = 0 := by
        unfold orX
        rw [if_pos p, if_neg q]
      have hnl := hC.none p q
      have hL : L = 0 := by rw [← hl.1, hnl]; rfl
      subst hL
      exact circled_nil 0 s m c cl a al (.inr rfl) w (hO.mono fun _ _ h => orq_ret hu h)
  · have hu : (orX s Z).2 = 240 := by
      unfold orX
      rw [if_neg p]
    obtain ⟨hnl, hf⟩ := hC.no (by simpa using p)
    subst hf
    have hL : L = 0 := by rw [← hl.1, hnl]; rfl
    subst hL
    exact circled_nil 240 s m c cl a al (.inl rfl) w (hO.mono fun _ _ h => orq_ret hu h)
end Go.Proofs.Ytajnokkmpjdliaa
