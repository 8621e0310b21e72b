/-
  back, SameInts, Num, Asked.
-/
import Derived.Test.YtajnokkmpjdliaaEd1
namespace Go.Proofs.Ytajnokkmpjdliaa
open Go.RowKit

set_option maxRecDepth 100000 in
set_option maxHeartbeats 400000 in
theorem Num_any (u : Int) (w : World) : Calls Try.prog 7 #[.int .i64 u] w fun e w' => e = .returned (.int .i64 u) ∧ w' = w := by
  go_enter Try.func7, Try.ntmps7
  go_wp2
  go_ret
  exact ⟨rfl, rfl⟩

/-- a row of numbers that is read -/
def RdN (w : World) (a : Option Addr) (L : Nat) (l : List Nat) : Prop := l.length = L ∧ ∀ i, i < L → ∃ g, a = some ⟨g, 0, none⟩ ∧ w.cell? ⟨g, i, none⟩ = some (.int .i64 ((l.getD i 0 : Nat) : Int))
theorem RdN.next {w w' : World} {a : Option Addr} {L : Nat} {l : List Nat} (h : RdN w a L l) (hb : Below w.heap.size w w') : RdN w' a L l := by
  refine ⟨h.1, fun i hi => ?_⟩
  obtain ⟨g, ha, h1⟩ := h.2 i hi
  exact ⟨g, ha, (hb.cell (World.block_lt_of_cell? w ⟨g, i, none⟩ h1)).trans h1⟩
theorem rdn_own {B : Nat} {w : World} {v : Value} {l : List Nat} (h : w.ownsRow B 3 1 v l.length (l.map fun (k : Nat) => Value.int .i64 (k : Int))) : ∃ a c, v = .slice a l.length c ∧ RdN w a l.length l := by
  rcases own_form h with ⟨rfl, hn⟩ | ⟨g, c, rfl, hg⟩
  · exact ⟨none, 0, by rw [hn], rfl, fun i hi => by omega⟩
  · refine ⟨_, c, rfl, rfl, fun i hi => ⟨g, rfl, ?_⟩⟩
    have := World.ownsRow.cells h (g := g) rfl i (.int .i64 ((l.getD i 0 : Nat) : Int)) (by rw [List.getElem?_map, List.getElem?_eq_getElem hi, List.getD_eq_getElem?_getD, List.getElem?_eq_getElem hi]; rfl)
    rwa [Addr.add_lit, Nat.zero_add] at this

set_option maxRecDepth 100000 in
set_option maxHeartbeats 2000000 in
theorem SameInts_any (a b : Option Addr) (L c1 c2 : Nat) (l : List Nat) (hL : L ≤ 1048576) (w : World) (h1 : RdN w a L l) (h2 : RdN w b L l) :
    Calls Try.prog 8 #[.slice a L c1, .slice b L c2] w fun e w' => e = .returned (.bool true) ∧ Below w.heap.size w w' := by
  obtain ⟨PO, hPO⟩ : ∃ PO : Ending → World → Prop, PO = fun e w' => e = .returned (.bool true) ∧ Below w.heap.size w w' := ⟨_, rfl⟩
  rw [← hPO]
  have HPO := hid hPO
  have H1 := hid h1
  have H2 := hid h2
  have HL := hid hL
  clear hPO h1 h2 hL
  go_enter Try.func8, Try.ntmps8
  go_wp2_with fail
  go_loopw [5] (fun iv wr => ∃ i : Nat, iv = .int .i64 (i : Int) ∧ i ≤ L ∧ Below w.heap.size w wr) (fun iv _ => L - (intOf iv).toNat)
  case atStart => exact ⟨0, rfl, by omega, Below.refl _ _⟩
  case round =>
    obtain ⟨i, rfl, hi, hb⟩ := hrel
    by_cases p : i = L
    · have HD : Hid (PO (.returned (.bool true)) wr) := by
        unfold Hid
        rw [HPO.out]
        exact ⟨rfl, hb⟩
      have qq : (L : Int) ≤ (i : Int) := by omega
      clear hi hb p
      go_wp2_with fail
      exact HD.out
    · have hiL : i < L := by omega
      have qi : (i : Int) < (L : Int) := by omega
      obtain ⟨g1, ha, k1⟩ := (H1.out.next hb).2 i hiL
      obtain ⟨g2, hb', k2⟩ := (H2.out.next hb).2 i hiL
      obtain ⟨z, hz⟩ : ∃ z : Int, z = ((l.getD i 0 : Nat) : Int) := ⟨_, rfl⟩
      rw [← hz] at k1 k2
      have HNx : Hid (∀ q, i + 1 ≤ L ∧ Below w.heap.size w (wr.drewN q)) := fun q => ⟨by omega, hb.trans (below_drewN _ _ _)⟩
      have hL9 := HL.out
      obtain ⟨ew, ewb⟩ := inc_wr i (by omega)
      clear hi hb p hz hL9
      subst ha hb'
      go_wp2_with fail
      go_quiet (fail)
      all_goals go_wp2_with fail
      all_goals
        refine ⟨⟨i + 1, by rw [Int.natCast_add]; rfl, HNx.out _⟩, ?_⟩
        exact mea_step (HNx.out 0).1

set_option maxRecDepth 100000 in
set_option maxHeartbeats 4000000 in
theorem back_any (m M c2 g : Nat) (a2 : Option Addr) (G Y : List (Int × Int)) (hm : m ≤ 1048576) (hM : M = 2 * m + 70) (w : World) (hG : BlE w g G) (hGl : G.length = M) (hY : RdZ w a2 m Y) (h1 : ∀ i, i < m → zg G i = zg Y i) (h2 : ∀ i, m ≤ i → i < M → zg G i = (-7 - (i : Int), -8)) :
    Calls Try.prog 12 #[.slice (some ⟨g, 0, none⟩) m M, .slice a2 m c2] w fun e w' => e = .returned (.bool true) ∧ Below w.heap.size w w' := by
  obtain ⟨PO, hPO⟩ : ∃ PO : Ending → World → Prop, PO = fun e w' => e = .returned (.bool true) ∧ Below w.heap.size w w' := ⟨_, rfl⟩
  rw [← hPO]
  have HPO := hid hPO
  have HG := hid hG
  have HY := hid hY
  have HGl := hid hGl
  have H1 := hid h1
  have H2 := hid h2
  obtain ⟨q, hq⟩ : ∃ q, q = 2 * m := ⟨_, rfl⟩
  have HM : Hid (M = 2 * m + 70 ∧ m ≤ 1048576) := ⟨hM, hm⟩
  have hmM : (m : Int) ≤ (M : Int) := by omega
  obtain ⟨e1, e2, e3, e4⟩ := lend_wr m q M hm hq (by omega)
  clear hPO hG hGl hY h1 h2 hM hm hq
  go_enter Try.func12, Try.ntmps12
  go_wp2_with fail
  clear e1 e2 e3 e4
  go_loopw [6] (fun iv wr => ∃ i : Nat, iv = .int .i64 (i : Int) ∧ i ≤ M ∧ Below w.heap.size w wr) (fun iv _ => M - (intOf iv).toNat)
  case atStart => exact ⟨0, rfl, by omega, Below.refl _ _⟩
  case round =>
    obtain ⟨i, rfl, hi, hb⟩ := hrel
    by_cases p : i = M
    · have HD : Hid (PO (.returned (.bool true)) wr) := by
        unfold Hid
        rw [HPO.out]
        exact ⟨rfl, hb⟩
      have qq : (M : Int) ≤ (i : Int) := by omega
      clear hi hb p
      go_wp2_with fail
      exact HD.out
    · have hiM : i < M := by omega
      have qi : (i : Int) < (M : Int) := by omega
      have HNx : Hid (∀ q, i + 1 ≤ M ∧ Below w.heap.size w (wr.drewN q)) := fun q => ⟨by omega, hb.trans (below_drewN _ _ _)⟩
      obtain ⟨k1, k2⟩ := (HG.out.next hb).cell i (by rw [HGl.out]; exact hiM)
      have hM9 := HM.out
      by_cases r : i < m
      · obtain ⟨g2, off, ha, k3, k4⟩ := (HY.out.next hb).2 i r
        have he := H1.out i r
        obtain ⟨x, hx⟩ : ∃ x, x = (zg Y i).1 := ⟨_, rfl⟩
        obtain ⟨y, hy⟩ : ∃ y, y = (zg Y i).2 := ⟨_, rfl⟩
        rw [he, ← hx] at k1
        rw [he, ← hy] at k2
        rw [← hx] at k3
        rw [← hy] at k4
        have q1 : (i : Int) < (m : Int) := by omega
        have q2 : ¬ (m : Int) ≤ (i : Int) := by omega
        have q3 : decide (m ≤ i) = false := decide_eq_false (by omega)
        have q4 : decide ((m : Int) ≤ (i : Int)) = false := decide_eq_false q2
        have q5 : decide (i < m) = true := decide_eq_true r
        obtain ⟨ew, ewb⟩ := inc_wr4 i (by omega)
        clear hi hb p hM9 hx hy he
        subst ha
        go_wp2_with fail
        go_quiet (fail)
        all_goals go_wp2_with fail
        all_goals
          refine ⟨⟨i + 1, by rw [Int.natCast_add]; rfl, HNx.out _⟩, ?_⟩
          exact mea_step (HNx.out 0).1
      · have he := H2.out i (by omega) hiM
        obtain ⟨z, hz⟩ : ∃ z, z = -7 - (i : Int) := ⟨_, rfl⟩
        rw [he, ← hz] at k1
        rw [he] at k2
        have q1 : (m : Int) ≤ (i : Int) := by omega
        have q2 : ¬ (i : Int) < (m : Int) := by omega
        have q3 : decide (i < m) = false := decide_eq_false r
        have q4 : decide ((i : Int) < (m : Int)) = false := decide_eq_false q2
        have q5 : decide (m ≤ i) = true := decide_eq_true (by omega)
        obtain ⟨e5, e6⟩ := neg_wr i (by omega) z hz
        obtain ⟨ew, ewb⟩ := inc_wr4 i (by omega)
        clear hi hb p hM9 he hz r
        go_wp2_with fail
        go_quiet (fail)
        all_goals go_wp2_with fail
        all_goals
          refine ⟨⟨i + 1, by rw [Int.natCast_add]; rfl, HNx.out _⟩, ?_⟩
          exact mea_step (HNx.out 0).1

set_option maxRecDepth 100000 in
set_option maxHeartbeats 1000000 in
theorem Asked_any (s : Int) (w : World) : Calls Try.prog 17 #[.int .i64 s, .int .i64 0] w fun e w' => ∃ r, e = .returned (.agg #[.int .i64 s, .int .i64 0, .int .i64 r, .int .i64 0, .int .i64 s, .int .i64 0, .int .i64 s, .int .i64 0]) ∧ Below w.heap.size w w' := by
  obtain ⟨r, hr⟩ : ∃ r, r = wrap64 (s.tdiv 2) := ⟨_, rfl⟩
  have hb := below1 w (.cells #[.int .i64 s, .int .i64 0, .int .i64 r, .int .i64 0, .int .i64 s, .int .i64 0, .int .i64 s, .int .i64 0] 39)
  have HBB := hid hb
  have HG : Hid ((w.alloc (.cells #[.int .i64 s, .int .i64 0, .int .i64 r, .int .i64 0, .int .i64 s, .int .i64 0, .int .i64 s, .int .i64 0] 39)).heap[w.heap.size]? = some (.cells #[.int .i64 s, .int .i64 0, .int .i64 r, .int .i64 0, .int .i64 s, .int .i64 0, .int .i64 s, .int .i64 0] 39 (0, 0))) := heap_new _ _
  have HRR := hid hr
  clear hb hr
  go_enter Try.func17, Try.ntmps17
  go_wp2_with fail
  rw [← HRR.out]
  exact bodyPost_ret (results_cell_row rfl _ _ w.heap.size 39 _ (0, 0) _ rfl HG.out Try.underlying39 rfl (by kernel_rfl)) rfl ⟨r, rfl, HBB.out⟩
end Go.Proofs.Ytajnokkmpjdliaa
