/-
  around: a ring goes around.
-/
import Derived.Test.YtajnokkmpjdliaaKe1
import Derived.Test.YtajnokkmpjdliaaKf0
namespace Go.Proofs.Ytajnokkmpjdliaa
open Go.RowKit

theorem rem_i (i L r : Nat) (hr : r = (i + 1) % L) (hL : L ≤ 1048576) (h0 : 0 < L) : Int.tmod ((i : Int) + 1) (L : Int) = (r : Int) ∧ wrap64 (r : Int) = (r : Int) ∧ IntKind.i64.wrap (r : Int) = (r : Int) ∧ r < L ∧ ((r : Int) < (L : Int)) := by
  have h1 := remL (i + 1) L
  rw [show ((i + 1 : Nat) : Int) = (i : Int) + 1 by omega] at h1
  have h2 : r < L := by rw [hr]; exact Nat.mod_lt _ h0
  exact ⟨by rw [h1, hr], wr64 r (by omega), wrM r (by omega), h2, by omega⟩

/-- what the inner loop keeps: the edge that is looked for was met -/
def ThQ (E : List (Nat × Nat)) (k x y : Nat) (t : Bool) : Prop := (∃ k', k' < k ∧ eg E k' = (x, y)) → t = true
set_option maxRecDepth 100000 in
set_option maxHeartbeats 4000000 in
theorem around_any (n m c L c2 : Nat) (a a2 : Option Addr) (E : List (Nat × Nat)) (l : List Nat) (hm : m ≤ 1048576) (hL : L ≤ 1048576) (w : World) (hR : RdE w a m E) (hl : RdN w a2 L l) (hg : Ring n E l) :
    Calls Try.prog 15 #[.slice a m c, .slice a2 L c2] w fun e w' => e = .returned (.bool true) ∧ Below w.heap.size w w' := by
  obtain ⟨PO, hPO⟩ : ∃ PO : Ending → World → Prop, PO = fun e w' => e = .returned (.bool true) ∧ Below w.heap.size w w' := ⟨_, rfl⟩
  rw [← hPO]
  have HPO := hid hPO
  have HR := hid hR
  have HLs := hid hl
  have HG := hid hg
  have HM := hid hm
  have HL := hid hL
  clear hPO hR hl hg hm hL
  go_enter Try.func15, Try.ntmps15
  go_wp2_with fail
  go_loopw [5] (fun iv wr => ∃ i : Nat, iv = .int .i64 (i : Int) ∧ i ≤ L ∧ Below w.heap.size w wr) (fun iv _ => L - (intOf iv).toNat)
  case atStart => exact ⟨0, rfl, by omega, Below.refl _ _⟩
  case round =>
    obtain ⟨i, rfl, hi, hb⟩ := hrel
    by_cases p : i = L
    · have HD : Hid (PO (.returned (.bool true)) wr) := by
        unfold Hid
        rw [HPO.out]
        exact ⟨rfl, hb⟩
      have qq : (L : Int) ≤ (i : Int) := by omega
      clear hi hb p
      go_wp2_with fail
      exact HD.out
    · have hiL : i < L := by omega
      have qi : (i : Int) < (L : Int) := by omega
      have HI : Hid (i < L) := hiL
      have HBW := hid hb
      have hL9 := HL.out
      obtain ⟨ew, ewb⟩ := inc_w i (by omega)
      obtain ⟨r, hr⟩ : ∃ r, r = (i + 1) % L := ⟨_, rfl⟩
      obtain ⟨er, er1, er2, hrL, qr⟩ := rem_i i L r hr hL9 (by omega)
      have HRr := hid hr
      have HRL := hid hrL
      obtain ⟨x, hx⟩ : ∃ x, x = l.getD i 0 := ⟨_, rfl⟩
      obtain ⟨y, hy⟩ : ∃ y, y = l.getD r 0 := ⟨_, rfl⟩
      have HX := hid hx
      have HY := hid hy
      obtain ⟨g2, hal, d1⟩ := (HLs.out.next hb).2 i hiL
      obtain ⟨g3, hal3, d2⟩ := (HLs.out.next hb).2 r hrL
      rw [hal] at hal3
      cases hal3
      rw [← hx] at d1
      rw [← hy] at d2
      have HC : Hid (∀ wq, Below w.heap.size w wq → wq.cell? ⟨g2, i, none⟩ = some (.int .i64 (x : Int)) ∧ wq.cell? ⟨g2, r, none⟩ = some (.int .i64 (y : Int)) ∧ Calls Try.prog 23 #[.slice (some ⟨g2, 0, none⟩) L c2, .int .i64 (x : Int)] wq fun e w' => e = .returned (.int .i64 (i : Int)) ∧ w' = wq) := fun wq hq => by
        have h9 := HLs.out.next hq
        obtain ⟨g4, e4, f1⟩ := h9.2 i HI.out
        obtain ⟨g5, e5, f2⟩ := h9.2 r HRL.out
        rw [hal] at e4 e5
        cases e4
        cases e5
        rw [← HX.out] at f1
        rw [← HY.out] at f2
        refine ⟨f1, f2, ?_⟩
        rw [HX.out, ← hal]
        exact place_any L c2 i _ l HL.out wq h9 HG.out.nd HI.out
      have HAL := hid hal
      clear hi hb p hL9 hr hx hy hrL d1 d2
      subst hal
      go_wp2_with fail
      generalize decide (i < L) = bq
      generalize wr = wo at *
      go_loopw [6, 7] (fun tv kv wr => ∃ (t : Bool) (k : Nat), tv = .bool t ∧ kv = .int .i64 (k : Int) ∧ k ≤ m ∧ ThQ E k x y t ∧ Below w.heap.size w wr) (fun _ kv _ => m - (intOf kv).toNat)
      case atStart => exact ⟨false, 0, rfl, rfl, Nat.zero_le _, (fun ⟨k', h, _⟩ => by omega), HBW.out⟩
      case round =>
        obtain ⟨t, k, rfl, rfl, hk, ht, hb⟩ := hrel
        obtain ⟨d1, d2, hpl⟩ := HC.out wr hb
        by_cases q : k = m
        · have htt : t = true := by
            obtain ⟨k', hk', e'⟩ := List.getElem_of_mem (HG.out.ed i (by rw [HLs.out.1]; exact HI.out))
            refine ht ⟨k', by rw [q, ← HR.out.1]; exact hk', ?_⟩
            rw [eg_get E hk', e', HX.out, HY.out, HRr.out]
            have := HLs.out.1
            rw [this]
          subst htt
          have HPl := hid hpl
          have HN : Hid (i + 1 ≤ L ∧ Below w.heap.size w wr) := ⟨HI.out, hb⟩
          have qq : (m : Int) ≤ (k : Int) := by omega
          clear hk ht hb q hpl HC
          go_wp2_with fail
          go_at_call 23
          refine Calls.mono HPl.out ?_
          rintro e w' ⟨rfl, hw⟩
          have hw := hw.symm
          subst hw
          go_wp2_with fail
          refine ⟨⟨i + 1, by rw [Int.natCast_add]; rfl, HN.out⟩, ?_⟩
          exact mea_i HN.out.1
        · have hkm : k < m := by omega
          have qk : (k : Int) < (m : Int) := by omega
          obtain ⟨g, off, ha, c1, c2⟩ := (HR.out.next hb).2 k hkm
          have hm9 := HM.out
          obtain ⟨ex, exb⟩ := inc_w k (by omega)
          obtain ⟨bx, hbx⟩ : ∃ bx, bx = (eg E k).1 := ⟨_, rfl⟩
          obtain ⟨ax, hax⟩ : ∃ ax, ax = (eg E k).2 := ⟨_, rfl⟩
          rw [← hbx] at c1
          rw [← hax] at c2
          have HN : Hid (∀ q (t' : Bool), (t = true → t' = true) → (bx = x → ax = y → t' = true) → k + 1 ≤ m ∧ ThQ E (k + 1) x y t' ∧ Below w.heap.size w (wr.drewN q)) := fun q t' h1 h2 => ⟨hkm, fun ⟨k', h3, h4⟩ => by
            by_cases e : k' = k
            · rw [e] at h4
              exact h2 (by rw [hbx, h4]) (by rw [hax, h4])
            · exact h1 (ht ⟨k', Nat.lt_of_le_of_ne (Nat.le_of_lt_succ h3) e, h4⟩), hb.trans (below_drewN _ _ _)⟩
          clear hk ht hb q hpl hm9 hbx hax
          subst ha
          cases t
          · by_cases e1 : bx = x
            · by_cases e2 : ax = y
              · have HN2 := hid (fun q => HN.out q true (fun _ => rfl) (fun _ _ => rfl))
                rw [e1] at c1
                rw [e2] at c2
                clear e1 e2 HN
                go_wp2_with fail
                go_quiet (fail)
                all_goals go_wp2_with fail
                all_goals
                  refine ⟨⟨true, k + 1, rfl, by rw [Int.natCast_add]; rfl, HN2.out _⟩, ?_⟩
                  exact mea_i (HN2.out 0).1
              · have HN2 := hid (fun q => HN.out q false (fun h => h) (fun _ h => absurd h e2))
                have q3 : ((ax : Int) == (y : Int)) = false := by simpa using fun h : (ax : Int) = (y : Int) => e2 (by omega)
                have q4 : (ax == y) = false := by simpa using e2
                have q5 : decide ((ax : Int) = (y : Int)) = false := decide_eq_false (by omega)
                have q6 : decide (ax = y) = false := decide_eq_false e2
                rw [e1] at c1
                clear e1 HN
                go_wp2_with fail
                go_quiet (fail)
                all_goals go_wp2_with fail
                all_goals
                  refine ⟨⟨false, k + 1, rfl, by rw [Int.natCast_add]; rfl, HN2.out _⟩, ?_⟩
                  exact mea_i (HN2.out 0).1
            · have HN2 := hid (fun q => HN.out q false (fun h => h) (fun h _ => absurd h e1))
              have q3 : ((bx : Int) == (x : Int)) = false := by simpa using fun h : (bx : Int) = (x : Int) => e1 (by omega)
              have q4 : (bx == x) = false := by simpa using e1
              have q5 : decide ((bx : Int) = (x : Int)) = false := decide_eq_false (by omega)
              have q6 : decide (bx = x) = false := decide_eq_false e1
              clear HN
              go_wp2_with fail
              go_quiet (fail)
              all_goals go_wp2_with fail
              all_goals
                refine ⟨⟨false, k + 1, rfl, by rw [Int.natCast_add]; rfl, HN2.out _⟩, ?_⟩
                exact mea_i (HN2.out 0).1
          · have HN2 := hid (fun q => HN.out q true (fun _ => rfl) (fun _ _ => rfl))
            clear HN
            go_wp2_with fail
            go_quiet (fail)
            all_goals go_wp2_with fail
            all_goals
              refine ⟨⟨true, k + 1, rfl, by rw [Int.natCast_add]; rfl, HN2.out _⟩, ?_⟩
              exact mea_i (HN2.out 0).1
end Go.Proofs.Ytajnokkmpjdliaa
