/-
  CacheKeeps: the law.
-/
import Derived.Test.YtokgfnfgpjkpjaaCe0
import Derived.Deep.RegionHeld3
namespace Go.Proofs.Ytokgfnfgpjkpjaa
open Go.RowKit

/-- bools that are read, below block B -/
def RdB (B : Nat) (w : World) (a : Option Addr) (m : Nat) (bs : List Bool) : Prop :=
  bs.length = m ∧ (m = 0 ∨ ∃ b off, a = some ⟨b, off, none⟩ ∧ b < B ∧ ∀ t, t < m → w.cell? ⟨b, off + t, none⟩ = some (.bool (bs.getD t false)))
def usedN (v : Value) (k : Nat) : Prop := v.ownBlock = some k

set_option maxRecDepth 100000 in
set_option maxHeartbeats 40000000 in
theorem keeps_law {w : World} (ro on : Int) {a a2 : Option Addr} {n cp n2 cp2 : Nat} {L : List Int} {bs : List Bool} (hL : RdI w.heap.size w a n L) (hB : RdB w.heap.size w a2 n2 bs) (hn : n ≤ 1048576) :
    Calls Try.prog 3 #[.int .i64 ro, .int .i64 on, .slice a n cp, .slice a2 n2 cp2] w fun e w' => e = .returned (.bool true) ∧ Below w.heap.size w w' := by
  have H1 : Hid (∀ w, Calls Try.prog 6 #[.int .i64 ro, .int .i64 1, .int .i64 9] w fun q w' => q = .returned (.int .i64 (inN 1 9 ro : Int)) ∧ w' = w) := fun w => within_any ro 1 9 (by omega) (by omega) w
  have H2 : Hid (∀ x w, Calls Try.prog 6 #[.int .i64 x, .int .i64 0, .int .i64 31] w fun q w' => q = .returned (.int .i64 (inN 0 31 x : Int)) ∧ w' = w) := fun x w => within_any x 0 31 (by omega) (by omega) w
  have rlo := inN_lo 1 9 ro
  have rhi := inN_hi (lo := 1) (hi := 9) ro (by omega)
  have ahi := inN_hi (lo := 0) (hi := 31) on (by omega)
  have HP := hid (pair_any 32 (inN 1 9 ro) (by omega) (by omega) rlo (by omega) w)
  have HAt := hid (H2.out on)
  generalize inN 1 9 ro = size at *
  generalize inN 0 31 on = at_ at *
  have HL := hid hL
  have HB := hid hB
  clear hL hB
  go_enter Try.func3, Try.ntmps3
  go_wp2_with fail
  refine Calls.mono (H1.out _) ?_
  rintro e w1 ⟨rfl, hw⟩
  rw [hw]
  clear H1 hw
  go_wp2_with fail
  refine Calls.mono HP.out ?_
  rintro e w1 ⟨p, p2, c, X, Y, X2, rfl, T, hX, b1⟩
  have HK : Hid (Kst (usedN (.slice none 0 0)) w.heap.size w w1 c p size 0 0 0 []) := ⟨X, Y, _, _, T.cd, Good.nil _ _ _, by simp, fun k q => ⟨hX k (q.elim .inl (fun q => .inr (.inl q))), fun q => by cases q⟩, b1.size, b1⟩
  clear HP T hX b1
  go_wp2_with fail
  refine Calls.mono (HAt.out _) ?_
  rintro e w2 ⟨rfl, hw⟩
  rw [hw]
  clear HAt hw
  have HR := hid (HK.out.read (fun k q => by cases q) (by omega) (x := at_) (by omega) (by omega) (by omega))
  have hpos := hits_pos [] 0 (at_ : Int)
  have hsum0 := hits_sum [] 0 (at_ : Int)
  rw [if_pos rfl] at hsum0
  generalize hitN [] 0 (at_ : Int) = h1 at *
  generalize missN [] 0 (at_ : Int) = h2 at *
  go_wp2_with fail
  refine Calls.mono HR.out ?_
  rintro e w2 ⟨al, cpr, Z, rfl, k2, _, _⟩
  have HJ : Hid (Jk size (at_ : Int) ((holdL size [] (at_ : Int) Z).map (·.1)) []) := by
    rw [holdL_keys]
    exact Jk.here _ _ _ rlo
  have K2 := hid k2
  clear HR k2 HK
  go_wp2_with fail
  refine Calls.mono (num_any 0 w2) ?_
  rintro e w3 ⟨rfl, hw⟩
  rw [hw]
  clear hw
  go_wp2_with fail
  go_loopw [16, 17, 18] (fun ev uv iv wt => ∃ (k nU : Nat) (hi mi : Int) (l : List (Int × List Int)) (U : List Int), k ≤ n ∧ ev = .int .i64 0 ∧ iv = .int .i64 (k : Int) ∧ OwI w.heap.size wt uv nU U ∧ nU ≤ k ∧ Kst (usedN uv) w.heap.size w wt c p size k hi mi l ∧ Jk size (at_ : Int) (l.map (·.1)) U ∧ 0 ≤ hi ∧ 0 ≤ mi ∧ hi + mi ≤ (k + 1 : Nat)) (fun _ _ iv _ => n - (intOf iv).toNat)
  case atStart => exact ⟨0, 0, _, _, _, [], Nat.zero_le _, rfl, rfl, OwI.nil _ _, Nat.le_refl _, K2.out, HJ.out, by omega, by omega, by omega⟩
  case round =>
    clear K2 HJ
    obtain ⟨k, nU, hi', mi', l, U, hk, rfl, rfl, hO, hnU, hKs, hJk, p1, p2', p3⟩ := hrel
    obtain ⟨f1, f2, f3, f4, hbt⟩ := hKs.facts
    by_cases hkn : k < n
    · obtain ⟨b, off, rfl, hb, hc⟩ := HL.out.2.resolve_left (by omega)
      have cx := (hbt.cell (p := ⟨b, off + k, none⟩) hb).trans (hc k hkn)
      have hkn' : (k : Int) < (n : Int) := by omega
      clear hc
      generalize L.getD k 0 = x at *
      have HW := hid (H2.out x wr)
      have hoh := inN_hi (lo := 0) (hi := 31) x (by omega)
      generalize inN 0 31 x = o at *
      have HK := hid (And.intro hKs (And.intro hJk (And.intro f1 f2)))
      clear hKs hJk f1
      go_wp2_with fail
      refine Calls.mono HW.out ?_
      rintro e w3 ⟨rfl, hw3⟩
      rw [hw3]
      clear hw3 HW cx
      by_cases hoa : (o : Int) = (at_ : Int)
      · have hoa2 : o = at_ := by omega
        clear hoa
        subst o
        have HM : Hid (Kst (usedN (.slice none 0 0)) w.heap.size w wr c p size k hi' mi' l ∧ OwI w.heap.size wr (.slice none 0 0) 0 [] ∧ (∀ Z, Jk size (at_ : Int) ((holdL size l (at_ : Int) Z).map (·.1)) []) ∧ 0 ≤ k + 1 ∧ ∀ g, usedN (.slice none 0 0) g → g < wr.heap.size) := by
          refine ⟨HK.out.1.move (Nat.le_refl _) (fun _ _ _ => rfl) (Below.refl _ _) (fun k _ q => by cases q), OwI.nil _ _, fun Z => ?_, Nat.zero_le _, fun g q => by cases q⟩
          rw [holdL_keys]
          exact Jk.here _ _ _ rlo
        clear hO

        have HSum : Hid (hitN l 0 (at_ : Int) + missN l 0 (at_ : Int) = 1) := by have := hits_sum l 0 (at_ : Int); rw [if_pos rfl] at this; exact this
        by_cases hk2 : k < n2
        · obtain ⟨b2, o2, rfl, hb2, hc2⟩ := (HB.out).2.resolve_left (by omega)
          have cb := (hbt.cell (p := ⟨b2, o2 + k, none⟩) hb2).trans (hc2 k hk2)
          have hk2' : (k : Int) < (n2 : Int) := by omega
          clear hc2
          cases hbk : bs.getD k false
          · rw [hbk] at cb
            have HR := hid (HM.out.1.read HM.out.2.2.2.2 (by omega) (x := at_) (by omega) (by omega) (by omega))
            have hpos2 := hits_pos l 0 (at_ : Int)
            generalize hitN l 0 (at_ : Int) = g1 at *
            generalize missN l 0 (at_ : Int) = g2 at *
            go_wp2_with fail
            refine Calls.mono HR.out ?_
            rintro e w5 ⟨al5, cp5, Z5, rfl, k5, f5, s5⟩
            have HF : Hid (Kst (usedN (.slice none 0 0)) w.heap.size w w5 c p size (k + 1) (hi' + g1) (mi' + g2) (holdL size l (at_ : Int) Z5) ∧ OwI w.heap.size w5 (.slice none 0 0) 0 [] ∧ Jk size (at_ : Int) ((holdL size l (at_ : Int) Z5).map (·.1)) []) := ⟨k5.more, owns_keep HM.out.2.1 (fun g q => f5 g q), HM.out.2.2.1 Z5⟩
            have hs1 := HSum.out
            clear k5 f5 HR
            go_wp2_with fail
            refine Calls.mono (num_any 0 w5) ?_
            rintro e w6 ⟨rfl, hw6⟩
            rw [hw6]
            clear hw6
            go_wp2_with fail
            go_roundw
            case rel => exact ⟨k + 1, 0, hi' + g1, mi' + g2, _, [], by omega, rfl, by go_num, HF.out.2.1, HM.out.2.2.2.1, HF.out.1, HF.out.2.2, by omega, by omega, by omega⟩
            case measure => simp [intOf]; omega

          · rw [hbk] at cb
            have HBl := hid (Block_any (k : Int) wr)
            go_wp2_with fail
            refine Calls.mono HBl.out ?_
            rintro e w4 ⟨gB, rfl, gBl, kB, b4⟩
            have HR := hid (HM.out.1.write HM.out.2.2.2.2 (by omega) (x := at_) (by omega) b4 gBl kB (length_blkZ _) (isB_blkZ _))
            have B4 := hid b4
            clear kB b4 HBl
            go_wp2_with fail
            refine Calls.mono HR.out ?_
            rintro e w5 ⟨rfl, k5, f5, s5⟩
            have HF : Hid (Kst (usedN (.slice none 0 0)) w.heap.size w w5 c p size (k + 1) hi' mi' (holdL size l (at_ : Int) (blkZ (k : Int))) ∧ OwI w.heap.size w5 (.slice none 0 0) 0 [] ∧ Jk size (at_ : Int) ((holdL size l (at_ : Int) (blkZ (k : Int))).map (·.1)) []) := ⟨k5, owns_keep HM.out.2.1 (fun g q => (f5 g q).trans (B4.out.block g (HM.out.2.2.2.2 g q))), HM.out.2.2.1 _⟩
            clear k5 f5 HR
            go_wp2_with fail
            refine Calls.mono (num_any 0 w5) ?_
            rintro e w6 ⟨rfl, hw6⟩
            rw [hw6]
            clear hw6
            go_wp2_with fail
            go_roundw
            case rel => exact ⟨k + 1, 0, hi', mi', _, [], by omega, rfl, by go_num, HF.out.2.1, HM.out.2.2.2.1, HF.out.1, HF.out.2.2, by omega, by omega, by omega⟩
            case measure => simp [intOf]; omega

        · have hk2' : ¬ (k : Int) < (n2 : Int) := by omega
          have HR := hid (HM.out.1.read HM.out.2.2.2.2 (by omega) (x := at_) (by omega) (by omega) (by omega))
          have hpos2 := hits_pos l 0 (at_ : Int)
          generalize hitN l 0 (at_ : Int) = g1 at *
          generalize missN l 0 (at_ : Int) = g2 at *
          go_wp2_with fail
          refine Calls.mono HR.out ?_
          rintro e w5 ⟨al5, cp5, Z5, rfl, k5, f5, s5⟩
          have HF : Hid (Kst (usedN (.slice none 0 0)) w.heap.size w w5 c p size (k + 1) (hi' + g1) (mi' + g2) (holdL size l (at_ : Int) Z5) ∧ OwI w.heap.size w5 (.slice none 0 0) 0 [] ∧ Jk size (at_ : Int) ((holdL size l (at_ : Int) Z5).map (·.1)) []) := ⟨k5.more, owns_keep HM.out.2.1 (fun g q => f5 g q), HM.out.2.2.1 Z5⟩
          have hs1 := HSum.out
          clear k5 f5 HR
          go_wp2_with fail
          refine Calls.mono (num_any 0 w5) ?_
          rintro e w6 ⟨rfl, hw6⟩
          rw [hw6]
          clear hw6
          go_wp2_with fail
          go_roundw
          case rel => exact ⟨k + 1, 0, hi' + g1, mi' + g2, _, [], by omega, rfl, by go_num, HF.out.2.1, HM.out.2.2.2.1, HF.out.1, HF.out.2.2, by omega, by omega, by omega⟩
          case measure => simp [intOf]; omega
      · have hoa' : (o : Int) ≠ (at_ : Int) := hoa
        have HOa := hid (hO.alloc (.cells #[.int .i64 (o : Int)] 3))
        have hws : w.heap.size ≤ wr.heap.size := hbt.size
        obtain ⟨i3, hi3, hz3, hs3, hb3⟩ := info_parts infoI
        obtain ⟨aO, cO, rfl, _⟩ := owns_slice hO
        have HNb : Hid (∀ g, usedN (.slice aO nU cO) g → g < wr.heap.size) := fun g q => (World.ownsRow.lt hO g q).2
        have Hbt := hid hbt
        have HAp : Hid (∀ g4 cap4 w6, w6.ownsRow w.heap.size 3 1 (.slice (some ⟨g4, 0, none⟩) (nU + 1) cap4) (nU + 1) (U.map (Value.int .i64) ++ [.int .i64 (o : Int)]) → (wr.alloc (.cells #[.int .i64 (o : Int)] 3)).grownBy w6 (Value.slice aO nU cO).ownBlock → ((Value.slice aO nU cO).ownBlock = some g4 ∨ g4 = wr.heap.size + 1) → g4 < w6.heap.size →
            (Kst (usedN (.slice (some ⟨g4, 0, none⟩) (nU + 1) cap4)) w.heap.size w w6 c p size k hi' mi' l ∧ OwI w.heap.size w6 (.slice (some ⟨g4, 0, none⟩) (nU + 1) cap4) (nU + 1) (U ++ [(o : Int)]) ∧ (∀ Z, Jk size (at_ : Int) ((holdL size l (o : Int) Z).map (·.1)) (U ++ [(o : Int)])) ∧ nU + 1 ≤ k + 1 ∧ ∀ g, usedN (.slice (some ⟨g4, 0, none⟩) (nU + 1) cap4) g → g < w6.heap.size) ∧ Below w.heap.size w w6) := by
          intro g4 cap4 w6 ho4 hg4 hlie4 hlt4
          have bA : Below wr.heap.size wr (wr.alloc (.cells #[.int .i64 (o : Int)] 3)) := (Below.refl _ _).alloc (Nat.le_refl _) _
          have zA : (wr.alloc (.cells #[.int .i64 (o : Int)] 3)).heap.size = wr.heap.size + 1 := by simp
          have kA := HK.out.1.below bA
          have bB : Below w.heap.size (wr.alloc (.cells #[.int .i64 (o : Int)] 3)) w6 := (Below.refl _ _).grown hg4 (by omega) (fun x e => (World.ownsRow.lt HOa.out x e).1)
          refine ⟨⟨kA.move hg4.size (fun k hk hn => hg4.block k hk (fun e => hn e.symm)) bB (fun k hk q => ?_), ?_, fun Z => ?_, by omega, fun g q => ?_⟩, (hbt.trans (bA.mono hws)).trans bB⟩
          · have e : g4 = k := by unfold usedN at q; cases q; rfl
            rcases hlie4 with h | h
            · rw [← e]; exact h
            · omega
          · unfold OwI
            rw [List.map_append]
            exact ho4
          · rw [holdL_keys]
            exact HK.out.2.1.other HK.out.2.2.1 HK.out.2.2.2 hoa'
          · have e : g4 = g := by unfold usedN at q; cases q; rfl
            rw [← e]; exact hlt4
        clear hO HK
        go_wp2_with (at_builtin; refine wpList_append_lies _ rfl _ _ 22 (by rfl) w.heap.size 3 i3 (.int .i64 0) 1 8 Try.underlying22 hi3 hz3 hs3 hb3 rfl (by decide) _ nU (U.map (Value.int .i64)) (by rfl) HOa.out ⟨wr.heap.size, 0, none⟩ 1 1 [.int .i64 (o : Int)] (by rfl) (by rfl) (by exact newsV1 _ _ _ rfl) (by intro u hu; simp at hu; subst hu; rfl) (by decide) (by unfold maxLen; omega) (by omega) (by simp; omega) (wr.heap.size + 1) (by simp) ?_)
        intro g4 cap4 w6 ho4 hg4 hlie4 hlt4
        obtain ⟨hM, hb6⟩ := HAp.out g4 cap4 w6 ho4 hg4 hlie4 hlt4
        have HM := hid hM
        clear HAp HOa ho4 hg4 hlie4 hM hbt Hbt HNb

        have HSum : Hid (hitN l 0 (o : Int) + missN l 0 (o : Int) = 1) := by have := hits_sum l 0 (o : Int); rw [if_pos rfl] at this; exact this
        by_cases hk2 : k < n2
        · obtain ⟨b2, o2, rfl, hb2, hc2⟩ := (HB.out).2.resolve_left (by omega)
          have cb := (hb6.cell (p := ⟨b2, o2 + k, none⟩) hb2).trans (hc2 k hk2)
          have hk2' : (k : Int) < (n2 : Int) := by omega
          clear hc2
          cases hbk : bs.getD k false
          · rw [hbk] at cb
            have HR := hid (HM.out.1.read HM.out.2.2.2.2 (by omega) (x := o) (by omega) (by omega) (by omega))
            have hpos2 := hits_pos l 0 (o : Int)
            generalize hitN l 0 (o : Int) = g1 at *
            generalize missN l 0 (o : Int) = g2 at *
            go_wp2_with fail
            refine Calls.mono HR.out ?_
            rintro e w5 ⟨al5, cp5, Z5, rfl, k5, f5, s5⟩
            have HF : Hid (Kst (usedN (.slice (some ⟨g4, 0, none⟩) (nU + 1) cap4)) w.heap.size w w5 c p size (k + 1) (hi' + g1) (mi' + g2) (holdL size l (o : Int) Z5) ∧ OwI w.heap.size w5 (.slice (some ⟨g4, 0, none⟩) (nU + 1) cap4) (nU + 1) (U ++ [(o : Int)]) ∧ Jk size (at_ : Int) ((holdL size l (o : Int) Z5).map (·.1)) (U ++ [(o : Int)])) := ⟨k5.more, owns_keep HM.out.2.1 (fun g q => f5 g q), HM.out.2.2.1 Z5⟩
            have hs1 := HSum.out
            clear k5 f5 HR
            go_wp2_with fail
            refine Calls.mono (num_any 0 w5) ?_
            rintro e w6 ⟨rfl, hw6⟩
            rw [hw6]
            clear hw6
            go_wp2_with fail
            go_roundw
            case rel => exact ⟨k + 1, (nU + 1), hi' + g1, mi' + g2, _, (U ++ [(o : Int)]), by omega, rfl, by go_num, HF.out.2.1, HM.out.2.2.2.1, HF.out.1, HF.out.2.2, by omega, by omega, by omega⟩
            case measure => simp [intOf]; omega

          · rw [hbk] at cb
            have HBl := hid (Block_any (k : Int) w6)
            go_wp2_with fail
            refine Calls.mono HBl.out ?_
            rintro e w4 ⟨gB, rfl, gBl, kB, b4⟩
            have HR := hid (HM.out.1.write HM.out.2.2.2.2 (by omega) (x := o) (by omega) b4 gBl kB (length_blkZ _) (isB_blkZ _))
            have B4 := hid b4
            clear kB b4 HBl
            go_wp2_with fail
            refine Calls.mono HR.out ?_
            rintro e w5 ⟨rfl, k5, f5, s5⟩
            have HF : Hid (Kst (usedN (.slice (some ⟨g4, 0, none⟩) (nU + 1) cap4)) w.heap.size w w5 c p size (k + 1) hi' mi' (holdL size l (o : Int) (blkZ (k : Int))) ∧ OwI w.heap.size w5 (.slice (some ⟨g4, 0, none⟩) (nU + 1) cap4) (nU + 1) (U ++ [(o : Int)]) ∧ Jk size (at_ : Int) ((holdL size l (o : Int) (blkZ (k : Int))).map (·.1)) (U ++ [(o : Int)])) := ⟨k5, owns_keep HM.out.2.1 (fun g q => (f5 g q).trans (B4.out.block g (HM.out.2.2.2.2 g q))), HM.out.2.2.1 _⟩
            clear k5 f5 HR
            go_wp2_with fail
            refine Calls.mono (num_any 0 w5) ?_
            rintro e w6 ⟨rfl, hw6⟩
            rw [hw6]
            clear hw6
            go_wp2_with fail
            go_roundw
            case rel => exact ⟨k + 1, (nU + 1), hi', mi', _, (U ++ [(o : Int)]), by omega, rfl, by go_num, HF.out.2.1, HM.out.2.2.2.1, HF.out.1, HF.out.2.2, by omega, by omega, by omega⟩
            case measure => simp [intOf]; omega

        · have hk2' : ¬ (k : Int) < (n2 : Int) := by omega
          have HR := hid (HM.out.1.read HM.out.2.2.2.2 (by omega) (x := o) (by omega) (by omega) (by omega))
          have hpos2 := hits_pos l 0 (o : Int)
          generalize hitN l 0 (o : Int) = g1 at *
          generalize missN l 0 (o : Int) = g2 at *
          go_wp2_with fail
          refine Calls.mono HR.out ?_
          rintro e w5 ⟨al5, cp5, Z5, rfl, k5, f5, s5⟩
          have HF : Hid (Kst (usedN (.slice (some ⟨g4, 0, none⟩) (nU + 1) cap4)) w.heap.size w w5 c p size (k + 1) (hi' + g1) (mi' + g2) (holdL size l (o : Int) Z5) ∧ OwI w.heap.size w5 (.slice (some ⟨g4, 0, none⟩) (nU + 1) cap4) (nU + 1) (U ++ [(o : Int)]) ∧ Jk size (at_ : Int) ((holdL size l (o : Int) Z5).map (·.1)) (U ++ [(o : Int)])) := ⟨k5.more, owns_keep HM.out.2.1 (fun g q => f5 g q), HM.out.2.2.1 Z5⟩
          have hs1 := HSum.out
          clear k5 f5 HR
          go_wp2_with fail
          refine Calls.mono (num_any 0 w5) ?_
          rintro e w6 ⟨rfl, hw6⟩
          rw [hw6]
          clear hw6
          go_wp2_with fail
          go_roundw
          case rel => exact ⟨k + 1, (nU + 1), hi' + g1, mi' + g2, _, (U ++ [(o : Int)]), by omega, rfl, by go_num, HF.out.2.1, HM.out.2.2.2.1, HF.out.1, HF.out.2.2, by omega, by omega, by omega⟩
          case measure => simp [intOf]; omega
    · obtain rfl : k = n := by omega
      have hkn' : ¬ (k : Int) < (k : Int) := by omega
      obtain ⟨aO, cO, rfl, _⟩ := owns_slice hO
      have HNb : Hid (∀ g, usedN (.slice aO nU cO) g → g < wr.heap.size) := fun g q => (World.ownsRow.lt hO g q).2
      have HCn := hid hKs.counts
      have HK := hid (And.intro hKs hO)
      have hUl : U.length = nU := hO.len
      have hTold := hJk.told f1 f2
      rw [hUl] at hTold
      clear hKs hO hJk f1 f2 HL HB
      go_wp2_with fail
      refine Calls.mono HCn.out ?_
      rintro e w5 ⟨rfl, b5⟩
      have hs5 := b5.size
      have k5 := HK.out.1.below b5
      have HR := hid (k5.read (fun g q => Nat.lt_of_lt_of_le (HNb.out g q) hs5) (by omega) (x := at_) (by omega) (by omega) (by omega))
      have B5 := hid b5
      clear b5 k5 HCn
      have hcase : (unlikeN U (at_ : Int) nU < size ∧ hitN l 0 (at_ : Int) = 1 ∧ missN l 0 (at_ : Int) = 0) ∨ (¬ unlikeN U (at_ : Int) nU < size ∧ hitN l 0 (at_ : Int) = 0 ∧ missN l 0 (at_ : Int) = 1) := by
        by_cases hin : (at_ : Int) ∈ l.map (·.1)
        · exact .inl ⟨hTold.2 hin, by unfold hitN; rw [if_pos ⟨rfl, hin⟩], by unfold missN; rw [if_neg (fun q => q.2 hin)]⟩
        · exact .inr ⟨fun q => hin (hTold.1 q), by unfold hitN; rw [if_neg (fun q => hin q.2)], by unfold missN; rw [if_pos ⟨rfl, hin⟩]⟩
      clear hTold
      rcases hcase with ⟨hu, e1, e2⟩ | ⟨hu, e1, e2⟩ <;> rw [e1, e2] at HR <;> clear e1 e2
      all_goals
        go_wp2_with fail
        refine Calls.mono HR.out ?_
        rintro e w6 ⟨al6, cp6, Z6, rfl, k6, fr6, s6⟩
        have HC2 := hid k6.counts
        have HO6 : Hid (OwI w.heap.size w6 (.slice aO nU cO) nU U) := owns_keep (owns_below HK.out.2 B5.out) (fun g q => fr6 g q)
        have hb6 := k6.facts.2.2.2.2
        have B6 := hid hb6
        have hz6 : w.heap.size ≤ w6.heap.size := hb6.size
        clear k6 fr6 HR hb6
        go_wp2_with fail
        refine Calls.mono HC2.out ?_
        rintro e w7 ⟨rfl, b7⟩
        have HU := hid (unlike_any (Nat.le_refl _) (c := cO) (OwI.rdi (OwI.below HO6.out b7)) (at_ : Int) (by omega))
        have B7 := hid (B6.out.trans (b7.mono hz6))
        have hz7 : w.heap.size ≤ w7.heap.size := Nat.le_trans hz6 b7.size
        clear b7 HC2
        go_wp2_with fail
        refine Calls.mono (num_any 0 w7) ?_
        rintro e w8 ⟨rfl, hw8⟩
        rw [hw8]
        clear hw8
        go_wp2_with fail
        refine Calls.mono (num_any 0 w7) ?_
        rintro e w8 ⟨rfl, hw8⟩
        rw [hw8]
        clear hw8
        go_wp2_with fail
        refine Calls.mono (num_any 0 w7) ?_
        rintro e w8 ⟨rfl, hw8⟩
        rw [hw8]
        clear hw8
        go_wp2_with fail
        refine Calls.mono HU.out ?_
        rintro e w8 ⟨rfl, b8⟩
        have FIN := hid (B7.out.trans (b8.mono hz7))
        clear HU b8 B7 B6 HO6 B5 HK
        generalize unlikeN U (at_ : Int) nU = un at *
        go_wp2
        all_goals
          go_ret
          exact ⟨by simp, FIN.out⟩

end Go.Proofs.Ytokgfnfgpjkpjaa
