import Derived.Test.YtldlejpacgphmabGreatG30
import Derived.Test.YtldlejpacgphmabGreatG18
import Derived.Laws.OwnMore
namespace Go.Proofs.YtldlejpacgphmabGreat
open Go.RowKit Go.Deep
def RdsP (Z : Nat → Prop) (w : World) (j c p room nb K fr bl : Nat) (d : Pd) (s : Js) (n : Nat) (f : Nat → List Int) (e : Ending) (w' : World) : Prop :=
 ∃ lv Z', e = .returned (.tuple #[lv, .bool true]) ∧ w'.ownsRow w.heap.size 9 1 lv n ((List.range n).map (fun q => .string (strOfNums (f q)))) ∧ (∀ g, lv.ownBlock = some g → ¬ Z' g) ∧ Jq Z' w' j c p room nb (K + n) fr bl d s ∧ Gr Z Z' w ∧ But Z w w'
set_option maxRecDepth 100000 in
set_option maxHeartbeats 2000000 in
theorem reads_around {Z : Nat → Prop} {w : World} {j c p room nb K fr bl : Nat} {d : Pd} {s : Js} (h : Jq Z w j c p room nb K fr bl d s) (st base n : Nat) (f : Nat → List Int) (hbase : base + n ≤ 524288)
  (hrd : ∀ q Z' wr, q < n → Jq Z' wr j c p room nb (K + q) fr bl d s → Gr Z Z' w → But Z w wr → Calls Tryz.prog 83 #[.pointer (some ⟨st, 0, none⟩), .int .i64 ((base + q : Nat) : Int)] wr (RdH Z' wr j c p room nb (K + q) fr bl d s (f q))) :
  Calls Tryz.prog 26 #[.pointer (some ⟨st, 0, none⟩), .pointer none, .int .i64 (base : Int), .int .i64 (n : Int)] w (RdsP Z w j c p room nb K fr bl d s n f) := by
 obtain ⟨PO, hPO⟩ : ∃ PO : Ending → World → Prop, PO = RdsP Z w j c p room nb K fr bl d s n f := ⟨_, rfl⟩
 rw [← hPO]
 obtain ⟨i9, hi9, hz9, hs9, hb9⟩ := info_parts info9
 have HP : Hid (∀ w' lv Z', w'.ownsRow w.heap.size 9 1 lv n ((List.range n).map (fun q => .string (strOfNums (f q)))) → (∀ g, lv.ownBlock = some g → ¬ Z' g) → Jq Z' w' j c p room nb (K + n) fr bl d s → Gr Z Z' w → But Z w w' → PO (.returned (.tuple #[lv, .bool true])) w') := fun w' lv Z' q1 q2 q3 q4 q5 => by
  rw [hPO]; exact ⟨lv, Z', rfl, q1, q2, q3, q4, q5⟩
 have H0 := hid h
 have HRd := hid hrd
 clear h hrd hPO
 go_enter Tryz.func26, Tryz.ntmps26
 go_wp2_with fail
 go_loopw [10, 11] (fun ov iv wr => ∃ (q : Nat) (Z' : Nat → Prop) (lv : Value), q ≤ n ∧ iv = .int .i64 (q : Int) ∧ lv = ov ∧ wr.ownsRow w.heap.size 9 1 lv q ((List.range q).map (fun q => .string (strOfNums (f q)))) ∧ (∀ g, lv.ownBlock = some g → ¬ Z' g) ∧ Jq Z' wr j c p room nb (K + q) fr bl d s ∧ Gr Z Z' w ∧ But Z w wr) (fun _ iv _ => n - (intOf iv).toNat)
 case atStart => exact ⟨0, Z, _, Nat.zero_le _, rfl, rfl, ⟨rfl, .inl ⟨rfl, rfl⟩⟩, (fun g e => by cases e), H0.out, (fun k _ q => q), But.refl _ _⟩
 case round =>
  clear H0
  obtain ⟨q, Z', lv, hqN, rfl, rfl, hrow, hnz, hJ, hG, hB⟩ := hrel
  by_cases hq : q < n
  ·have hq' : (q : Int) < (n : Int) := by omega
   have HC := hid (HRd.out q Z' wr hq hJ hG hB)
   rw [show ((base + q : Nat) : Int) = (base : Int) + (q : Int) by omega] at HC
   have HO := hid hrow
   have HK := hid (And.intro hnz (And.intro hG hB))
   have hs := hB.size
   clear hrow hnz hJ hG hB HP HRd
   go_wp2_with fail
   refine Calls.mono HC.out ?_
   rintro e w1 ⟨g, cp, rfl, hg, ho, hz, ⟨Z2, hJ2, hG2, hZg⟩, b1⟩
   have s1 := b1.size
   have hcv := conv_str (ho.rdn (X := fun _ => False) hz (fun q => q)).rd cp
   have ho1 : w1.ownsRow w.heap.size 9 1 lv q ((List.range q).map (fun q => .string (strOfNums (f q)))) := owns_keep HO.out (fun k e => b1.block k (World.ownsRow.lt HO.out k e).2 (HK.out.1 k e))
   have HRow2 := hid (owns_below ho1 ((Below.refl w1.heap.size w1).alloc (Nat.le_refl _) (.cells #[.string (strOfNums (f q))] 9)))
   have HX := hid (And.intro hJ2 (And.intro hG2 b1))
   obtain ⟨S, hS⟩ : ∃ S, S = strOfNums (f q) := ⟨_, rfl⟩
   rw [← hS] at hcv HRow2
   have HS := hid hS
   have HO1 := hid ho1
   clear hJ2 hG2 b1 ho1 hS HC hz ho
   go_wp2_with (at_builtin; refine wpList_append_lies _ rfl _ _ _ rfl w.heap.size 9 i9 (.string ByteArray.empty) 1 16 Tryz.underlying70 hi9 hz9 hs9 hb9 rfl (by decide) _ q _ rfl (by exact HRow2.out) ⟨w1.heap.size, 0, none⟩ 1 1 [.string S] rfl rfl (by exact newsI1 w1 _ _) (by intro u hu; simp at hu; subst hu; rfl) (by decide) (by unfold maxLen; omega) (by omega) (by simp; omega) (w1.heap.size + 1) (by simp) ?_)
   intro g4 cap4 w6 ho4 hg4 hlie4 hl4
   have FIN : Hid (∃ Z3 : Nat → Prop, w6.ownsRow w.heap.size 9 1 (.slice (some ⟨g4, 0, none⟩) (q + 1) cap4) (q + 1) ((List.range (q + 1)).map (fun q => .string (strOfNums (f q)))) ∧ (∀ g, (Value.slice (some ⟨g4, 0, none⟩) (q + 1) cap4).ownBlock = some g → ¬ Z3 g) ∧ Jq Z3 w6 j c p room nb (K + (q + 1)) fr bl d s ∧ Gr Z Z3 w ∧ But Z w w6) := by
    obtain ⟨hJ2, hG2, b1⟩ := HX.out
    obtain ⟨hnz, hG, hB⟩ := HK.out
    have bX : But (fun k => lv.ownBlock = some k) w1 w6 := ((But.refl (fun k => lv.ownBlock = some k) w1).alloc (.cells #[.string S] 9)).of_grown hg4 (fun x e _ => e)
    refine ⟨fun k => Z2 k ∧ k < w1.heap.size, ?_, ?_, ?_, ?_, ?_⟩
    ·rw [List.range_succ, List.map_append, List.map_singleton, ← HS.out]
     exact ho4
    ·intro k e
     have ek : k = g4 := by injection e with e; exact e.symm
     subst ek
     rintro ⟨e1, e2⟩
     rcases hlie4 with r | r
     ·have hlt := (World.ownsRow.lt HO.out k r).2
      exact hnz k r (hG2 k hlt e1)
     ·omega
    ·rw [show K + (q + 1) = K + q + 1 by omega]
     exact hJ2.cut.but bX (fun k hk e1 e2 => by
      have hlt := (World.ownsRow.lt HO.out k e2).2
      exact hnz k e2 (hG2 k hlt e1.1))
    ·exact fun k hk e => hG k hk (hG2 k (by omega) e.1)
    ·exact (hB.comp b1 (fun k hk e => hG k hk e)).comp bX (fun k hk e => absurd (World.ownsRow.lt HO.out k e).1 (by omega))
   clear ho4 hg4 hlie4 hl4 HRow2 HX HO HO1 HK HS hcv
   go_wp2_with fail
   go_roundw
   case rel =>
    obtain ⟨Z3, q1, q2, q3, q4, q5⟩ := FIN.out
    exact ⟨q + 1, Z3, _, by omega, by go_num, rfl, q1, q2, q3, q4, q5⟩
   case measure => simp [intOf]; omega
  ·have hqe : q = n := by omega
   have hq' : ¬ (q : Int) < (n : Int) := by omega
   subst hqe
   have FIN := hid (HP.out wr lv Z' hrow hnz hJ hG hB)
   clear hrow hnz hJ hG hB HP HRd
   go_wp2
   exact FIN.out
set_option maxRecDepth 100000 in
set_option maxHeartbeats 2000000 in
theorem reads_through {Z : Nat → Prop} {w : World} {j c p room nb K fr bl : Nat} {d : Pd} {s : Js} (h : Jq Z w j c p room nb K fr bl d s) (st t base n : Nat) (f : Nat → List Int) (hbase : base + n ≤ 524288)
  (hrd : ∀ q Z' wr, q < n → Jq Z' wr j c p room nb (K + q) fr bl d s → Gr Z Z' w → But Z w wr → Calls Tryz.prog 82 #[.pointer (some ⟨t, 0, none⟩), .int .i64 ((base + q : Nat) : Int)] wr (RdH Z' wr j c p room nb (K + q) fr bl d s (f q))) :
  Calls Tryz.prog 26 #[.pointer (some ⟨st, 0, none⟩), .pointer (some ⟨t, 0, none⟩), .int .i64 (base : Int), .int .i64 (n : Int)] w (RdsP Z w j c p room nb K fr bl d s n f) := by
 obtain ⟨PO, hPO⟩ : ∃ PO : Ending → World → Prop, PO = RdsP Z w j c p room nb K fr bl d s n f := ⟨_, rfl⟩
 rw [← hPO]
 obtain ⟨i9, hi9, hz9, hs9, hb9⟩ := info_parts info9
 have HP : Hid (∀ w' lv Z', w'.ownsRow w.heap.size 9 1 lv n ((List.range n).map (fun q => .string (strOfNums (f q)))) → (∀ g, lv.ownBlock = some g → ¬ Z' g) → Jq Z' w' j c p room nb (K + n) fr bl d s → Gr Z Z' w → But Z w w' → PO (.returned (.tuple #[lv, .bool true])) w') := fun w' lv Z' q1 q2 q3 q4 q5 => by
  rw [hPO]; exact ⟨lv, Z', rfl, q1, q2, q3, q4, q5⟩
 have H0 := hid h
 have HRd := hid hrd
 clear h hrd hPO
 go_enter Tryz.func26, Tryz.ntmps26
 go_wp2_with fail
 go_loopw [10, 11] (fun ov iv wr => ∃ (q : Nat) (Z' : Nat → Prop) (lv : Value), q ≤ n ∧ iv = .int .i64 (q : Int) ∧ lv = ov ∧ wr.ownsRow w.heap.size 9 1 lv q ((List.range q).map (fun q => .string (strOfNums (f q)))) ∧ (∀ g, lv.ownBlock = some g → ¬ Z' g) ∧ Jq Z' wr j c p room nb (K + q) fr bl d s ∧ Gr Z Z' w ∧ But Z w wr) (fun _ iv _ => n - (intOf iv).toNat)
 case atStart => exact ⟨0, Z, _, Nat.zero_le _, rfl, rfl, ⟨rfl, .inl ⟨rfl, rfl⟩⟩, (fun g e => by cases e), H0.out, (fun k _ q => q), But.refl _ _⟩
 case round =>
  clear H0
  obtain ⟨q, Z', lv, hqN, rfl, rfl, hrow, hnz, hJ, hG, hB⟩ := hrel
  by_cases hq : q < n
  ·have hq' : (q : Int) < (n : Int) := by omega
   have HC := hid (HRd.out q Z' wr hq hJ hG hB)
   rw [show ((base + q : Nat) : Int) = (base : Int) + (q : Int) by omega] at HC
   have HO := hid hrow
   have HK := hid (And.intro hnz (And.intro hG hB))
   have hs := hB.size
   clear hrow hnz hJ hG hB HP HRd
   go_wp2_with fail
   refine Calls.mono HC.out ?_
   rintro e w1 ⟨g, cp, rfl, hg, ho, hz, ⟨Z2, hJ2, hG2, hZg⟩, b1⟩
   have s1 := b1.size
   have hcv := conv_str (ho.rdn (X := fun _ => False) hz (fun q => q)).rd cp
   have ho1 : w1.ownsRow w.heap.size 9 1 lv q ((List.range q).map (fun q => .string (strOfNums (f q)))) := owns_keep HO.out (fun k e => b1.block k (World.ownsRow.lt HO.out k e).2 (HK.out.1 k e))
   have HRow2 := hid (owns_below ho1 ((Below.refl w1.heap.size w1).alloc (Nat.le_refl _) (.cells #[.string (strOfNums (f q))] 9)))
   have HX := hid (And.intro hJ2 (And.intro hG2 b1))
   obtain ⟨S, hS⟩ : ∃ S, S = strOfNums (f q) := ⟨_, rfl⟩
   rw [← hS] at hcv HRow2
   have HS := hid hS
   have HO1 := hid ho1
   clear hJ2 hG2 b1 ho1 hS HC hz ho
   go_wp2_with (at_builtin; refine wpList_append_lies _ rfl _ _ _ rfl w.heap.size 9 i9 (.string ByteArray.empty) 1 16 Tryz.underlying70 hi9 hz9 hs9 hb9 rfl (by decide) _ q _ rfl (by exact HRow2.out) ⟨w1.heap.size, 0, none⟩ 1 1 [.string S] rfl rfl (by exact newsI1 w1 _ _) (by intro u hu; simp at hu; subst hu; rfl) (by decide) (by unfold maxLen; omega) (by omega) (by simp; omega) (w1.heap.size + 1) (by simp) ?_)
   intro g4 cap4 w6 ho4 hg4 hlie4 hl4
   have FIN : Hid (∃ Z3 : Nat → Prop, w6.ownsRow w.heap.size 9 1 (.slice (some ⟨g4, 0, none⟩) (q + 1) cap4) (q + 1) ((List.range (q + 1)).map (fun q => .string (strOfNums (f q)))) ∧ (∀ g, (Value.slice (some ⟨g4, 0, none⟩) (q + 1) cap4).ownBlock = some g → ¬ Z3 g) ∧ Jq Z3 w6 j c p room nb (K + (q + 1)) fr bl d s ∧ Gr Z Z3 w ∧ But Z w w6) := by
    obtain ⟨hJ2, hG2, b1⟩ := HX.out
    obtain ⟨hnz, hG, hB⟩ := HK.out
    have bX : But (fun k => lv.ownBlock = some k) w1 w6 := ((But.refl (fun k => lv.ownBlock = some k) w1).alloc (.cells #[.string S] 9)).of_grown hg4 (fun x e _ => e)
    refine ⟨fun k => Z2 k ∧ k < w1.heap.size, ?_, ?_, ?_, ?_, ?_⟩
    ·rw [List.range_succ, List.map_append, List.map_singleton, ← HS.out]
     exact ho4
    ·intro k e
     have ek : k = g4 := by injection e with e; exact e.symm
     subst ek
     rintro ⟨e1, e2⟩
     rcases hlie4 with r | r
     ·have hlt := (World.ownsRow.lt HO.out k r).2
      exact hnz k r (hG2 k hlt e1)
     ·omega
    ·rw [show K + (q + 1) = K + q + 1 by omega]
     exact hJ2.cut.but bX (fun k hk e1 e2 => by
      have hlt := (World.ownsRow.lt HO.out k e2).2
      exact hnz k e2 (hG2 k hlt e1.1))
    ·exact fun k hk e => hG k hk (hG2 k (by omega) e.1)
    ·exact (hB.comp b1 (fun k hk e => hG k hk e)).comp bX (fun k hk e => absurd (World.ownsRow.lt HO.out k e).1 (by omega))
   clear ho4 hg4 hlie4 hl4 HRow2 HX HO HO1 HK HS hcv
   go_wp2_with fail
   go_roundw
   case rel =>
    obtain ⟨Z3, q1, q2, q3, q4, q5⟩ := FIN.out
    exact ⟨q + 1, Z3, _, by omega, by go_num, rfl, q1, q2, q3, q4, q5⟩
   case measure => simp [intOf]; omega
  ·have hqe : q = n := by omega
   have hq' : ¬ (q : Int) < (n : Int) := by omega
   subst hqe
   have FIN := hid (HP.out wr lv Z' hrow hnz hJ hG hB)
   clear hrow hnz hJ hG hB HP HRd
   go_wp2
   exact FIN.out
open Go.RowKit Go.Deep
def StrL (w : World) (v : Value) (xs : List ByteArray) : Prop := ∃ a c, v = .slice a xs.length c ∧ ∀ i S, xs[i]? = some S → ∃ g, a = some ⟨g, 0, none⟩ ∧ g < w.heap.size ∧ w.cell? ⟨g, i, none⟩ = some (.string S)
theorem StrL.of_row {w : World} {base : Nat} {v : Value} {n : Nat} {xs : List ByteArray} (hn : xs.length = n) (h : w.ownsRow base 9 1 v n (xs.map Value.string)) : StrL w v xs := by
 subst hn
 obtain ⟨a, c, rfl, _⟩ := owns_slice h
 refine ⟨a, c, rfl, fun i S hi => ?_⟩
 have hil : i < xs.length := (List.getElem?_eq_some_iff.1 hi).1
 rcases h.2 with ⟨_, q⟩ | ⟨g, cap, cur, q1, q2, _⟩
 ·omega
 ·simp at q1
  have hlt := (World.ownsRow.lt h g (by rw [q1.1]; rfl)).2
  refine ⟨g, q1.1, hlt, ?_⟩
  have hcell := World.ownsRow.cellAt (by rw [q1.1] at h; exact h) i (by simp; omega)
  rw [hcell]
  simp [hi]
set_option maxRecDepth 100000 in
set_option maxHeartbeats 2000000 in
theorem same_eq {w : World} {v1 v2 : Value} {xs : List ByteArray} (hn : xs.length ≤ 524288) (h1 : StrL w v1 xs) (h2 : StrL w v2 xs) :
  Calls Tryz.prog 29 #[v1, v2] w fun e w' => e = .returned (.bool true) ∧ Below w.heap.size w w' := by
 obtain ⟨a1, c1, rfl, k1⟩ := h1
 obtain ⟨a2, c2, rfl, k2⟩ := h2
 have K1 := hid k1
 have K2 := hid k2
 obtain ⟨N, hN⟩ : ∃ N, N = xs.length := ⟨_, rfl⟩
 rw [← hN] at hn ⊢
 have HN := hid hN
 clear k1 k2 hN
 go_enter Tryz.func29, Tryz.ntmps29
 go_wp2_with fail
 go_loopw [5] (fun iv wr => ∃ q : Nat, q ≤ N ∧ iv = .int .i64 (q : Int) ∧ Below w.heap.size w wr) (fun iv _ => N - (intOf iv).toNat)
 case atStart => exact ⟨0, Nat.zero_le _, rfl, Below.refl _ _⟩
 case round =>
  obtain ⟨q, hqN, rfl, hb⟩ := hrel
  by_cases hq : q < N
  ·have hq' : (q : Int) < (N : Int) := by omega
   obtain ⟨S, hS⟩ : ∃ S, xs[q]? = some S := ⟨_, List.getElem?_eq_getElem (by have := HN.out; omega)⟩
   obtain ⟨g1, e1, l1, m1⟩ := K1.out q S hS
   obtain ⟨g2, e2, l2, m2⟩ := K2.out q S hS
   have n1 := (hb.cell (p := ⟨g1, q, none⟩) l1).trans m1
   have n2 := (hb.cell (p := ⟨g2, q, none⟩) l2).trans m2
   subst e1
   subst e2
   have HB := hid hb
   clear hb m1 m2 hS l1 l2 K1 K2
   go_wp2_with fail
   refine wp_region_noPanic ?_
   refine wp_region_held_drew (S := fun w' => w'.cell? ⟨g1, q, none⟩ = some (.string S) ∧ w'.cell? ⟨g2, q, none⟩ = some (.string S)) (by kernel_rfl) ⟨n1, n2⟩ (fun hSS => ?_)
   refine tk 0 (some 17) (.move (.tmp 0)) 70 none hSS ?_
   refine tk 1 (some 18) (.move (.tmp 5)) 3 none hSS ?_
   refine tk 2 (some 19) (.indexAddr 70 (.tmp 17) (.tmp 18)) 0 none hSS ?_
   refine tk 3 (some 20) (.load 9 (.tmp 19)) 9 none hSS ?_
   try simp only [Act.put, zA, zB, zC]
   refine tk 4 (some 21) (.move (.tmp 1)) 70 none hSS ?_
   refine tk 5 (some 22) (.move (.tmp 5)) 3 none hSS ?_
   refine tk 6 (some 23) (.indexAddr 70 (.tmp 21) (.tmp 22)) 0 none hSS ?_
   refine tk 7 (some 24) (.load 9 (.tmp 23)) 9 none hSS ?_
   try simp only [Act.put, zA, zB, zC]
   refine tk 8 (some 25) (.binOp .neq 9 (.tmp 20) (.tmp 24) 9) 4 none hSS ?_
   try simp only [Act.put, zA, zB, zC]
   refine wpAnyH_done (by kernel_rfl) (NoPanic.normal ?_) _
   clear hSS n1 n2
   go_wp2_with fail
   go_roundw
   case rel => exact ⟨q + 1, by omega, by go_num, HB.out.drew⟩
   case measure => simp [intOf]; omega
  ·have hqe : q = N := by omega
   have hq' : ¬ (q : Int) < (N : Int) := by omega
   subst hqe
   have HB := hid hb
   clear hb K1 K2
   go_wp2
   go_ret
   exact ⟨rfl, HB.out⟩
open Go.RowKit Go.Deep
def IntL (X : Nat → Prop) (w : World) (a : Option Addr) (ps : List Int) : Prop := ∀ i v, ps[i]? = some v → ∃ b off, a = some ⟨b, off, none⟩ ∧ b < w.heap.size ∧ ¬ X b ∧ w.cell? ⟨b, off + i, none⟩ = some (.int .i64 v)
def laidP (base cnt : Nat) (L : Nat → Option (List Int)) (ps : List Int) : Nat → Option (List Int) := ps.foldl (fun L v => putL L (base + into cnt v) (blkZ v)) L
theorem laidP_snoc (base cnt : Nat) (L : Nat → Option (List Int)) (ps : List Int) (v : Int) : laidP base cnt L (ps ++ [v]) = putL (laidP base cnt L ps) (base + into cnt v) (blkZ v) := by simp [laidP]
def strsP (base cnt : Nat) (f : Nat → List Int) (L : Nat → Option (List Int)) : List ByteArray := (List.range cnt).map (fun i => strOfNums ((L (base + i)).getD (f i)))
theorem strsP_len (base cnt : Nat) (f : Nat → List Int) (L : Nat → Option (List Int)) : (strsP base cnt f L).length = cnt := by simp [strsP]
theorem strsP_put (base cnt : Nat) (f : Nat → List Int) (L : Nat → Option (List Int)) (i : Nat) (zs : List Int) : strsP base cnt f (putL L (base + i) zs) = (strsP base cnt f L).set i (strOfNums zs) := by
 apply List.ext_getElem?
 intro k
 rw [List.getElem?_set]
 simp only [strsP, List.getElem?_map, List.length_map, List.length_range]
 by_cases hk : k < cnt
 ·rw [List.getElem?_range hk]
  by_cases e : i = k
  ·subst e
   simp [putL, hk]
  ·rw [if_neg e]
   simp [putL, show ¬ k = i from fun q => e q.symm]
 ·rw [List.getElem?_eq_none (by simpa using hk)]
  split
  ·split
   ·omega
   ·rfl
  ·rfl
open Go.RowKit Go.Deep
open Go.RowKit Go.Deep
theorem homeKeys_succ (nb : Nat) (L : Nat → Option (List Int)) : homeKeys (nb + 1) L = homeKeys nb L ++ (if (L nb).isSome then [nb] else []) := by
 unfold homeKeys
 rw [List.range_succ, List.filter_append]
 congr 1
 by_cases h : (L nb).isSome = true <;> simp [h]
def putsL (nb : Nat) (L : Nat → Option (List Int)) : List (Nat × List Int) := (homeKeys nb L).map (fun y => (y, (L y).getD []))
theorem ahead_putsL (nb : Nat) (L : Nat → Option (List Int)) (x : Nat) : aheadP (fun _ => none) (putsL nb L) x = if x < nb then L x else none := by
 induction nb with
 | zero => simp [putsL, homeKeys, aheadP]
 | succ nb ih =>
  unfold putsL at ih ⊢
  rw [homeKeys_succ, List.map_append]
  cases hL : L nb with
  | none =>
   simp only [Option.isSome_none, Bool.false_eq_true, if_false, List.map_nil, List.append_nil]
   rw [ih]
   by_cases h : x < nb
   ·rw [if_pos h, if_pos (by omega)]
   ·rw [if_neg h]
    by_cases h2 : x = nb
    ·rw [if_pos (by omega), h2, hL]
    ·rw [if_neg (by omega)]
  | some zs =>
   simp only [Option.isSome_some, if_true, List.map_cons, List.map_nil, hL, Option.getD_some]
   rw [aheadP_snoc]
   simp only
   by_cases h2 : x = nb
   ·rw [if_pos h2, if_pos (by omega), h2, hL]
   ·rw [if_neg h2, ih]
    by_cases h : x < nb
    ·rw [if_pos h, if_pos (by omega)]
    ·rw [if_neg h, if_neg (by omega)]
theorem contT_putsL (home : Nat → List Int) (Ts : List Tn) (nb : Nat) (L : Nat → Option (List Int)) {x : Nat} (hx : x < nb) : contT home (Ts ++ [putsL nb L]) (Ts ++ [putsL nb L]).length x = (L x).getD (contT home Ts Ts.length x) := by
 unfold contT
 rw [List.take_of_length_le (Nat.le_refl _), List.take_of_length_le (Nat.le_refl _), ← after_append]
 show (aheadP (fun _ => none) ([putsL nb L] : List Tn).flatten x).getD (after home Ts x) = _
 rw [show ([putsL nb L] : List Tn).flatten = putsL nb L by simp, ahead_putsL, if_pos hx]
theorem standP_le (ps : List Pm) : (standP ps).length ≤ ps.length := by
 suffices H : ∀ (ps S : List Pm), (ps.foldl standStep S).length ≤ S.length + ps.length by
  have := H ps []
  simpa [standP] using this
 intro ps
 induction ps with
 | nil => intro S; simp
 | cons p ps ih =>
  intro S
  have h1 := ih (standStep S p)
  have h2 : (standStep S p).length ≤ S.length + 1 := by
   unfold standStep
   split <;> simp
  simp only [List.foldl_cons, List.length_cons]
  omega
theorem CmP.on {Z Zw : Nat → Prop} {w : World} {j c p room nb K fr bl lo : Nat} {d : Pd} {s : Js} {L : Nat → Option (List Int)} {t st : Nat} {e : Ending} {w' : World} {home : Nat → List Int} {Ts : List Tn} (H : CmP Z Zw w j c p room nb K fr bl d s L t st e w') (h : Jq Z w j c p room nb K fr bl d s) (ho : On d s nb fr bl lo home Ts) (hfu : d.fu = -1) (hlo : 16 ≤ bl) (hfit : fr + bl ≤ nb) (hnb : nb ≤ 524288) (hsq : Ts.length < 1099511627776) (hk : (homeKeys nb L).length ≤ bl / 2 - 4) (hh : ∀ y, y ∈ homeKeys nb L → homeC nb fr bl (y : Int) = 0) (hZt : ¬ Z t) (hZs : ¬ Z st) :
  e = .returned (.int .i64 0) ∧ Stb w' st j (.pointer none) ∧ But (fun k => Z k ∨ k = st ∨ k = t) w w' ∧ ∃ Z' d' s' Ts', Jq Z' w' j c p room nb K fr bl d' s' ∧ Gr Z Z' w ∧ d'.fu = -1 ∧ On d' s' nb fr bl lo home Ts' ∧ Ts'.length ≤ Ts.length + 1 ∧ ∀ x, x < nb → contT home Ts' Ts'.length x = (L x).getD (contT home Ts Ts.length x) := by
 obtain ⟨w3, q1, q2, q3, q4⟩ := H
 have hsl := q2.lt
 rcases q4 with ⟨k1, rfl, rfl⟩ | ⟨k1, qs, k2, k3, k4⟩
 ·refine ⟨rfl, q2, q3.mono (fun _ _ q => .inr q), fun k => Z k ∧ k < w.heap.size, d, s, Ts, h.cut.but q3 (fun k _ e1 e2 => e2.elim (fun q => hZs (q ▸ e1.1)) (fun q => hZt (q ▸ e1.1))), fun k _ q => q.1, hfu, ho, by omega, fun x hx => ?_⟩
  have : L x = none := by
   cases hL : L x with
   | none => rfl
   | some zs =>
    have : x ∈ homeKeys nb L := mem_homeKeys.2 ⟨hx, by rw [hL]; rfl⟩
    rw [k1] at this
    cases this
  rw [this]
  rfl
 ·have hql : qs.length = (homeKeys nb L).length := by
   have := congrArg List.length k2
   simpa using this
  have hput : qs.map Pm.put = putsL nb L := by
   have : qs.map Pm.put = (qs.map Pm.say).map fun x => (x.1.toNat, x.2) := by rw [List.map_map]; rfl
   rw [this, k2, List.map_map]
   unfold putsL
   refine List.map_congr_left (fun y _ => ?_)
   simp
  have hpc : putsC nb fr bl qs = 0 := putsC_zero (fun p hp => by
   have hm : p.say ∈ qs.map Pm.say := List.mem_map_of_mem hp
   rw [k2] at hm
   obtain ⟨y, hy, e1⟩ := List.mem_map.1 hm
   obtain ⟨_, _, _, _, _, e5⟩ := k3 p hp
   have e2 : p.at_ = (y : Int) := congrArg Prod.fst e1.symm
   unfold putC
   rw [e2, hh y hy, e5]
   simp)
  have hst := standP_le qs
  have hap : appC nb fr bl d s qs = 0 := by
   unfold appC
   rw [ho.on, hpc, if_neg (by decide), if_neg (by simp), if_neg (by omega), if_neg (by have := ho.sq; omega)]
  have hA := ho.append h.fits.1 hlo hfit hnb (fun p hp => by obtain ⟨_, _, _, _, e4, _⟩ := k3 p hp; exact e4) hap
  obtain ⟨f1, _, f3⟩ := Pd.runs_free ho.on hfu (wlCmds nb fr bl s (appRecs qs))
  obtain ⟨r1, ⟨Z', s', r2, r3, r4⟩, r5⟩ := k4.1 hap
  rw [f1] at r1
  have hon := hA.1 f1
  rw [hput, ← r3 f1] at hon
  refine ⟨r1, q2.keep (r5.block st hsl (fun e => hZs e.1)), (q3.mono (fun _ _ q => .inr q)).comp r5 (fun k _ q => .inl q.1), Z', _, s', Ts ++ [putsL nb L], r2, fun k hk q => (r4 k (Nat.lt_of_lt_of_le hk q3.size) q).1, f3, hon, by simp, fun x hx => contT_putsL home Ts nb L hx⟩
open Go.RowKit Go.Deep
theorem laidP_none (base cnt : Nat) (hc : 0 < cnt) (ps : List Int) (L : Nat → Option (List Int)) (y : Nat) (hy : y < base ∨ base + cnt ≤ y) (h : L y = none) : laidP base cnt L ps y = none := by
 induction ps generalizing L with
 | nil => exact h
 | cons v ps ih =>
  refine ih (putL L (base + into cnt v) (blkZ v)) ?_
  have hi := into_lt v hc
  unfold putL
  rw [if_neg (by omega)]
  exact h
theorem homeKeys_few (base cnt : Nat) (L : Nat → Option (List Int)) (h : ∀ y, (y < base ∨ base + cnt ≤ y) → L y = none) (nb : Nat) : (homeKeys nb L).length ≤ min nb (base + cnt) - base := by
 induction nb with
 | zero => simp [homeKeys]
 | succ nb ih =>
  rw [homeKeys_succ, List.length_append]
  cases hL : L nb with
  | none =>
   simp
   omega
  | some zs =>
   have hin : ¬ (nb < base ∨ base + cnt ≤ nb) := fun q => by
    rw [h nb q] at hL
    cases hL
   simp
   omega
theorem homeC_ok {nb fr bl y : Nat} (h1 : fr + bl ≤ y) (h2 : y < nb) : homeC nb fr bl (y : Int) = 0 := by
 unfold homeC
 rw [if_neg]
 omega
open Go.RowKit Go.Deep
theorem reads_store {Z : Nat → Prop} {w : World} {j c p room nb K fr bl : Nat} {d : Pd} {s : Js} (h : Jq Z w j c p room nb K fr bl d s) (h1 : fr + bl ≤ nb) (hon : d.off = false) (hl : d.puts.length ≤ 1073741824) (hnb : nb ≤ 524288) {st : Nat} {tv : Value} (hs : Stb w st j tv) (hZs : ¬ Z st) (base n : Nat) (hb : fr + bl ≤ base) (hn : base + n ≤ nb) (hK : K + n < 4611686018427387904) :
  Calls Tryz.prog 26 #[.pointer (some ⟨st, 0, none⟩), .pointer none, .int .i64 (base : Int), .int .i64 (n : Int)] w (RdsP Z w j c p room nb K fr bl d s n (fun i => jread d s (base + i))) :=
 reads_around h st base n _ (by omega) (fun q Z' wr hq hJ _ hB => sread_home hJ h1 hon hl (by omega) (base + q) (by omega) (homeC_ok (by omega) (by omega)) (hs.keep (hB.block st hs.lt hZs)))
theorem reads_txn {Z Zw : Nat → Prop} {w : World} {x j c p room nb K fr bl m n0 : Nat} {D : DataW (Nat × Nat × Int)} {a : Nat → Option (Nat × Nat × Int)} {sv mv : Value} {L : Nat → Option (List Int)} {d : Pd} {s : Js} (h : Jq Z w j c p room nb K fr bl d s) (hW : Wq Zw w x j m n0 nb fr bl D a sv mv L) (hdj : ∀ k, Zw k → ¬ Z k) (h1 : fr + bl ≤ nb) (hon : d.off = false) (hl : d.puts.length ≤ 1073741824) (hnb : nb ≤ 524288) {t st : Nat} (ht : Txb w t j (.iface 143 (.pointer (some ⟨x, 0, none⟩))) st (.pointer (some ⟨x, 0, none⟩))) (hs : Stb w st j (.pointer (some ⟨t, 0, none⟩))) (hZt : ¬ Z t) (hZs : ¬ Z st) (base n : Nat) (hb : fr + bl ≤ base) (hn : base + n ≤ nb) (hK : K + n < 4611686018427387904) :
  Calls Tryz.prog 26 #[.pointer (some ⟨st, 0, none⟩), .pointer (some ⟨t, 0, none⟩), .int .i64 (base : Int), .int .i64 (n : Int)] w (RdsP Z w j c p room nb K fr bl d s n (fun i => (L (base + i)).getD (jread d s (base + i)))) :=
 reads_through h st t base n _ (by omega) (fun q Z' wr hq hJ hG hB => tread_home hJ (hW.but hB (fun k _ e => hdj k e)) h1 hon hl (by omega) hnb (base + q) (by omega) (homeC_ok (by omega) (by omega)) (ht.keep (hB.block t ht.lt hZt)) (hs.keep (hB.block st hs.lt hZs)))
open Go.RowKit Go.Deep
def grow (Y : Nat → Prop) (w w' : World) (k : Nat) : Prop := (Y k ∧ k < w.heap.size) ∨ (w.heap.size ≤ k ∧ k < w'.heap.size)
theorem grow.gr (Y : Nat → Prop) (w w' : World) : Gr Y (grow Y w w') w := fun k hk q => by
 rcases q with q | q
 ·exact q.1
 ·omega
def StA (Y : Nat → Prop) (w : World) (j c p st nb K fr bl : Nat) (d : Pd) (s : Js) : Prop :=
 ∃ Z, Jq Z w j c p 4 nb K fr bl d s ∧ (∀ k, Z k → Y k) ∧ Stb w st j (.pointer none) ∧ ¬ Z st ∧ Y st
def StT (Y : Nat → Prop) (w : World) (j c p st nb K fr bl : Nat) (d : Pd) (s : Js) (t x m n : Nat) (L : Nat → Option (List Int)) : Prop :=
 ∃ Z Zw D a, Jq Z w j c p 4 nb K fr bl d s ∧ Wq Zw w x j m n nb fr bl D a (.slice none 0 0) (.slice none 0 0) L ∧ Txb w t j (.iface 143 (.pointer (some ⟨x, 0, none⟩))) st (.pointer (some ⟨x, 0, none⟩)) ∧ Stb w st j (.pointer (some ⟨t, 0, none⟩)) ∧ (∀ k, Z k → Y k) ∧ (∀ k, Zw k → Y k ∧ ¬ Z k) ∧ (∀ z g cp k, a z = some (g, cp, k) → g ≠ m) ∧ (x ≠ m ∧ st ≠ t) ∧ (¬ Z t ∧ ¬ Zw t ∧ Y t) ∧ (¬ Z st ∧ ¬ Zw st ∧ Y st)
theorem StA.begin {Y : Nat → Prop} {w : World} {j c p st nb K fr bl : Nat} {d : Pd} {s : Js} (h : StA Y w j c p st nb K fr bl d s) (hon : d.off = false) :
  Calls Tryz.prog 27 #[.pointer (some ⟨st, 0, none⟩)] w fun e w' => ∃ t x m, e = .returned (.tuple #[.pointer (some ⟨t, 0, none⟩), .int .i64 0]) ∧ StT (grow Y w w') w' j c p st nb K fr bl d s t x m 0 (fun _ => none) ∧ But Y w w' := by
 obtain ⟨Z, h1, h2, h3, h4, h5⟩ := h
 refine Calls.mono (begin_any h1 hon h3) ?_
 rintro e w' ⟨t, x, m, rfl, ⟨q1, q2, q3, q4, q5, q6⟩, r1, r2, r3, r4⟩
 have hsl := h3.lt
 have hs := r4.size
 refine ⟨t, x, m, rfl, ⟨fun k => Z k ∧ k < w.heap.size, fun k => k = x ∨ k = m, _, _, h1.cut.but r4 (fun k _ e1 e2 => h4 (e2 ▸ e1.1)), r3, r1, r2, fun k q => .inl ⟨h2 k q.1, q.2⟩, fun k q => ⟨.inr (by omega), fun e => by omega⟩, (fun z g cp k e => by cases e), ⟨?_, by omega⟩, ⟨fun e => by omega, fun e => by omega, .inr (by omega)⟩, ⟨fun e => h4 e.1, fun e => by omega, .inl ⟨h5, hsl⟩⟩⟩, r4.mono (fun k _ e => e ▸ h5)⟩
 intro e
 have hb := r3.blk
 obtain ⟨es, ck, hm, _⟩ := r3.mp
 rw [e, hm] at hb
 cases hb
open Go.RowKit Go.Deep
def growZ (Y Z : Nat → Prop) (w w' : World) (k : Nat) : Prop := (Y k ∧ k < w.heap.size) ∨ (Z k ∧ w.heap.size ≤ k ∧ k < w'.heap.size)
theorem growZ.gr (Y Z : Nat → Prop) (w w' : World) : Gr Y (growZ Y Z w w') w := fun k hk q => by
 rcases q with q | q
 ·exact q.1
 ·omega
theorem growZ.of {Y Z Z' : Nat → Prop} {w w' : World} (hz : ∀ k, Z k → Y k) (hg : Gr Z Z' w) {k : Nat} (hk : Z' k) (hl : k < w'.heap.size) : growZ Y Z' w w' k := by
 rcases Nat.lt_or_ge k w.heap.size with q | q
 ·exact .inl ⟨hz k (hg k q hk), q⟩
 ·exact .inr ⟨hk, q, hl⟩
theorem StA.reads {Y : Nat → Prop} {w : World} {j c p st nb K fr bl : Nat} {d : Pd} {s : Js} (h : StA Y w j c p st nb K fr bl d s) (h1 : fr + bl ≤ nb) (hon : d.off = false) (hl : d.puts.length ≤ 1073741824) (hnb : nb ≤ 524288) (base n : Nat) (hb : fr + bl ≤ base) (hn : base + n ≤ nb) (hK : K + n < 4611686018427387904) :
  Calls Tryz.prog 26 #[.pointer (some ⟨st, 0, none⟩), .pointer none, .int .i64 (base : Int), .int .i64 (n : Int)] w fun e w' => ∃ lv Y', e = .returned (.tuple #[lv, .bool true]) ∧ w'.ownsRow w.heap.size 9 1 lv n ((List.range n).map (fun q => .string (strOfNums (jread d s (base + q))))) ∧ StA Y' w' j c p st nb (K + n) fr bl d s ∧ (∀ g, lv.ownBlock = some g → ¬ Y' g) ∧ (∀ k, Y' k → k < w'.heap.size) ∧ Gr Y Y' w ∧ But Y w w' := by
 obtain ⟨Z, q1, q2, q3, q4, q5⟩ := h
 refine Calls.mono (reads_store q1 h1 hon hl hnb q3 q4 base n hb hn hK) ?_
 rintro e w' ⟨lv, Z', rfl, r1, r2, r3, r4, r5⟩
 have hs := r5.size
 refine ⟨lv, growZ Y Z' w w', rfl, r1, ⟨fun k => Z' k ∧ k < w'.heap.size, r3.cut, fun k e => growZ.of q2 r4 e.1 e.2, q3.keep (r5.block st q3.lt q4), fun e => q4 (r4 st q3.lt e.1), .inl ⟨q5, q3.lt⟩⟩, fun g e q => ?_, fun k q => by rcases q with q | q <;> omega, growZ.gr _ _ _ _, r5.mono (fun k _ e => q2 k e)⟩
 rcases q with q | q
 ·have := (World.ownsRow.lt r1 g e).1
  omega
 ·exact r2 g e q.1
open Go.RowKit Go.Deep
open Go.RowKit Go.Deep
theorem OpP.sta {w : World} {nb fr bl : Nat} {e : Ending} {w' : World} (H : OpP w nb fr bl e w') :
  ∃ ob st j c p Y d s, e = .returned (.tuple #[.pointer (some ⟨ob, 0, none⟩), .bool true]) ∧ w.heap.size ≤ ob ∧ ob < w'.heap.size ∧ w'.cell? ⟨ob, 1, none⟩ = some (.pointer (some ⟨st, 0, none⟩)) ∧ ¬ Y ob ∧ StA Y w' j c p st nb 0 fr bl d s ∧ d.fu = -1 ∧ On d s nb fr bl 0 (⟨zeros (512 * nb), [], -1, false⟩ : Pd).read [] ∧ (∀ k, Y k → w.heap.size ≤ k ∧ k < w'.heap.size) ∧ Below w.heap.size w w' := by
 obtain ⟨ob, p, st, rb, j, c, Z, d, s, lv, h1, ⟨a1, a2, a3, a4, a5, a6⟩, h3, h4, h5, h6, h7, ⟨b1, b2, _⟩, h9, _, h11⟩ := H
 refine ⟨ob, st, j, c, p, fun k => Z k ∨ k = st, d, s, h1, a1, a4, by simp [World.cell?, h3], fun q => q.elim b2 (fun q => by omega), ⟨Z, h4, fun k q => .inl q, h7, b1, .inr rfl⟩, h5, h6, fun k q => ?_, h11⟩
 rcases q with q | q
 ·exact h9 k q
 ·omega
open Go.RowKit Go.Deep
theorem StrL.but {w w' : World} {a : Option Addr} {n c : Nat} {xs : List ByteArray} {Y : Nat → Prop} (h : StrL w (.slice a n c) xs) (hb : But Y w w') (hY : ∀ g o, a = some ⟨g, o, none⟩ → ¬ Y g) : StrL w' (.slice a n c) xs := by
 obtain ⟨a', c', e, h⟩ := h
 obtain ⟨rfl, rfl, rfl⟩ : a = a' ∧ n = xs.length ∧ c = c' := by injection e with x y z; exact ⟨x, y, z⟩
 refine ⟨a, c, rfl, fun i S hi => ?_⟩
 obtain ⟨g, h1, h2, h3⟩ := h i S hi
 exact ⟨g, h1, Nat.lt_of_lt_of_le h2 hb.size, (hb.cell (p := ⟨g, i, none⟩) h2 (hY g 0 h1)).trans h3⟩
theorem below_but {B : Nat} {Y : Nat → Prop} {w0 w w' : World} (hb : Below B w0 w) (h : But Y w w') (hY : ∀ k, Y k → B ≤ k) (hB : B = w0.heap.size) : Below B w0 w' := hb.trans (h.below (by have := hb.size; omega) (fun k hk q => by have := hY k q; omega))
theorem strs_reads (f : Nat → List Int) (n : Nat) : (List.range n).map (fun q => Value.string (strOfNums (f q))) = ((List.range n).map (fun q => strOfNums (f q))).map Value.string := by simp
theorem own_slice {w : World} {base n : Nat} {v : Value} {xs : List Value} (h : w.ownsRow base 9 1 v n xs) : ∃ a c, v = .slice a n c := by
 obtain ⟨a, c, e, _⟩ := owns_slice h
 exact ⟨a, c, e⟩
end Go.Proofs.YtldlejpacgphmabGreat
