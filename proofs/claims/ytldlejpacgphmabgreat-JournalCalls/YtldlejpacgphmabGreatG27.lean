import Derived.Test.YtldlejpacgphmabGreatG26
import Derived.Test.YtldlejpacgphmabGreatG00
import Derived.Deep.QuietTactic
import Derived.BigQuiet
namespace Go.Proofs.YtldlejpacgphmabGreat
open Go.RowKit
theorem Lnd.but {X : Nat → Prop} {w w' : World} {L : Nat} {bv : Value} {N : Int} (h : Lnd w L bv N) (hb : But X w w') (hx : ¬ X L) : Lnd w' L bv N := h.of_block (hb.block L h.lt hx)
set_option maxRecDepth 100000 in
set_option maxHeartbeats 1000000 in
theorem Back_ok (L G M : Nat) (a : Option Addr) (n c : Nat) (ys zs : List Int) (w : World) (hn : n ≤ 16777216) (hB : Blk .u8 5 w G ys) (hyl : ys.length = M) (hyt : ys.take (2 * n + 70) = lent zs) (hL : Lnd w L (.slice (some ⟨G, 0, none⟩) M M) n) (hGL : L ≠ G) (hM : 2 * n + 70 ≤ M) (hM2 : M ≤ 1073741824)
  (hR : RdN (fun x => x = L ∨ x = G) w a n zs) :
  Calls Tryz.prog 154 #[.pointer (some ⟨L, 0, none⟩), .slice a n c] w fun e w' => ∃ ys', e = .returned (.bool true) ∧ Blk .u8 5 w' G ys' ∧ ys'.length = M ∧ Lnd w' L (.slice (some ⟨G, 0, none⟩) M M) n ∧ But (fun x => x = G) w w' := by
 have hzl := hR.1
 have hget : ∀ j, j < 2 * n + 70 → ys.getD j 0 = (lent zs).getD j 0 := by
  intro j hj
  rw [← hyt, List.getD_eq_getElem?_getD, List.getD_eq_getElem?_getD, List.getElem?_take_of_lt hj]
 have r1 : ∀ q, Rd w.heap.size (w.drewN q) (some ⟨G, 0, none⟩) n zs := fun q => ⟨hzl, hR.2.1, .inr ⟨G, 0, rfl, hB.lt, fun t ht => by
  have h := hB.cell t (by omega)
  rw [hget t (by omega), lent_lo (by omega)] at h
  rw [Nat.zero_add]
  exact h⟩⟩
 have e1 := fun q => conv_str (r1 q) M
 have e2 : ∀ q, (convert 22 9 (.slice a n c)).run Tryz.prog (w.drewN q) = .ok (.string (strOfNums zs)) (w.drewN q) := fun q => conv_str (hR.but ((But.refl _ w).drewN q)).rd c
 have hbuf := hL.buf
 have hnum := hL.num
 have hnM : (n : Int) ≤ (M : Int) := by omega
 have HR := hid hR
 have HG := hid hget
 clear hR hget r1
 generalize strOfNums zs = s at *
 go_enter Tryz.func154, Tryz.ntmps154
 go_wp2_with fail
 go_quiet (fail)
 go_wp2
 clear e1 e2 hbuf hnum
 go_loopw [5, 6] (fun ok i wt => ∃ j : Nat, n ≤ j ∧ j ≤ 2 * n + 70 ∧ i = .int .i64 (j : Int) ∧ ok = .bool true ∧ But (fun _ => False) w wt) (fun _ i _ => 2 * n + 70 - (intOf i).toNat)
 case atStart => exact ⟨n, Nat.le_refl _, by omega, rfl, by simp, (But.refl _ _).drewN _⟩
 case round =>
  obtain ⟨j, hj1, hj2, rfl, rfl, hbt⟩ := hrel
  have hL2 := hL.but hbt (fun h => h)
  have hnum := hL2.num
  have hbuf := hL2.buf
  by_cases hjn : j < 2 * n + 70
  ·have hcell := (hB.but hbt (fun h => h)).cell j (by omega)
   rw [HG.out j hjn, lent_hi (by omega) (by omega)] at hcell
   have hk2 : (j : Int) < (M : Int) := by omega
   go_wp2_with fail
   go_quiet ((go_at_call 189; exact Calls.quiet_of_same (mark_any _ _ _ (by omega))))
   go_wp2
   go_roundw
   case rel => exact ⟨j + 1, by omega, by omega, by go_num, by simp, hbt.drewN _⟩
   case measure => simp [intOf]; omega
  ·have HB := hid (hB.but hbt (fun h => h))
   have Hyl := hid hyl
   have HL := hid hL2
   have Hb := hid (hbt.mono (Y := fun x => x = G) (fun _ _ h => h.elim))
   clear hB hyl hL hL2 hbt
   go_wp2
   go_loopw [7] (fun i wt => ∃ (k : Nat) (ys' : List Int), k ≤ n ∧ i = .int .i64 (k : Int) ∧ Blk .u8 5 wt G ys' ∧ ys'.length = M ∧ Lnd wt L (.slice (some ⟨G, 0, none⟩) M M) n ∧ But (fun x => x = G) w wt) (fun i _ => n - (intOf i).toNat)
   case atStart => exact ⟨0, ys, Nat.zero_le _, rfl, HB.out, Hyl.out, HL.out, Hb.out⟩
   case round =>
    clear HB Hyl HL Hb hnum hbuf
    obtain ⟨k, ys', hk, rfl, hB, hyl, hL, hbt⟩ := hrel
    have hnum := hL.num
    have hbuf := hL.buf
    by_cases hkn : k < n
    ·have hcell := hB.cell k (by omega)
     have hfr := hB.frozen k
     have hk2 : (k : Int) < (M : Int) := by omega
     have HB := hid (hB.set k 120)
     have Hyl := hid hyl
     have HL := hid (hL.setOther (p := ⟨G, k, none⟩) (by exact hGL) (.int .u8 120))
     have Hb := hid (hbt.setCell (p := ⟨G, k, none⟩) rfl (.int .u8 120))
     clear hB hyl hL hbt
     go_wp2
     go_roundw
     case rel => exact ⟨k + 1, _, by omega, by go_num, HB.out, by simpa using Hyl.out, HL.out, Hb.out⟩
     case measure => simp [intOf]; omega
    ·have HB := hid hB
     have Hyl := hid hyl
     have HL := hid hL
     clear hB hyl hL
     go_wp2
     go_ret
     exact ⟨ys', rfl, HB.out, Hyl.out, HL.out, hbt⟩
open Go.RowKit
theorem run_copy_two (w : World) (ty : TypeId) (g dLen dCap : Nat) (a : Addr) (sLen sCap : Nat) (cur : Array Value) (t : TypeId) (cs : List Value)
  (hg : w.heap[g]? = some (.cells cur t (0, 0))) (hn : cs.length = Nat.min sLen dLen * 2)
  (hsrc : ∀ j v, cs[j]? = some v → w.cell? (a.add j) = some v) (hfit : cs.length ≤ cur.size) (h1 : ∀ v ∈ cs, v.oneCell' = true) :
  (Builtin.copy_ #[35, 35] ty #[.slice (some ⟨g, 0, none⟩) dLen dCap, .slice (some a) sLen sCap]).run Tryz.prog w =
   .ok (goInt (Nat.min sLen dLen)) (w.setRow g (cs ++ cur.toList.drop cs.length).toArray) := by
 obtain ⟨i68, hi68, hz68, hs68, hb68⟩ := info_parts info68
 have hl := run_loadCells_list (P := Tryz.prog) w a cs hsrc
 have hst := run_storeCells_at Tryz.prog g 0 t cs 0 cur w hg (by simpa using hfit) h1
 simp at hst
 simp [Builtin.copy_, run_underlying Tryz.underlying35, Builtin.lenOf, Builtin.firstCells, sizeOf, typeInfo, hi68, hs68, ← hn, hl, hst]
def LdA (w : World) (L : Nat) : Option Nat → Prop
 | none => Lnd w L (.slice none 0 0) 0
 | some G => ∃ M ys N, Blk .u8 5 w G ys ∧ ys.length = M ∧ Lnd w L (.slice (some ⟨G, 0, none⟩) M M) N ∧ M ≤ 1073741824
def LdL (w : World) (L G : Nat) (zs : List Int) : Prop := ∃ M ys, Blk .u8 5 w G ys ∧ ys.length = M ∧ ys.take (2 * zs.length + 70) = lent zs ∧ Lnd w L (.slice (some ⟨G, 0, none⟩) M M) (zs.length : Int) ∧ 2 * zs.length + 70 ≤ M ∧ M ≤ 1073741824
theorem LdL.a {w : World} {L G : Nat} {zs : List Int} (h : LdL w L G zs) : LdA w L (some G) := by
 obtain ⟨M, ys, h1, h2, _, h3, _, h4⟩ := h
 exact ⟨M, ys, _, h1, h2, h3, h4⟩
theorem LdA.lt {w : World} {L : Nat} {o : Option Nat} (h : LdA w L o) : L < w.heap.size ∧ ∀ G, o = some G → G < w.heap.size := by
 cases o with
 | none => exact ⟨Lnd.lt h, fun G e => by cases e⟩
 | some G =>
  obtain ⟨M, ys, N, h1, _, h3, _⟩ := h
  exact ⟨h3.lt, fun G' e => by cases e; exact h1.lt⟩
theorem LdA.keep {w w' : World} {L : Nat} {o : Option Nat} (h : LdA w L o) (hL : w'.heap[L]? = w.heap[L]?) (hG : ∀ G, o = some G → w'.heap[G]? = w.heap[G]?) : LdA w' L o := by
 cases o with
 | none => exact Lnd.of_block h hL
 | some G =>
  obtain ⟨M, ys, N, h1, h2, h3, h4⟩ := h
  exact ⟨M, ys, N, h1.of_block (hG G rfl), h2, h3.of_block hL, h4⟩
theorem LdL.keep {w w' : World} {L G : Nat} {zs : List Int} (h : LdL w L G zs) (hL : w'.heap[L]? = w.heap[L]?) (hG : w'.heap[G]? = w.heap[G]?) : LdL w' L G zs := by
 obtain ⟨M, ys, h1, h2, h3, h4, h5⟩ := h
 exact ⟨M, ys, h1.of_block hG, h2, h3, h4.of_block hL, h5⟩
abbrev Ln := Nat × Option Nat
def Ln.has (l : Ln) (k : Nat) : Prop := k = l.1 ∨ l.2 = some k
structure Tr (w : World) (td : Value) (Ls : List Ln) (Zs : List (List Int)) : Prop where
 row : w.ownsRow 0 233 1 td Ls.length (Ls.map fun l => Value.pointer (some ⟨l.1, 0, none⟩))
 all : ∀ (i : Nat) (l : Ln), Ls[i]? = some l → LdA w l.1 l.2
 lnt : ∀ (i : Nat) (zs : List Int), Zs[i]? = some zs → ∃ L G, Ls[i]? = some (L, some G) ∧ LdL w L G zs
 dj : ∀ (i j : Nat) (a b : Ln), Ls[i]? = some a → Ls[j]? = some b → i ≠ j → ∀ k, a.has k → ¬ b.has k
 ne : ∀ (i : Nat) (l : Ln), Ls[i]? = some l → l.2 ≠ some l.1
 nr : ∀ k, td.ownBlock = some k → ∀ (i : Nat) (l : Ln), Ls[i]? = some l → ¬ l.has k
def TrB (td : Value) (Ls : List Ln) (k : Nat) : Prop := td.ownBlock = some k ∨ ∃ l ∈ Ls, Ln.has l k
theorem Ln.has_lt {w : World} {l : Ln} (h : LdA w l.1 l.2) {k : Nat} (hk : l.has k) : k < w.heap.size := by
 rcases hk with hk | hk
 ·rw [hk]; exact h.lt.1
 ·exact h.lt.2 k hk
theorem Tr.keep {w w' : World} {td : Value} {Ls : List Ln} {Zs : List (List Int)} (h : Tr w td Ls Zs) (hk : ∀ k, TrB td Ls k → k < w.heap.size → w'.heap[k]? = w.heap[k]?) : Tr w' td Ls Zs where
 row := owns_keep h.row (fun k e => hk k (.inl e) (World.ownsRow.lt h.row k e).2)
 all := fun i l hi => (h.all i l hi).keep (hk _ (.inr ⟨l, List.mem_of_getElem? hi, .inl rfl⟩) (h.all i l hi).lt.1) (fun G e => hk _ (.inr ⟨l, List.mem_of_getElem? hi, .inr e⟩) ((h.all i l hi).lt.2 G e))
 lnt := fun i zs hi => by
  obtain ⟨L, G, q1, q2⟩ := h.lnt i zs hi
  have q3 := h.all i _ q1
  exact ⟨L, G, q1, q2.keep (hk _ (.inr ⟨_, List.mem_of_getElem? q1, .inl rfl⟩) q3.lt.1) (hk _ (.inr ⟨_, List.mem_of_getElem? q1, .inr rfl⟩) (q3.lt.2 G rfl))⟩
 dj := h.dj
 ne := h.ne
 nr := h.nr
theorem Tr.but {w w' : World} {td : Value} {Ls : List Ln} {Zs : List (List Int)} {Y : Nat → Prop} (h : Tr w td Ls Zs) (hb : But Y w w') (hy : ∀ k, k < w.heap.size → TrB td Ls k → ¬ Y k) : Tr w' td Ls Zs := h.keep (fun k q hk => hb.block k hk (hy k hk q))
theorem Tr.lt {w : World} {td : Value} {Ls : List Ln} {Zs : List (List Int)} (h : Tr w td Ls Zs) {k : Nat} (hk : TrB td Ls k) : k < w.heap.size := by
 rcases hk with hk | ⟨l, hl, hk⟩
 ·exact (World.ownsRow.lt h.row k hk).2
 ·obtain ⟨i, hi⟩ := List.mem_iff_getElem?.1 hl
  exact Ln.has_lt (h.all i l hi) hk
theorem Tr.nothing {w : World} {td : Value} {Ls : List Ln} {Zs : List (List Int)} (h : Tr w td Ls Zs) : Tr w td Ls [] := ⟨h.row, h.all, fun i zs hi => by simp at hi, h.dj, h.ne, h.nr⟩
open Go.RowKit
set_option maxRecDepth 100000 in
set_option maxHeartbeats 1000000 in
theorem Lend_old (L G M : Nat) (N : Int) (a : Option Addr) (n c : Nat) (ys0 zs : List Int) (w : World) (hn : n ≤ 16777216) (hB0 : Blk .u8 5 w G ys0) (hl0 : ys0.length = M) (hL0 : Lnd w L (.slice (some ⟨G, 0, none⟩) M M) N) (hGL : L ≠ G) (hM : 2 * n + 70 ≤ M) (hM2 : M ≤ 1073741824)
  (hR : RdN (fun x => x = L ∨ x = G) w a n zs) :
  Calls Tryz.prog 152 #[.pointer (some ⟨L, 0, none⟩), .slice a n c] w fun e w' => ∃ (G' M' : Nat) (ys : List Int), e = .returned (.slice (some ⟨G', 0, none⟩) n (2 * n + 70)) ∧ Blk .u8 5 w' G' ys ∧ ys.length = M' ∧ ys.take (2 * n + 70) = lent zs ∧ Lnd w' L (.slice (some ⟨G', 0, none⟩) M' M') n ∧ G' = G ∧ M' = M ∧ But (fun x => x = L ∨ x = G) w w' := by
 obtain ⟨hzl, hzb, hsrc⟩ := hR
 obtain ⟨W, hW⟩ : ∃ W, W = w := ⟨_, rfl⟩
 subst hW
 have hbuf0 := hL0.buf
 have hlt : ¬ ((M : Int) < 2 * (n : Int) + 70) := by omega
 go_enter Tryz.func152, Tryz.ntmps152
 go_wp2
 clear hbuf0 hlt
 go_loopw [5] (fun i wt => ∃ (k : Nat) (ys : List Int), k ≤ n ∧ i = .int .i64 (k : Int) ∧ Blk .u8 5 wt G ys ∧ ys.length = M ∧ ys.take k = (lent zs).take k ∧ Lnd wt L (.slice (some ⟨G, 0, none⟩) M M) N ∧ But (fun x => x = L ∨ x = G) W wt) (fun i _ => n - (intOf i).toNat)
 case atStart => exact ⟨0, ys0, Nat.zero_le _, rfl, hB0, hl0, rfl, hL0, But.refl _ _⟩
 case round =>
  obtain ⟨k, ys, hk, rfl, hB, hyl, htk, hL, hbt⟩ := hrel
  by_cases hkn : k < n
  ·obtain ⟨b, off, rfl, hb, hbx, hc⟩ := hsrc.resolve_left (by omega)
   have hcs := (hbt.cell (p := ⟨b, off + k, none⟩) hb hbx).trans (hc k hkn)
   have hbuf := hL.buf
   have hcell := hB.cell k (by omega)
   have hfr := hB.frozen k
   have hk1 : (k : Int) < (n : Int) := by omega
   have hk2 : (k : Int) < (M : Int) := by omega
   have HB := hid (hB.set k (zs.getD k 0))
   have HT := hid (take_set (ys := ys) (k := k) (z := zs.getD k 0) (l := lent zs) (by omega) (by rw [length_lent]; omega) htk (lent_lo (by omega)).symm)
   have HL := hid (hL.setOther (p := ⟨G, k, none⟩) (by exact hGL) (.int .u8 (zs.getD k 0)))
   have Hb := hid (hbt.setCell (p := ⟨G, k, none⟩) (.inr rfl) (.int .u8 (zs.getD k 0)))
   have Hyl := hid hyl
   generalize ys.getD k 0 = old at *
   generalize zs.getD k 0 = z at *
   clear hB htk hL hbt hc hyl hsrc
   go_wp2
   go_region
   all_goals go_wp2
   all_goals
    go_roundw
    case rel => exact ⟨k + 1, _, by omega, by go_num, HB.out.drew, by simpa using Hyl.out, HT.out, HL.out, Hb.out.drew⟩
    case measure => simp [intOf]; omega
  ·have e : k = n := by omega
   subst e
   clear hkn hk
   go_wp2
   go_loopw [6] (fun i wt => ∃ (j : Nat) (ys : List Int), k ≤ j ∧ j ≤ 2 * k + 70 ∧ i = .int .i64 (j : Int) ∧ Blk .u8 5 wt G ys ∧ ys.length = M ∧ ys.take j = (lent zs).take j ∧ Lnd wt L (.slice (some ⟨G, 0, none⟩) M M) N ∧ But (fun x => x = L ∨ x = G) W wt) (fun i _ => 2 * k + 70 - (intOf i).toNat)
   case atStart => exact ⟨k, ys, Nat.le_refl _, by omega, rfl, hB, hyl, htk, hL, hbt⟩
   case round =>
    clear hB htk hL hbt hyl ys
    obtain ⟨j, ys, hj1, hj2, rfl, hB, hyl, htk, hL, hbt⟩ := hrel
    by_cases hjn : j < 2 * k + 70
    ·have hbuf := hL.buf
     have hcell := hB.cell j (by omega)
     have hfr := hB.frozen j
     have hk2 : (j : Int) < (M : Int) := by omega
     have HB := hid (hB.set j (mk j))
     have HT := hid (take_set (ys := ys) (k := j) (z := mk j) (l := lent zs) (by omega) (by rw [length_lent]; omega) htk (lent_hi (by omega) (by omega)).symm)
     have HL := hid (hL.setOther (p := ⟨G, j, none⟩) (by exact hGL) (.int .u8 (mk j)))
     have Hb := hid (hbt.setCell (p := ⟨G, j, none⟩) (.inr rfl) (.int .u8 (mk j)))
     have Hyl := hid hyl
     generalize ys.getD j 0 = old at *
     clear hB htk hL hbt hyl hsrc
     go_wp2_with fail
     go_region_with (go_at_call 189; refine (mark_any _ j _ (by omega)).mono ?_; rintro e w1 ⟨rfl, rfl⟩)
     all_goals go_wp2
     all_goals
      go_roundw
      case rel => exact ⟨j + 1, _, by omega, by omega, by go_num, HB.out.drew, by simpa using Hyl.out, HT.out, HL.out, Hb.out.drew⟩
      case measure => simp [intOf]; omega
    ·have e : j = 2 * k + 70 := by omega
     subst e
     have hbuf := hL.buf
     have hnum := hL.num
     have hfr := hL.frozen 1
     have HB := hid hB
     have HL := hid (hL.setNum k)
     have Hb := hid (hbt.setCell (p := ⟨L, 1, none⟩) (.inl rfl) (.int .i64 (k : Int)))
     have HT : Hid (ys.take (2 * k + 70) = lent zs) := by
      show _ = _
      rw [htk, List.take_of_length_le (by rw [length_lent]; omega)]
     have Hyl := hid hyl
     clear hB hL hbt htk hyl hsrc
     go_wp2
     go_ret
     exact ⟨G, M, ys, rfl, HB.out.setOther (Ne.symm hGL) _, Hyl.out, HT.out, HL.out, rfl, rfl, Hb.out⟩
set_option maxRecDepth 100000 in
set_option maxHeartbeats 1000000 in
theorem Lend_new (L : Nat) (a0 : Option Addr) (m0 c0 : Nat) (N : Int) (a : Option Addr) (n c : Nat) (zs : List Int) (w : World) (hn : n ≤ 16777216) (hL0 : Lnd w L (.slice a0 m0 c0) N) (hM : m0 < 2 * n + 70)
  (hR : RdN (fun x => x = L) w a n zs) :
  Calls Tryz.prog 152 #[.pointer (some ⟨L, 0, none⟩), .slice a n c] w fun e w' => ∃ (G' M' : Nat) (ys : List Int), e = .returned (.slice (some ⟨G', 0, none⟩) n (2 * n + 70)) ∧ Blk .u8 5 w' G' ys ∧ ys.length = M' ∧ ys.take (2 * n + 70) = lent zs ∧ Lnd w' L (.slice (some ⟨G', 0, none⟩) M' M') n ∧ G' = w.heap.size ∧ M' = 4 * n + 512 ∧ But (fun x => x = L) w w' := by
 have hmk := make_u8 (4 * n + 512) (by omega)
 have hcast : (((4 * n + 512 : Nat) : Nat) : Int) = 4 * (n : Int) + 512 := by omega
 rw [hcast] at hmk
 have hbuf0 := hL0.buf
 have hfr0 := hL0.frozen 0
 have hlt : ((m0 : Int) < 2 * (n : Int) + 70) := by omega
 have hLs := hL0.lt
 have HL0 := hid ((hL0.setBuf (.slice (some ⟨w.heap.size, 0, none⟩) (4 * n + 512) (4 * n + 512))).alloc (.cells ((zeros (4 * n + 512)).map (Value.int .u8)).toArray 5))
 have HB0 : Hid (Blk .u8 5 ((w.setCell ⟨L, 0, none⟩ (.slice (some ⟨w.heap.size, 0, none⟩) (4 * n + 512) (4 * n + 512))).alloc (.cells ((zeros (4 * n + 512)).map (Value.int .u8)).toArray 5)) w.heap.size (zeros (4 * n + 512))) := by
  have h := Blk.new (k := .u8) (e := 5) (w.setCell ⟨L, 0, none⟩ (.slice (some ⟨w.heap.size, 0, none⟩) (4 * n + 512) (4 * n + 512))) (zeros (4 * n + 512))
  rw [show (w.setCell ⟨L, 0, none⟩ (.slice (some ⟨w.heap.size, 0, none⟩) (4 * n + 512) (4 * n + 512))).heap.size = w.heap.size from by simp [World.setCell]] at h
  exact h
 have Hb0 := hid (((But.refl (fun x => x = L) w).setCell (p := ⟨L, 0, none⟩) rfl (.slice (some ⟨w.heap.size, 0, none⟩) (4 * n + 512) (4 * n + 512))).alloc (.cells ((zeros (4 * n + 512)).map (Value.int .u8)).toArray 5))
 have hl0 := length_zeros (4 * n + 512)
 have HG := hid hLs
 clear hL0
 go_enter Tryz.func152, Tryz.ntmps152
 go_wp2
 have hR1 := hR.but Hb0.out
 have hL0 := HL0.out
 have hB0 := HB0.out
 have hGL : L ≠ w.heap.size := by omega
 have hRY : RdN (fun x => x = L ∨ x = w.heap.size) ((w.setCell ⟨L, 0, none⟩ (.slice (some ⟨w.heap.size, 0, none⟩) (4 * n + 512) (4 * n + 512))).alloc (.cells ((zeros (4 * n + 512)).map (Value.int .u8)).toArray 5)) a n zs := by
  obtain ⟨q1, q2, q3⟩ := hR
  obtain ⟨_, _, r3⟩ := hR1
  refine ⟨q1, q2, ?_⟩
  rcases q3 with q3 | ⟨b, off, rfl, hb, hx, _⟩
  ·exact .inl q3
  ·rcases r3 with r3 | ⟨b', off', e', hb', hx', hc'⟩
   ·exact .inl r3
   ·simp at e'
    obtain ⟨rfl, rfl⟩ := e'
    exact .inr ⟨b, off, rfl, hb', by omega, hc'⟩
 clear HL0 HB0 hmk hbuf0 hfr0 hlt hcast hR hR1 HG
 have HW := hid hLs
 generalize ((w.setCell ⟨L, 0, none⟩ (.slice (some ⟨w.heap.size, 0, none⟩) (4 * n + 512) (4 * n + 512))).alloc (.cells ((zeros (4 * n + 512)).map (Value.int .u8)).toArray 5)) = W at *
 generalize zeros (4 * n + 512) = ys0 at *
 obtain ⟨hzl, hzb, hsrc⟩ := hRY
 have hM : 2 * n + 70 ≤ 4 * n + 512 := by omega
 have hM2 : 4 * n + 512 ≤ 1073741824 := by omega
 generalize hGG : w.heap.size = G at *
 generalize hMM : 4 * n + 512 = M at *
 have HGG := hid hGG
 have HMM := hid hMM
 clear hGG hMM
 go_loopw [5] (fun i wt => ∃ (k : Nat) (ys : List Int), k ≤ n ∧ i = .int .i64 (k : Int) ∧ Blk .u8 5 wt G ys ∧ ys.length = M ∧ ys.take k = (lent zs).take k ∧ Lnd wt L (.slice (some ⟨G, 0, none⟩) M M) N ∧ But (fun x => x = L ∨ x = G) W wt) (fun i _ => n - (intOf i).toNat)
 case atStart => exact ⟨0, ys0, Nat.zero_le _, rfl, hB0, hl0, rfl, hL0, But.refl _ _⟩
 case round =>
  obtain ⟨k, ys, hk, rfl, hB, hyl, htk, hL, hbt⟩ := hrel
  by_cases hkn : k < n
  ·obtain ⟨b, off, rfl, hb, hbx, hc⟩ := hsrc.resolve_left (by omega)
   have hcs := (hbt.cell (p := ⟨b, off + k, none⟩) hb hbx).trans (hc k hkn)
   have hbuf := hL.buf
   have hcell := hB.cell k (by omega)
   have hfr := hB.frozen k
   have hk1 : (k : Int) < (n : Int) := by omega
   have hk2 : (k : Int) < (M : Int) := by omega
   have HB := hid (hB.set k (zs.getD k 0))
   have HT := hid (take_set (ys := ys) (k := k) (z := zs.getD k 0) (l := lent zs) (by omega) (by rw [length_lent]; omega) htk (lent_lo (by omega)).symm)
   have HL := hid (hL.setOther (p := ⟨G, k, none⟩) (by exact hGL) (.int .u8 (zs.getD k 0)))
   have Hb := hid (hbt.setCell (p := ⟨G, k, none⟩) (.inr rfl) (.int .u8 (zs.getD k 0)))
   have Hyl := hid hyl
   generalize ys.getD k 0 = old at *
   generalize zs.getD k 0 = z at *
   clear hB htk hL hbt hc hyl hsrc
   go_wp2
   go_region
   all_goals go_wp2
   all_goals
    go_roundw
    case rel => exact ⟨k + 1, _, by omega, by go_num, HB.out.drew, by simpa using Hyl.out, HT.out, HL.out, Hb.out.drew⟩
    case measure => simp [intOf]; omega
  ·have e : k = n := by omega
   subst e
   clear hkn hk
   go_wp2
   go_loopw [6] (fun i wt => ∃ (j : Nat) (ys : List Int), k ≤ j ∧ j ≤ 2 * k + 70 ∧ i = .int .i64 (j : Int) ∧ Blk .u8 5 wt G ys ∧ ys.length = M ∧ ys.take j = (lent zs).take j ∧ Lnd wt L (.slice (some ⟨G, 0, none⟩) M M) N ∧ But (fun x => x = L ∨ x = G) W wt) (fun i _ => 2 * k + 70 - (intOf i).toNat)
   case atStart => exact ⟨k, ys, Nat.le_refl _, by omega, rfl, hB, hyl, htk, hL, hbt⟩
   case round =>
    clear hB htk hL hbt hyl ys
    obtain ⟨j, ys, hj1, hj2, rfl, hB, hyl, htk, hL, hbt⟩ := hrel
    by_cases hjn : j < 2 * k + 70
    ·have hbuf := hL.buf
     have hcell := hB.cell j (by omega)
     have hfr := hB.frozen j
     have hk2 : (j : Int) < (M : Int) := by omega
     have HB := hid (hB.set j (mk j))
     have HT := hid (take_set (ys := ys) (k := j) (z := mk j) (l := lent zs) (by omega) (by rw [length_lent]; omega) htk (lent_hi (by omega) (by omega)).symm)
     have HL := hid (hL.setOther (p := ⟨G, j, none⟩) (by exact hGL) (.int .u8 (mk j)))
     have Hb := hid (hbt.setCell (p := ⟨G, j, none⟩) (.inr rfl) (.int .u8 (mk j)))
     have Hyl := hid hyl
     generalize ys.getD j 0 = old at *
     clear hB htk hL hbt hyl hsrc
     go_wp2_with fail
     go_region_with (go_at_call 189; refine (mark_any _ j _ (by omega)).mono ?_; rintro e w1 ⟨rfl, rfl⟩)
     all_goals go_wp2
     all_goals
      go_roundw
      case rel => exact ⟨j + 1, _, by omega, by omega, by go_num, HB.out.drew, by simpa using Hyl.out, HT.out, HL.out, Hb.out.drew⟩
      case measure => simp [intOf]; omega
    ·have e : j = 2 * k + 70 := by omega
     subst e
     have hbuf := hL.buf
     have hnum := hL.num
     have hfr := hL.frozen 1
     have HB := hid hB
     have HL := hid (hL.setNum k)
     have Hb := hid (hbt.setCell (p := ⟨L, 1, none⟩) (.inl rfl) (.int .i64 (k : Int)))
     have HT : Hid (ys.take (2 * k + 70) = lent zs) := by
      show _ = _
      rw [htk, List.take_of_length_le (by rw [length_lent]; omega)]
     have Hyl := hid hyl
     clear hB hL hbt htk hyl hsrc
     go_wp2
     go_ret
     exact ⟨G, M, ys, rfl, HB.out.setOther (Ne.symm hGL) _, Hyl.out, HT.out, HL.out, HGG.out.symm, HMM.out.symm, Hb0.out.comp Hb.out (fun x hx h => h.elim id (fun h => absurd h (by have := HGG.out; omega)))⟩
open Go.RowKit
theorem Lend_any {w : World} {L : Nat} {o : Option Nat} (h : LdA w L o) (hne : o ≠ some L) (a : Option Addr) (n c : Nat) (zs : List Int) (hn : n ≤ 16777216) (hR : RdN (fun x => x = L ∨ o = some x) w a n zs) :
  Calls Tryz.prog 152 #[.pointer (some ⟨L, 0, none⟩), .slice a n c] w fun e w' => ∃ G', e = .returned (.slice (some ⟨G', 0, none⟩) n (2 * n + 70)) ∧ LdL w' L G' zs ∧ (o = some G' ∨ w.heap.size ≤ G') ∧ But (fun x => x = L ∨ o = some x) w w' := by
 have hzl := hR.1
 cases o with
 | none =>
  refine Calls.mono (Lend_new L none 0 0 0 a n c zs w hn h (by omega) (hR.mono (fun k _ q => .inl q))) ?_
  rintro e w' ⟨G', M', ys, rfl, q1, q2, q3, q4, q5, q6, q7⟩
  refine ⟨G', rfl, ⟨M', ys, q1, q2, by rw [hzl]; exact q3, by rw [hzl]; exact q4, by omega, by omega⟩, .inr (by omega), q7.mono (fun k _ q => .inl q)⟩
 | some G =>
  obtain ⟨M, ys, N, h1, h2, h3, h4⟩ := h
  by_cases hM : 2 * n + 70 ≤ M
  ·refine Calls.mono (Lend_old L G M N a n c ys zs w hn h1 h2 h3 (fun e => hne (by rw [e])) hM h4 (hR.mono (fun k _ q => q.elim .inl (fun q => .inr (by rw [q]))))) ?_
   rintro e w' ⟨G', M', ys', rfl, q1, q2, q3, q4, q5, q6, q7⟩
   subst q5 q6
   exact ⟨G', rfl, ⟨M', ys', q1, q2, by rw [hzl]; exact q3, by rw [hzl]; exact q4, by omega, h4⟩, .inl rfl, q7.mono (fun k _ q => q.elim .inl (fun q => .inr (by rw [q])))⟩
  ·refine Calls.mono (Lend_new L (some ⟨G, 0, none⟩) M M N a n c zs w hn h3 (by omega) (hR.mono (fun k _ q => .inl q))) ?_
   rintro e w' ⟨G', M', ys', rfl, q1, q2, q3, q4, q5, q6, q7⟩
   refine ⟨G', rfl, ⟨M', ys', q1, q2, by rw [hzl]; exact q3, by rw [hzl]; exact q4, by omega, by omega⟩, .inr (by omega), q7.mono (fun k _ q => .inl q)⟩
theorem Tr.lend {w w' : World} {td : Value} {Ls : List Ln} {Zs : List (List Int)} {L G' : Nat} {o : Option Nat} {zs : List Int} (h : Tr w td Ls Zs) (hq : Ls[Zs.length]? = some (L, o)) (hl : LdL w' L G' zs) (hG : o = some G' ∨ w.heap.size ≤ G') (hb : But (fun x => x = L ∨ o = some x) w w') : Tr w' td (Ls.set Zs.length (L, some G')) (Zs ++ [zs]) := by
 have hqlt := (List.getElem?_eq_some_iff.1 hq).1
 have hset : ∀ (i : Nat) (l : Ln), (Ls.set Zs.length (L, some G'))[i]? = some l → (i = Zs.length ∧ l = (L, some G')) ∨ (i ≠ Zs.length ∧ Ls[i]? = some l) := fun i l hi => by
  by_cases hiq : i = Zs.length
  ·subst hiq
   rw [List.getElem?_set_self hqlt] at hi
   injection hi with hi
   exact .inl ⟨rfl, hi.symm⟩
  ·rw [List.getElem?_set_ne (Ne.symm hiq)] at hi
   exact .inr ⟨hiq, hi⟩
 have hothers : ∀ (i : Nat) (l : Ln), Ls[i]? = some l → i ≠ Zs.length → ∀ k, l.has k → w'.heap[k]? = w.heap[k]? := fun i l hi hne k hk => hb.block k (Ln.has_lt (h.all i l hi) hk) (fun q => h.dj i Zs.length l (L, o) hi hq hne k hk (q.elim .inl .inr))
 have hrowk : ∀ k, td.ownBlock = some k → w'.heap[k]? = w.heap[k]? := fun k e => hb.block k (World.ownsRow.lt h.row k e).2 (fun q => h.nr k e Zs.length (L, o) hq (q.elim .inl .inr))
 have hnew : ∀ (i : Nat) (l : Ln), Ls[i]? = some l → i ≠ Zs.length → ∀ k, l.has k → ¬ Ln.has (L, some G') k := fun i l hi hne k hk q => by
  rcases q with q | q
  ·exact h.dj i Zs.length l (L, o) hi hq hne k hk (.inl q)
  ·injection q with q
   subst q
   rcases hG with hG | hG
   ·exact h.dj i Zs.length l (L, o) hi hq hne G' hk (.inr hG)
   ·have := Ln.has_lt (h.all i l hi) hk
    omega
 refine ⟨?_, fun i l hi => ?_, fun i z hi => ?_, fun i j a b hi hj hne k hk => ?_, fun i l hi => ?_, fun k e i l hi => ?_⟩
 ·have e : (Ls.set Zs.length (L, some G')).map (fun l => Value.pointer (some ⟨l.1, 0, none⟩)) = Ls.map fun l => Value.pointer (some ⟨l.1, 0, none⟩) := by
   rw [List.map_set]
   refine List.ext_getElem? fun i => ?_
   by_cases hiq : Zs.length = i
   ·subst hiq
    rw [List.getElem?_set_self (by simpa using hqlt), List.getElem?_map, hq]
    rfl
   ·rw [List.getElem?_set_ne hiq]
  rw [e, List.length_set]
  exact owns_keep h.row hrowk
 ·rcases hset i l hi with ⟨_, rfl⟩ | ⟨hne, hi⟩
  ·exact hl.a
  ·exact (h.all i l hi).keep (hothers i l hi hne _ (.inl rfl)) (fun G e => hothers i l hi hne _ (.inr e))
 ·by_cases hiq : i < Zs.length
  ·rw [List.getElem?_append_left hiq] at hi
   obtain ⟨L2, G2, q1, q2⟩ := h.lnt i z hi
   have hne : i ≠ Zs.length := by omega
   exact ⟨L2, G2, by rw [List.getElem?_set_ne (Ne.symm hne)]; exact q1, q2.keep (hothers i _ q1 hne _ (.inl rfl)) (hothers i _ q1 hne _ (.inr rfl))⟩
  ·have hie : i = Zs.length := by
    have := (List.getElem?_eq_some_iff.1 hi).1
    simp at this
    omega
   subst hie
   rw [List.getElem?_append_right (Nat.le_refl _)] at hi
   simp at hi
   subst hi
   exact ⟨L, G', List.getElem?_set_self hqlt, hl⟩
 ·rcases hset i a hi with ⟨rfl, rfl⟩ | ⟨hni, hi⟩
  ·rcases hset j b hj with ⟨rfl, _⟩ | ⟨hnj, hj⟩
   ·exact absurd rfl hne
   ·exact fun q => hnew j b hj hnj k q hk
  ·rcases hset j b hj with ⟨rfl, rfl⟩ | ⟨hnj, hj⟩
   ·exact hnew i a hi hni k hk
   ·exact h.dj i j a b hi hj hne k hk
 ·rcases hset i l hi with ⟨_, rfl⟩ | ⟨_, hi⟩
  ·intro e
   injection e with e
   rcases hG with hG | hG
   ·exact h.ne Zs.length _ hq (by rw [← e]; exact hG)
   ·have := (h.all _ _ hq).lt.1
    simp only at this e
    omega
  ·exact h.ne i l hi
 ·rcases hset i l hi with ⟨_, rfl⟩ | ⟨_, hi⟩
  ·intro q
   rcases q with q | q
   ·exact h.nr k e Zs.length (L, o) hq (.inl q)
   ·injection q with q
    subst q
    rcases hG with hG | hG
    ·exact h.nr G' e Zs.length (L, o) hq (.inr hG)
    ·have := (World.ownsRow.lt h.row G' e).2
     omega
  ·exact h.nr k e i l hi
theorem TrB.lend {w : World} {td : Value} {Ls : List Ln} {q L G' : Nat} {o : Option Nat} (hq : Ls[q]? = some (L, o)) (hG : o = some G' ∨ w.heap.size ≤ G') : ∀ k, k < w.heap.size → TrB td (Ls.set q (L, some G')) k → TrB td Ls k := fun k hk h => by
 rcases h with h | ⟨l, hl, h⟩
 ·exact .inl h
 ·rcases List.mem_or_eq_of_mem_set hl with hl | rfl
  ·exact .inr ⟨l, hl, h⟩
  ·rcases h with h | h
   ·exact .inr ⟨(L, o), List.mem_of_getElem? hq, .inl h⟩
   ·injection h with h
    subst h
    rcases hG with hG | hG
    ·exact .inr ⟨(L, o), List.mem_of_getElem? hq, .inr hG⟩
    ·omega
theorem Tr.push {w w' : World} {td td' : Value} {Ls : List Ln} {Zs : List (List Int)} {L : Nat} (h : Tr w td Ls Zs) (hL : w.heap.size ≤ L) (hrow : w'.ownsRow 0 233 1 td' (Ls.length + 1) ((Ls.map fun l => Value.pointer (some ⟨l.1, 0, none⟩)) ++ [.pointer (some ⟨L, 0, none⟩)])) (hlnd : Lnd w' L (.slice none 0 0) 0) (hk : ∀ k, k < w.heap.size → td.ownBlock ≠ some k → w'.heap[k]? = w.heap[k]?) (ht : ∀ k, td'.ownBlock = some k → td.ownBlock = some k ∨ (w.heap.size ≤ k ∧ k ≠ L)) : Tr w' td' (Ls ++ [(L, none)]) Zs := by
 have hget : ∀ (i : Nat) (l : Ln), (Ls ++ [(L, none)])[i]? = some l → (Ls[i]? = some l ∧ i < Ls.length) ∨ (i = Ls.length ∧ l = (L, none)) := fun i l hi => by
  by_cases hil : i < Ls.length
  ·rw [List.getElem?_append_left hil] at hi
   exact .inl ⟨hi, hil⟩
  ·have hie : i = Ls.length := by
    have := (List.getElem?_eq_some_iff.1 hi).1
    simp at this
    omega
   subst hie
   rw [List.getElem?_append_right (Nat.le_refl _)] at hi
   simp at hi
   exact .inr ⟨rfl, hi.symm⟩
 have hold : ∀ (i : Nat) (l : Ln), Ls[i]? = some l → ∀ k, l.has k → w'.heap[k]? = w.heap[k]? := fun i l hi k q => hk k (Ln.has_lt (h.all i l hi) q) (fun e => h.nr k e i l hi q)
 have hnL : ∀ (i : Nat) (l : Ln), Ls[i]? = some l → ∀ k, l.has k → ¬ Ln.has (L, none) k := fun i l hi k q r => by
  have := Ln.has_lt (h.all i l hi) q
  rcases r with r | r
  ·simp only at r
   omega
  ·cases r
 refine ⟨by simpa using hrow, fun i l hi => ?_, fun i z hi => ?_, fun i j a b hi hj hne k q => ?_, fun i l hi => ?_, fun k e i l hi => ?_⟩
 ·rcases hget i l hi with ⟨hi, _⟩ | ⟨_, rfl⟩
  ·exact (h.all i l hi).keep (hold i l hi _ (.inl rfl)) (fun G e => hold i l hi _ (.inr e))
  ·exact hlnd
 ·obtain ⟨L2, G2, q1, q2⟩ := h.lnt i z hi
  have hil := (List.getElem?_eq_some_iff.1 q1).1
  exact ⟨L2, G2, by rw [List.getElem?_append_left hil]; exact q1, q2.keep (hold i _ q1 _ (.inl rfl)) (hold i _ q1 _ (.inr rfl))⟩
 ·rcases hget i a hi with ⟨hi, _⟩ | ⟨rfl, rfl⟩
  ·rcases hget j b hj with ⟨hj, _⟩ | ⟨rfl, rfl⟩
   ·exact h.dj i j a b hi hj hne k q
   ·exact hnL i a hi k q
  ·rcases hget j b hj with ⟨hj, _⟩ | ⟨rfl, _⟩
   ·exact fun r => hnL j b hj k r q
   ·exact absurd rfl hne
 ·rcases hget i l hi with ⟨hi, _⟩ | ⟨_, rfl⟩
  ·exact h.ne i l hi
  ·intro e; cases e
 ·intro q
  rcases hget i l hi with ⟨hi, _⟩ | ⟨_, rfl⟩
  ·rcases ht k e with r | ⟨r, _⟩
   ·exact h.nr k r i l hi q
   ·have := Ln.has_lt (h.all i l hi) q
    omega
  ·rcases q with q | q
   ·simp only at q
    subst q
    rcases ht k e with r | ⟨_, r⟩
    ·have := (World.ownsRow.lt h.row k r).2
     omega
    ·exact r rfl
   ·cases q
theorem TrB.push {w : World} {td td' : Value} {Ls : List Ln} {L : Nat} (hL : w.heap.size ≤ L) (ht : ∀ k, td'.ownBlock = some k → td.ownBlock = some k ∨ (w.heap.size ≤ k ∧ k ≠ L)) : ∀ k, k < w.heap.size → TrB td' (Ls ++ [(L, none)]) k → TrB td Ls k := fun k hk h => by
 rcases h with h | ⟨l, hl, h⟩
 ·rcases ht k h with r | ⟨r, _⟩
  ·exact .inl r
  ·omega
 ·rcases List.mem_append.1 hl with hl | hl
  ·exact .inr ⟨l, hl, h⟩
  ·simp only [List.mem_singleton] at hl
   subst hl
   rcases h with h | h
   ·simp only at h
    omega
   ·cases h
open Go.RowKit
theorem info158 : (Tryz.prog.info? 233).map (fun i => (i.zero, i.size, i.bytes)) = some (some (.pointer none), 1, 8) := by kernel_rfl
def LentP (Ls : List Ln) (ps qs : List Pm) : Prop := qs.map Pm.say = ps.map Pm.say ∧ ∀ (i : Nat) (p : Pm), qs[i]? = some p → ∃ L G, Ls[i]? = some (L, some G) ∧ p.ad = some ⟨G, 0, none⟩ ∧ p.cap = 2 * p.data.length + 70
structure Lq (B0 : Nat) (w wr : World) (wb p c : Nat) (jv : Value) (g : Nat) (rm lasted : Int) (off trying : Bool) (tried tl td : Value) (Ls : List Ln) (ps : List Pm) (q : Nat) (fa : Option Addr) (fc : Nat) (td' : Value) (Ls' : List Ln) (qs : List Pm) : Prop where
 wd : Wb wr wb p c jv g rm lasted off trying tried tl td'
 tr : Tr wr td' Ls' ((ps.take q).map Pm.data)
 row : wr.ownsRow B0 97 2 (.slice fa q fc) q (pmCells qs)
 lp : LentP Ls' (ps.take q) qs
 bt : But (fun k => k = wb ∨ TrB td Ls k) w wr
 gr : ∀ k, k < w.heap.size → TrB td' Ls' k → TrB td Ls k
 nf : ∀ k, (Value.slice fa q fc).ownBlock = some k → ¬ TrB td' Ls' k
 nl : Ls'.length ≤ 1073741823
theorem Wb.set10 {w : World} {wb p c : Nat} {jv : Value} {g : Nat} {rm lasted : Int} {off trying : Bool} {tried tl td : Value} (h : Wb w wb p c jv g rm lasted off trying tried tl td) (td' : Value) : Wb (w.setCell ⟨wb, 10, none⟩ td') wb p c jv g rm lasted off trying tried tl td' := by
 refine ⟨?_⟩
 have h1 := h.blk
 simp only [World.setCell, Array.getElem?_modify]
 rw [h1]
 simp
theorem Wb.set9 {w : World} {wb p c : Nat} {jv : Value} {g : Nat} {rm lasted : Int} {off trying : Bool} {tried tl td : Value} (h : Wb w wb p c jv g rm lasted off trying tried tl td) (tl' : Value) : Wb (w.setCell ⟨wb, 9, none⟩ tl') wb p c jv g rm lasted off trying tried tl' td := by
 refine ⟨?_⟩
 have h1 := h.blk
 simp only [World.setCell, Array.getElem?_modify]
 rw [h1]
 simp
theorem Lq.next {B0 : Nat} {w wr w2 w6 : World} {wb p c : Nat} {jv : Value} {g : Nat} {rm lasted : Int} {off trying : Bool} {tried tl td : Value} {Ls : List Ln} {ps : List Pm} {q : Nat} {fa : Option Addr} {fc : Nat} {td' : Value} {Ls' : List Ln} {qs : List Pm} {pp : Pm} {L G' g4 cap4 : Nat} {o : Option Nat} (h : Lq B0 w wr wb p c jv g rm lasted off trying tried tl td Ls ps q fa fc td' Ls' qs) (hB : w.heap.size ≤ B0) (hwl : wb < w.heap.size) (hwT : ¬ TrB td Ls wb) (hpp : ps[q]? = some pp) (hq : Ls'[q]? = some (L, o)) (hl : LdL w2 L G' pp.data) (hG : o = some G' ∨ wr.heap.size ≤ G') (hb : But (fun x => x = L ∨ o = some x) wr.drew w2)
  (ho : w6.ownsRow B0 97 2 (.slice (some ⟨g4, 0, none⟩) (q + 1) cap4) (q + 1) (pmCells qs ++ [.int .i64 pp.at_, .slice (some ⟨G', 0, none⟩) pp.data.length (2 * pp.data.length + 70)])) (hg : (w2.alloc (.cells #[.int .i64 pp.at_, .slice (some ⟨G', 0, none⟩) pp.data.length (2 * pp.data.length + 70)] 97)).grownBy w6 (Value.slice fa q fc).ownBlock) (hlie : (Value.slice fa q fc).ownBlock = some g4 ∨ g4 = w2.heap.size + 1) :
  Lq B0 w w6 wb p c jv g rm lasted off trying tried tl td Ls ps (q + 1) (some ⟨g4, 0, none⟩) cap4 td' (Ls'.set q (L, some G')) (qs ++ [⟨pp.at_, some ⟨G', 0, none⟩, 2 * pp.data.length + 70, pp.data⟩]) := by
 have hqN : q < ps.length := (List.getElem?_eq_some_iff.1 hpp).1
 have hzl : ((ps.take q).map Pm.data).length = q := by rw [List.length_map, List.length_take]; omega
 have hwbr := h.bt.size
 have hs2 : wr.heap.size ≤ w2.heap.size := hb.size
 have hql : qs.length = q := by
  have := congrArg List.length h.lp.1
  rw [List.length_map, List.length_map, List.length_take] at this
  omega
 have hmem : ((L, o) : Ln) ∈ Ls' := List.mem_of_getElem? hq
 have hbF : But (fun k => (Value.slice fa q fc).ownBlock = some k) w2 w6 := ((But.refl (fun k => (Value.slice fa q fc).ownBlock = some k) w2).alloc _).of_grown hg (fun x e _ => e)
 have hfr : ∀ k, (Value.slice fa q fc).ownBlock = some k → B0 ≤ k ∧ k < wr.heap.size := fun k e => World.ownsRow.lt h.row k e
 have tr2 := h.tr.keep (w' := wr.drew) (fun _ _ _ => rfl)
 have tr3 := Tr.lend tr2 (by rw [hzl]; exact hq) hl hG hb
 rw [hzl] at tr3
 have hGlt : G' < w2.heap.size := (hl.a.lt).2 G' rfl
 have hTn : ∀ k, TrB td' (Ls'.set q (L, some G')) k → (Value.slice fa q fc).ownBlock ≠ some k := fun k hk e => by
  have h1 := hfr k e
  exact h.nf k e (TrB.lend (w := wr) hq hG k h1.2 hk)
 have hwn : ¬ TrB td' Ls' wb := fun q => hwT (h.gr wb hwl q)
 refine ⟨?_, ?_, ?_, ⟨?_, fun i r hi => ?_⟩, ?_, fun k hk r => ?_, fun k e r => ?_, ?_⟩
 ·refine h.wd.keep ((hbF.block wb (by omega) (fun e => by have := (hfr wb e).1; omega)).trans ?_)
  exact (hb.block wb (by show wb < wr.heap.size; omega) (fun r => hwn (.inr ⟨(L, o), hmem, r⟩))).trans rfl
 ·have e : (ps.take (q + 1)).map Pm.data = (ps.take q).map Pm.data ++ [pp.data] := by rw [List.take_add_one, hpp, List.map_append]; rfl
  rw [e]
  exact tr3.but hbF (fun k _ r => hTn k r)
 ·rw [pmCells_snoc]
  exact ho
 ·rw [List.take_add_one, hpp, List.map_append, List.map_append, h.lp.1]
  rfl
 ·by_cases hiq : i < q
  ·rw [List.getElem?_append_left (by omega)] at hi
   obtain ⟨L2, G2, q1, q2⟩ := h.lp.2 i r hi
   exact ⟨L2, G2, by rw [List.getElem?_set_ne (by omega)]; exact q1, q2⟩
  ·have hie : i = q := by
    have := (List.getElem?_eq_some_iff.1 hi).1
    simp at this
    omega
   subst hie
   rw [List.getElem?_append_right (by omega), hql, Nat.sub_self] at hi
   simp at hi
   subst hi
   exact ⟨L, G', List.getElem?_set_self (List.getElem?_eq_some_iff.1 hq).1, rfl, rfl⟩
 ·have b2 : But (fun k => k = wb ∨ TrB td Ls k) w w2 := h.bt.drew.comp hb (fun k hk r => .inr (h.gr k hk (.inr ⟨(L, o), hmem, r⟩)))
  exact b2.comp hbF (fun k hk e => by have := (hfr k e).1; omega)
 ·exact h.gr k hk (TrB.lend (w := wr) hq hG k (Nat.lt_of_lt_of_le hk hwbr) r)
 ·have e2 : g4 = k := by injection e
  subst e2
  rcases hlie with e4 | e4
  ·exact hTn g4 r e4
  ·have := tr3.lt r
   omega
 ·rw [List.length_set]; exact h.nl
end Go.Proofs.YtldlejpacgphmabGreat
