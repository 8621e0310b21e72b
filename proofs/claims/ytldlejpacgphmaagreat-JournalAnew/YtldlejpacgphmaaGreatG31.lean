import Derived.Test.YtldlejpacgphmaaGreatG30
import Derived.Test.YtldlejpacgphmaaGreatG00
import Derived.Test.YtldlejpacgphmaaGreatG08
import Derived.Deep.QuietTactic
import Derived.BigQuiet
namespace Go.Proofs.YtldlejpacgphmaaGreat
open Go.RowKit
theorem idx117 (a b c : Int) (w : World) (i : Int) (v : Int) (hi : 0 ≤ i) (hi3 : i < 3) (h : #[Value.int .u64 a, .int .u64 b, .int .u64 c][i.toNat]? = some (.int .u64 v)) : (Instr.index 117 (.agg #[.int .u64 a, .int .u64 b, .int .u64 c]) (.int .i64 i)).run Tryz.prog w = .ok (.int .u64 v) w := by
 have hcase : i = 0 ∨ i = 1 ∨ i = 2 := by omega
 unfold Instr.index
 rcases hcase with rfl | rfl | rfl
 ·simp at h
  subst h
  simp [run_underlying Tryz.underlying117, asIntOf, go_sem, part]
 ·simp at h
  subst h
  simp [run_underlying Tryz.underlying117, asIntOf, go_sem, part]
 ·simp at h
  subst h
  simp [run_underlying Tryz.underlying117, asIntOf, go_sem, part]
set_option maxRecDepth 100000 in
set_option maxHeartbeats 4000000 in
theorem probes_any {X Z : Nat → Prop} {w : World} {wb p c : Nat} {jv : Value} {g room : Nat} {lasted : Int} {off : Bool} {tried tl td : Value} {hb hc nb fr bl : Nat} {H : List Int} {ta : Option Addr} {tc : Nat} {vs : List Value} {Us : List (List Pm)} {d : Pd} {lo : Nat} (hW : Wb w wb p c jv g (room : Int) lasted off false tried tl td) (hL : LgW X w g hb hc nb fr bl H ta tc vs Us) (r1 : 1 ≤ room) (r2 : room ≤ 4096) (hD : Dk Z w p d.img d.puts d.fu d.off nb) (hf : d.Fits nb)
  (hC : Cut d nb fr bl lo (imgB H) (plainT Us)) (hla : lasted ≤ (lo : Int)) (hlo : 16 ≤ bl) (hfit : fr + bl ≤ nb) (hnb : nb ≤ 524288) (hUs : Us.length ≤ 1099511627776) (mask : Int) :
  Calls Tryz.prog 31 #[.pointer (some ⟨wb, 0, none⟩), .int .u64 mask] w fun e w' => e = .returned (.bool true) ∧ Below w.heap.size w w' := by
 have hpl : d.puts.length ≤ 1073741824 := by have := hC.pl; omega
 have HLe : Hid (∀ (w' : World) (m : Int), Below w.heap.size w w' → Calls Tryz.prog 12 #[.pointer (some ⟨wb, 0, none⟩), .int .u64 m] w' fun e w'' => ∃ ib ic, e = .returned (.tuple #[.slice (some ⟨ib, 0, none⟩) (512 * nb) ic, .bool true]) ∧ Calls Tryz.prog 13 #[.pointer (some ⟨wb, 0, none⟩), .slice (some ⟨ib, 0, none⟩) (512 * nb) ic] w'' fun e w3 => e = .returned (.bool true) ∧ Below w.heap.size w w3) := fun w' m hb' => by
  refine Calls.mono (left_any (hW.keep (hb'.block wb hW.lt)) (hL.lg.keep (hb'.block g hL.gl)) (hD.keep (fun k _ hk => hb'.block k hk)) hf hpl m) ?_
  rintro e w'' ⟨ib, ic, I, rfl, _, q2, q3, q4, _, q6⟩
  have bb : Below w.heap.size w w'' := hb'.trans (q6.mono hb'.size)
  refine ⟨ib, ic, rfl, Calls.mono (probe_any (hW.keep (bb.block wb hW.lt)) (hL.below bb X (fun _ _ q => q)) r1 r2 q2 q3 hC (fun x _ => q4 x) hla hlo hfit hnb hUs) ?_⟩
  rintro e w3 ⟨rfl, b3⟩
  exact ⟨rfl, bb.trans (b3.mono bb.size)⟩
 clear hW hL hD hf hC hla hpl hUs r1 r2
 obtain ⟨L, hLe⟩ : ∃ L, L = 512 * nb := ⟨_, rfl⟩
 rw [← hLe] at HLe
 clear hLe
 go_enter Tryz.func31, Tryz.ntmps31
 go_wp2_with fail
 go_loopw [5] (fun iv wr => ∃ i : Nat, i ≤ 3 ∧ iv = .int .i64 (i : Int) ∧ Below w.heap.size w wr) (fun iv _ => 3 - (intOf iv).toNat)
 case atStart => exact ⟨0, by omega, rfl, Below.refl _ _⟩
 case round =>
  obtain ⟨i, hi, rfl, hbt⟩ := hrel
  by_cases hi3 : i < 3
  ·have key : ∀ m : Int, Hid (Calls Tryz.prog 12 #[.pointer (some ⟨wb, 0, none⟩), .int .u64 m] wr fun e w'' => ∃ ib ic, e = .returned (.tuple #[.slice (some ⟨ib, 0, none⟩) L ic, .bool true]) ∧ Calls Tryz.prog 13 #[.pointer (some ⟨wb, 0, none⟩), .slice (some ⟨ib, 0, none⟩) L ic] w'' fun e w3 => e = .returned (.bool true) ∧ Below w.heap.size w w3) := fun m => HLe.out wr m hbt
   have hcases : i = 0 ∨ i = 1 ∨ i = 2 := by omega
   clear hbt HLe
   rcases hcases with rfl | rfl | rfl
   ·have HK := key 0
    have hix := idx117 0 18446744073709551615 mask wr 0 0 (by decide) (by decide) rfl
    clear key
    go_wp2_with fail
    refine Calls.mono HK.out ?_
    rintro e w2 ⟨ib, ic, rfl, HP⟩
    have HP2 := hid HP
    clear HP HK
    go_wp2_with fail
    refine Calls.mono HP2.out ?_
    rintro e w3 ⟨rfl, b3⟩
    have FIN := hid b3
    clear b3 HP2
    go_wp2
    refine ⟨⟨1, by omega, by go_num, FIN.out⟩, ?_⟩
    simp [intOf]
   ·have HK := key 18446744073709551615
    have hix := idx117 0 18446744073709551615 mask wr 1 18446744073709551615 (by decide) (by decide) rfl
    clear key
    go_wp2_with fail
    refine Calls.mono HK.out ?_
    rintro e w2 ⟨ib, ic, rfl, HP⟩
    have HP2 := hid HP
    clear HP HK
    go_wp2_with fail
    refine Calls.mono HP2.out ?_
    rintro e w3 ⟨rfl, b3⟩
    have FIN := hid b3
    clear b3 HP2
    go_wp2
    refine ⟨⟨2, by omega, by go_num, FIN.out⟩, ?_⟩
    simp [intOf]
   ·have HK := key mask
    have hix := idx117 0 18446744073709551615 mask wr 2 mask (by decide) (by decide) rfl
    clear key
    go_wp2_with fail
    refine Calls.mono HK.out ?_
    rintro e w2 ⟨ib, ic, rfl, HP⟩
    have HP2 := hid HP
    clear HP HK
    go_wp2_with fail
    refine Calls.mono HP2.out ?_
    rintro e w3 ⟨rfl, b3⟩
    have FIN := hid b3
    clear b3 HP2
    go_wp2
    refine ⟨⟨3, by omega, by go_num, FIN.out⟩, ?_⟩
    simp [intOf]
  ·have hie : i = 3 := by omega
   subst hie
   have FIN := hid hbt
   clear hbt HLe
   go_wp2
   go_ret
   exact ⟨rfl, FIN.out⟩
end Go.Proofs.YtldlejpacgphmaaGreat
namespace Go.Proofs.YtldlejpacgphmaaGreat
open Go.RowKit
/-! ### the lender -/
def Lnd (w : World) (L : Nat) (bv : Value) (N : Int) : Prop := w.heap[L]? = some (.cells #[bv, .int .i64 N] 160 (0, 0))
theorem Lnd.lt {w : World} {L : Nat} {bv : Value} {N : Int} (h : Lnd w L bv N) : L < w.heap.size := (Array.getElem?_eq_some_iff.1 h).1
theorem Lnd.buf {w : World} {L : Nat} {bv : Value} {N : Int} (h : Lnd w L bv N) : w.cell? ⟨L, 0, none⟩ = some bv := by unfold Lnd at h; simp [World.cell?, h]
theorem Lnd.num {w : World} {L : Nat} {bv : Value} {N : Int} (h : Lnd w L bv N) : w.cell? ⟨L, 1, none⟩ = some (.int .i64 N) := by unfold Lnd at h; simp [World.cell?, h]
theorem Lnd.frozen {w : World} {L : Nat} {bv : Value} {N : Int} (h : Lnd w L bv N) (t : Nat) : w.frozen? ⟨L, t, none⟩ = false := by unfold Lnd at h; simp [World.frozen?, h]
theorem Lnd.of_block {w w' : World} {L : Nat} {bv : Value} {N : Int} (h : Lnd w L bv N) (hw : w'.heap[L]? = w.heap[L]?) : Lnd w' L bv N := by unfold Lnd at *; rw [hw]; exact h
theorem Lnd.setOther {w : World} {L : Nat} {bv : Value} {N : Int} (h : Lnd w L bv N) {p : Addr} (hp : L ≠ p.block) (u : Value) : Lnd (w.setCell p u) L bv N := h.of_block (Below.heap_setCell _ _ _ _ hp)
theorem Lnd.alloc {w : World} {L : Nat} {bv : Value} {N : Int} (h : Lnd w L bv N) (o : Obj) : Lnd (w.alloc o) L bv N := h.of_block (Below.heap_alloc _ _ _ h.lt)
theorem Lnd.setBuf {w : World} {L : Nat} {bv : Value} {N : Int} (h : Lnd w L bv N) (u : Value) : Lnd (w.setCell ⟨L, 0, none⟩ u) L u N := by
 unfold Lnd at *
 simp only [World.setCell, Array.getElem?_modify]
 rw [h]
 simp
theorem Lnd.setNum {w : World} {L : Nat} {bv : Value} {N : Int} (h : Lnd w L bv N) (u : Int) : Lnd (w.setCell ⟨L, 1, none⟩ (.int .i64 u)) L bv u := by
 unfold Lnd at *
 simp only [World.setCell, Array.getElem?_modify]
 rw [h]
 simp
def mk (i : Nat) : Int := (203 - 5 * (i : Int)) % 256
def lent (zs : List Int) : List Int := zs ++ (List.range (zs.length + 70)).map fun i => mk (zs.length + i)
theorem length_lent (zs : List Int) : (lent zs).length = 2 * zs.length + 70 := by simp [lent]; omega
theorem lent_lo {zs : List Int} {k : Nat} (h : k < zs.length) : (lent zs).getD k 0 = zs.getD k 0 := by
 simp [lent, h, List.getElem?_append_left]
theorem lent_hi {zs : List Int} {k : Nat} (h : zs.length ≤ k) (h2 : k < 2 * zs.length + 70) : (lent zs).getD k 0 = mk k := by
 have h3 : k - zs.length < zs.length + 70 := by omega
 simp [lent, List.getElem?_append_right h, h3]
 congr 1
 omega
set_option maxHeartbeats 400000 in
theorem mark_any (p : Value) (i : Nat) (w : World) (h : i ≤ 1073741824) :
  Calls Tryz.prog 135 #[p, .int .i64 (i : Int)] w fun e w' => e = .returned (.int .u8 (mk i)) ∧ w' = w := by
 go_enter Tryz.func135, Tryz.ntmps135
 go_wp2
 go_ret
 exact ⟨rfl, rfl⟩
end Go.Proofs.YtldlejpacgphmaaGreat
namespace Go.Proofs.YtldlejpacgphmaaGreat
open Go.RowKit
theorem Lnd.but {X : Nat → Prop} {w w' : World} {L : Nat} {bv : Value} {N : Int} (h : Lnd w L bv N) (hb : But X w w') (hx : ¬ X L) : Lnd w' L bv N := h.of_block (hb.block L h.lt hx)
set_option maxRecDepth 100000 in
set_option maxHeartbeats 1000000 in
theorem Back_ok (L G M : Nat) (a : Option Addr) (n c : Nat) (ys zs : List Int) (w : World) (hn : n ≤ 16777216) (hB : Blk .u8 5 w G ys) (hyl : ys.length = M) (hyt : ys.take (2 * n + 70) = lent zs) (hL : Lnd w L (.slice (some ⟨G, 0, none⟩) M M) n) (hGL : L ≠ G) (hM : 2 * n + 70 ≤ M) (hM2 : M ≤ 1073741824)
  (hR : RdN (fun x => x = L ∨ x = G) w a n zs) :
  Calls Tryz.prog 117 #[.pointer (some ⟨L, 0, none⟩), .slice a n c] w fun e w' => ∃ ys', e = .returned (.bool true) ∧ Blk .u8 5 w' G ys' ∧ ys'.length = M ∧ Lnd w' L (.slice (some ⟨G, 0, none⟩) M M) n ∧ But (fun x => x = G) w w' := by
 have hzl := hR.1
 have hget : ∀ j, j < 2 * n + 70 → ys.getD j 0 = (lent zs).getD j 0 := by
  intro j hj
  rw [← hyt, List.getD_eq_getElem?_getD, List.getD_eq_getElem?_getD, List.getElem?_take_of_lt hj]
 have r1 : ∀ q, Rd w.heap.size (w.drewN q) (some ⟨G, 0, none⟩) n zs := fun q => ⟨hzl, hR.2.1, .inr ⟨G, 0, rfl, hB.lt, fun t ht => by
  have h := hB.cell t (by omega)
  rw [hget t (by omega), lent_lo (by omega)] at h
  rw [Nat.zero_add]
  exact h⟩⟩
 have e1 := fun q => conv_str (r1 q) M
 have e2 : ∀ q, (convert 22 9 (.slice a n c)).run Tryz.prog (w.drewN q) = .ok (.string (strOfNums zs)) (w.drewN q) := fun q => conv_str (hR.but ((But.refl _ w).drewN q)).rd c
 have hbuf := hL.buf
 have hnum := hL.num
 have hnM : (n : Int) ≤ (M : Int) := by omega
 have HR := hid hR
 have HG := hid hget
 clear hR hget r1
 generalize strOfNums zs = s at *
 go_enter Tryz.func117, Tryz.ntmps117
 go_wp2_with fail
 go_quiet (fail)
 go_wp2
 clear e1 e2 hbuf hnum
 go_loopw [5, 6] (fun ok i wt => ∃ j : Nat, n ≤ j ∧ j ≤ 2 * n + 70 ∧ i = .int .i64 (j : Int) ∧ ok = .bool true ∧ But (fun _ => False) w wt) (fun _ i _ => 2 * n + 70 - (intOf i).toNat)
 case atStart => exact ⟨n, Nat.le_refl _, by omega, rfl, by simp, (But.refl _ _).drewN _⟩
 case round =>
  obtain ⟨j, hj1, hj2, rfl, rfl, hbt⟩ := hrel
  have hL2 := hL.but hbt (fun h => h)
  have hnum := hL2.num
  have hbuf := hL2.buf
  by_cases hjn : j < 2 * n + 70
  ·have hcell := (hB.but hbt (fun h => h)).cell j (by omega)
   rw [HG.out j hjn, lent_hi (by omega) (by omega)] at hcell
   have hk2 : (j : Int) < (M : Int) := by omega
   go_wp2_with fail
   go_quiet ((go_at_call 135; exact Calls.quiet_of_same (mark_any _ _ _ (by omega))))
   go_wp2
   go_roundw
   case rel => exact ⟨j + 1, by omega, by omega, by go_num, by simp, hbt.drewN _⟩
   case measure => simp [intOf]; omega
  ·have HB := hid (hB.but hbt (fun h => h))
   have Hyl := hid hyl
   have HL := hid hL2
   have Hb := hid (hbt.mono (Y := fun x => x = G) (fun _ _ h => h.elim))
   clear hB hyl hL hL2 hbt
   go_wp2
   go_loopw [7] (fun i wt => ∃ (k : Nat) (ys' : List Int), k ≤ n ∧ i = .int .i64 (k : Int) ∧ Blk .u8 5 wt G ys' ∧ ys'.length = M ∧ Lnd wt L (.slice (some ⟨G, 0, none⟩) M M) n ∧ But (fun x => x = G) w wt) (fun i _ => n - (intOf i).toNat)
   case atStart => exact ⟨0, ys, Nat.zero_le _, rfl, HB.out, Hyl.out, HL.out, Hb.out⟩
   case round =>
    clear HB Hyl HL Hb hnum hbuf
    obtain ⟨k, ys', hk, rfl, hB, hyl, hL, hbt⟩ := hrel
    have hnum := hL.num
    have hbuf := hL.buf
    by_cases hkn : k < n
    ·have hcell := hB.cell k (by omega)
     have hfr := hB.frozen k
     have hk2 : (k : Int) < (M : Int) := by omega
     have HB := hid (hB.set k 120)
     have Hyl := hid hyl
     have HL := hid (hL.setOther (p := ⟨G, k, none⟩) (by exact hGL) (.int .u8 120))
     have Hb := hid (hbt.setCell (p := ⟨G, k, none⟩) rfl (.int .u8 120))
     clear hB hyl hL hbt
     go_wp2
     go_roundw
     case rel => exact ⟨k + 1, _, by omega, by go_num, HB.out, by simpa using Hyl.out, HL.out, Hb.out⟩
     case measure => simp [intOf]; omega
    ·have HB := hid hB
     have Hyl := hid hyl
     have HL := hid hL
     clear hB hyl hL
     go_wp2
     go_ret
     exact ⟨ys', rfl, HB.out, Hyl.out, HL.out, hbt⟩
end Go.Proofs.YtldlejpacgphmaaGreat
namespace Go.Proofs.YtldlejpacgphmaaGreat
open Go.RowKit
theorem run_copy_two (w : World) (ty : TypeId) (g dLen dCap : Nat) (a : Addr) (sLen sCap : Nat) (cur : Array Value) (t : TypeId) (cs : List Value)
  (hg : w.heap[g]? = some (.cells cur t (0, 0))) (hn : cs.length = Nat.min sLen dLen * 2)
  (hsrc : ∀ j v, cs[j]? = some v → w.cell? (a.add j) = some v) (hfit : cs.length ≤ cur.size) (h1 : ∀ v ∈ cs, v.oneCell' = true) :
  (Builtin.copy_ #[30, 30] ty #[.slice (some ⟨g, 0, none⟩) dLen dCap, .slice (some a) sLen sCap]).run Tryz.prog w =
   .ok (goInt (Nat.min sLen dLen)) (w.setRow g (cs ++ cur.toList.drop cs.length).toArray) := by
 obtain ⟨i68, hi68, hz68, hs68, hb68⟩ := info_parts info68
 have hl := run_loadCells_list (P := Tryz.prog) w a cs hsrc
 have hst := run_storeCells_at Tryz.prog g 0 t cs 0 cur w hg (by simpa using hfit) h1
 simp at hst
 simp [Builtin.copy_, run_underlying Tryz.underlying30, Builtin.lenOf, Builtin.firstCells, sizeOf, typeInfo, hi68, hs68, ← hn, hl, hst]
def LdA (w : World) (L : Nat) : Option Nat → Prop
 | none => Lnd w L (.slice none 0 0) 0
 | some G => ∃ M ys N, Blk .u8 5 w G ys ∧ ys.length = M ∧ Lnd w L (.slice (some ⟨G, 0, none⟩) M M) N ∧ M ≤ 1073741824
def LdL (w : World) (L G : Nat) (zs : List Int) : Prop := ∃ M ys, Blk .u8 5 w G ys ∧ ys.length = M ∧ ys.take (2 * zs.length + 70) = lent zs ∧ Lnd w L (.slice (some ⟨G, 0, none⟩) M M) (zs.length : Int) ∧ 2 * zs.length + 70 ≤ M ∧ M ≤ 1073741824
theorem LdL.a {w : World} {L G : Nat} {zs : List Int} (h : LdL w L G zs) : LdA w L (some G) := by
 obtain ⟨M, ys, h1, h2, _, h3, _, h4⟩ := h
 exact ⟨M, ys, _, h1, h2, h3, h4⟩
theorem LdA.lt {w : World} {L : Nat} {o : Option Nat} (h : LdA w L o) : L < w.heap.size ∧ ∀ G, o = some G → G < w.heap.size := by
 cases o with
 | none => exact ⟨Lnd.lt h, fun G e => by cases e⟩
 | some G =>
  obtain ⟨M, ys, N, h1, _, h3, _⟩ := h
  exact ⟨h3.lt, fun G' e => by cases e; exact h1.lt⟩
theorem LdA.keep {w w' : World} {L : Nat} {o : Option Nat} (h : LdA w L o) (hL : w'.heap[L]? = w.heap[L]?) (hG : ∀ G, o = some G → w'.heap[G]? = w.heap[G]?) : LdA w' L o := by
 cases o with
 | none => exact Lnd.of_block h hL
 | some G =>
  obtain ⟨M, ys, N, h1, h2, h3, h4⟩ := h
  exact ⟨M, ys, N, h1.of_block (hG G rfl), h2, h3.of_block hL, h4⟩
theorem LdL.keep {w w' : World} {L G : Nat} {zs : List Int} (h : LdL w L G zs) (hL : w'.heap[L]? = w.heap[L]?) (hG : w'.heap[G]? = w.heap[G]?) : LdL w' L G zs := by
 obtain ⟨M, ys, h1, h2, h3, h4, h5⟩ := h
 exact ⟨M, ys, h1.of_block hG, h2, h3, h4.of_block hL, h5⟩
abbrev Ln := Nat × Option Nat
def Ln.has (l : Ln) (k : Nat) : Prop := k = l.1 ∨ l.2 = some k
structure Tr (w : World) (td : Value) (Ls : List Ln) (Zs : List (List Int)) : Prop where
 row : w.ownsRow 0 158 1 td Ls.length (Ls.map fun l => Value.pointer (some ⟨l.1, 0, none⟩))
 all : ∀ (i : Nat) (l : Ln), Ls[i]? = some l → LdA w l.1 l.2
 lnt : ∀ (i : Nat) (zs : List Int), Zs[i]? = some zs → ∃ L G, Ls[i]? = some (L, some G) ∧ LdL w L G zs
 dj : ∀ (i j : Nat) (a b : Ln), Ls[i]? = some a → Ls[j]? = some b → i ≠ j → ∀ k, a.has k → ¬ b.has k
 ne : ∀ (i : Nat) (l : Ln), Ls[i]? = some l → l.2 ≠ some l.1
 nr : ∀ k, td.ownBlock = some k → ∀ (i : Nat) (l : Ln), Ls[i]? = some l → ¬ l.has k
def TrB (td : Value) (Ls : List Ln) (k : Nat) : Prop := td.ownBlock = some k ∨ ∃ l ∈ Ls, Ln.has l k
theorem Ln.has_lt {w : World} {l : Ln} (h : LdA w l.1 l.2) {k : Nat} (hk : l.has k) : k < w.heap.size := by
 rcases hk with hk | hk
 ·rw [hk]; exact h.lt.1
 ·exact h.lt.2 k hk
theorem Tr.keep {w w' : World} {td : Value} {Ls : List Ln} {Zs : List (List Int)} (h : Tr w td Ls Zs) (hk : ∀ k, TrB td Ls k → k < w.heap.size → w'.heap[k]? = w.heap[k]?) : Tr w' td Ls Zs where
 row := owns_keep h.row (fun k e => hk k (.inl e) (World.ownsRow.lt h.row k e).2)
 all := fun i l hi => (h.all i l hi).keep (hk _ (.inr ⟨l, List.mem_of_getElem? hi, .inl rfl⟩) (h.all i l hi).lt.1) (fun G e => hk _ (.inr ⟨l, List.mem_of_getElem? hi, .inr e⟩) ((h.all i l hi).lt.2 G e))
 lnt := fun i zs hi => by
  obtain ⟨L, G, q1, q2⟩ := h.lnt i zs hi
  have q3 := h.all i _ q1
  exact ⟨L, G, q1, q2.keep (hk _ (.inr ⟨_, List.mem_of_getElem? q1, .inl rfl⟩) q3.lt.1) (hk _ (.inr ⟨_, List.mem_of_getElem? q1, .inr rfl⟩) (q3.lt.2 G rfl))⟩
 dj := h.dj
 ne := h.ne
 nr := h.nr
theorem Tr.but {w w' : World} {td : Value} {Ls : List Ln} {Zs : List (List Int)} {Y : Nat → Prop} (h : Tr w td Ls Zs) (hb : But Y w w') (hy : ∀ k, k < w.heap.size → TrB td Ls k → ¬ Y k) : Tr w' td Ls Zs := h.keep (fun k q hk => hb.block k hk (hy k hk q))
theorem Tr.lt {w : World} {td : Value} {Ls : List Ln} {Zs : List (List Int)} (h : Tr w td Ls Zs) {k : Nat} (hk : TrB td Ls k) : k < w.heap.size := by
 rcases hk with hk | ⟨l, hl, hk⟩
 ·exact (World.ownsRow.lt h.row k hk).2
 ·obtain ⟨i, hi⟩ := List.mem_iff_getElem?.1 hl
  exact Ln.has_lt (h.all i l hi) hk
theorem Tr.nothing {w : World} {td : Value} {Ls : List Ln} {Zs : List (List Int)} (h : Tr w td Ls Zs) : Tr w td Ls [] := ⟨h.row, h.all, fun i zs hi => by simp at hi, h.dj, h.ne, h.nr⟩
end Go.Proofs.YtldlejpacgphmaaGreat
namespace Go.Proofs.YtldlejpacgphmaaGreat
open Go.RowKit
set_option maxRecDepth 100000 in
set_option maxHeartbeats 1000000 in
theorem Lend_old (L G M : Nat) (N : Int) (a : Option Addr) (n c : Nat) (ys0 zs : List Int) (w : World) (hn : n ≤ 16777216) (hB0 : Blk .u8 5 w G ys0) (hl0 : ys0.length = M) (hL0 : Lnd w L (.slice (some ⟨G, 0, none⟩) M M) N) (hGL : L ≠ G) (hM : 2 * n + 70 ≤ M) (hM2 : M ≤ 1073741824)
  (hR : RdN (fun x => x = L ∨ x = G) w a n zs) :
  Calls Tryz.prog 115 #[.pointer (some ⟨L, 0, none⟩), .slice a n c] w fun e w' => ∃ (G' M' : Nat) (ys : List Int), e = .returned (.slice (some ⟨G', 0, none⟩) n (2 * n + 70)) ∧ Blk .u8 5 w' G' ys ∧ ys.length = M' ∧ ys.take (2 * n + 70) = lent zs ∧ Lnd w' L (.slice (some ⟨G', 0, none⟩) M' M') n ∧ G' = G ∧ M' = M ∧ But (fun x => x = L ∨ x = G) w w' := by
 obtain ⟨hzl, hzb, hsrc⟩ := hR
 obtain ⟨W, hW⟩ : ∃ W, W = w := ⟨_, rfl⟩
 subst hW
 have hbuf0 := hL0.buf
 have hlt : ¬ ((M : Int) < 2 * (n : Int) + 70) := by omega
 go_enter Tryz.func115, Tryz.ntmps115
 go_wp2
 clear hbuf0 hlt
 go_loopw [5] (fun i wt => ∃ (k : Nat) (ys : List Int), k ≤ n ∧ i = .int .i64 (k : Int) ∧ Blk .u8 5 wt G ys ∧ ys.length = M ∧ ys.take k = (lent zs).take k ∧ Lnd wt L (.slice (some ⟨G, 0, none⟩) M M) N ∧ But (fun x => x = L ∨ x = G) W wt) (fun i _ => n - (intOf i).toNat)
 case atStart => exact ⟨0, ys0, Nat.zero_le _, rfl, hB0, hl0, rfl, hL0, But.refl _ _⟩
 case round =>
  obtain ⟨k, ys, hk, rfl, hB, hyl, htk, hL, hbt⟩ := hrel
  by_cases hkn : k < n
  ·obtain ⟨b, off, rfl, hb, hbx, hc⟩ := hsrc.resolve_left (by omega)
   have hcs := (hbt.cell (p := ⟨b, off + k, none⟩) hb hbx).trans (hc k hkn)
   have hbuf := hL.buf
   have hcell := hB.cell k (by omega)
   have hfr := hB.frozen k
   have hk1 : (k : Int) < (n : Int) := by omega
   have hk2 : (k : Int) < (M : Int) := by omega
   have HB := hid (hB.set k (zs.getD k 0))
   have HT := hid (take_set (ys := ys) (k := k) (z := zs.getD k 0) (l := lent zs) (by omega) (by rw [length_lent]; omega) htk (lent_lo (by omega)).symm)
   have HL := hid (hL.setOther (p := ⟨G, k, none⟩) (by exact hGL) (.int .u8 (zs.getD k 0)))
   have Hb := hid (hbt.setCell (p := ⟨G, k, none⟩) (.inr rfl) (.int .u8 (zs.getD k 0)))
   have Hyl := hid hyl
   generalize ys.getD k 0 = old at *
   generalize zs.getD k 0 = z at *
   clear hB htk hL hbt hc hyl hsrc
   go_wp2
   go_region
   all_goals go_wp2
   all_goals
    go_roundw
    case rel => exact ⟨k + 1, _, by omega, by go_num, HB.out.drew, by simpa using Hyl.out, HT.out, HL.out, Hb.out.drew⟩
    case measure => simp [intOf]; omega
  ·have e : k = n := by omega
   subst e
   clear hkn hk
   go_wp2
   go_loopw [6] (fun i wt => ∃ (j : Nat) (ys : List Int), k ≤ j ∧ j ≤ 2 * k + 70 ∧ i = .int .i64 (j : Int) ∧ Blk .u8 5 wt G ys ∧ ys.length = M ∧ ys.take j = (lent zs).take j ∧ Lnd wt L (.slice (some ⟨G, 0, none⟩) M M) N ∧ But (fun x => x = L ∨ x = G) W wt) (fun i _ => 2 * k + 70 - (intOf i).toNat)
   case atStart => exact ⟨k, ys, Nat.le_refl _, by omega, rfl, hB, hyl, htk, hL, hbt⟩
   case round =>
    clear hB htk hL hbt hyl ys
    obtain ⟨j, ys, hj1, hj2, rfl, hB, hyl, htk, hL, hbt⟩ := hrel
    by_cases hjn : j < 2 * k + 70
    ·have hbuf := hL.buf
     have hcell := hB.cell j (by omega)
     have hfr := hB.frozen j
     have hk2 : (j : Int) < (M : Int) := by omega
     have HB := hid (hB.set j (mk j))
     have HT := hid (take_set (ys := ys) (k := j) (z := mk j) (l := lent zs) (by omega) (by rw [length_lent]; omega) htk (lent_hi (by omega) (by omega)).symm)
     have HL := hid (hL.setOther (p := ⟨G, j, none⟩) (by exact hGL) (.int .u8 (mk j)))
     have Hb := hid (hbt.setCell (p := ⟨G, j, none⟩) (.inr rfl) (.int .u8 (mk j)))
     have Hyl := hid hyl
     generalize ys.getD j 0 = old at *
     clear hB htk hL hbt hyl hsrc
     go_wp2_with fail
     go_region_with (go_at_call 135; refine (mark_any _ j _ (by omega)).mono ?_; rintro e w1 ⟨rfl, rfl⟩)
     all_goals go_wp2
     all_goals
      go_roundw
      case rel => exact ⟨j + 1, _, by omega, by omega, by go_num, HB.out.drew, by simpa using Hyl.out, HT.out, HL.out, Hb.out.drew⟩
      case measure => simp [intOf]; omega
    ·have e : j = 2 * k + 70 := by omega
     subst e
     have hbuf := hL.buf
     have hnum := hL.num
     have hfr := hL.frozen 1
     have HB := hid hB
     have HL := hid (hL.setNum k)
     have Hb := hid (hbt.setCell (p := ⟨L, 1, none⟩) (.inl rfl) (.int .i64 (k : Int)))
     have HT : Hid (ys.take (2 * k + 70) = lent zs) := by
      show _ = _
      rw [htk, List.take_of_length_le (by rw [length_lent]; omega)]
     have Hyl := hid hyl
     clear hB hL hbt htk hyl hsrc
     go_wp2
     go_ret
     exact ⟨G, M, ys, rfl, HB.out.setOther (Ne.symm hGL) _, Hyl.out, HT.out, HL.out, rfl, rfl, Hb.out⟩
set_option maxRecDepth 100000 in
set_option maxHeartbeats 1000000 in
theorem Lend_new (L : Nat) (a0 : Option Addr) (m0 c0 : Nat) (N : Int) (a : Option Addr) (n c : Nat) (zs : List Int) (w : World) (hn : n ≤ 16777216) (hL0 : Lnd w L (.slice a0 m0 c0) N) (hM : m0 < 2 * n + 70)
  (hR : RdN (fun x => x = L) w a n zs) :
  Calls Tryz.prog 115 #[.pointer (some ⟨L, 0, none⟩), .slice a n c] w fun e w' => ∃ (G' M' : Nat) (ys : List Int), e = .returned (.slice (some ⟨G', 0, none⟩) n (2 * n + 70)) ∧ Blk .u8 5 w' G' ys ∧ ys.length = M' ∧ ys.take (2 * n + 70) = lent zs ∧ Lnd w' L (.slice (some ⟨G', 0, none⟩) M' M') n ∧ G' = w.heap.size ∧ M' = 4 * n + 512 ∧ But (fun x => x = L) w w' := by
 have hmk := make_u8 (4 * n + 512) (by omega)
 have hcast : (((4 * n + 512 : Nat) : Nat) : Int) = 4 * (n : Int) + 512 := by omega
 rw [hcast] at hmk
 have hbuf0 := hL0.buf
 have hfr0 := hL0.frozen 0
 have hlt : ((m0 : Int) < 2 * (n : Int) + 70) := by omega
 have hLs := hL0.lt
 have HL0 := hid ((hL0.setBuf (.slice (some ⟨w.heap.size, 0, none⟩) (4 * n + 512) (4 * n + 512))).alloc (.cells ((zeros (4 * n + 512)).map (Value.int .u8)).toArray 5))
 have HB0 : Hid (Blk .u8 5 ((w.setCell ⟨L, 0, none⟩ (.slice (some ⟨w.heap.size, 0, none⟩) (4 * n + 512) (4 * n + 512))).alloc (.cells ((zeros (4 * n + 512)).map (Value.int .u8)).toArray 5)) w.heap.size (zeros (4 * n + 512))) := by
  have h := Blk.new (k := .u8) (e := 5) (w.setCell ⟨L, 0, none⟩ (.slice (some ⟨w.heap.size, 0, none⟩) (4 * n + 512) (4 * n + 512))) (zeros (4 * n + 512))
  rw [show (w.setCell ⟨L, 0, none⟩ (.slice (some ⟨w.heap.size, 0, none⟩) (4 * n + 512) (4 * n + 512))).heap.size = w.heap.size from by simp [World.setCell]] at h
  exact h
 have Hb0 := hid (((But.refl (fun x => x = L) w).setCell (p := ⟨L, 0, none⟩) rfl (.slice (some ⟨w.heap.size, 0, none⟩) (4 * n + 512) (4 * n + 512))).alloc (.cells ((zeros (4 * n + 512)).map (Value.int .u8)).toArray 5))
 have hl0 := length_zeros (4 * n + 512)
 have HG := hid hLs
 clear hL0
 go_enter Tryz.func115, Tryz.ntmps115
 go_wp2
 have hR1 := hR.but Hb0.out
 have hL0 := HL0.out
 have hB0 := HB0.out
 have hGL : L ≠ w.heap.size := by omega
 have hRY : RdN (fun x => x = L ∨ x = w.heap.size) ((w.setCell ⟨L, 0, none⟩ (.slice (some ⟨w.heap.size, 0, none⟩) (4 * n + 512) (4 * n + 512))).alloc (.cells ((zeros (4 * n + 512)).map (Value.int .u8)).toArray 5)) a n zs := by
  obtain ⟨q1, q2, q3⟩ := hR
  obtain ⟨_, _, r3⟩ := hR1
  refine ⟨q1, q2, ?_⟩
  rcases q3 with q3 | ⟨b, off, rfl, hb, hx, _⟩
  ·exact .inl q3
  ·rcases r3 with r3 | ⟨b', off', e', hb', hx', hc'⟩
   ·exact .inl r3
   ·simp at e'
    obtain ⟨rfl, rfl⟩ := e'
    exact .inr ⟨b, off, rfl, hb', by omega, hc'⟩
 clear HL0 HB0 hmk hbuf0 hfr0 hlt hcast hR hR1 HG
 have HW := hid hLs
 generalize ((w.setCell ⟨L, 0, none⟩ (.slice (some ⟨w.heap.size, 0, none⟩) (4 * n + 512) (4 * n + 512))).alloc (.cells ((zeros (4 * n + 512)).map (Value.int .u8)).toArray 5)) = W at *
 generalize zeros (4 * n + 512) = ys0 at *
 obtain ⟨hzl, hzb, hsrc⟩ := hRY
 have hM : 2 * n + 70 ≤ 4 * n + 512 := by omega
 have hM2 : 4 * n + 512 ≤ 1073741824 := by omega
 generalize hGG : w.heap.size = G at *
 generalize hMM : 4 * n + 512 = M at *
 have HGG := hid hGG
 have HMM := hid hMM
 clear hGG hMM
 go_loopw [5] (fun i wt => ∃ (k : Nat) (ys : List Int), k ≤ n ∧ i = .int .i64 (k : Int) ∧ Blk .u8 5 wt G ys ∧ ys.length = M ∧ ys.take k = (lent zs).take k ∧ Lnd wt L (.slice (some ⟨G, 0, none⟩) M M) N ∧ But (fun x => x = L ∨ x = G) W wt) (fun i _ => n - (intOf i).toNat)
 case atStart => exact ⟨0, ys0, Nat.zero_le _, rfl, hB0, hl0, rfl, hL0, But.refl _ _⟩
 case round =>
  obtain ⟨k, ys, hk, rfl, hB, hyl, htk, hL, hbt⟩ := hrel
  by_cases hkn : k < n
  ·obtain ⟨b, off, rfl, hb, hbx, hc⟩ := hsrc.resolve_left (by omega)
   have hcs := (hbt.cell (p := ⟨b, off + k, none⟩) hb hbx).trans (hc k hkn)
   have hbuf := hL.buf
   have hcell := hB.cell k (by omega)
   have hfr := hB.frozen k
   have hk1 : (k : Int) < (n : Int) := by omega
   have hk2 : (k : Int) < (M : Int) := by omega
   have HB := hid (hB.set k (zs.getD k 0))
   have HT := hid (take_set (ys := ys) (k := k) (z := zs.getD k 0) (l := lent zs) (by omega) (by rw [length_lent]; omega) htk (lent_lo (by omega)).symm)
   have HL := hid (hL.setOther (p := ⟨G, k, none⟩) (by exact hGL) (.int .u8 (zs.getD k 0)))
   have Hb := hid (hbt.setCell (p := ⟨G, k, none⟩) (.inr rfl) (.int .u8 (zs.getD k 0)))
   have Hyl := hid hyl
   generalize ys.getD k 0 = old at *
   generalize zs.getD k 0 = z at *
   clear hB htk hL hbt hc hyl hsrc
   go_wp2
   go_region
   all_goals go_wp2
   all_goals
    go_roundw
    case rel => exact ⟨k + 1, _, by omega, by go_num, HB.out.drew, by simpa using Hyl.out, HT.out, HL.out, Hb.out.drew⟩
    case measure => simp [intOf]; omega
  ·have e : k = n := by omega
   subst e
   clear hkn hk
   go_wp2
   go_loopw [6] (fun i wt => ∃ (j : Nat) (ys : List Int), k ≤ j ∧ j ≤ 2 * k + 70 ∧ i = .int .i64 (j : Int) ∧ Blk .u8 5 wt G ys ∧ ys.length = M ∧ ys.take j = (lent zs).take j ∧ Lnd wt L (.slice (some ⟨G, 0, none⟩) M M) N ∧ But (fun x => x = L ∨ x = G) W wt) (fun i _ => 2 * k + 70 - (intOf i).toNat)
   case atStart => exact ⟨k, ys, Nat.le_refl _, by omega, rfl, hB, hyl, htk, hL, hbt⟩
   case round =>
    clear hB htk hL hbt hyl ys
    obtain ⟨j, ys, hj1, hj2, rfl, hB, hyl, htk, hL, hbt⟩ := hrel
    by_cases hjn : j < 2 * k + 70
    ·have hbuf := hL.buf
     have hcell := hB.cell j (by omega)
     have hfr := hB.frozen j
     have hk2 : (j : Int) < (M : Int) := by omega
     have HB := hid (hB.set j (mk j))
     have HT := hid (take_set (ys := ys) (k := j) (z := mk j) (l := lent zs) (by omega) (by rw [length_lent]; omega) htk (lent_hi (by omega) (by omega)).symm)
     have HL := hid (hL.setOther (p := ⟨G, j, none⟩) (by exact hGL) (.int .u8 (mk j)))
     have Hb := hid (hbt.setCell (p := ⟨G, j, none⟩) (.inr rfl) (.int .u8 (mk j)))
     have Hyl := hid hyl
     generalize ys.getD j 0 = old at *
     clear hB htk hL hbt hyl hsrc
     go_wp2_with fail
     go_region_with (go_at_call 135; refine (mark_any _ j _ (by omega)).mono ?_; rintro e w1 ⟨rfl, rfl⟩)
     all_goals go_wp2
     all_goals
      go_roundw
      case rel => exact ⟨j + 1, _, by omega, by omega, by go_num, HB.out.drew, by simpa using Hyl.out, HT.out, HL.out, Hb.out.drew⟩
      case measure => simp [intOf]; omega
    ·have e : j = 2 * k + 70 := by omega
     subst e
     have hbuf := hL.buf
     have hnum := hL.num
     have hfr := hL.frozen 1
     have HB := hid hB
     have HL := hid (hL.setNum k)
     have Hb := hid (hbt.setCell (p := ⟨L, 1, none⟩) (.inl rfl) (.int .i64 (k : Int)))
     have HT : Hid (ys.take (2 * k + 70) = lent zs) := by
      show _ = _
      rw [htk, List.take_of_length_le (by rw [length_lent]; omega)]
     have Hyl := hid hyl
     clear hB hL hbt htk hyl hsrc
     go_wp2
     go_ret
     exact ⟨G, M, ys, rfl, HB.out.setOther (Ne.symm hGL) _, Hyl.out, HT.out, HL.out, HGG.out.symm, HMM.out.symm, Hb0.out.comp Hb.out (fun x hx h => h.elim id (fun h => absurd h (by have := HGG.out; omega)))⟩
end Go.Proofs.YtldlejpacgphmaaGreat
