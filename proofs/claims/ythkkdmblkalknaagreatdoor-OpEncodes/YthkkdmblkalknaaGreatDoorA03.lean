import Derived.Test.YthkkdmblkalknaaGreatDoorA01
import Derived.Laws.AppendOwnNone
import Derived.Deep.QuietTactic
import Derived.BigQuiet
import Derived.Lib.AppendStr
import Derived.Maps.AppendAt
import Derived.Laws.OwnMore
import Derived.Test.YthkkdmblkalknaaGreatDoorA00
import Derived.Lib.SlicesS
import Derived.Laws.BytesArg
import Derived.Lib.Bytealg
import Derived.Lib.Bytes
import Derived.Lib.IndexAny
import Derived.Laws.Externs
import Derived.Laws.Strings3
/-
  CopyBytes, turned.
-/
namespace Go.Proofs.YthkkdmblkalknaaGreatDoor
open Go.RowKit

theorem isB_set {L : List Int} (h : Pl.isB L) (i : Nat) {x : Int} (hx : 0 ≤ x ∧ x < 256) : Pl.isB (L.set i x) := by
  intro z hz
  rcases List.mem_or_eq_of_mem_set hz with h1 | rfl
  · exact h z h1
  · exact hx
theorem owns_form {w : World} {base e size n : Nat} {v : Value} {xs : List Value} (h : w.ownsRow base e size v n xs) (hv : v ≠ .slice none 0 0) : ∃ g cap, v = .slice (some ⟨g, 0, none⟩) n cap ∧ base ≤ g ∧ n ≤ cap := by
  rcases h.2 with ⟨h1, _⟩ | ⟨g, cap, cur, h1, h2, _, h3, _⟩
  · exact absurd h1 hv
  · exact ⟨g, cap, h1, h2, h3⟩
/-- BYTES OF ONE's OWN, with spare room: block g -/
def Own (w : World) (g n cap : Nat) (zs : List Int) : Prop := w.ownsRow g 5 1 (.slice (some ⟨g, 0, none⟩) n cap) n (zs.map (Value.int .u8))
theorem Own.of {w : World} {base g n cap : Nat} {zs : List Int} (h : w.ownsRow base 5 1 (.slice (some ⟨g, 0, none⟩) n cap) n (zs.map (Value.int .u8))) : Own w g n cap zs := by
  obtain ⟨h1, h2⟩ := h
  refine ⟨h1, ?_⟩
  rcases h2 with ⟨h2, _⟩ | ⟨g', cap', cur, hv, _, r⟩
  · cases h2
  · simp at hv
    obtain ⟨rfl, rfl⟩ := hv
    exact .inr ⟨g, cap, cur, rfl, Nat.le_refl _, r⟩
theorem Own.len {w : World} {g n cap : Nat} {zs : List Int} (h : Own w g n cap zs) : zs.length = n := by simpa using h.1
theorem Own.cell {w : World} {g n cap : Nat} {zs : List Int} (h : Own w g n cap zs) (t : Nat) (ht : t < n) : w.cell? ⟨g, t, none⟩ = some (.int .u8 (zs.getD t 0)) := by
  have h2 := World.ownsRow.cellAt h t (by omega)
  have h3 := h.len
  rw [h2]
  simp [show t < zs.length by omega]
theorem Own.lt {w : World} {g n cap : Nat} {zs : List Int} (h : Own w g n cap zs) : g < w.heap.size := (World.ownsRow.lt h g rfl).2
theorem Own.set {w : World} {g n cap : Nat} {zs : List Int} (h : Own w g n cap zs) (t : Nat) (x : Int) : Own (w.setCell ⟨g, t, none⟩ (.int .u8 x)) g n cap (zs.set t x) := by
  have h2 := (World.ownsRow.stored h t (.int .u8 x)).1
  unfold Own
  rw [List.map_set]
  exact h2
theorem Own.rdn {X : Nat → Prop} {w : World} {g n cap : Nat} {zs : List Int} (h : Own w g n cap zs) (hb : Pl.isB zs) (hx : ¬ X g) : RdN X w (some ⟨g, 0, none⟩) n zs :=
  ⟨h.len, hb, .inr ⟨g, 0, rfl, h.lt, hx, fun t ht => by rw [Nat.zero_add]; exact h.cell t ht⟩⟩

/-- others of the same number -/
def turn (zs : List Int) : List Int := if zs = [] then [] else
  ((zs.set (zs.length - 1) (bits .xor .u8 (zs.getD (zs.length - 1) 0) 1)).set 0 (bits .xor .u8 ((zs.set (zs.length - 1) (bits .xor .u8 (zs.getD (zs.length - 1) 0) 1)).getD 0 0) 2))
theorem xor_u8_bd {x : Int} (h : 0 ≤ x ∧ x < 256) (y : Nat) (hy : y < 256) : 0 ≤ bits .xor .u8 x (y : Int) ∧ bits .xor .u8 x (y : Int) < 256 := by
  obtain ⟨z, rfl⟩ := Int.eq_ofNat_of_zero_le h.1
  rw [u8_xor_nat z y (by omega) hy]
  have : z ^^^ y < 2 ^ 8 := Nat.xor_lt_two_pow (by omega) hy
  omega
theorem length_turn (zs : List Int) : (turn zs).length = zs.length := by
  unfold turn
  split
  · simp_all
  · simp
theorem isB_turn {zs : List Int} (h : Pl.isB zs) : Pl.isB (turn zs) := by
  unfold turn
  split
  · exact Pl.isB_nil
  · have h1 : Pl.isB (zs.set (zs.length - 1) (bits .xor .u8 (zs.getD (zs.length - 1) 0) 1)) := isB_set h _ (xor_u8_bd (by rw [List.getD_eq_getElem?_getD]; exact Pl.isB_getD h _) 1 (by decide))
    exact isB_set h1 _ (xor_u8_bd (by rw [List.getD_eq_getElem?_getD]; exact Pl.isB_getD h1 _) 2 (by decide))

end Go.Proofs.YthkkdmblkalknaaGreatDoor
/-
  Back.
-/
namespace Go.Proofs.YthkkdmblkalknaaGreatDoor
open Go.RowKit

theorem Lnd.but {X : Nat → Prop} {w w' : World} {L : Nat} {bv : Value} {N : Int} (h : Lnd w L bv N) (hb : But X w w') (hx : ¬ X L) : Lnd w' L bv N := h.of_block (hb.block L h.lt hx)
theorem But.drewN {X : Nat → Prop} {a w : World} (h : But X a w) (q : Nat) : But X a (w.drewN q) := ⟨h.os, h.tape, h.output, h.size, h.block⟩

set_option maxRecDepth 100000 in
set_option maxHeartbeats 1000000 in
theorem Back_ok (L G M : Nat) (a : Option Addr) (n c : Nat) (ys zs : List Int) (w : World) (hn : n ≤ 16777216) (hB : Blk .u8 5 w G ys) (hyl : ys.length = M) (hyt : ys.take (2 * n + 70) = lent zs) (hL : Lnd w L (.slice (some ⟨G, 0, none⟩) M M) n) (hGL : L ≠ G) (hM : 2 * n + 70 ≤ M) (hM2 : M ≤ 1073741824)
    (hR : RdN (fun x => x = L ∨ x = G) w a n zs) :
    Calls Tryz.prog 62 #[.pointer (some ⟨L, 0, none⟩), .slice a n c] w fun e w' => ∃ ys', e = .returned (.bool true) ∧ Blk .u8 5 w' G ys' ∧ ys'.length = M ∧ Lnd w' L (.slice (some ⟨G, 0, none⟩) M M) n ∧ But (fun x => x = G) w w' := by
  have hzl := hR.1
  have hget : ∀ j, j < 2 * n + 70 → ys.getD j 0 = (lent zs).getD j 0 := by
    intro j hj
    rw [← hyt, List.getD_eq_getElem?_getD, List.getD_eq_getElem?_getD, List.getElem?_take_of_lt hj]
  have r1 : ∀ q, Rd w.heap.size (w.drewN q) (some ⟨G, 0, none⟩) n zs := fun q => ⟨hzl, hR.2.1, .inr ⟨G, 0, rfl, hB.lt, fun t ht => by
    have h := hB.cell t (by omega)
    rw [hget t (by omega), lent_lo (by omega)] at h
    rw [Nat.zero_add]
    exact h⟩⟩
  have e1 := fun q => conv_str (r1 q) M
  have e2 : ∀ q, (convert 23 9 (.slice a n c)).run Tryz.prog (w.drewN q) = .ok (.string (strOfNums zs)) (w.drewN q) := fun q => conv_str (hR.but ((But.refl _ w).drewN q)).rd c
  have hbuf := hL.buf
  have hnum := hL.num
  have hnM : (n : Int) ≤ (M : Int) := by omega
  have HR := hid hR
  have HG := hid hget
  clear hR hget r1
  generalize strOfNums zs = s at *
  go_enter Tryz.func62, Tryz.ntmps62
  go_wp2_with fail
  go_quiet (fail)
  go_wp2
  clear e1 e2 hbuf hnum
  go_loopw [5, 6] (fun ok i wt => ∃ j : Nat, n ≤ j ∧ j ≤ 2 * n + 70 ∧ i = .int .i64 (j : Int) ∧ ok = .bool true ∧ But (fun _ => False) w wt) (fun _ i _ => 2 * n + 70 - (intOf i).toNat)
  case atStart => exact ⟨n, Nat.le_refl _, by omega, rfl, by simp, (But.refl _ _).drewN _⟩
  case round =>
    obtain ⟨j, hj1, hj2, rfl, rfl, hbt⟩ := hrel
    have hL2 := hL.but hbt (fun h => h)
    have hnum := hL2.num
    have hbuf := hL2.buf
    by_cases hjn : j < 2 * n + 70
    · have hcell := (hB.but hbt (fun h => h)).cell j (by omega)
      rw [HG.out j hjn, lent_hi (by omega) (by omega)] at hcell
      have hk2 : (j : Int) < (M : Int) := by omega
      go_wp2_with fail
      go_quiet ((go_at_call 96; exact Calls.quiet_of_same (mark_any _ _ _ (by omega))))
      go_wp2
      go_roundw
      case rel => exact ⟨j + 1, by omega, by omega, by go_num, by simp, hbt.drewN _⟩
      case measure => simp [intOf]; omega
    · have HB := hid (hB.but hbt (fun h => h))
      have Hyl := hid hyl
      have HL := hid hL2
      have Hb := hid (hbt.mono (Y := fun x => x = G) (fun _ _ h => h.elim))
      clear hB hyl hL hL2 hbt
      go_wp2
      go_loopw [7] (fun i wt => ∃ (k : Nat) (ys' : List Int), k ≤ n ∧ i = .int .i64 (k : Int) ∧ Blk .u8 5 wt G ys' ∧ ys'.length = M ∧ Lnd wt L (.slice (some ⟨G, 0, none⟩) M M) n ∧ But (fun x => x = G) w wt) (fun i _ => n - (intOf i).toNat)
      case atStart => exact ⟨0, ys, Nat.zero_le _, rfl, HB.out, Hyl.out, HL.out, Hb.out⟩
      case round =>
        clear HB Hyl HL Hb hnum hbuf
        obtain ⟨k, ys', hk, rfl, hB, hyl, hL, hbt⟩ := hrel
        have hnum := hL.num
        have hbuf := hL.buf
        by_cases hkn : k < n
        · have hcell := hB.cell k (by omega)
          have hfr := hB.frozen k
          have hk2 : (k : Int) < (M : Int) := by omega
          have HB := hid (hB.set k 120)
          have Hyl := hid hyl
          have HL := hid (hL.setOther (p := ⟨G, k, none⟩) (by exact hGL) (.int .u8 120))
          have Hb := hid (hbt.setCell (p := ⟨G, k, none⟩) rfl (.int .u8 120))
          clear hB hyl hL hbt
          go_wp2
          go_roundw
          case rel => exact ⟨k + 1, _, by omega, by go_num, HB.out, by simpa using Hyl.out, HL.out, Hb.out⟩
          case measure => simp [intOf]; omega
        · have HB := hid hB
          have Hyl := hid hyl
          have HL := hid hL
          clear hB hyl hL
          go_wp2
          go_ret
          exact ⟨ys', rfl, HB.out, Hyl.out, HL.out, hbt⟩

end Go.Proofs.YthkkdmblkalknaaGreatDoor
/-
  Bytes of one's own that grow.
-/
namespace Go.Proofs.YthkkdmblkalknaaGreatDoor
open Go.RowKit

/-- bytes of one's own -/
def Ow (B : Nat) (w : World) (v : Value) (zs : List Int) : Prop := w.ownsRow B 5 1 v zs.length (zs.map (Value.int .u8))
/-- what growing leaves -/
structure Gr (w w' : World) (v v' : Value) : Prop where
  os : w'.os = w.os
  tape : w'.tape = w.tape
  output : w'.output = w.output
  size : w.heap.size ≤ w'.heap.size
  block : ∀ k, k < w.heap.size → some k ≠ v.ownBlock → w'.heap[k]? = w.heap[k]?
  own : v'.ownBlock = v.ownBlock ∨ ∃ g, v'.ownBlock = some g ∧ w.heap.size ≤ g
theorem Gr.refl (w : World) (v : Value) : Gr w w v v := ⟨rfl, rfl, rfl, Nat.le_refl _, fun _ _ _ => rfl, .inl rfl⟩
theorem Gr.apart {w w' : World} {v v' : Value} (h : Gr w w' v v') {k : Nat} (hk : k < w.heap.size) (hn : some k ≠ v.ownBlock) : some k ≠ v'.ownBlock := by
  rcases h.own with e | ⟨g, e, hg⟩
  · rw [e]; exact hn
  · rw [e]; intro q; simp at q; omega
theorem Gr.trans {w w' w'' : World} {v v' v'' : Value} (h : Gr w w' v v') (h2 : Gr w' w'' v' v'') : Gr w w'' v v'' where
  os := h2.os.trans h.os
  tape := h2.tape.trans h.tape
  output := h2.output.trans h.output
  size := Nat.le_trans h.size h2.size
  block k hk hn := (h2.block k (Nat.lt_of_lt_of_le hk h.size) (h.apart hk hn)).trans (h.block k hk hn)
  own := by
    rcases h2.own with e | ⟨g, e, hg⟩
    · rw [e]; exact h.own
    · exact .inr ⟨g, e, Nat.le_trans h.size hg⟩
theorem Gr.of_below {w w' : World} (v : Value) (h : Below w.heap.size w w') : Gr w w' v v := ⟨h.os, h.tape, h.output, h.size, fun k hk _ => h.block k hk, .inl rfl⟩
theorem Gr.cell {w w' : World} {v v' : Value} (h : Gr w w' v v') {a : Addr} (hk : a.block < w.heap.size) (hn : some a.block ≠ v.ownBlock) : w'.cell? a = w.cell? a := World.cell?_of_block (h.block _ hk hn)
theorem Gr.below {w w' : World} {v v' : Value} {B : Nat} (h : Gr w w' v v') (hB : B ≤ w.heap.size) (hv : ∀ g, v.ownBlock = some g → B ≤ g) : Below B w w' :=
  ⟨h.os, h.tape, h.output, h.size, fun k hk => h.block k (by omega) (fun e => by have := hv k e.symm; omega)⟩
theorem Ow.base {B : Nat} {w : World} {v : Value} {zs : List Int} (h : Ow B w v zs) : ∀ g, v.ownBlock = some g → B ≤ g := by
  intro g hg
  rcases h.2 with ⟨e, _⟩ | ⟨g', cap, cur, e, hb, _⟩
  · rw [e] at hg; simp [Value.ownBlock] at hg
  · rw [e] at hg; simp [Value.ownBlock] at hg; omega
theorem Ow.lt {B : Nat} {w : World} {v : Value} {zs : List Int} (h : Ow B w v zs) : ∀ g, v.ownBlock = some g → g < w.heap.size := by
  intro g hg
  rcases h.2 with ⟨e, _⟩ | ⟨g', cap, cur, e, hb, hh, _⟩
  · rw [e] at hg; simp [Value.ownBlock] at hg
  · rw [e] at hg; simp [Value.ownBlock] at hg; subst hg; exact (Array.getElem?_eq_some_iff.1 hh).1
theorem Ow.keep {B : Nat} {w w' : World} {v : Value} {zs : List Int} (h : Ow B w v zs) (hk : ∀ g, v.ownBlock = some g → w'.heap[g]? = w.heap[g]?) : Ow B w' v zs := by
  obtain ⟨h1, h2⟩ := h
  refine ⟨h1, ?_⟩
  rcases h2 with ⟨e, q⟩ | ⟨g', cap, cur, e, hb, hh, r⟩
  · exact .inl ⟨e, q⟩
  · exact .inr ⟨g', cap, cur, e, hb, (hk g' (by rw [e]; rfl)).trans hh, r⟩
theorem Ow.next {B : Nat} {w w' : World} {v : Value} {zs : List Int} (h : Ow B w v zs) (hb : Below w.heap.size w w') : Ow B w' v zs := h.keep fun g hg => hb.block g (h.lt g hg)
theorem Ow.nil (B : Nat) (w : World) : Ow B w (.slice none 0 0) [] := ⟨rfl, .inl ⟨rfl, rfl⟩⟩
theorem Ow.mono {B B' : Nat} {w : World} {v : Value} {zs : List Int} (h : Ow B w v zs) (hb : B' ≤ B) : Ow B' w v zs := by
  obtain ⟨h1, h2⟩ := h
  refine ⟨h1, ?_⟩
  rcases h2 with q | ⟨g', cap, cur, e, hbg, r⟩
  · exact .inl q
  · exact .inr ⟨g', cap, cur, e, by omega, r⟩
/-- read as bytes that are handed out -/
theorem Ow.rd {B : Nat} {w : World} {v : Value} {zs : List Int} (h : Ow B w v zs) (hB : Pl.isB zs) : ∃ a c, v = .slice a zs.length c ∧ zs.length ≤ c ∧ Rd w.heap.size w a zs.length zs ∧ (a = none → c = 0) := by
  have hc := fun g => World.ownsRow.cells (g := g) h
  have hlt := h.lt
  obtain ⟨h1, h2⟩ := h
  rcases h2 with ⟨rfl, q⟩ | ⟨g', cap, cur, rfl, hb, hh, r1, r2, r3, r4⟩
  · obtain rfl : zs = [] := List.eq_nil_of_length_eq_zero q
    exact ⟨none, 0, rfl, Nat.le_refl _, ⟨rfl, hB, .inl rfl⟩, fun _ => rfl⟩
  · refine ⟨some ⟨g', 0, none⟩, cap, rfl, r1, ⟨rfl, hB, .inr ⟨g', 0, rfl, hlt g' rfl, fun t ht => ?_⟩⟩, fun e => by cases e⟩
    have := hc g' rfl t (.int .u8 (zs.getD t 0)) (by simp [ht])
    rw [Addr.add_lit] at this
    exact this

theorem app_rd {B B' : Nat} {w : World} {v : Value} {zs ys : List Int} (ty : TypeId) (ho : Ow B w v zs) {a : Option Addr} {m c : Nat} (hR : Rd B' w a m ys) (hn : a = none → c = 0) (hm : m ≤ 1073741824) (hz : zs.length ≤ 1073741824) (hw : B ≤ w.heap.size) :
    ∃ v' w', (Builtin.append_ #[23, 23] ty #[v, .slice a m c]).run Tryz.prog w = .ok v' w' ∧ Ow B w' v' (zs ++ ys) ∧ Gr w w' v v' := by
  obtain ⟨i0, hi, hz0, hz1, hz2⟩ := info_parts info5
  cases a with
  | none =>
    have hm0 : m = 0 := by
      rcases hR.2.2 with h | ⟨_, _, h, _⟩
      · exact h
      · cases h
    subst hm0
    rw [hn rfl]
    obtain rfl : ys = [] := List.eq_nil_of_length_eq_zero hR.1
    exact ⟨v, w, run_append_owned_none w B 23 ty 5 i0 1 Tryz.underlying23 hi _ _ _ ho, by rw [List.append_nil]; exact ho, Gr.refl _ _⟩
  | some ad =>
    obtain ⟨v', w', hr, h2, h3, _, h5⟩ := run_append_own_at (P := Tryz.prog) w B 23 ty 5 i0 (.int .u8 0) 1 1 Tryz.underlying23 hi hz0 hz1 hz2 rfl (by decide) v zs.length (zs.map (Value.int .u8)) ho ad m c (ys.map (Value.int .u8)) (by simp [hR.1]) (fun j u hu => by
      have hj : j < ys.length := by have := (List.getElem?_eq_some_iff.1 hu).1; simpa using this
      rcases hR.2.2 with h | ⟨b, off, e, _, hc⟩
      · have := hR.1; omega
      · cases e
        rw [Addr.add_lit, hc j (by have := hR.1; omega)]
        simp [hj] at hu
        rw [← hu]
        simp [hj]) (fun u hu => by obtain ⟨z, _, rfl⟩ := List.mem_map.1 hu; rfl) (by unfold maxLen; omega) (by omega) hw
    refine ⟨v', w', hr, ?_, ⟨h3.os, h3.tape, h3.output, h3.size, h3.block, h5.elim .inl fun e => .inr ⟨_, e, Nat.le_refl _⟩⟩⟩
    unfold Ow
    rw [List.map_append, List.length_append, hR.1]
    exact h2

theorem strCells_nums (s : ByteArray) : Lib.strCells s = (s.data.toList.map fun b => (b.toNat : Int)).map (Value.int .u8) := by
  unfold Lib.strCells
  rw [List.map_map]
  rfl
theorem app_str {B : Nat} {w : World} {v : Value} {zs : List Int} (ty : TypeId) (ho : Ow B w v zs) (s : ByteArray) (hm : s.size ≤ 1073741824) (hz : zs.length ≤ 1073741824) (hw : B ≤ w.heap.size) :
    ∃ v' w', (Builtin.append_ #[23, 9] ty #[v, .string s]).run Tryz.prog w = .ok v' w' ∧ Ow B w' v' (zs ++ s.data.toList.map fun b => (b.toNat : Int)) ∧ Gr w w' v v' := by
  obtain ⟨i0, hi, hz0, hz1, hz2⟩ := info_parts info5
  obtain ⟨v', w', hr, h2, h3, h4⟩ := Lib.run_append_own_string (P := Tryz.prog) w B 23 9 ty 5 i0 Tryz.underlying23 Tryz.underlying9 hi hz0 hz1 hz2 v zs.length (zs.map (Value.int .u8)) ho s (by unfold maxLen; omega) (by omega) hw
  have h5 : v'.ownBlock = v.ownBlock ∨ ∃ g, v'.ownBlock = some g ∧ w.heap.size ≤ g := by
    rcases ho.2 with ⟨e, q⟩ | ⟨g, cap, cur, e, hb, hh, r1, r2, r3, r4⟩
    · subst e
      by_cases hs0 : s.size = 0
      · left
        rw [h4.2 ⟨rfl, hs0⟩]
      · right
        have hr2 := run_append_nil_string (P := Tryz.prog) w 23 9 ty 5 i0 (.int .u8 0) Tryz.underlying23 Tryz.underlying9 hi hz0 s (by omega) (by omega) (by rw [hz2]; omega)
        rw [hr] at hr2
        simp only [Result.ok.injEq] at hr2
        rw [hr2.1]
        exact ⟨_, rfl, Nat.le_refl _⟩
    · subst e
      by_cases hroom : zs.length + s.size ≤ cap
      · left
        have hr2 := Lib.run_append_room_string (P := Tryz.prog) w 23 9 ty 5 i0 Tryz.underlying23 Tryz.underlying9 hi hz1 g zs.length cap cur hh s hroom (by omega)
        rw [hr] at hr2
        simp only [Result.ok.injEq] at hr2
        rw [hr2.1]
        rfl
      · right
        have hr2 := Lib.run_append_grow_string (P := Tryz.prog) w 23 9 ty 5 i0 (.int .u8 0) Tryz.underlying23 Tryz.underlying9 hi hz0 ⟨g, 0, none⟩ zs.length cap (zs.map (Value.int .u8)) (by rw [hz1]; simp) (World.ownsRow.cells (g := g) ho rfl) s (by omega) (by omega) (by rw [hz2]; exact growslice_fits (by omega) (by omega))
        rw [hr] at hr2
        simp only [Result.ok.injEq] at hr2
        rw [hr2.1]
        exact ⟨_, rfl, Nat.le_refl _⟩
  refine ⟨v', w', hr, ?_, ⟨h3.os, h3.tape, h3.output, h3.size, h3.block, h5⟩⟩
  unfold Ow
  rw [List.map_append, ← strCells_nums, List.length_append, List.length_map]
  exact h2

end Go.Proofs.YthkkdmblkalknaaGreatDoor
/-
  op: forms: isWithin, slices.Index, slices.Contains, has, words.
-/
namespace Go.Proofs.YthkkdmblkalknaaGreatDoor
open Go.RowKit

set_option maxHeartbeats 400000 in
theorem within_any (n a b : Int) (w : World) : Calls Tryz.prog 63 #[.int .i64 n, .int .i64 a, .int .i64 b] w fun e w' => e = .returned (.bool (decide (a ≤ n) && decide (n ≤ b))) ∧ w' = w := by
  go_enter Tryz.func63, Tryz.ntmps63
  by_cases h1 : a ≤ n <;> by_cases h2 : n ≤ b
  all_goals go_wp2
  all_goals go_ret
  all_goals exact ⟨by simp [*], rfl⟩

set_option maxRecDepth 100000 in
set_option maxHeartbeats 1000000 in
theorem sIndex_any (b off n c : Nat) (zs : List ByteArray) (x : ByteArray) (w : World) (hz : n ≤ zs.length) (hbig : n ≤ 9223372036854775807) (hc : ∀ j, j < zs.length → w.cell? ⟨b, off + j, none⟩ = some (.string (zs.getD j ByteArray.empty))) :
    Calls Tryz.prog 98 #[.slice (some ⟨b, off, none⟩) n c, .string x] w fun e w' => e = .returned (.int .i64 (Lib.idxOfS (zs.take n) x)) ∧ w' = w := by
  go_enter Tryz.func98, Tryz.ntmps98
  go_wp2
  go_loop [5, 8] (fun _ i => ∃ k : Nat, k ≤ n ∧ i = .int .i64 k ∧ ∀ j, j < k → zs.getD j ByteArray.empty ≠ x) (fun _ i => match i with | .int _ m => n - m.toNat | _ => 0)
  case atStart => exact ⟨0, Nat.zero_le _, rfl, fun j hj => absurd hj (Nat.not_lt_zero _)⟩
  case round =>
    obtain ⟨k, hk, rfl, hne⟩ := hrel
    have hcell : k < n → w.cell? ⟨b, off + k, none⟩ = some (.string (zs.getD k ByteArray.empty)) := fun _ => hc k (by omega)
    go_wp2
    · have hlt : k < n := by assumption
      have heq : (x.toList == (zs[k]?.getD ByteArray.empty).toList) = true := by assumption
      go_ret
      refine ⟨?_, rfl⟩
      rw [Lib.idxOfS_hit zs n k x hlt hz (by simp only [List.getD]; exact ((Lib.bytes_beq_iff _ _).1 heq).symm) hne]
      rfl
    · have hlt : k < n := by assumption
      have hneq : (x.toList == (zs[k]?.getD ByteArray.empty).toList) = false := by assumption
      go_round
      case rel =>
        refine ⟨k + 1, by omega, by go_num, fun j hj => ?_⟩
        by_cases e : j = k
        · subst e
          intro he
          exact (Lib.bytes_beq_false_iff _ _).1 hneq (by simpa [List.getD] using he.symm)
        · exact hne j (by omega)
      case measure => simp; omega
    · have hge : ¬ k < n := by assumption
      have : k = n := by omega
      subst this
      go_ret
      refine ⟨?_, rfl⟩
      rw [Lib.idxOfS_miss zs k x hne]
      rfl
set_option maxRecDepth 100000 in
set_option maxHeartbeats 1000000 in
theorem sContains_any (b off n c : Nat) (zs : List ByteArray) (x : ByteArray) (w : World) (hz : n ≤ zs.length) (hbig : n ≤ 9223372036854775807) (hc : ∀ j, j < zs.length → w.cell? ⟨b, off + j, none⟩ = some (.string (zs.getD j ByteArray.empty))) :
    Calls Tryz.prog 64 #[.slice (some ⟨b, off, none⟩) n c, .string x] w fun e w' => e = .returned (.bool (Lib.containsS (zs.take n) x)) ∧ w' = w := by
  unfold Lib.containsS
  have H := hid (sIndex_any b off n c zs x w hz hbig hc)
  generalize Lib.idxOfS (zs.take n) x = r at *
  clear hc
  go_enter Tryz.func64, Tryz.ntmps64
  go_wp2_with fail
  refine Calls.mono H.out ?_
  rintro e w' ⟨rfl, rfl⟩
  go_wp2
  go_ret
  exact ⟨rfl, rfl⟩

/-- a form: four words -/
abbrev fmV (f : List ByteArray) : Value := .agg #[.string (f.getD 0 ByteArray.empty), .string (f.getD 1 ByteArray.empty), .string (f.getD 2 ByteArray.empty), .string (f.getD 3 ByteArray.empty)]
theorem cell_new {w : World} {vs : Array Value} {t : TypeId} {S : Nat} (hS : w.heap.size = S) (i : Nat) (v : Value) (h : vs[i]? = some v) : (w.alloc (.cells vs t)).cell? ⟨S, i, none⟩ = some v := by
  have e : (w.alloc (.cells vs t)).heap[S]? = some (.cells vs t) := by
    subst hS
    show (w.heap.push _)[w.heap.size]? = _
    simp
  simp [World.cell?, e, h]
theorem cell_al {w w1 : World} {cs : Array Value} {e : TypeId} (hw : w1 = w.alloc (.cells cs e)) (t : Nat) (v : Value) (hv : cs[t]? = some v) : w1.cell? ⟨w.heap.size, t, none⟩ = some v := by
  rw [hw]
  exact cell_new rfl t v hv
theorem four_cells {w W : World} {f0 f1 f2 f3 : ByteArray} (hW : W = w.alloc (.cells #[.string f0, .string f1, .string f2, .string f3] 76)) (j : Nat) (hj : j < [f0, f1, f2, f3].length) : W.cell? ⟨w.heap.size, 0 + j, none⟩ = some (.string ([f0, f1, f2, f3].getD j ByteArray.empty)) := by
  rw [Nat.zero_add]
  apply cell_al hW
  simp at hj
  match j, hj with
  | 0, _ => rfl
  | 1, _ => rfl
  | 2, _ => rfl
  | 3, _ => rfl

set_option maxRecDepth 100000 in
set_option maxHeartbeats 1000000 in
theorem has_any (f0 f1 f2 f3 x : ByteArray) (w : World) : Calls Tryz.prog 34 #[.agg #[.string f0, .string f1, .string f2, .string f3], .string x] w fun e w' => e = .returned (.bool (Lib.containsS [f0, f1, f2, f3] x)) ∧ w' = w.alloc (.cells #[.string f0, .string f1, .string f2, .string f3] 76) := by
  obtain ⟨W, hW⟩ : ∃ W, W = w.alloc (.cells #[.string f0, .string f1, .string f2, .string f3] 76) := ⟨_, rfl⟩
  have H := hid (sContains_any w.heap.size 0 4 4 [f0, f1, f2, f3] x W (Nat.le_refl _) (by decide) (four_cells hW))
  simp only [List.take_succ_cons, List.take_zero] at H
  generalize Lib.containsS [f0, f1, f2, f3] x = r at *
  rw [← hW]
  have HW := hid hW
  clear hW
  go_enter Tryz.func34, Tryz.ntmps34
  go_wp2_with fail
  rw [← HW.out]
  refine Calls.mono H.out ?_
  rintro e w' ⟨rfl, rfl⟩
  go_wp2
  go_ret
  exact ⟨rfl, rfl⟩

set_option maxRecDepth 100000 in
set_option maxHeartbeats 1000000 in
theorem words_any (f0 f1 f2 f3 : ByteArray) (w : World) (i : Int) (hi : Lib.idxOfS [f0, f1, f2, f3] ByteArray.empty = i) (n : Nat) (hn : if i < 0 then n = 4 else i = n) (hn4 : n ≤ 4) : Calls Tryz.prog 68 #[.agg #[.string f0, .string f1, .string f2, .string f3]] w fun e w' => e = .returned (.slice (some ⟨w.heap.size, 0, none⟩) n 4) ∧ w' = w.alloc (.cells #[.string f0, .string f1, .string f2, .string f3] 76) := by
  obtain ⟨W, hW⟩ : ∃ W, W = w.alloc (.cells #[.string f0, .string f1, .string f2, .string f3] 76) := ⟨_, rfl⟩
  have H := hid (sIndex_any w.heap.size 0 4 4 [f0, f1, f2, f3] ByteArray.empty W (Nat.le_refl _) (by decide) (four_cells hW))
  simp only [List.take_succ_cons, List.take_zero, hi] at H
  rw [← hW]
  have HW := hid hW
  clear hW hi
  by_cases h0 : i < 0
  · rw [if_pos h0] at hn
    subst hn
    go_enter Tryz.func68, Tryz.ntmps68
    go_wp2_with fail
    rw [← HW.out]
    refine Calls.mono H.out ?_
    rintro e w' ⟨rfl, rfl⟩
    go_wp2
    go_ret
    exact ⟨rfl, rfl⟩
  · rw [if_neg h0] at hn
    subst hn
    have q : (n : Int) ≤ 4 := by omega
    go_enter Tryz.func68, Tryz.ntmps68
    go_wp2_with fail
    rw [← HW.out]
    refine Calls.mono H.out ?_
    rintro e w' ⟨rfl, rfl⟩
    go_wp2
    go_ret
    exact ⟨rfl, rfl⟩

end Go.Proofs.YthkkdmblkalknaaGreatDoor
/-
  Names: catalog.IsName, the document's Named.
-/
namespace Go.Proofs.YthkkdmblkalknaaGreatDoor
open Go.RowKit

def isLow (z : Int) : Bool := (decide (97 ≤ z) && decide (z ≤ 122)) || decide (z = 126)
def isSign (z : Int) : Bool := isLow z || ((decide (48 ≤ z) && decide (z ≤ 57)) || decide (z = 46) || decide (z = 45) || decide (z = 95) || decide (z = 64))
def nmd (l : List Int) : Bool := decide (1 ≤ l.length) && decide (l.length ≤ 31) && isLow (l.getD 0 0) && l.all isSign

theorem lows_ok : ∀ n : Fin 256, (#[97, 98, 99, 100, 101, 102, 103, 104, 105, 106, 107, 108, 109, 110, 111, 112, 113, 114, 115, 116, 117, 118, 119, 120, 121, 122, 126] : Array UInt8).toList.contains (UInt8.ofNat n.val) = isLow (n.val : Int) := by decide +kernel
theorem signs_ok : ∀ n : Fin 256, (#[97, 98, 99, 100, 101, 102, 103, 104, 105, 106, 107, 108, 109, 110, 111, 112, 113, 114, 115, 116, 117, 118, 119, 120, 121, 122, 126, 48, 49, 50, 51, 52, 53, 54, 55, 56, 57, 46, 45, 95, 64] : Array UInt8).toList.contains (UInt8.ofNat n.val) = isSign (n.val : Int) := by decide +kernel
theorem lowB (z : Int) (h0 : 0 ≤ z) (h1 : z < 256) : decide (0 ≤ Lib.indexByte (#[97, 98, 99, 100, 101, 102, 103, 104, 105, 106, 107, 108, 109, 110, 111, 112, 113, 114, 115, 116, 117, 118, 119, 120, 121, 122, 126] : Array UInt8).toList z.toNat.toUInt8) = isLow z := by
  obtain ⟨n, rfl⟩ := Int.eq_ofNat_of_zero_le h0
  rw [← Lib.contains_iff_indexByte]
  exact lows_ok ⟨n, by omega⟩
theorem signB (z : Int) (h0 : 0 ≤ z) (h1 : z < 256) : decide (0 ≤ Lib.indexByte (#[97, 98, 99, 100, 101, 102, 103, 104, 105, 106, 107, 108, 109, 110, 111, 112, 113, 114, 115, 116, 117, 118, 119, 120, 121, 122, 126, 48, 49, 50, 51, 52, 53, 54, 55, 56, 57, 46, 45, 95, 64] : Array UInt8).toList z.toNat.toUInt8) = isSign z := by
  obtain ⟨n, rfl⟩ := Int.eq_ofNat_of_zero_le h0
  rw [← Lib.contains_iff_indexByte]
  exact signs_ok ⟨n, by omega⟩

set_option maxHeartbeats 1000000 in
set_option maxRecDepth 100000 in
theorem ibyte_any (s : ByteArray) (c : Int) (w : World) : Calls Tryz.prog 100 #[.string s, .int .u8 c] w fun e w' => e = .returned (.int .i64 (Lib.indexByte s.data.toList c.toNat.toUInt8)) ∧ w' = w := by
  go_enter Tryz.func100, Tryz.ntmps100
  go_wp2
  rw [run_callFunc_extern Tryz.func123 (by kernel_rfl) (by kernel_rfl) (by kernel_rfl) (e := Extern.BytealgIndexByte.indexByte) (by kernel_rfl), Lib.run_indexByteString]
  simp only [Result.andThen]
  rw [Oper.upon_value]
  go_wp2
  go_ret
  exact ⟨rfl, rfl⟩
set_option maxHeartbeats 1000000 in
theorem IndexByte_any (s : ByteArray) (c : Int) (w : World) : Calls Tryz.prog 66 #[.string s, .int .u8 c] w fun e w' => e = .returned (.int .i64 (Lib.indexByte s.data.toList c.toNat.toUInt8)) ∧ w' = w := by
  have H := hid (ibyte_any s c w)
  generalize Lib.indexByte s.data.toList c.toNat.toUInt8 = r at *
  go_enter Tryz.func66, Tryz.ntmps66
  go_wp2_with fail
  refine Calls.mono H.out ?_
  rintro e w' ⟨rfl, rfl⟩
  go_wp2
  go_ret
  exact ⟨rfl, rfl⟩

theorem str_size (l : List Int) : (strOfNums l).size = l.length := strOfNums_size l
theorem str_index (l : List Int) (hb : Pl.isB l) (i : Nat) (hi : i < l.length) (u : World) : (Instr.index 9 (.string (strOfNums l)) (.int .i64 (i : Int))).run Tryz.prog u = .ok (.int .u8 (l.getD i 0)) u := by
  rw [run_index_string u 9 _ .i64 _ Tryz.underlying9, dif_pos ⟨by omega, by rw [str_size]; omega⟩]
  have h := hb (l[i]'hi) (List.getElem_mem hi)
  have e : (strOfNums l)[((i : Int)).toNat]'(by rw [str_size]; omega) = UInt8.ofNat (l[i]'hi).toNat := by
    show ((l.map fun n => UInt8.ofNat n.toNat).toArray)[((i : Int)).toNat]'_ = _
    simp
  rw [e]
  simp [hi]
  omega
theorem str_get (l : List Int) (hb : Pl.isB l) (i : Nat) (hi : i < l.length) (h : i < (strOfNums l).size) : ((((strOfNums l)[i]'h).toNat : Nat) : Int) = l.getD i 0 := by
  have e : (strOfNums l)[i]'h = UInt8.ofNat (l[i]'hi).toNat := by
    show ((l.map fun n => UInt8.ofNat n.toNat).toArray)[i]'(by simpa using hi) = _
    simp
  have h := hb (l[i]'hi) (List.getElem_mem hi)
  rw [e]
  simp [hi]
  omega
theorem str_one (l : List Int) (hl : 1 ≤ l.length) (u : World) : (Instr.slice 9 (.string (strOfNums l)) none (some (.int .i64 1)) none).run Tryz.prog u = .ok (.string (strOfNums [l.getD 0 0])) u := by
  rw [run_slice_string_to_if u 9 _ .i64 _ Tryz.underlying9, if_pos ⟨by decide, by rw [str_size]; omega⟩]
  cases l with
  | nil => simp at hl
  | cons z r =>
    congr 2
    apply ByteArray.ext
    simp [strOfNums]

set_option maxHeartbeats 1000000 in
set_option maxRecDepth 100000 in
theorem Contains_any (z : Int) (h0 : 0 ≤ z) (h1 : z < 256) (w : World) : Calls Tryz.prog 65 #[.string { data := #[97, 98, 99, 100, 101, 102, 103, 104, 105, 106, 107, 108, 109, 110, 111, 112, 113, 114, 115, 116, 117, 118, 119, 120, 121, 122, 126] }, .string (strOfNums [z])] w fun e w' => e = .returned (.bool (isLow z)) ∧ w' = w := by
  have hb : Pl.isB [z] := by intro x hx; simp at hx; subst hx; exact ⟨h0, h1⟩
  have hsz := str_size [z]
  have hix := str_get [z] hb 0 (by simp)
  have hne : ((strOfNums [z]).toList == ([97, 98, 99, 100, 101, 102, 103, 104, 105, 106, 107, 108, 109, 110, 111, 112, 113, 114, 115, 116, 117, 118, 119, 120, 121, 122, 126] : List UInt8)) = false := by rw [Lib.strOfNums_toList]; simp [Lib.bytesOf]
  have hL := lowB z h0 h1
  have HI := hid (ibyte_any { data := #[97, 98, 99, 100, 101, 102, 103, 104, 105, 106, 107, 108, 109, 110, 111, 112, 113, 114, 115, 116, 117, 118, 119, 120, 121, 122, 126] } z w)
  simp only [List.getD_cons_zero, List.length_cons, List.length_nil, Nat.zero_add] at hix hsz
  clear hb
  generalize strOfNums [z] = T at *
  have HX : Hid (Calls Tryz.prog 122 #[.string { data := #[97, 98, 99, 100, 101, 102, 103, 104, 105, 106, 107, 108, 109, 110, 111, 112, 113, 114, 115, 116, 117, 118, 119, 120, 121, 122, 126] }, .string T] w fun e w' => e = .returned (.int .i64 (Lib.indexByte (#[97, 98, 99, 100, 101, 102, 103, 104, 105, 106, 107, 108, 109, 110, 111, 112, 113, 114, 115, 116, 117, 118, 119, 120, 121, 122, 126] : Array UInt8).toList z.toNat.toUInt8)) ∧ w' = w) := by
    clear hL
    generalize Lib.indexByte (#[97, 98, 99, 100, 101, 102, 103, 104, 105, 106, 107, 108, 109, 110, 111, 112, 113, 114, 115, 116, 117, 118, 119, 120, 121, 122, 126] : Array UInt8).toList z.toNat.toUInt8 = r at *
    have HIX := hid hix
    clear hix
    go_enter Tryz.func122, Tryz.ntmps122
    go_wp2_with fail
    rw [HIX.out]
    refine Calls.mono HI.out ?_
    rintro e w' ⟨rfl, rfl⟩
    go_wp2
    go_ret
    exact ⟨rfl, rfl⟩
  clear HI hix hsz hne
  generalize Lib.indexByte (#[97, 98, 99, 100, 101, 102, 103, 104, 105, 106, 107, 108, 109, 110, 111, 112, 113, 114, 115, 116, 117, 118, 119, 120, 121, 122, 126] : Array UInt8).toList z.toNat.toUInt8 = r at *
  have HY : Hid (Calls Tryz.prog 99 #[.string { data := #[97, 98, 99, 100, 101, 102, 103, 104, 105, 106, 107, 108, 109, 110, 111, 112, 113, 114, 115, 116, 117, 118, 119, 120, 121, 122, 126] }, .string T] w fun e w' => e = .returned (.int .i64 r) ∧ w' = w) := by
    go_enter Tryz.func99, Tryz.ntmps99
    go_wp2_with fail
    refine Calls.mono HX.out ?_
    rintro e w' ⟨rfl, rfl⟩
    go_wp2
    go_ret
    exact ⟨rfl, rfl⟩
  rw [← hL]
  clear HX hL
  go_enter Tryz.func65, Tryz.ntmps65
  go_wp2_with fail
  refine Calls.mono HY.out ?_
  rintro e w' ⟨rfl, rfl⟩
  go_wp2
  all_goals go_ret
  all_goals exact ⟨by simp [*], rfl⟩

theorem isSign_low {z : Int} (h : isLow z = true) : isSign z = true := by unfold isSign; rw [h]; rfl
theorem nmd_no {l : List Int} {i : Nat} (hi : i < l.length) (h : isSign (l.getD i 0) = false) : nmd l = false := by
  unfold nmd
  have : l.all isSign = false := by
    rw [List.all_eq_false]
    rw [List.getD_eq_getElem?_getD, List.getElem?_eq_getElem hi] at h
    exact ⟨l[i], List.getElem_mem hi, by simpa using h⟩
  rw [this]
  simp
set_option maxRecDepth 100000 in
set_option maxHeartbeats 2000000 in
theorem IsName_any (l : List Int) (hb : Pl.isB l) (hl : l.length ≤ 16777216) (w : World) : Calls Tryz.prog 35 #[.string (strOfNums l)] w fun e w' => e = .returned (.bool (nmd l)) ∧ w' = w := by
  have hsz := str_size l
  by_cases q0 : l.length < 1
  · have e : nmd l = false := by unfold nmd; simp [show ¬ 1 ≤ l.length from by omega]
    rw [e]
    generalize strOfNums l = S at *
    go_enter Tryz.func35, Tryz.ntmps35
    go_wp2
    go_ret
    exact ⟨rfl, rfl⟩
  by_cases q1 : 31 < l.length
  · have e : nmd l = false := by unfold nmd; simp [show ¬ l.length ≤ 31 from by omega]
    rw [e]
    generalize strOfNums l = S at *
    go_enter Tryz.func35, Tryz.ntmps35
    go_wp2
    go_ret
    exact ⟨rfl, rfl⟩
  have hz := Pl.isB_getD hb 0
  rw [← List.getD_eq_getElem?_getD] at hz
  have h1 := str_one l (by omega)
  have HC := hid (Contains_any (l.getD 0 0) hz.1 hz.2 w)
  have HX := hid (fun i hi h => str_get l hb i hi h)
  have HB := hid hb
  generalize hS : strOfNums l = S at *
  have HS := hid hS
  clear hS
  by_cases q2 : isLow (l.getD 0 0) = true
  · rw [q2] at HC
    generalize strOfNums [l.getD 0 0] = T at *
    clear hz hb
    go_enter Tryz.func35, Tryz.ntmps35
    go_wp2_with fail
    refine Calls.mono HC.out ?_
    rintro e w' ⟨rfl, rfl⟩
    clear HC h1
    go_wp2_with fail
    go_loop [20] (fun i => ∃ k : Nat, k ≤ l.length ∧ i = .int .i64 (k : Int) ∧ ∀ j, j < k → isSign (l.getD j 0) = true) (fun i => l.length - (intOf i).toNat)
    case atStart => exact ⟨0, Nat.zero_le _, rfl, fun j hj => by omega⟩
    case round =>
      obtain ⟨k, hk, rfl, hall⟩ := hrel
      by_cases hkn : k < l.length
      · have hix := HX.out k hkn
        have hzb := Pl.isB_getD HB.out k
        rw [← List.getD_eq_getElem?_getD] at hzb
        have HI := hid (IndexByte_any { data := #[97, 98, 99, 100, 101, 102, 103, 104, 105, 106, 107, 108, 109, 110, 111, 112, 113, 114, 115, 116, 117, 118, 119, 120, 121, 122, 126, 48, 49, 50, 51, 52, 53, 54, 55, 56, 57, 46, 45, 95, 64] } (l.getD k 0) w')
        have hsg := signB (l.getD k 0) hzb.1 hzb.2
        have HA := hid hall
        have HG : Hid (isSign (l.getD k 0) = isSign (l.getD k 0)) := hid rfl
        clear hall hzb
        generalize hr : Lib.indexByte (#[97, 98, 99, 100, 101, 102, 103, 104, 105, 106, 107, 108, 109, 110, 111, 112, 113, 114, 115, 116, 117, 118, 119, 120, 121, 122, 126, 48, 49, 50, 51, 52, 53, 54, 55, 56, 57, 46, 45, 95, 64] : Array UInt8).toList (l.getD k 0).toNat.toUInt8 = r at *
        have HR := hid hsg
        clear hr hsg HG
        generalize hzz : l.getD k 0 = z at *
        have HZ := hid hzz
        clear hzz
        have HIX := hid hix
        clear hix
        go_wp2_with fail
        rw [HIX.out]
        refine Calls.mono HI.out ?_
        rintro e w2 ⟨rfl, rfl⟩
        clear HI HIX
        by_cases hr0 : r < 0
        · have q3 : isSign z = false := by rw [← HR.out]; simp; omega
          go_wp2
          go_ret
          refine ⟨?_, rfl⟩
          rw [nmd_no hkn (by rw [HZ.out]; exact q3)]
          rfl
        · go_wp2
          go_round
          case rel => exact ⟨k + 1, by omega, by go_num, fun j hj => by
            by_cases hjk : j < k
            · exact HA.out j hjk
            · obtain rfl : j = k := by omega
              rw [HZ.out, ← HR.out]; simp; omega⟩
          case measure => simp [intOf]; omega
      · go_wp2
        go_ret
        refine ⟨?_, rfl⟩
        have ha : l.all isSign = true := by
          rw [List.all_eq_true]
          intro x hx
          obtain ⟨i, hi, rfl⟩ := List.getElem_of_mem hx
          have := hall i (by omega)
          rw [List.getD_eq_getElem?_getD, List.getElem?_eq_getElem hi] at this
          exact this
        have e : nmd l = true := by
          unfold nmd
          rw [ha, q2]
          simp
          omega
        rw [e]
        rfl
  · simp only [Bool.not_eq_true] at q2
    rw [q2] at HC
    have e : nmd l = false := by unfold nmd; rw [q2]; simp
    rw [e]
    generalize strOfNums [l.getD 0 0] = T at *
    clear hz hb
    go_enter Tryz.func35, Tryz.ntmps35
    go_wp2_with fail
    refine Calls.mono HC.out ?_
    rintro e w' ⟨rfl, rfl⟩
    go_wp2
    go_ret
    exact ⟨rfl, rfl⟩

end Go.Proofs.YthkkdmblkalknaaGreatDoor
