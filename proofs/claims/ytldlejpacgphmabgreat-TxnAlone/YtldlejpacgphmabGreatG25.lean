import Derived.Test.YtldlejpacgphmabGreatG24
import Derived.Test.YtldlejpacgphmabGreatG21
import Derived.Test.YtldlejpacgphmabGreatG02
import Derived.Test.YtldlejpacgphmabGreatG18
import Derived.Test.YtldlejpacgphmabGreatG00
import Derived.Test.YtldlejpacgphmabGreatG07
import Derived.Deep.QuietTactic
import Derived.BigQuiet
import Derived.Laws.Rows
namespace Go.Proofs.YtldlejpacgphmabGreat
open Go.RowKit Go.Deep
theorem puts_rd {Zw Z : Nat → Prop} {w w3 : World} {g cp N : Nat} {qs : List Pm} (hrow : w3.ownsRow w.heap.size 97 2 (.slice (some ⟨g, 0, none⟩) N cp) N (pmCells qs)) (hq : ∀ p ∈ qs, PutOf Zw w p) {Y : Nat → Prop} (hb : But Y w w3) (hY : ∀ k, k < w.heap.size → Zw k → ¬ Y k) (hZ : ∀ k, k < w.heap.size → Zw k → ¬ Z k) (hZg : ¬ Z g) : RdP Z w3 (some ⟨g, 0, none⟩) qs := by
 refine ⟨fun p hp => ?_, .inr ⟨g, 0, rfl, (World.ownsRow.lt hrow g rfl).2, hZg, fun t p hp => ?_⟩⟩
 ·obtain ⟨b, e1, e2, e3, e4, e5⟩ := hq p hp
  rw [e1, e5]
  exact (e3.keep (hb.block b e3.lt (hY b e3.lt e2))).rdn e4 (hZ b e3.lt e2)
 ·have hc := World.ownsRow.cells hrow (g := g) rfl
  obtain ⟨r1, r2⟩ := pmCells_get qs t p hp
  have s1 := hc _ _ r1
  have s2 := hc _ _ r2
  rw [Addr.add_lit] at s1 s2
  exact ⟨s1, s2⟩
def CmP (Z Zw : Nat → Prop) (w : World) (j c p room nb K fr bl : Nat) (d : Pd) (s : Js) (L : Nat → Option (List Int)) (t st : Nat) (e : Ending) (w' : World) : Prop :=
 ∃ w3, Txb w3 t j .nilIface st (.pointer none) ∧ Stb w3 st j (.pointer none) ∧ But (fun k => k = st ∨ k = t) w w3 ∧
  ((homeKeys nb L = [] ∧ e = .returned (.int .i64 0) ∧ w' = w3) ∨ (homeKeys nb L ≠ [] ∧ ∃ qs, qs.map Pm.say = (homeKeys nb L).map (fun (y : Nat) => ((y : Int), (L y).getD [])) ∧ (∀ p ∈ qs, PutOf Zw w p) ∧ AppP (fun k => Z k ∧ k < w.heap.size) w3 j c p room nb K fr bl d s qs e w'))
set_option maxRecDepth 100000 in
set_option maxHeartbeats 1000000 in
theorem commit_any {Z Zw : Nat → Prop} {w : World} {x j c p room nb K fr bl m n : Nat} {D : DataW (Nat × Nat × Int)} {a : Nat → Option (Nat × Nat × Int)} {sv mv : Value} {L : Nat → Option (List Int)} {d : Pd} {s : Js} (h : Jq Z w j c p room nb K fr bl d s) (hj : Jn nb fr bl s) (hW : Wq Zw w x j m n nb fr bl D a sv mv L) (hZ : ∀ k, k < w.heap.size → Zw k → ¬ Z k) (hon : d.off = false) (hl : d.puts.length + nb + bl + bl + 16 ≤ 1073741823) (hnb : nb ≤ 524288) {t st : Nat} (ht : Txb w t j (.iface 143 (.pointer (some ⟨x, 0, none⟩))) st (.pointer (some ⟨x, 0, none⟩))) (hs : Stb w st j (.pointer (some ⟨t, 0, none⟩))) (hne : st ≠ t) (hZt : ¬ Z t) (hZs : ¬ Z st) (hwt : ¬ Zw t) (hws : ¬ Zw st) :
  Calls Tryz.prog 31 #[.pointer (some ⟨t, 0, none⟩)] w (CmP Z Zw w j c p room nb K fr bl d s L t st) := by
 obtain ⟨PO, hPO⟩ : ∃ PO : Ending → World → Prop, PO = CmP Z Zw w j c p room nb K fr bl d s L t st := ⟨_, rfl⟩
 rw [← hPO]
 have HA := hid (task_open h hon ht hs)
 have HT : Hid (∀ w1, Below w.heap.size w w1 → w1.cell? ⟨t, 3, none⟩ = some (.pointer (some ⟨x, 0, none⟩))) := fun w1 b => (b.cell (p := ⟨t, 3, none⟩) ht.lt).trans (ht.cell 3)
 have HPu : Hid (∀ w1, Below w.heap.size w w1 → Calls Tryz.prog 89 #[.pointer (some ⟨x, 0, none⟩)] w1 fun e w' => ∃ g cp qs, e = .returned (.slice (some ⟨g, 0, none⟩) (homeKeys nb L).length cp) ∧ w1.heap.size ≤ g ∧ g < w'.heap.size ∧ qs.map Pm.say = (homeKeys nb L).map (fun (y : Nat) => ((y : Int), (L y).getD [])) ∧ w'.ownsRow w1.heap.size 97 2 (.slice (some ⟨g, 0, none⟩) (homeKeys nb L).length cp) (homeKeys nb L).length (pmCells qs) ∧ (∀ p ∈ qs, PutOf (fun k => Zw k ∧ k < w.heap.size) w1 p) ∧ Below w1.heap.size w1 w') := fun w1 b => by
  refine puts_any (sv := sv) (mv := mv) (x := x) (j := j) (m := m) (n := n) (nb := nb) (fr := fr) (bl := bl) (D := D) (a := a) (L := L) ?_ hnb
  exact ⟨(hW.keep (w' := w1) (fun k _ hk => b.block k hk)).blk, (hW.keep (w' := w1) (fun k _ hk => b.block k hk)).mp, hW.am, fun y g cp k e => by
   obtain ⟨zs, q1, q2, q3, q4, q5⟩ := hW.dat y g cp k e
   exact ⟨zs, q1, q2.keep (b.block g q2.lt), q3, q4, q5, q2.lt⟩, hW.non, ⟨hW.zx, hW.lt⟩, ⟨hW.zm, hW.mp.lt⟩⟩
 have HE : Hid (∀ w2, Below w.heap.size w w2 → Calls Tryz.prog 88 #[.pointer (some ⟨t, 0, none⟩)] w2 fun e w' => e = .returned (.tuple #[]) ∧ Txb w' t j .nilIface st (.pointer none) ∧ Stb w' st j (.pointer none) ∧ But (fun k => k = st ∨ k = t) w2 w') := fun w2 b => end_any (ht.keep (b.block t ht.lt)) (hs.keep (b.block st hs.lt)) hne
 have HF0 : Hid (∀ w3, Txb w3 t j .nilIface st (.pointer none) → Stb w3 st j (.pointer none) → But (fun k => k = st ∨ k = t) w w3 → homeKeys nb L = [] → PO (.returned (.int .i64 0)) w3) := fun w3 q1 q2 q3 q4 => by
  rw [hPO]; exact ⟨w3, q1, q2, q3, .inl ⟨q4, rfl, rfl⟩⟩
 have HF1 : Hid (∀ w1 w2 w3 g cp qs, Below w.heap.size w w1 → Below w1.heap.size w1 w2 → But (fun k => k = st ∨ k = t) w2 w3 → Txb w3 t j .nilIface st (.pointer none) → Stb w3 st j (.pointer none) → w1.heap.size ≤ g → w2.ownsRow w1.heap.size 97 2 (.slice (some ⟨g, 0, none⟩) (homeKeys nb L).length cp) (homeKeys nb L).length (pmCells qs) → qs.map Pm.say = (homeKeys nb L).map (fun (y : Nat) => ((y : Int), (L y).getD [])) → (∀ p ∈ qs, PutOf (fun k => Zw k ∧ k < w.heap.size) w1 p) → homeKeys nb L ≠ [] → Calls Tryz.prog 17 #[.pointer (some ⟨j, 0, none⟩), .slice (some ⟨g, 0, none⟩) (homeKeys nb L).length cp] w3 fun e w' => (∃ code, e = .returned (.int .i64 code)) ∧ PO e w') := fun w1 w2 w3 g cp qs b1 b2 b3 q1 q2 q3 q4 q5 q6 q7 => by
  have s1 := b1.size
  have s2 := b2.size
  have stl := hs.lt
  have ttl := ht.lt
  have q6' : ∀ p ∈ qs, PutOf Zw w p := fun p hp => by
   obtain ⟨b, e1, e2, e3, e4, e5⟩ := q6 p hp
   exact ⟨b, e1, e2.1, e3.keep (b1.block b e2.2).symm, e4, e5⟩
  have q4' : w3.ownsRow w1.heap.size 97 2 (.slice (some ⟨g, 0, none⟩) (homeKeys nb L).length cp) (homeKeys nb L).length (pmCells qs) := owns_keep q4 (fun k e => b3.block k (World.ownsRow.lt q4 k e).2 (fun e2 => by
   have := (World.ownsRow.lt q4 k e).1
   rcases e2 with e2 | e2 <;> omega))
  have bb : But (fun k => k = st ∨ k = t) w w3 := (But.of_below (b1.trans (b2.mono s1)) (X := fun k => k = st ∨ k = t)).comp b3 (fun _ _ q => q)
  have bb1 : But (fun k => k = st ∨ k = t) w1 w3 := (But.of_below b2 (X := fun k => k = st ∨ k = t)).comp b3 (fun _ _ q => q)
  have hlen : qs.length = (homeKeys nb L).length := by
   have := congrArg List.length q5
   simpa using this
  have hkl := length_homeKeys nb L
  have hrd : RdP (fun k => Z k ∧ k < w.heap.size) w3 (some ⟨g, 0, none⟩) qs := puts_rd (w := w1) q4' q6 bb1 (fun k hk e e2 => e2.elim (fun q => hws (q ▸ e.1)) (fun q => hwt (q ▸ e.1))) (fun k hk e e2 => hZ k e.2 e.1 e2.1) (fun e => by omega)
  have hA := Append_on (h.cut.but bb (fun k hk e e2 => e2.elim (fun q => hZs (q ▸ e.1)) (fun q => hZt (q ▸ e.1)))) hj hon (some ⟨g, 0, none⟩) cp qs hrd (by omega) hl
  rw [hlen] at hA
  refine Calls.mono hA ?_
  intro e w' r
  refine ⟨?_, ?_⟩
  ·by_cases hc : appC nb fr bl d s qs = 0
   ·exact ⟨_, (r.1 hc).1⟩
   ·exact ⟨_, (r.2 hc).1⟩
  rw [hPO]
  exact ⟨w3, q1, q2, bb, .inr ⟨q7, qs, q5, q6', r⟩⟩
 clear h hj hW hZ hs ht hPO hZt hZs hwt hws
 go_enter Tryz.func31, Tryz.ntmps31
 go_wp2_with fail
 refine Calls.mono HA.out ?_
 rintro e w1 ⟨rfl, b1⟩
 have B1 := hid b1
 have k3 := HT.out w1 b1
 have HP1 := hid (HPu.out w1 b1)
 clear b1 HA HT HPu
 go_wp2_with fail
 refine Calls.mono HP1.out ?_
 rintro e w2 ⟨g, cp, qs, rfl, hg, hgl, hq, hrow, hqs, b2⟩
 have B2 := hid b2
 have HE2 := hid (HE.out w2 (B1.out.trans (b2.mono B1.out.size)))
 have HQ := hid (And.intro hg (And.intro hq (And.intro hrow hqs)))
 clear HP1 HE hg hgl hq hrow hqs b2 k3
 go_wp2_with fail
 refine Calls.mono HE2.out ?_
 rintro e w3 ⟨rfl, ht3, hs3, b3⟩
 have k0 := ht3.cell 0
 simp at k0
 have hkl := length_homeKeys nb L
 by_cases hk : homeKeys nb L = []
 ·have FIN := hid (HF0.out w3 ht3 hs3 ((But.of_below (B1.out.trans (B2.out.mono B1.out.size)) (X := fun k => k = st ∨ k = t)).comp b3 (fun _ _ q => q)) hk)
  have hN : (homeKeys nb L).length = 0 := by rw [hk]; rfl
  clear HF0 HF1 HQ b3 HE2 ht3 hs3 B1 B2 hk
  generalize (homeKeys nb L).length = N at *
  subst hN
  go_wp2
  exact FIN.out
 ·have HC := hid (HF1.out w1 w2 w3 g cp qs B1.out B2.out b3 ht3 hs3 HQ.out.1 HQ.out.2.2.1 HQ.out.2.1 HQ.out.2.2.2 hk)
  have hN : 0 < (homeKeys nb L).length := List.length_pos_iff.2 hk
  clear HF0 HF1 HQ b3 HE2 ht3 hs3 B1 B2 hk
  generalize (homeKeys nb L).length = N at *
  have hN' : ¬ (N : Int) = 0 := by omega
  go_wp2_with fail
  refine Calls.mono HC.out ?_
  rintro e w4 ⟨⟨code, rfl⟩, r⟩
  have FIN := hid r
  clear r HC
  go_wp2
  exact FIN.out
open Go.RowKit Go.Deep
theorem isB_zeros' (n : Nat) : Pl.isB (zeros n) := fun z hz => by
 have := List.eq_of_mem_replicate hz
 omega
set_option maxRecDepth 100000 in
set_option maxHeartbeats 1000000 in
theorem dnew_any (nb : Nat) (lo : 1 ≤ nb) (hi : nb ≤ 524288) (w : World) :
  Calls Tryz.prog 130 #[.int .i64 (nb : Int)] w fun e w' => ∃ p, e = .returned (.tuple #[.pointer (some ⟨p, 0, none⟩), .int .i64 0]) ∧ w.heap.size ≤ p ∧ Dk (fun x => w.heap.size ≤ x) w' p (zeros (512 * nb)) [] (-1) false nb ∧ Below w.heap.size w w' := by
 obtain ⟨PO, hPO⟩ : ∃ PO : Ending → World → Prop, PO = fun e w' => ∃ p, e = .returned (.tuple #[.pointer (some ⟨p, 0, none⟩), .int .i64 0]) ∧ w.heap.size ≤ p ∧ Dk (fun x => w.heap.size ≤ x) w' p (zeros (512 * nb)) [] (-1) false nb ∧ Below w.heap.size w w' := ⟨_, rfl⟩
 rw [← hPO]
 have hmk : (Instr.makeSlice 22 (.int .i64 ((nb : Int) * 512)) (.int .i64 ((nb : Int) * 512))).run Tryz.prog w = .ok (.slice (some ⟨w.heap.size, 0, none⟩) (512 * nb) (512 * nb)) (w.alloc (.cells ((zeros (512 * nb)).map (Value.int .u8)).toArray 5)) := by
  have := make_u8 (512 * nb) (by omega) w
  rw [show ((512 * nb : Nat) : Int) = (nb : Int) * 512 by omega] at this
  exact this
 have HD : Hid (Calls Tryz.prog 97 #[.slice (some ⟨w.heap.size, 0, none⟩) (512 * nb) (512 * nb)] (w.alloc (.cells ((zeros (512 * nb)).map (Value.int .u8)).toArray 5)) fun e w' => ∃ p, e = .returned (.pointer (some ⟨p, 0, none⟩)) ∧ PO (.returned (.tuple #[.pointer (some ⟨p, 0, none⟩), .int .i64 0])) w') := by
  have ho : Own (w.alloc (.cells ((zeros (512 * nb)).map (Value.int .u8)).toArray 5)) w.heap.size (512 * nb) (512 * nb) (zeros (512 * nb)) := Own.of_blk (Array.getElem?_push_size) (by simp [zeros]) (by unfold maxLen; omega)
  refine Calls.mono (diskOf_any ho (isB_zeros' _) lo hi) ?_
  rintro e w' ⟨p, rfl, h1, h2, h3⟩
  refine ⟨p, rfl, ?_⟩
  rw [hPO]
  have s1 : (w.alloc (.cells ((zeros (512 * nb)).map (Value.int .u8)).toArray 5)).heap.size = w.heap.size + 1 := by simp
  exact ⟨p, rfl, by omega, h2.mono (fun k q => by rcases q with q | q <;> omega), ((Below.refl w.heap.size w).alloc (Nat.le_refl _) _).trans (h3.mono (by omega))⟩
 have hn1 : ¬ (nb : Int) < 1 := by omega
 have hn2 : ¬ (524288 : Int) < (nb : Int) := by omega
 clear hPO
 go_enter Tryz.func130, Tryz.ntmps130
 go_wp2_with fail
 refine Calls.mono HD.out ?_
 rintro e w1 ⟨p, rfl, q⟩
 have FIN := hid q
 clear q HD
 go_wp2
 exact FIN.out
set_option maxRecDepth 100000 in
theorem topen_any {Z : Nat → Prop} {w : World} {j c p room nb K fr bl : Nat} {d : Pd} {s : Js} (h : Jq Z w j c p room nb K fr bl d s) (hon : d.off = false) :
  Calls Tryz.prog 131 #[.pointer (some ⟨j, 0, none⟩)] w fun e w' => ∃ st, e = .returned (.tuple #[.pointer (some ⟨st, 0, none⟩), .int .i64 0]) ∧ w.heap.size ≤ st ∧ Stb w' st j (.pointer none) ∧ Below w.heap.size w w' := by
 obtain ⟨PO, hPO⟩ : ∃ PO : Ending → World → Prop, PO = fun e w' => ∃ st, e = .returned (.tuple #[.pointer (some ⟨st, 0, none⟩), .int .i64 0]) ∧ w.heap.size ≤ st ∧ Stb w' st j (.pointer none) ∧ Below w.heap.size w w' := ⟨_, rfl⟩
 rw [← hPO]
 obtain ⟨w1, hw1⟩ : ∃ w1, w1 = w.alloc (.cells #[.pointer (some ⟨j, 0, none⟩), .iface 44 (.pointer (some ⟨j, 0, none⟩)), .pointer none] 142) := ⟨_, rfl⟩
 have b1 : Below w.heap.size w w1 := by rw [hw1]; exact (Below.refl _ _).alloc (Nat.le_refl _) _
 have s1 : Stb w1 w.heap.size j (.pointer none) := by rw [hw1]; exact Array.getElem?_push_size
 have HA : Hid (Calls Tryz.prog 84 #[.pointer (some ⟨w.heap.size, 0, none⟩)] w1 fun e w' => e = .returned (.int .i64 0) ∧ PO (.returned (.tuple #[.pointer (some ⟨w.heap.size, 0, none⟩), .int .i64 0])) w') := by
  have hA := sask_any (h.below b1) s1
  rw [hon] at hA
  refine Calls.mono hA ?_
  rintro e w' ⟨rfl, b2⟩
  refine ⟨rfl, ?_⟩
  rw [hPO]
  exact ⟨w.heap.size, rfl, Nat.le_refl _, s1.keep (b2.block _ s1.lt), b1.trans (b2.mono b1.size)⟩
 have HW : Hid (w1 = w.alloc (.cells #[.pointer (some ⟨j, 0, none⟩), .iface 44 (.pointer (some ⟨j, 0, none⟩)), .pointer none] 142)) := hw1
 clear h hPO b1 s1 hw1
 go_enter Tryz.func131, Tryz.ntmps131
 go_wp2_with fail
 rw [← HW.out]
 refine Calls.mono HA.out ?_
 rintro e w2 ⟨rfl, q⟩
 have FIN := hid q
 clear q HA HW
 go_wp2
 exact FIN.out
open Go.RowKit
open Go.RowKit
structure Wb (w : World) (wb p c : Nat) (jv : Value) (g : Nat) (room lasted : Int) (off trying : Bool) (tried tl td : Value) : Prop where
 blk : w.heap[wb]? = some (.cells #[.pointer (some ⟨p, 0, none⟩), .pointer (some ⟨c, 0, none⟩), jv, .pointer (some ⟨g, 0, none⟩), .int .i64 room, .int .i64 lasted, .bool off, .bool trying, tried, tl, td] 50 (0, 0))
theorem Wb.frozen {w : World} {wb p c : Nat} {jv : Value} {g : Nat} {room lasted : Int} {off trying : Bool} {tried tl td : Value} (h : Wb w wb p c jv g room lasted off trying tried tl td) (t : Nat) : w.frozen? ⟨wb, t, none⟩ = false := by simp [World.frozen?, h.blk]
open Go.RowKit
open Go.RowKit
theorem Cq.new {w2 w3 : World} {B c p room nb : Nat} {I : List Int} {fu : Int} (hD : Dk (fun x => B ≤ x) w2 p I [] fu false nb) (hC : Cst (fun k => w2.heap.size ≤ k) w3 c p room 0 0 []) (hb : Below w2.heap.size w2 w3) (hB : B ≤ w2.heap.size) : Cq (fun k => B ≤ k ∧ k < w3.heap.size) w3 c p room nb 0 ⟨I, [], fu, false⟩ := by
 refine ⟨fun k => B ≤ k ∧ k < w2.heap.size, fun k => w2.heap.size ≤ k ∧ k < w3.heap.size, 0, 0, [], ⟨hC.cut, hD.cut.keep (fun k _ hk => hb.block k hk), fun k q q' => by omega⟩, fun k q => ⟨q.1, Nat.lt_of_lt_of_le q.2 hb.size⟩, fun k q => ⟨by omega, q.2⟩, fun k q => q.2, Good.nil _ _ _, ⟨by omega, by omega⟩, ⟨by omega, by omega⟩⟩
open Go.RowKit
open Go.RowKit
open Go.RowKit
/-! ### the lender -/
def mk (i : Nat) : Int := (203 - 5 * (i : Int)) % 256
open Go.RowKit
open Go.RowKit
abbrev Ln := Nat × Option Nat
def Ln.has (l : Ln) (k : Nat) : Prop := k = l.1 ∨ l.2 = some k
open Go.RowKit
open Go.RowKit
open Go.RowKit
open Go.RowKit
open Go.RowKit
open Go.RowKit
open Go.RowKit
open Go.RowKit
variable {X0 : Nat → Prop}
theorem On.us {d : Pd} {s : Js} {nb fr bl lo : Nat} {home : Nat → List Int} {Us : List (List Pm)} (h : On d s nb fr bl lo home (plainT Us)) (hlo : 16 ≤ bl) (hfit : fr + bl ≤ nb) (hnb : nb ≤ 524288) : s.seq = Us.length ∧ Us.length ≤ 1099511627776 := by
 have h1 := h.sq
 have h2 := (h.jn hlo hfit hnb).seq
 have h3 : (plainT Us).length = Us.length := by simp [plainT]
 exact ⟨by omega, by omega⟩
open Go.RowKit
variable {X0 : Nat → Prop}
open Go.RowKit
variable {X0 : Nat → Prop}
open Go.RowKit
variable {X0 : Nat → Prop}
open Go.RowKit
variable {X0 : Nat → Prop}
theorem OpenP.anew {Z : Nat → Prop} {w : World} {c p room nb K f b : Nat} {d : Pd} {s : Js} {lo : Nat} {home : Nat → List Int} {Ts : List Tn} {e : Ending} {w' : World} (H : OpenP Z w c p room nb K d (f : Int) (b : Int) e w') (h : On d s nb f b lo home Ts) (hfu : d.fu = -1) (hf : d.Fits nb) (hlo : 16 ≤ b) (hfit : f + b ≤ nb) (hnb : nb ≤ 524288) :
  But Z w w' ∧ ∃ j Z' d' s', e = .returned (.tuple #[.pointer (some ⟨j, 0, none⟩), .int .i64 0]) ∧ w.heap.size ≤ j ∧ Gr Z Z' w ∧ d'.fu = -1 ∧ Jq Z' w' j c p room nb K f b d' s' ∧ On d' s' nb f b Ts.length home Ts := by
 have hset := h.settle hf hlo hfit hnb
 obtain ⟨q, base, ts, k, hn⟩ := h.nm
 obtain ⟨h1, h2, h3⟩ := hn.again hnb hfit
 obtain ⟨b1, jv, code, rfl, kk⟩ := H
 have hlc : layC d nb (f : Int) (b : Int) = 0 := by
  unfold layC
  rw [h.on, if_neg (by simp)]
  exact placeC_ok hlo hfit hnb
 refine ⟨b1, ?_⟩
 rcases kk with ⟨k1, _⟩ | ⟨_, f', b', ef, eb, _, _, kk⟩
 ·exact absurd hlc k1
 ·have ef' : f' = f := by omega
  have eb' : b' = b := by omega
  subst ef' eb'
  rcases kk with ⟨_, _, k | ⟨l', q', k1, k2⟩, _⟩ | ⟨l', q', k1, k2, k3, Z', k4, k5⟩
  ·rw [h1] at k; cases k
  ·rw [h1] at k1
   cases k1
   rw [h2] at k2
   exact absurd h3 k2
  ·rw [h1] at k1
   cases k1
   rw [h2] at k3 k5
   obtain ⟨f1, _, f3⟩ := Pd.runs_free h.on hfu (settleCmds nb f' b' s)
   rcases k5 with ⟨k6, _⟩ | ⟨k6, j, k7, k8, k9⟩
   ·exact absurd (k3.trans f1) k6
   ·subst k6 k7
    exact ⟨j, Z', _, _, rfl, k8, k4, f3, k9, (hset.1 f1).1⟩
open Go.RowKit Go.Deep
theorem right_any (a b c : Int) (w : World) : Calls Tryz.prog 24 #[.agg #[.int .i64 a, .int .i64 b, .int .i64 c]] w fun e w' => e = .returned (.agg #[.int .i64 (into 10 a : Int), .int .i64 (16 + (into 16 b : Int)), .int .i64 (1 + (into 9 c : Int))]) ∧ Below w.heap.size w w' := by
 have e1 : (bits .and .i64 a 4611686018427387903).tmod 10 = (into 10 a : Int) := into_eq 10 a
 have e2 : (bits .and .i64 b 4611686018427387903).tmod 16 = (into 16 b : Int) := into_eq 16 b
 have e3 : (bits .and .i64 c 4611686018427387903).tmod 9 = (into 9 c : Int) := into_eq 9 c
 have l1 := into_lt a (show 0 < 10 by decide)
 have l2 := into_lt b (show 0 < 16 by decide)
 have l3 := into_lt c (show 0 < 9 by decide)
 have p1 := and62_pos a
 have p2 := and62_pos b
 have p3 := and62_pos c
 go_enter Tryz.func24, Tryz.ntmps24
 go_wp2
 (try simp only [Exit.inBlock, Exit.then])
 refine bodyPost_ret (results_cell_row rfl _ _ (w.heap.size + 1) 65 #[.int .i64 (into 10 a : Int), .int .i64 (16 + (into 16 b : Int)), .int .i64 (1 + (into 9 c : Int))] (0, 0) _ rfl (heap_alloc2_new _ _ _) Tryz.underlying65 rfl (by kernel_rfl)) rfl ?_
 exact ⟨rfl, ((Below.refl w.heap.size w).alloc (Nat.le_refl _) _).alloc (by simp) _⟩
theorem Cq.new' {w2 w3 : World} {Z : Nat → Prop} {c p room nb : Nat} {d : Pd} (hD : Dk Z w2 p d.img d.puts d.fu d.off nb) (hC : Cst (fun k => w2.heap.size ≤ k) w3 c p room 0 0 []) (hb : Below w2.heap.size w2 w3) : Cq (fun k => (Z k ∨ w2.heap.size ≤ k) ∧ k < w3.heap.size) w3 c p room nb 0 d := by
 refine ⟨fun k => Z k ∧ k < w2.heap.size, fun k => w2.heap.size ≤ k ∧ k < w3.heap.size, 0, 0, [], ⟨hC.cut, hD.cut.keep (fun k _ hk => hb.block k hk), fun k q q' => by omega⟩, fun k q => ⟨.inl q.1, Nat.lt_of_lt_of_le q.2 hb.size⟩, fun k q => ⟨.inr q.1, q.2⟩, fun k q => q.2, Good.nil _ _ _, ⟨by omega, by omega⟩, ⟨by omega, by omega⟩⟩
set_option maxRecDepth 100000 in
set_option maxHeartbeats 2000000 in
theorem laid_any (fr bl re nb : Nat) (hnbe : nb = fr + bl + re) (hlo : 16 ≤ bl) (hnb : nb ≤ 524288) (w : World) :
  Calls Tryz.prog 79 #[.agg #[.int .i64 (fr : Int), .int .i64 (bl : Int), .int .i64 (re : Int)]] w fun e w' => ∃ p d, e = .returned (.tuple #[.pointer (some ⟨p, 0, none⟩), .bool true]) ∧ (∃ Z, Dk Z w' p d.img d.puts d.fu d.off nb ∧ ∀ k, Z k → w.heap.size ≤ k ∧ k < w'.heap.size) ∧ d.Fits nb ∧ d.fu = -1 ∧ On d (beginS noS) nb fr bl 0 (⟨zeros (512 * nb), [], -1, false⟩ : Pd).read [] ∧ Below w.heap.size w w' := by
 obtain ⟨PO, hPO⟩ : ∃ PO : Ending → World → Prop, PO = fun e w' => ∃ p d, e = .returned (.tuple #[.pointer (some ⟨p, 0, none⟩), .bool true]) ∧ (∃ Z, Dk Z w' p d.img d.puts d.fu d.off nb ∧ ∀ k, Z k → w.heap.size ≤ k ∧ k < w'.heap.size) ∧ d.Fits nb ∧ d.fu = -1 ∧ On d (beginS noS) nb fr bl 0 (⟨zeros (512 * nb), [], -1, false⟩ : Pd).read [] ∧ Below w.heap.size w w' := ⟨_, rfl⟩
 rw [← hPO]
 obtain ⟨w0, hw0⟩ : ∃ w0, w0 = w.alloc (.cells #[.int .i64 (fr : Int), .int .i64 (bl : Int), .int .i64 (re : Int)] 65) := ⟨_, rfl⟩
 have b0 : Below w.heap.size w w0 := by rw [hw0]; exact (Below.refl _ _).alloc (Nat.le_refl _) _
 have z0 : w0.heap.size = w.heap.size + 1 := by rw [hw0]; simp
 have hblk : w0.heap[w.heap.size]? = some (.cells #[.int .i64 (fr : Int), .int .i64 (bl : Int), .int .i64 (re : Int)] 65 (0, 0)) := by rw [hw0]; exact Array.getElem?_push_size
 have HC : Hid (∀ w', Below w0.heap.size w0 w' → w'.cell? ⟨w.heap.size, 0, none⟩ = some (.int .i64 (fr : Int)) ∧ w'.cell? ⟨w.heap.size, 1, none⟩ = some (.int .i64 (bl : Int)) ∧ w'.cell? ⟨w.heap.size, 2, none⟩ = some (.int .i64 (re : Int))) := fun w' b => by
  have hb := (b.block w.heap.size (by omega)).trans hblk
  exact ⟨by simp [World.cell?, hb], by simp [World.cell?, hb], by simp [World.cell?, hb]⟩
 have c0 := HC.out w0 (Below.refl _ _)
 obtain ⟨c00, c01, c02⟩ := c0
 have HN := hid (dnew_any nb (by omega) hnb w0)
 rw [show ((nb : Nat) : Int) = (fr : Int) + (bl : Int) + (re : Int) by omega] at HN
 have HW : Hid (w.alloc (.cells #[.int .i64 (fr : Int), .int .i64 (bl : Int), .int .i64 (re : Int)] 65) = w0) := hw0.symm
 have HF : Hid (∀ w1 w2 p c, Below w0.heap.size w0 w1 → Dk (fun x => w0.heap.size ≤ x) w1 p (zeros (512 * nb)) [] (-1) false nb → Below w1.heap.size w1 w2 → Cst (fun k => w1.heap.size ≤ k) w2 c p 4 0 0 [] → Calls Tryz.prog 21 #[.pointer (some ⟨c, 0, none⟩), .int .i64 (fr : Int), .int .i64 (bl : Int)] w2 fun e w' => e = .returned (.int .i64 0) ∧ PO (.returned (.tuple #[.pointer (some ⟨p, 0, none⟩), .bool true])) w') := fun w1 w2 p c b1 hD b2 hCs => by
  have s1 := b1.size
  have s2 := b2.size
  have hq := Cq.new hD hCs b2 s1
  have hft := hq.fits
  have hfit : fr + bl ≤ nb := by omega
  refine Calls.mono (Format_any hq (fr : Int) (bl : Int) (by simp only [List.length_nil]; omega)) ?_
  rintro e w4 ⟨code, d', rfl, ⟨Z', q1, q2⟩, b4, hcase⟩
  have hlc : layC ⟨zeros (512 * nb), [], -1, false⟩ nb (fr : Int) (bl : Int) = 0 := by
   unfold layC
   rw [if_neg (by simp)]
   exact placeC_ok hlo hfit hnb
  rcases hcase with ⟨k1, _⟩ | ⟨_, f', b', ef, eb, _, _, hrun⟩
  ·exact absurd hlc k1
  ·have ef' : f' = fr := by omega
   have eb' : b' = bl := by omega
   subst ef' eb'
   obtain ⟨f1, _, f3⟩ := Pd.runs_free (d := ⟨zeros (512 * nb), [], -1, false⟩) rfl rfl (formatCmds f' b')
   have hon := format_on hlo hfit hft.1 rfl f1
   rw [hrun] at f1 f3 hon
   simp only at f1 f3 hon
   subst f1
   refine ⟨rfl, ?_⟩
   rw [hPO]
   have B2 : Below w.heap.size w w2 := b0.trans ((b1.trans (b2.mono s1)).mono (by omega))
   refine ⟨p, d', rfl, ⟨_, q1.dk.cut, fun k q => ⟨?_, q.2⟩⟩, q1.fits.1, f3, hon, ((But.of_below B2 (X := fun k => w.heap.size ≤ k)).comp b4 (fun k hk q => by omega)).below (Nat.le_refl _) (fun k hk q => by omega)⟩
   rcases Nat.lt_or_ge k w.heap.size with hk | hk
   ·have := (q2 k (by omega) q.1).1
    omega
   ·exact hk
 clear hPO hw0 b0 hblk
 go_enter Tryz.func79, Tryz.ntmps79
 go_wp2_with fail
 rw [HW.out]
 go_wp2_with fail
 refine Calls.mono HN.out ?_
 rintro e w1 ⟨p, rfl, hp, hD, b1⟩
 have HF1 : Hid (∀ w2 c, Below w1.heap.size w1 w2 → Cst (fun k => w1.heap.size ≤ k) w2 c p 4 0 0 [] → Calls Tryz.prog 21 #[.pointer (some ⟨c, 0, none⟩), .int .i64 (fr : Int), .int .i64 (bl : Int)] w2 fun e w' => e = .returned (.int .i64 0) ∧ PO (.returned (.tuple #[.pointer (some ⟨p, 0, none⟩), .bool true])) w') := fun w2 c b2 hCs => HF.out w1 w2 p c b1 hD b2 hCs
 have HC1 : Hid (∀ w', Below w1.heap.size w1 w' → w'.cell? ⟨w.heap.size, 0, none⟩ = some (.int .i64 (fr : Int)) ∧ w'.cell? ⟨w.heap.size, 1, none⟩ = some (.int .i64 (bl : Int))) := fun w' b => by
  obtain ⟨r1, r2, _⟩ := HC.out w' (b1.trans (b.mono b1.size))
  exact ⟨r1, r2⟩
 clear HN HF HC hD b1 hp c00 c01 c02 HW
 go_wp2_with fail
 refine Calls.mono (CNew_ok (w := w1) p 4 (by omega) (by omega)) ?_
 rintro e w2 ⟨c, rfl, hc, hCs, b2⟩
 have HF2 := hid (HF1.out w2 c b2 hCs)
 obtain ⟨d0, d1⟩ := HC1.out w2 b2
 clear HF1 HC1 hc hCs b2
 go_wp2_with fail
 refine Calls.mono HF2.out ?_
 rintro e w3 ⟨rfl, q⟩
 have FIN := hid q
 clear q HF2
 go_wp2
 exact FIN.out
open Go.RowKit Go.Deep
def StP (Z : Nat → Prop) (w : World) (p nb fr bl : Nat) (home : Nat → List Int) (Ts : List Tn) (e : Ending) (w' : World) : Prop :=
 ∃ st j c Z' d' s', e = .returned (.tuple #[.pointer (some ⟨st, 0, none⟩), .int .i64 0]) ∧ w.heap.size ≤ st ∧ Jq Z' w' j c p 4 nb 0 fr bl d' s' ∧ d'.fu = -1 ∧ On d' s' nb fr bl Ts.length home Ts ∧ Stb w' st j (.pointer none) ∧ ¬ Z' st ∧ (∀ k, Z' k → (Z k ∨ w.heap.size ≤ k) ∧ k < w'.heap.size) ∧ But Z w w'
set_option maxRecDepth 100000 in
set_option maxHeartbeats 2000000 in
theorem stands_any {Z : Nat → Prop} {w : World} {p nb fr bl lo : Nat} {d : Pd} {s : Js} {home : Nat → List Int} {Ts : List Tn} (hD : Dk Z w p d.img d.puts d.fu d.off nb) (hon : On d s nb fr bl lo home Ts) (hfu : d.fu = -1) (hf : d.Fits nb) (hlo : 16 ≤ bl) (hfit : fr + bl ≤ nb) (hnb : nb ≤ 524288) (re : Int) :
  Calls Tryz.prog 80 #[.pointer (some ⟨p, 0, none⟩), .agg #[.int .i64 (fr : Int), .int .i64 (bl : Int), .int .i64 re]] w (StP Z w p nb fr bl home Ts) := by
 obtain ⟨PO, hPO⟩ : ∃ PO : Ending → World → Prop, PO = StP Z w p nb fr bl home Ts := ⟨_, rfl⟩
 rw [← hPO]
 obtain ⟨w0, hw0⟩ : ∃ w0, w0 = w.alloc (.cells #[.int .i64 (fr : Int), .int .i64 (bl : Int), .int .i64 re] 65) := ⟨_, rfl⟩
 have b0 : Below w.heap.size w w0 := by rw [hw0]; exact (Below.refl _ _).alloc (Nat.le_refl _) _
 have z0 : w0.heap.size = w.heap.size + 1 := by rw [hw0]; simp
 have hblk : w0.heap[w.heap.size]? = some (.cells #[.int .i64 (fr : Int), .int .i64 (bl : Int), .int .i64 re] 65 (0, 0)) := by rw [hw0]; exact Array.getElem?_push_size
 have HC : Hid (∀ w', Below w0.heap.size w0 w' → w'.cell? ⟨w.heap.size, 0, none⟩ = some (.int .i64 (fr : Int)) ∧ w'.cell? ⟨w.heap.size, 1, none⟩ = some (.int .i64 (bl : Int))) := fun w' b => by
  have hb := (b.block w.heap.size (by omega)).trans hblk
  exact ⟨by simp [World.cell?, hb], by simp [World.cell?, hb]⟩
 have HW : Hid (w.alloc (.cells #[.int .i64 (fr : Int), .int .i64 (bl : Int), .int .i64 re] 65) = w0) := hw0.symm
 have HF : Hid (∀ w1 c, Below w0.heap.size w0 w1 → Cst (fun k => w0.heap.size ≤ k) w1 c p 4 0 0 [] → Calls Tryz.prog 20 #[.pointer (some ⟨c, 0, none⟩), .int .i64 (fr : Int), .int .i64 (bl : Int)] w1 fun e w2 => ∃ j, e = .returned (.tuple #[.pointer (some ⟨j, 0, none⟩), .int .i64 0]) ∧ Calls Tryz.prog 131 #[.pointer (some ⟨j, 0, none⟩)] w2 fun e w' => ∃ st, e = .returned (.tuple #[.pointer (some ⟨st, 0, none⟩), .int .i64 0]) ∧ PO e w') := fun w1 c b1 hCs => by
  have s1 := b1.size
  have hD0 : Dk (fun k => Z k ∧ k < w.heap.size) w0 p d.img d.puts d.fu d.off nb := hD.cut.keep (fun k q hk => b0.block k q.2)
  have hq := Cq.new' hD0 hCs b1
  have hpl := hon.puts hlo hfit hnb
  refine Calls.mono (Open_any hq (fr : Int) (bl : Int) (by omega)) ?_
  intro e w2 hO
  obtain ⟨b2, j, Z2, d2, s2, rfl, hj2, g2, fu2, J2, on2⟩ := OpenP.anew hO hon hfu hf hlo hfit hnb
  have q2 := b2.size
  refine ⟨j, rfl, ?_⟩
  refine Calls.mono (topen_any J2.cut on2.on) ?_
  rintro e w3 ⟨st, rfl, h1, h2, h3⟩
  refine ⟨st, rfl, ?_⟩
  rw [hPO]
  have q3 := h3.size
  have B1 : Below w.heap.size w w1 := b0.trans (b1.mono (by omega))
  have bb : But Z w w2 := (But.of_below B1 (X := Z)).comp b2 (fun k hk q => by
   rcases q.1 with q | q
   ·exact q.1
   ·omega)
  refine ⟨st, j, c, fun k => Z2 k ∧ k < w2.heap.size, d2, s2, rfl, by omega, J2.cut.below h3, fu2, on2, h2, (fun e => by omega), fun k q => ⟨?_, by omega⟩, bb.comp (But.of_below h3 (X := fun _ => False)) (fun _ _ q => q.elim)⟩
  rcases Nat.lt_or_ge k w.heap.size with hk | hk
  ·have := (g2 k (by omega) q.1).1
   rcases this with r | r
   ·exact .inl r.1
   ·omega
  ·exact .inr hk
 clear hPO hw0 b0 hblk hD hon hfu hf
 go_enter Tryz.func80, Tryz.ntmps80
 go_wp2_with fail
 rw [HW.out]
 refine Calls.mono (CNew_ok (w := w0) p 4 (by omega) (by omega)) ?_
 rintro e w1 ⟨c, rfl, hc, hCs, b1⟩
 have HF1 := hid (HF.out w1 c b1 hCs)
 obtain ⟨d0, d1⟩ := HC.out w1 b1
 clear HF HC hc hCs b1 HW
 go_wp2_with fail
 refine Calls.mono HF1.out ?_
 rintro e w2 ⟨j, rfl, hT⟩
 have HT := hid hT
 clear hT HF1
 go_wp2_with fail
 refine Calls.mono HT.out ?_
 rintro e w3 ⟨st, rfl, q⟩
 have FIN := hid q
 clear q HT
 go_wp2
 exact FIN.out
end Go.Proofs.YtldlejpacgphmabGreat
