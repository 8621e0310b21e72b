/-
  stream: how many blocks of data.
-/
import Derived.Test.YtahaehjmnafhbaaCt1
namespace Go.Proofs.Ytahaehjmnafhbaa
open Go.RowKit

set_option maxRecDepth 100000 in
theorem meth98 (s : String) (hs : s = (((Try.prog.info? 98).bind fun i => i.methods.find? fun r => (r.func.map (fun x => x.1)) == some 70).map (fun r => r.name)).getD default) (v : Value) (w : World) : Sem.run Try.prog (method 303 98 v s) w = .ok (70, v) w := by
  subst hs
  kernel_rfl
set_option maxRecDepth 100000 in
theorem meth100 (s : String) (hs : s = (((Try.prog.info? 100).bind fun i => i.methods.find? fun r => (r.func.map (fun x => x.1)) == some 73).map (fun r => r.name)).getD default) (v : Value) (w : World) : Sem.run Try.prog (method 303 100 v s) w = .ok (73, v) w := by
  subst hs
  kernel_rfl
def blk1 (r : Rn) : Int := if r.1 = 1 then r.2.2 - r.2.1 else 0
def blkN (l : List Rn) : Int := (l.map blk1).sum
theorem blkN_snoc (l : List Rn) (r : Rn) : blkN (l ++ [r]) = blkN l + blk1 r := by simp [blkN]
set_option maxRecDepth 100000 in
set_option maxHeartbeats 1000000 in
theorem dblocks_any (f t : Int) (v : Value) (hv : ∃ T x, v = .iface T x) (h0 : 0 ≤ f) (h1 : f ≤ t) (h2 : t ≤ 262144) (w : World) : Calls Try.prog 70 #[.agg #[.int .i64 f, .int .i64 t, v]] w fun e w' => e = .returned (.int .i64 (t - f)) ∧ Below w.heap.size w w' := by
  obtain ⟨T, x, rfl⟩ := hv
  have hb := hid ((Below.refl w.heap.size w).alloc (Nat.le_refl _) (.cells #[.int .i64 f, .int .i64 t, .iface T x] 98))
  go_enter Try.func70, Try.ntmps70
  go_wp2
  go_ret
  exact ⟨rfl, hb.out⟩
set_option maxRecDepth 100000 in
set_option maxHeartbeats 1000000 in
theorem gblocks_any (f t : Int) (w : World) : Calls Try.prog 73 #[.agg #[.int .i64 f, .int .i64 t]] w fun e w' => e = .returned (.int .i64 0) ∧ Below w.heap.size w w' := by
  have hb := hid ((Below.refl w.heap.size w).alloc (Nat.le_refl _) (.cells #[.int .i64 f, .int .i64 t] 100))
  go_enter Try.func73, Try.ntmps73
  go_wp2
  go_ret
  exact ⟨rfl, hb.out⟩
theorem blkN_bd {l : List Rn} (hl : ∀ r ∈ l, 0 ≤ r.2.1 ∧ r.2.1 ≤ r.2.2 ∧ r.2.2 ≤ 262144) : 0 ≤ blkN l ∧ blkN l ≤ 262144 * (l.length : Int) := by
  induction l with
  | nil => simp [blkN]
  | cons r l ih =>
    have h := hl r (by simp)
    have i := ih (fun r' h' => hl r' (by simp [h']))
    have e : blkN (r :: l) = blk1 r + blkN l := by simp [blkN]
    have b : 0 ≤ blk1 r ∧ blk1 r ≤ 262144 := by unfold blk1; split <;> omega
    rw [e]
    simp only [List.length_cons, Int.natCast_add, Int.natCast_one]
    omega

set_option maxRecDepth 100000 in
set_option maxHeartbeats 2000000 in
theorem blocks_any {B : Nat} {w : World} {ra : Option Addr} {rc : Nat} {l : List Rn} {vals : List Value} (S1 S2 : ByteArray) (sz sm : Int) (hrow : w.ownsRow B 58 1 (.slice ra l.length rc) l.length vals) (hV : RunsV vals l) (hl : ∀ r ∈ l, 0 ≤ r.2.1 ∧ r.2.1 ≤ r.2.2 ∧ r.2.2 ≤ 262144) (hn : l.length < 4294967296) :
    Calls Try.prog 11 #[.agg #[.string S1, .int .i64 sz, .string S2, .int .u32 sm, .slice ra l.length rc]] w fun e w' => e = .returned (.int .i64 (blkN l)) ∧ Below w.heap.size w w' := by
  obtain ⟨W, hW⟩ : ∃ W, W = w.alloc (.cells #[.string S1, .int .i64 sz, .string S2, .int .u32 sm, .slice ra l.length rc] 39) := ⟨_, rfl⟩
  have hb : Below w.heap.size w W := by rw [hW]; exact (Below.refl _ _).alloc (Nat.le_refl _) _
  have HB := hid hb
  have HW := hid hW
  have HV := hid hV
  have HL := hid hl
  have HR := hid hrow
  clear hW hb hV hl hrow
  go_enter Try.func11, Try.ntmps11
  go_wp2_with fail
  rw [← HW.out]
  go_loopw [3, 9] (fun cv iv wt => ∃ q : Nat, q ≤ l.length ∧ iv = .int .i64 (q : Int) ∧ cv = .int .i64 (blkN (l.take q)) ∧ Below w.heap.size w wt) (fun _ iv _ => l.length - (intOf iv).toNat)
  case atStart => exact ⟨0, Nat.zero_le _, rfl, rfl, HB.out⟩
  case round =>
    clear HB HW
    obtain ⟨q, hq, rfl, rfl, hbt⟩ := hrel
    by_cases hqn : q < l.length
    · have hqn' : (q : Int) < (l.length : Int) := by omega
      have htk : l.take (q + 1) = l.take q ++ [l[q]] := List.take_succ_eq_append_getElem hqn
      have hvl := HV.out.1
      have hqv : q < vals.length := by omega
      have hRV := HV.out.2 q _ _ (List.getElem?_eq_getElem hqv) (List.getElem?_eq_getElem hqn)
      have hbd := HL.out l[q] (List.getElem_mem hqn)
      have hb0 := blkN_bd (l := l.take q) (fun r hr => HL.out r (List.mem_of_mem_take hr))
      have hlt : (l.take q).length = q := by simp; omega
      rw [hlt] at hb0
      have hnx : blkN (l.take (q + 1)) = blkN (l.take q) + blk1 l[q] := by rw [htk, blkN_snoc]
      obtain ⟨g, hg, hcell⟩ : ∃ g, ra = some ⟨g, 0, none⟩ ∧ wr.cell? ⟨g, q, none⟩ = some vals[q] := by
        rcases HR.out.2 with ⟨z, _⟩ | ⟨g, cap, cur, e1, _⟩
        · simp at z; omega
        · simp at e1
          have hrow := HR.out
          rw [e1.1] at hrow
          have hlt2 := (World.ownsRow.lt hrow g rfl).2
          have := World.ownsRow.cellAt hrow q (by omega)
          refine ⟨g, e1.1, ?_⟩
          rw [hbt.cell (p := ⟨g, q, none⟩) hlt2, this]
          simp [hqv]
      have HNX := hid hnx
      have HBT := hid hbt
      generalize blkN (l.take q) = S at *
      generalize vals[q] = vq at *
      generalize hrq : l[q] = r at *
      have h50 : S ≤ 1125899906842624 := by omega
      have h51 : 0 ≤ S := hb0.1
      clear htk hvl hqv hb0 hnx hrq hbt HV HL HR
      subst hg
      rcases hRV with ⟨k1, a9, n9, c9, rfl⟩ | ⟨k2, rfl⟩
      · have HD := hid (dblocks_any r.2.1 r.2.2 (.iface 94 (.slice a9 n9 c9)) ⟨_, _, rfl⟩ hbd.1 hbd.2.1 hbd.2.2 wr)
        have hb1 : blk1 r = r.2.2 - r.2.1 := by unfold blk1; rw [if_pos k1]
        have HB1 := hid hb1
        have hw1 : 0 ≤ r.2.2 - r.2.1 := by omega
        have hw2 : r.2.2 - r.2.1 ≤ 262144 := by omega
        clear hb1 k1 hbd
        generalize r.2.1 = f at *
        generalize r.2.2 = t at *
        generalize hd : t - f = d at *
        clear hd
        go_wp2_with (rw [meth98]; rotate_left; kernel_rfl)
        refine Calls.mono HD.out ?_
        rintro e w2 ⟨rfl, b2⟩
        have B2 := hid b2
        clear b2 HD
        go_wp2
        go_roundw
        case rel => exact ⟨q + 1, by omega, by go_num, by rw [HNX.out, HB1.out], HBT.out.trans (B2.out.mono HBT.out.size)⟩
        case measure => simp [intOf]; omega
      · have HD := hid (gblocks_any r.2.1 r.2.2 wr)
        have hb1 : blk1 r = 0 := by unfold blk1; rw [if_neg (by omega)]
        have HB1 := hid hb1
        clear hb1 k2 hbd
        go_wp2_with (rw [meth100]; rotate_left; kernel_rfl)
        refine Calls.mono HD.out ?_
        rintro e w2 ⟨rfl, b2⟩
        have B2 := hid b2
        clear b2 HD
        go_wp2
        go_roundw
        case rel => exact ⟨q + 1, by omega, by go_num, by rw [HNX.out, HB1.out, Int.add_zero], HBT.out.trans (B2.out.mono HBT.out.size)⟩
        case measure => simp [intOf]; omega
    · have hqe : q = l.length := by omega
      have hqn' : ¬ (q : Int) < (l.length : Int) := by omega
      rw [hqe, List.take_length]
      go_wp2
      go_ret
      exact ⟨rfl, hbt⟩

end Go.Proofs.Ytahaehjmnafhbaa
