/-
  Circled.
-/
import Derived.Test.YtajnokkmpjdliaaCi4
import Derived.Test.YtajnokkmpjdliaaRf7
namespace Go.Proofs.Ytajnokkmpjdliaa
open Go.RowKit

theorem remL (k L : Nat) : Int.tmod (k : Int) (L : Int) = ((k % L : Nat) : Int) := by
  rw [Int.tmod_eq_emod_of_nonneg (by omega), Int.natCast_emod]
theorem wr64 (b : Nat) (h : b ≤ 2097152) : wrap64 (b : Int) = (b : Int) := w64 _ (by omega)
theorem mea_i {i m : Nat} (h : i + 1 ≤ m) : m - (intOf (.int .i64 ((i : Int) + 1))).toNat < m - (intOf (.int .i64 (i : Int))).toNat := by
  simp only [intOf]
  omega
def CdQ (w : World) (e : Ending) (w' : World) : Prop := e = .returned (.bool true) ∧ Below w.heap.size w w'

set_option maxRecDepth 100000 in
set_option maxHeartbeats 8000000 in
theorem circled_ring (n m c L cl : Nat) (a al : Option Addr) (E : List (Nat × Nat)) (l : List Nat) (hm : m ≤ 1048576) (hn : n ≤ 524288) (w : World) (hO : Calls Try.prog 18 #[.int .i64 (n : Int), .slice a m c] w fun e w' => ∃ a0 c0 n0, e = .returned (.tuple #[.slice a0 n0 c0, .int .i64 241]) ∧ Below w.heap.size w w') (hR : RdE w a m E) (hE : EdOk n E) (hl : RdN w al L l) (hr : Ring n E l) :
    Calls Try.prog 11 #[.int .i64 (n : Int), .slice a m c, .slice al L cl, .int .i64 0] w (CdQ w) := by
  obtain ⟨PO, hPO⟩ : ∃ PO, PO = CdQ w := ⟨_, rfl⟩
  rw [← hPO]
  have HPO := hid hPO
  obtain ⟨B, hB⟩ : ∃ B, B = w.heap.size := ⟨_, rfl⟩
  have HB := hid hB
  have HR : Hid (∀ W, Below B w W → RdE W a m E) := fun W hb => hR.next (by rw [← hB]; exact hb)
  have HLs : Hid (∀ W, Below B w W → RdN W al L l) := fun W hb => hl.next (by rw [← hB]; exact hb)
  have HE := hid hE
  have HEl : Hid (E.length = m) := hR.1
  have HLl : Hid (l.length = L) := hl.1
  have HM := hid hm
  have HN := hid hn
  have HRg := hid hr
  have hL0 : 0 < L := by rw [← hl.1]; exact hr.ne
  have HLn : Hid (L ≤ n ∧ 0 < L) := ⟨by rw [← hl.1]; exact hr.le, hL0⟩
  have HO := hid hO
  have hmk := fun u => make_i64 n (by omega) u
  have hmb := fun u => make_b L (by have := HLn.out; omega) u
  clear hPO hB hR hE hl hm hn hr hO hL0
  go_enter Try.func11, Try.ntmps11
  go_wp2_with fail
  go_at_call 18
  refine Calls.mono HO.out ?_
  rintro e w1 ⟨a0, c0, n0, rfl, hb1⟩
  rw [← HB.out] at hb1
  obtain ⟨w2, hw2⟩ : ∃ w2, w2 = w1.alloc (.cells ((zeros n).map (Value.int .i64)).toArray 3) := ⟨_, rfl⟩
  have b12 : Below w1.heap.size w1 w2 := by rw [hw2]; exact below1 _ _
  have hsz1 : B ≤ w1.heap.size := by have := hb1.size; have := HB.out; omega
  have hpb : Blk w2 w1.heap.size (zeros n) := by rw [hw2]; exact Blk.new w1 (zeros n)
  have HI0 : Hid (Blk w2 w1.heap.size (zeros n) ∧ Below B w w2) := ⟨hpb, hb1.trans (b12.mono hsz1)⟩
  have HW2 := hid hw2
  have HPB : Hid (B ≤ w1.heap.size) := hsz1
  clear hb1 hw2 b12 hsz1 hpb HO
  go_wp2_with fail
  rw [← HW2.out]
  obtain ⟨pb, hpb⟩ : ∃ pb, pb = w1.heap.size := ⟨_, rfl⟩
  rw [← hpb]
  rw [← hpb] at HI0 HPB
  clear hpb HW2 hmk
  go_loopw [12] (fun iv wr => ∃ (i : Nat) (pl : List Int), iv = .int .i64 (i : Int) ∧ i ≤ L ∧ PlS n i l pl ∧ Blk wr pb pl ∧ Below B w wr) (fun iv _ => L - (intOf iv).toNat)
  case atStart => exact ⟨0, _, rfl, by omega, PlS.start n l, HI0.out⟩
  case round =>
    clear HI0
    obtain ⟨i, pl, rfl, hi, hpl, hP, hb⟩ := hrel
    by_cases q : i = L
    · have hpl2 : PlS n l.length l pl := by rw [HLl.out, ← q]; exact hpl
      have HPL := hid hpl2
      obtain ⟨w3, hw3⟩ : ∃ w3, w3 = wr.alloc (.cells ((nos L).map Value.bool).toArray 4) := ⟨_, rfl⟩
      have b3 : Below wr.heap.size wr w3 := by rw [hw3]; exact below1 _ _
      have hsz : B ≤ wr.heap.size := by have := hP.lt; have := HPB.out; omega
      have htb : BlB w3 wr.heap.size (nos L) := by rw [hw3]; exact BlB.new wr (nos L)
      have HI1 : Hid (Blk w3 pb pl ∧ BlB w3 wr.heap.size (nos L) ∧ Below B w w3) := ⟨hP.below b3 hP.lt, htb, hb.trans (b3.mono hsz)⟩
      have HTB : Hid (B ≤ wr.heap.size ∧ wr.heap.size ≠ pb) := ⟨hsz, by have := hP.lt; omega⟩
      have HW3 := hid hw3
      have qq : (L : Int) ≤ (i : Int) := by omega
      clear hi hpl hP hb q hpl2 hw3 b3 hsz htb
      go_wp2_with fail
      rw [← HW3.out]
      obtain ⟨tb, htb⟩ : ∃ tb, tb = wr.heap.size := ⟨_, rfl⟩
      rw [← htb]
      rw [← htb] at HI1 HTB
      generalize decide (i < L) = bq
      generalize wr = wo at *
      clear htb HW3 hmb qq
      go_loopw [14] (fun iv wr => ∃ (i : Nat) (ts : List Bool), iv = .int .i64 (i : Int) ∧ i ≤ m ∧ ThS E i l ts ∧ Blk wr pb pl ∧ BlB wr tb ts ∧ Below B w wr) (fun iv _ => m - (intOf iv).toNat)
      case atStart => exact ⟨0, _, rfl, by omega, by have := ThS.start E l; rwa [HLl.out] at this, HI1.out⟩
      case round =>
        clear HI1
        obtain ⟨i2, ts, rfl, hi, hts, hP, hT, hb⟩ := hrel
        by_cases q : i2 = m
        · have hall := ThS.all (n := n) (by rw [HEl.out, ← q]; exact hts) HRg.out
          have htl := hts.ml
          rw [HLl.out] at hall htl
          have HAl : Hid (∀ j, j < L → ts.getD j false = true) := hall
          have HTl := hid htl
          have HI2 : Hid (BlB wr tb ts ∧ Below B w wr) := ⟨hT, hb⟩
          have qq : (m : Int) ≤ (i2 : Int) := by omega
          clear hi hts hP hT hb q hall htl
          generalize wr = wo2 at *
          go_wp2_with fail
          generalize decide (i2 < m) = bq2
          clear qq
          go_loopw [16] (fun iv wr => ∃ (i : Nat), iv = .int .i64 (i : Int) ∧ i ≤ L ∧ BlB wr tb ts ∧ Below B w wr) (fun iv _ => L - (intOf iv).toNat)
          case atStart => exact ⟨0, rfl, by omega, HI2.out⟩
          case round =>
            clear HI2
            obtain ⟨i3, rfl, hi, hT, hb⟩ := hrel
            by_cases q : i3 = L
            · have HD : Hid (PO (.returned (.bool true)) wr) := by
                unfold Hid
                rw [HPO.out]
                exact ⟨rfl, by rw [← HB.out]; exact hb⟩
              have qq : (L : Int) ≤ (i3 : Int) := by omega
              have q9 : decide (0 < L) = true := by have := HLn.out.2; simpa using this
              clear hi hT hb q
              go_wp2_with fail
              exact HD.out
            · have hiL : i3 < L := by omega
              have d1 := hT.cell i3 (by rw [HTl.out]; exact hiL)
              rw [HAl.out i3 hiL] at d1
              have HNx : Hid (i3 + 1 ≤ L ∧ BlB wr tb ts ∧ Below B w wr) := ⟨by omega, hT, hb⟩
              have q1 : (i3 : Int) < (L : Int) := by omega
              have hLb := HLn.out
              have hnb := HN.out
              obtain ⟨ew, ewb⟩ := inc_w i3 (by omega)
              clear hi hT hb q hLb hnb
              go_wp2_with fail
              refine ⟨⟨i3 + 1, by rw [Int.natCast_add]; rfl, HNx.out⟩, ?_⟩
              exact mea_i HNx.out.1
        · have him : i2 < m := by omega
          have hmm := HM.out
          have hiE : i2 < E.length := by rw [HEl.out]; exact him
          obtain ⟨g, off, ha, c1, c2⟩ := (HR.out wr hb).2 i2 him
          obtain ⟨hb1, hb2⟩ := HE.out _ (eg_mem E hiE)
          have hLb := HLn.out
          have hnb := HN.out
          have HI9 : Hid (i2 ≤ 2097152) := by show i2 ≤ 2097152; omega
          have hat := HPL.out.at hb1
          have d1 := hP.cell (eg E i2).1 (by rw [HPL.out.ml]; exact hb1)
          have hyes := fun k hk he => hts.yes HRg.out.nd (k := k) hk he
          have hno := hts.no
          have hld : ∀ u, Below B w u → Below B w u.drew := fun u h => ⟨h.os, h.tape, h.output, h.size, h.block⟩
          obtain ⟨b, hbb⟩ : ∃ b, b = (eg E i2).1 := ⟨_, rfl⟩
          obtain ⟨af, haf⟩ : ∃ af, af = (eg E i2).2 := ⟨_, rfl⟩
          have heg : eg E i2 = (b, af) := by rw [hbb, haf]
          rw [← hbb] at c1 hb1 hat hyes d1
          rw [← haf] at c2 hb2
          have q5 : (b : Int) < (n : Int) := by omega
          have q6 : 0 ≤ (b : Int) := by omega
          have q7 : (i2 : Int) < (m : Int) := by omega
          rcases hat with ⟨h0, hnot⟩ | ⟨j, hj, hjb, hjv⟩
          · rw [show pl.getD b 0 = 0 from h0] at d1
            have HNx : Hid (i2 + 1 ≤ m ∧ ThS E (i2 + 1) l ts ∧ Blk wr.drew pb pl ∧ BlB wr.drew tb ts ∧ Below B w wr.drew) := ⟨by omega, hno fun j hj e => hnot j hj (by rw [heg] at e; exact (Prod.mk.inj e).1.symm), hP.of_block rfl, hT.of_block rfl, hld wr hb⟩
            clear hi hts hP hT hb q him hmm hiE hb1 hb2 hLb hnb hyes hno hld hbb haf heg h0 hnot
            obtain ⟨ew, ewb⟩ := inc_w i2 HI9.out
            subst ha
            go_wp2_with fail
            go_region
            all_goals go_wp2_with fail
            all_goals
              refine ⟨⟨i2 + 1, _, by rw [Int.natCast_add]; rfl, HNx.out⟩, ?_⟩
              exact mea_i HNx.out.1
          · rw [show pl.getD b 0 = ((j + 1 : Nat) : Int) from hjv] at d1
            obtain ⟨K, hK⟩ : ∃ K, K = j + 1 := ⟨_, rfl⟩
            rw [← hK] at d1
            rw [HLl.out] at hj
            obtain ⟨r, hr⟩ : ∃ r, r = K % L := ⟨_, rfl⟩
            have hrL : r < L := by rw [hr]; exact Nat.mod_lt _ hLb.2
            obtain ⟨g2, hal, c3⟩ := (HLs.out wr.drew (hld wr hb)).2 r hrL
            obtain ⟨g3, hal3, c4⟩ := (HLs.out wr hb).2 r hrL
            obtain ⟨y, hy⟩ : ∃ y, y = l.getD r 0 := ⟨_, rfl⟩
            rw [← hy] at c3 c4
            have HR9 : Hid (r ≤ 2097152 ∧ K ≤ 2097152 ∧ Int.tmod (K : Int) (L : Int) = (r : Int)) := ⟨by omega, by omega, by rw [remL, hr]⟩
            have q8 : 0 < (K : Int) := by omega
            have q9 : ¬ (L : Int) = 0 := by omega
            have q8n : 0 < K := by omega
            have q9n : ¬ L = 0 := by omega
            have q10n : r < L := hrL
            have q9d : decide (L = 0) = false := by simpa using q9n
            have q8d : decide (0 < K) = true := by simpa using q8n
            have q10 : (r : Int) < (L : Int) := by omega
            have q11 : 0 ≤ (r : Int) := by omega
            by_cases hya : y = af
            · have hyl : (j + 1) % l.length = r := by rw [hr, hK, HLl.out]
              have HTj := hyes j (by rw [HLl.out]; exact hj) hjb.symm
              obtain ⟨u1, hu1⟩ : ∃ u1, u1 = (wr.setCell ⟨tb, j, none⟩ (.bool true)).drew := ⟨_, rfl⟩
              have hT0 : BlB wr.drew tb ts := hT.of_block rfl
              have hP0 : Blk wr.drew pb pl := hP.of_block rfl
              have hbt := ((But.refl (fun k => k = tb) wr).setCell (p := ⟨tb, j, none⟩) rfl (.bool true)).drew
              rw [← hu1] at hbt
              have hbt' : But (fun k => k = tb) wr u1 := hbt
              have HJ9 : Hid (j ≤ 2097152) := by show j ≤ 2097152; omega
              have d2 := hT0.frozen j
              have d2w := hT.frozen j
              have d3w := hT.cell j (by rw [hts.ml, HLl.out]; exact hj)
              have d3 := hT0.cell j (by rw [hts.ml, HLl.out]; exact hj)
              obtain ⟨o, ho⟩ : ∃ o, o = ts.getD j false := ⟨_, rfl⟩
              rw [← ho] at d3 d3w
              have HNx : Hid (i2 + 1 ≤ m ∧ ThS E (i2 + 1) l (ts.set j true) ∧ Blk u1 pb pl ∧ BlB u1 tb (ts.set j true) ∧ Below B w u1) := ⟨by omega, HTj, hP.of_block (hbt'.block pb hP.lt (fun e => HTB.out.2 e.symm)), by rw [hu1]; exact (hT.set j true).of_block rfl, hb.trans (hbt'.below (by have := hb.size; have := HB.out; show B ≤ wr.heap.size; omega) (fun k hk e => by have := HTB.out; omega))⟩
              have ej : (K : Int) - 1 = (j : Int) := by omega
              have q12 : (j : Int) < (L : Int) := by omega
              have q13 : 0 ≤ (j : Int) := by omega
              have EJ := hid ej
              have HU1 := hid hu1
              rw [← hya] at c2
              clear hya
              clear hi hts hP hT hb q him hmm hiE hb1 hb2 hLb hnb hyes hno hld hbb haf heg hjb hjv hK hj hr hrL hy hyl HTj hu1 hT0 hP0 hbt hbt' ho ej
              obtain ⟨ew, ewb⟩ := inc_w i2 HI9.out
              have e1 := HR9.out.2.2
              have e2 := wrM r HR9.out.1
              have e3 : wrap64 (r : Int) = (r : Int) := wr64 r HR9.out.1
              obtain ⟨ed, edb⟩ := dec_wr K HR9.out.2.1
              have ed := ed.trans EJ.out
              have edb := edb.trans EJ.out
              have EJ := EJ.out
              have e4 := wrM j HJ9.out
              have e5 : wrap64 (j : Int) = (j : Int) := wr64 j HJ9.out
              subst ha
              subst hal
              clear hal3 c4
              have HC18 : Hid (wr.cell? ⟨g2, r, none⟩ = some (.int .i64 (y : Int)) ∧ wr.cell? ⟨g, off + i2 * 2 + 1, none⟩ = some (.int .i64 (y : Int))) := ⟨c3, c2⟩
              go_wp2_with fail
              refine wp_region_held_drew (S := (fun W9 => W9.cell? ⟨g2, r, none⟩ = some (.int .i64 (y : Int)) ∧ W9.cell? ⟨g, off + i2 * 2 + 1, none⟩ = some (.int .i64 (y : Int)))) (by kernel_rfl) HC18.out (fun hSS => ?_)
              refine wpAnyH_take (i := 0) (oi := ({ dst := some 98, op := Op.move (Operand.tmp 15), type := 3, pos := _, after := _, guard := none } : Oper)) (v := ?_) rfl (by kernel_rfl) (by kernel_rfl) (by kernel_rfl) (fun _ _ _ h => h) (Or.inl ⟨by rfl, ?_⟩) hSS ?_
              rotate_left
              · intro w9 hSw
                (try dsimp only at hSw)
                (try go_split_ands)
                first | (go_simp; done) | (go_simp; with_reducible rfl)
              try simp only [Act.put, List.setIfInBounds_toArray, List.set_cons_zero, List.set_cons_succ]
              refine wpAnyH_take (i := 1) (oi := ({ dst := some 99, op := Op.binOp BinOp.gtr 3 (Operand.tmp 98) (Operand.const (Value.int IntKind.i64 0)) 3, type := 4, pos := _, after := _, guard := none } : Oper)) (v := ?_) rfl (by kernel_rfl) (by kernel_rfl) (by kernel_rfl) (fun _ _ _ h => h) (Or.inl ⟨by rfl, ?_⟩) hSS ?_
              rotate_left
              · intro w9 hSw
                (try dsimp only at hSw)
                (try go_split_ands)
                first | (go_simp; done) | (go_simp; with_reducible rfl)
              try simp only [Act.put, List.setIfInBounds_toArray, List.set_cons_zero, List.set_cons_succ]
              refine wpAnyH_take (i := 2) (oi := ({ dst := some 100, op := Op.move (Operand.tmp 99), type := 4, pos := _, after := _, guard := none } : Oper)) (v := ?_) rfl (by kernel_rfl) (by kernel_rfl) (by kernel_rfl) (fun _ _ _ h => h) (Or.inl ⟨by rfl, ?_⟩) hSS ?_
              rotate_left
              · intro w9 hSw
                (try dsimp only at hSw)
                (try go_split_ands)
                first | (go_simp; done) | (go_simp; with_reducible rfl)
              try simp only [Act.put, List.setIfInBounds_toArray, List.set_cons_zero, List.set_cons_succ]
              refine wpAnyH_take (i := 3) (oi := ({ dst := some 101, op := Op.move (Operand.tmp 2), type := 23, pos := _, after := _, guard := some (2, true) } : Oper)) (v := ?_) rfl (by kernel_rfl) (by kernel_rfl) (by kernel_rfl) (fun _ _ _ h => h) (Or.inl ⟨by rfl, ?_⟩) hSS ?_
              rotate_left
              · intro w9 hSw
                (try dsimp only at hSw)
                (try go_split_ands)
                first | (go_simp; done) | (go_simp; with_reducible rfl)
              try simp only [Act.put, List.setIfInBounds_toArray, List.set_cons_zero, List.set_cons_succ]
              refine wpAnyH_take (i := 4) (oi := ({ dst := some 102, op := Op.move (Operand.tmp 15), type := 3, pos := _, after := _, guard := some (2, true) } : Oper)) (v := ?_) rfl (by kernel_rfl) (by kernel_rfl) (by kernel_rfl) (fun _ _ _ h => h) (Or.inl ⟨by rfl, ?_⟩) hSS ?_
              rotate_left
              · intro w9 hSw
                (try dsimp only at hSw)
                (try go_split_ands)
                first | (go_simp; done) | (go_simp; with_reducible rfl)
              try simp only [Act.put, List.setIfInBounds_toArray, List.set_cons_zero, List.set_cons_succ]
              refine wpAnyH_take (i := 5) (oi := ({ dst := some 103, op := Op.move (Operand.tmp 2), type := 23, pos := _, after := _, guard := some (2, true) } : Oper)) (v := ?_) rfl (by kernel_rfl) (by kernel_rfl) (by kernel_rfl) (fun _ _ _ h => h) (Or.inl ⟨by rfl, ?_⟩) hSS ?_
              rotate_left
              · intro w9 hSw
                (try dsimp only at hSw)
                (try go_split_ands)
                first | (go_simp; done) | (go_simp; with_reducible rfl)
              try simp only [Act.put, List.setIfInBounds_toArray, List.set_cons_zero, List.set_cons_succ]
              refine wpAnyH_take (i := 6) (oi := ({ dst := some 104, op := Op.call { callee := Callee.builtin Builtin.len, args := #[Operand.tmp 103], argTypes := #[23] }, type := 3, pos := _, after := _, guard := some (2, true) } : Oper)) (v := ?_) rfl (by kernel_rfl) (by kernel_rfl) (by kernel_rfl) (fun _ _ _ h => h) (Or.inl ⟨by rfl, ?_⟩) hSS ?_
              rotate_left
              · intro w9 hSw
                (try dsimp only at hSw)
                (try go_split_ands)
                first | (go_simp; done) | (go_simp; with_reducible rfl)
              try simp only [Act.put, List.setIfInBounds_toArray, List.set_cons_zero, List.set_cons_succ]
              refine wpAnyH_take (i := 7) (oi := ({ dst := some 105, op := Op.binOp BinOp.rem 3 (Operand.tmp 102) (Operand.tmp 104) 3, type := 3, pos := _, after := _, guard := some (2, true) } : Oper)) (v := ?_) rfl (by kernel_rfl) (by kernel_rfl) (by kernel_rfl) (fun _ _ _ h => h) (Or.inl ⟨by rfl, ?_⟩) hSS ?_
              rotate_left
              · intro w9 hSw
                (try dsimp only at hSw)
                (try go_split_ands)
                first | (go_simp; done) | (go_simp; with_reducible rfl)
              try simp only [Act.put, List.setIfInBounds_toArray, List.set_cons_zero, List.set_cons_succ]
              refine wpAnyH_take (i := 8) (oi := ({ dst := some 106, op := Op.indexAddr 23 (Operand.tmp 101) (Operand.tmp 105), type := 0, pos := _, after := _, guard := some (2, true) } : Oper)) (v := ?_) rfl (by kernel_rfl) (by kernel_rfl) (by kernel_rfl) (fun _ _ _ h => h) (Or.inl ⟨by rfl, ?_⟩) hSS ?_
              rotate_left
              · intro w9 hSw
                (try dsimp only at hSw)
                (try go_split_ands)
                first | (go_simp; done) | (go_simp; with_reducible rfl)
              try simp only [Act.put, List.setIfInBounds_toArray, List.set_cons_zero, List.set_cons_succ]
              refine wpAnyH_take (i := 9) (oi := ({ dst := some 107, op := Op.load 3 (Operand.tmp 106), type := 3, pos := _, after := _, guard := some (2, true) } : Oper)) (v := ?_) rfl (by kernel_rfl) (by kernel_rfl) (by kernel_rfl) (fun _ _ _ h => h) (Or.inl ⟨by rfl, ?_⟩) hSS ?_
              rotate_left
              · intro w9 hSw
                (try dsimp only at hSw)
                (try go_split_ands)
                first | (go_simp; done) | (go_simp; with_reducible rfl)
              try simp only [Act.put, List.setIfInBounds_toArray, List.set_cons_zero, List.set_cons_succ]
              refine wpAnyH_take (i := 10) (oi := ({ dst := some 108, op := Op.move (Operand.tmp 1), type := 22, pos := _, after := _, guard := some (2, true) } : Oper)) (v := ?_) rfl (by kernel_rfl) (by kernel_rfl) (by kernel_rfl) (fun _ _ _ h => h) (Or.inl ⟨by rfl, ?_⟩) hSS ?_
              rotate_left
              · intro w9 hSw
                (try dsimp only at hSw)
                (try go_split_ands)
                first | (go_simp; done) | (go_simp; with_reducible rfl)
              try simp only [Act.put, List.setIfInBounds_toArray, List.set_cons_zero, List.set_cons_succ]
              refine wpAnyH_take (i := 11) (oi := ({ dst := some 109, op := Op.move (Operand.tmp 14), type := 3, pos := _, after := _, guard := some (2, true) } : Oper)) (v := ?_) rfl (by kernel_rfl) (by kernel_rfl) (by kernel_rfl) (fun _ _ _ h => h) (Or.inl ⟨by rfl, ?_⟩) hSS ?_
              rotate_left
              · intro w9 hSw
                (try dsimp only at hSw)
                (try go_split_ands)
                first | (go_simp; done) | (go_simp; with_reducible rfl)
              try simp only [Act.put, List.setIfInBounds_toArray, List.set_cons_zero, List.set_cons_succ]
              refine wpAnyH_take (i := 12) (oi := ({ dst := some 110, op := Op.indexAddr 22 (Operand.tmp 108) (Operand.tmp 109), type := 0, pos := _, after := _, guard := some (2, true) } : Oper)) (v := ?_) rfl (by kernel_rfl) (by kernel_rfl) (by kernel_rfl) (fun _ _ _ h => h) (Or.inl ⟨by rfl, ?_⟩) hSS ?_
              rotate_left
              · intro w9 hSw
                (try dsimp only at hSw)
                (try go_split_ands)
                first | (go_simp; done) | (go_simp; with_reducible rfl)
              try simp only [Act.put, List.setIfInBounds_toArray, List.set_cons_zero, List.set_cons_succ]
              refine wpAnyH_take (i := 13) (oi := ({ dst := some 111, op := Op.fieldAddr 28 (Operand.tmp 110) 1, type := 0, pos := _, after := _, guard := some (2, true) } : Oper)) (v := ?_) rfl (by kernel_rfl) (by kernel_rfl) (by kernel_rfl) (fun _ _ _ h => h) (Or.inl ⟨by rfl, ?_⟩) hSS ?_
              rotate_left
              · intro w9 hSw
                (try dsimp only at hSw)
                (try go_split_ands)
                first | (go_simp; done) | (go_simp; with_reducible rfl)
              try simp only [Act.put, List.setIfInBounds_toArray, List.set_cons_zero, List.set_cons_succ]
              refine wpAnyH_take (i := 14) (oi := ({ dst := some 112, op := Op.load 3 (Operand.tmp 111), type := 3, pos := _, after := _, guard := some (2, true) } : Oper)) (v := ?_) rfl (by kernel_rfl) (by kernel_rfl) (by kernel_rfl) (fun _ _ _ h => h) (Or.inl ⟨by rfl, ?_⟩) hSS ?_
              rotate_left
              · intro w9 hSw
                (try dsimp only at hSw)
                (try go_split_ands)
                first | (go_simp; done) | (go_simp; with_reducible rfl)
              try simp only [Act.put, List.setIfInBounds_toArray, List.set_cons_zero, List.set_cons_succ]
              refine wpAnyH_take (i := 15) (oi := ({ dst := some 113, op := Op.binOp BinOp.eql 3 (Operand.tmp 107) (Operand.tmp 112) 3, type := 4, pos := _, after := _, guard := some (2, true) } : Oper)) (v := ?_) rfl (by kernel_rfl) (by kernel_rfl) (by kernel_rfl) (fun _ _ _ h => h) (Or.inl ⟨by rfl, ?_⟩) hSS ?_
              rotate_left
              · intro w9 hSw
                (try dsimp only at hSw)
                (try go_split_ands)
                first | (go_simp; done) | (go_simp; with_reducible rfl)
              try simp only [Act.put, List.setIfInBounds_toArray, List.set_cons_zero, List.set_cons_succ]
              refine wpAnyH_take (i := 16) (oi := ({ dst := some 114, op := Op.pick (Operand.tmp 100) (Operand.tmp 113) (Operand.const (Value.bool false)), type := 4, pos := _, after := _, guard := none } : Oper)) (v := ?_) rfl (by kernel_rfl) (by kernel_rfl) (by kernel_rfl) (fun _ _ _ h => h) (Or.inl ⟨by rfl, ?_⟩) hSS ?_
              rotate_left
              · intro w9 hSw
                (try dsimp only at hSw)
                (try go_split_ands)
                first | (go_simp; done) | (go_simp; with_reducible rfl)
              try simp only [Act.put, List.setIfInBounds_toArray, List.set_cons_zero, List.set_cons_succ]
              refine wpAnyH_done (by kernel_rfl) ?_ _
              go_wp2_with fail
              rw [← HU1.out]
              refine ⟨⟨i2 + 1, _, by rw [Int.natCast_add]; rfl, HNx.out⟩, ?_⟩
              exact mea_i HNx.out.1
            · have HNx : Hid (i2 + 1 ≤ m ∧ ThS E (i2 + 1) l ts ∧ Blk wr.drew pb pl ∧ BlB wr.drew tb ts ∧ Below B w wr.drew) := ⟨by omega, hno fun j' hj' e => hya (by
                rw [heg] at e
                have ee1 := (Prod.mk.inj e).1
                have ee2 := (Prod.mk.inj e).2
                have : j' = j := nd_inj HRg.out.nd hj' (by rw [HLl.out]; exact hj) (by rw [hjb]; exact ee1.symm)
                rw [hy, hr, hK, ← HLl.out, ee2, this]), hP.of_block rfl, hT.of_block rfl, hld wr hb⟩
              have q14 : ¬ (y : Int) = (af : Int) := by omega
              clear hi hts hP hT hb q him hmm hiE hb1 hb2 hLb hnb hyes hno hld hbb haf heg hjb hjv hK hj hr hrL hy hya
              obtain ⟨ew, ewb⟩ := inc_w i2 HI9.out
              have e1 := HR9.out.2.2
              have e2 := wrM r HR9.out.1
              have e3 : wrap64 (r : Int) = (r : Int) := wr64 r HR9.out.1
              subst ha
              subst hal
              clear hal3 c4
              have HC18 : Hid (wr.cell? ⟨g2, r, none⟩ = some (.int .i64 (y : Int)) ∧ wr.cell? ⟨g, off + i2 * 2 + 1, none⟩ = some (.int .i64 (af : Int))) := ⟨c3, c2⟩
              go_wp2_with fail
              refine wp_region_held_drew (S := (fun W9 => W9.cell? ⟨g2, r, none⟩ = some (.int .i64 (y : Int)) ∧ W9.cell? ⟨g, off + i2 * 2 + 1, none⟩ = some (.int .i64 (af : Int)))) (by kernel_rfl) HC18.out (fun hSS => ?_)
              refine wpAnyH_take (i := 0) (oi := ({ dst := some 98, op := Op.move (Operand.tmp 15), type := 3, pos := _, after := _, guard := none } : Oper)) (v := ?_) rfl (by kernel_rfl) (by kernel_rfl) (by kernel_rfl) (fun _ _ _ h => h) (Or.inl ⟨by rfl, ?_⟩) hSS ?_
              rotate_left
              · intro w9 hSw
                (try dsimp only at hSw)
                (try go_split_ands)
                first | (go_simp; done) | (go_simp; with_reducible rfl)
              try simp only [Act.put, List.setIfInBounds_toArray, List.set_cons_zero, List.set_cons_succ]
              refine wpAnyH_take (i := 1) (oi := ({ dst := some 99, op := Op.binOp BinOp.gtr 3 (Operand.tmp 98) (Operand.const (Value.int IntKind.i64 0)) 3, type := 4, pos := _, after := _, guard := none } : Oper)) (v := ?_) rfl (by kernel_rfl) (by kernel_rfl) (by kernel_rfl) (fun _ _ _ h => h) (Or.inl ⟨by rfl, ?_⟩) hSS ?_
              rotate_left
              · intro w9 hSw
                (try dsimp only at hSw)
                (try go_split_ands)
                first | (go_simp; done) | (go_simp; with_reducible rfl)
              try simp only [Act.put, List.setIfInBounds_toArray, List.set_cons_zero, List.set_cons_succ]
              refine wpAnyH_take (i := 2) (oi := ({ dst := some 100, op := Op.move (Operand.tmp 99), type := 4, pos := _, after := _, guard := none } : Oper)) (v := ?_) rfl (by kernel_rfl) (by kernel_rfl) (by kernel_rfl) (fun _ _ _ h => h) (Or.inl ⟨by rfl, ?_⟩) hSS ?_
              rotate_left
              · intro w9 hSw
                (try dsimp only at hSw)
                (try go_split_ands)
                first | (go_simp; done) | (go_simp; with_reducible rfl)
              try simp only [Act.put, List.setIfInBounds_toArray, List.set_cons_zero, List.set_cons_succ]
              refine wpAnyH_take (i := 3) (oi := ({ dst := some 101, op := Op.move (Operand.tmp 2), type := 23, pos := _, after := _, guard := some (2, true) } : Oper)) (v := ?_) rfl (by kernel_rfl) (by kernel_rfl) (by kernel_rfl) (fun _ _ _ h => h) (Or.inl ⟨by rfl, ?_⟩) hSS ?_
              rotate_left
              · intro w9 hSw
                (try dsimp only at hSw)
                (try go_split_ands)
                first | (go_simp; done) | (go_simp; with_reducible rfl)
              try simp only [Act.put, List.setIfInBounds_toArray, List.set_cons_zero, List.set_cons_succ]
              refine wpAnyH_take (i := 4) (oi := ({ dst := some 102, op := Op.move (Operand.tmp 15), type := 3, pos := _, after := _, guard := some (2, true) } : Oper)) (v := ?_) rfl (by kernel_rfl) (by kernel_rfl) (by kernel_rfl) (fun _ _ _ h => h) (Or.inl ⟨by rfl, ?_⟩) hSS ?_
              rotate_left
              · intro w9 hSw
                (try dsimp only at hSw)
                (try go_split_ands)
                first | (go_simp; done) | (go_simp; with_reducible rfl)
              try simp only [Act.put, List.setIfInBounds_toArray, List.set_cons_zero, List.set_cons_succ]
              refine wpAnyH_take (i := 5) (oi := ({ dst := some 103, op := Op.move (Operand.tmp 2), type := 23, pos := _, after := _, guard := some (2, true) } : Oper)) (v := ?_) rfl (by kernel_rfl) (by kernel_rfl) (by kernel_rfl) (fun _ _ _ h => h) (Or.inl ⟨by rfl, ?_⟩) hSS ?_
              rotate_left
              · intro w9 hSw
                (try dsimp only at hSw)
                (try go_split_ands)
                first | (go_simp; done) | (go_simp; with_reducible rfl)
              try simp only [Act.put, List.setIfInBounds_toArray, List.set_cons_zero, List.set_cons_succ]
              refine wpAnyH_take (i := 6) (oi := ({ dst := some 104, op := Op.call { callee := Callee.builtin Builtin.len, args := #[Operand.tmp 103], argTypes := #[23] }, type := 3, pos := _, after := _, guard := some (2, true) } : Oper)) (v := ?_) rfl (by kernel_rfl) (by kernel_rfl) (by kernel_rfl) (fun _ _ _ h => h) (Or.inl ⟨by rfl, ?_⟩) hSS ?_
              rotate_left
              · intro w9 hSw
                (try dsimp only at hSw)
                (try go_split_ands)
                first | (go_simp; done) | (go_simp; with_reducible rfl)
              try simp only [Act.put, List.setIfInBounds_toArray, List.set_cons_zero, List.set_cons_succ]
              refine wpAnyH_take (i := 7) (oi := ({ dst := some 105, op := Op.binOp BinOp.rem 3 (Operand.tmp 102) (Operand.tmp 104) 3, type := 3, pos := _, after := _, guard := some (2, true) } : Oper)) (v := ?_) rfl (by kernel_rfl) (by kernel_rfl) (by kernel_rfl) (fun _ _ _ h => h) (Or.inl ⟨by rfl, ?_⟩) hSS ?_
              rotate_left
              · intro w9 hSw
                (try dsimp only at hSw)
                (try go_split_ands)
                first | (go_simp; done) | (go_simp; with_reducible rfl)
              try simp only [Act.put, List.setIfInBounds_toArray, List.set_cons_zero, List.set_cons_succ]
              refine wpAnyH_take (i := 8) (oi := ({ dst := some 106, op := Op.indexAddr 23 (Operand.tmp 101) (Operand.tmp 105), type := 0, pos := _, after := _, guard := some (2, true) } : Oper)) (v := ?_) rfl (by kernel_rfl) (by kernel_rfl) (by kernel_rfl) (fun _ _ _ h => h) (Or.inl ⟨by rfl, ?_⟩) hSS ?_
              rotate_left
              · intro w9 hSw
                (try dsimp only at hSw)
                (try go_split_ands)
                first | (go_simp; done) | (go_simp; with_reducible rfl)
              try simp only [Act.put, List.setIfInBounds_toArray, List.set_cons_zero, List.set_cons_succ]
              refine wpAnyH_take (i := 9) (oi := ({ dst := some 107, op := Op.load 3 (Operand.tmp 106), type := 3, pos := _, after := _, guard := some (2, true) } : Oper)) (v := ?_) rfl (by kernel_rfl) (by kernel_rfl) (by kernel_rfl) (fun _ _ _ h => h) (Or.inl ⟨by rfl, ?_⟩) hSS ?_
              rotate_left
              · intro w9 hSw
                (try dsimp only at hSw)
                (try go_split_ands)
                first | (go_simp; done) | (go_simp; with_reducible rfl)
              try simp only [Act.put, List.setIfInBounds_toArray, List.set_cons_zero, List.set_cons_succ]
              refine wpAnyH_take (i := 10) (oi := ({ dst := some 108, op := Op.move (Operand.tmp 1), type := 22, pos := _, after := _, guard := some (2, true) } : Oper)) (v := ?_) rfl (by kernel_rfl) (by kernel_rfl) (by kernel_rfl) (fun _ _ _ h => h) (Or.inl ⟨by rfl, ?_⟩) hSS ?_
              rotate_left
              · intro w9 hSw
                (try dsimp only at hSw)
                (try go_split_ands)
                first | (go_simp; done) | (go_simp; with_reducible rfl)
              try simp only [Act.put, List.setIfInBounds_toArray, List.set_cons_zero, List.set_cons_succ]
              refine wpAnyH_take (i := 11) (oi := ({ dst := some 109, op := Op.move (Operand.tmp 14), type := 3, pos := _, after := _, guard := some (2, true) } : Oper)) (v := ?_) rfl (by kernel_rfl) (by kernel_rfl) (by kernel_rfl) (fun _ _ _ h => h) (Or.inl ⟨by rfl, ?_⟩) hSS ?_
              rotate_left
              · intro w9 hSw
                (try dsimp only at hSw)
                (try go_split_ands)
                first | (go_simp; done) | (go_simp; with_reducible rfl)
              try simp only [Act.put, List.setIfInBounds_toArray, List.set_cons_zero, List.set_cons_succ]
              refine wpAnyH_take (i := 12) (oi := ({ dst := some 110, op := Op.indexAddr 22 (Operand.tmp 108) (Operand.tmp 109), type := 0, pos := _, after := _, guard := some (2, true) } : Oper)) (v := ?_) rfl (by kernel_rfl) (by kernel_rfl) (by kernel_rfl) (fun _ _ _ h => h) (Or.inl ⟨by rfl, ?_⟩) hSS ?_
              rotate_left
              · intro w9 hSw
                (try dsimp only at hSw)
                (try go_split_ands)
                first | (go_simp; done) | (go_simp; with_reducible rfl)
              try simp only [Act.put, List.setIfInBounds_toArray, List.set_cons_zero, List.set_cons_succ]
              refine wpAnyH_take (i := 13) (oi := ({ dst := some 111, op := Op.fieldAddr 28 (Operand.tmp 110) 1, type := 0, pos := _, after := _, guard := some (2, true) } : Oper)) (v := ?_) rfl (by kernel_rfl) (by kernel_rfl) (by kernel_rfl) (fun _ _ _ h => h) (Or.inl ⟨by rfl, ?_⟩) hSS ?_
              rotate_left
              · intro w9 hSw
                (try dsimp only at hSw)
                (try go_split_ands)
                first | (go_simp; done) | (go_simp; with_reducible rfl)
              try simp only [Act.put, List.setIfInBounds_toArray, List.set_cons_zero, List.set_cons_succ]
              refine wpAnyH_take (i := 14) (oi := ({ dst := some 112, op := Op.load 3 (Operand.tmp 111), type := 3, pos := _, after := _, guard := some (2, true) } : Oper)) (v := ?_) rfl (by kernel_rfl) (by kernel_rfl) (by kernel_rfl) (fun _ _ _ h => h) (Or.inl ⟨by rfl, ?_⟩) hSS ?_
              rotate_left
              · intro w9 hSw
                (try dsimp only at hSw)
                (try go_split_ands)
                first | (go_simp; done) | (go_simp; with_reducible rfl)
              try simp only [Act.put, List.setIfInBounds_toArray, List.set_cons_zero, List.set_cons_succ]
              refine wpAnyH_take (i := 15) (oi := ({ dst := some 113, op := Op.binOp BinOp.eql 3 (Operand.tmp 107) (Operand.tmp 112) 3, type := 4, pos := _, after := _, guard := some (2, true) } : Oper)) (v := ?_) rfl (by kernel_rfl) (by kernel_rfl) (by kernel_rfl) (fun _ _ _ h => h) (Or.inl ⟨by rfl, ?_⟩) hSS ?_
              rotate_left
              · intro w9 hSw
                (try dsimp only at hSw)
                (try go_split_ands)
                first | (go_simp; done) | (go_simp; with_reducible rfl)
              try simp only [Act.put, List.setIfInBounds_toArray, List.set_cons_zero, List.set_cons_succ]
              refine wpAnyH_take (i := 16) (oi := ({ dst := some 114, op := Op.pick (Operand.tmp 100) (Operand.tmp 113) (Operand.const (Value.bool false)), type := 4, pos := _, after := _, guard := none } : Oper)) (v := ?_) rfl (by kernel_rfl) (by kernel_rfl) (by kernel_rfl) (fun _ _ _ h => h) (Or.inl ⟨by rfl, ?_⟩) hSS ?_
              rotate_left
              · intro w9 hSw
                (try dsimp only at hSw)
                (try go_split_ands)
                first | (go_simp; done) | (go_simp; with_reducible rfl)
              try simp only [Act.put, List.setIfInBounds_toArray, List.set_cons_zero, List.set_cons_succ]
              refine wpAnyH_done (by kernel_rfl) ?_ _
              go_wp2_with fail
              refine ⟨⟨i2 + 1, _, by rw [Int.natCast_add]; rfl, HNx.out⟩, ?_⟩
              exact mea_i HNx.out.1
    · have hiL : i < L := by omega
      have hLb := HLn.out
      have hnb := HN.out
      have him : i < l.length := by rw [HLl.out]; exact hiL
      obtain ⟨g, hal, c1⟩ := (HLs.out wr hb).2 i hiL
      have hxn := HRg.out.lt _ (getD_mem him)
      have hfr := hpl.fresh HRg.out.nd HRg.out.lt him
      have hst := hpl.step HRg.out.nd HRg.out.lt him
      obtain ⟨x, hx⟩ : ∃ x, x = l.getD i 0 := ⟨_, rfl⟩
      rw [← hx] at c1 hxn hfr hst
      have d1 := hP.cell x (by rw [hpl.ml]; exact hxn)
      rw [show pl.getD x 0 = 0 from hfr] at d1
      have d2 := hP.frozen x
      obtain ⟨u1, hu1⟩ : ∃ u1, u1 = wr.setCell ⟨pb, x, none⟩ (.int .i64 ((i + 1 : Nat) : Int)) := ⟨_, rfl⟩
      have hbt := (But.refl (fun k => k = pb) wr).setCell (p := ⟨pb, x, none⟩) rfl (.int .i64 ((i + 1 : Nat) : Int))
      rw [← hu1] at hbt
      have hsz : B ≤ wr.heap.size := by have := hP.lt; have := HPB.out; omega
      have HNx : Hid (i + 1 ≤ L ∧ PlS n (i + 1) l (pl.set x ((i + 1 : Nat) : Int)) ∧ Blk u1 pb (pl.set x ((i + 1 : Nat) : Int)) ∧ Below B w u1) := ⟨by omega, hst, by rw [hu1]; exact hP.set x _, hb.trans (hbt.below hsz (fun k hk e => by have := HPB.out; omega))⟩
      have q1 : (i : Int) < (L : Int) := by omega
      have q2 : (x : Int) < (n : Int) := by omega
      have q3 : ¬ (x : Int) < 0 := by omega
      have q4 : 0 ≤ (x : Int) := by omega
      have q5 : ¬ (n : Int) ≤ (x : Int) := by omega
      rw [show ((i + 1 : Nat) : Int) = (i : Int) + 1 by omega] at hu1
      have HU1 := hid hu1
      obtain ⟨ew, ewb⟩ := inc_w i (by omega)
      clear hi hpl hP hb q hiL hLb hnb him hxn hfr hst hx hu1 hbt hsz
      subst hal
      go_wp2_with fail
      rw [← HU1.out]
      refine ⟨⟨i + 1, _, by rw [Int.natCast_add]; rfl, HNx.out⟩, ?_⟩
      exact mea_i HNx.out.1
end Go.Proofs.Ytajnokkmpjdliaa
