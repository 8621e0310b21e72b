/-
  LexLong: the law.
-/
import Derived.Test.YtoifmiloaefanaaDoorLg2
import Derived.Test.YtoifmiloaefanaaDoorTl2
import Derived.Lib.AppendZeros
namespace Go.Proofs.YtoifmiloaefanaaDoor
open Go.RowKit

theorem splice_getD (L cs : List Int) (off t : Nat) (h : off + cs.length ≤ L.length) : (splice L off cs).getD t 0 = if t < off then L.getD t 0 else if t < off + cs.length then cs.getD (t - off) 0 else L.getD t 0 := by
  unfold splice
  simp only [List.getD_eq_getElem?_getD]
  have hl : (L.take off).length = off := by rw [List.length_take]; omega
  by_cases h1 : t < off
  · rw [if_pos h1, List.getElem?_append_left (by omega), List.getElem?_take_of_lt h1]
  rw [if_neg h1, List.getElem?_append_right (by omega), hl]
  by_cases h2 : t < off + cs.length
  · rw [if_pos h2, List.getElem?_append_left (by omega)]
  · rw [if_neg h2, List.getElem?_append_right (by omega), List.getElem?_drop, show off + cs.length + (t - off - cs.length) = t by omega]
theorem text_one {ys l : List Int} {m : Nat} (hy : ys.length = 65537) (h32 : ∀ t, t < 65537 → ys.getD t 0 = 32) (hm : m ≤ 4095) (h0 : 0 < l.length) (hl : l.length ≤ 4) (hw : LetW l) : lexP ((splice ys m l).take 65536) = ([⟨1, l, 0, m⟩], 0, 0) := by
  have hs : (splice ys m l).length = 65537 := by rw [length_splice _ _ _ (by omega)]; exact hy
  have hk : ((splice ys m l).take 65536).length = 65536 := by rw [List.length_take]; omega
  have hg : ∀ t, t < 65536 → ((splice ys m l).take 65536).getD t 0 = if t < m then 32 else if t < m + l.length then l.getD (t - m) 0 else 32 := fun t ht => by
    rw [tk_getD ht, splice_getD _ _ _ _ (by omega), h32 t (by omega)]
  refine one_word h0 (by omega) ?_ ?_ ?_ (let_of hw) (by omega)
  · intro t ht
    rw [hg t (by omega), if_pos ht]
  · intro t ht
    rw [hg (m + t) (by omega), if_neg (by omega), if_pos (by omega), show m + t - m = t by omega]
  · intro t ht1 ht2
    rw [hg t (by omega), if_neg (by omega), if_neg (by omega)]
theorem and4095 (x : Int) : bits .and .i64 x 4095 = x % 4096 := by
  show IntKind.i64.wrap ((BitVec.ofInt 64 x &&& BitVec.ofInt 64 4095).toNat : Int) = _
  rw [BitVec.toNat_and, show (BitVec.ofInt 64 4095).toNat = 2 ^ 12 - 1 from by decide, Nat.and_two_pow_sub_one_eq_mod, BitVec.toNat_ofInt, IntKind.wrap_i64]
  omega
/-- the two calls on the text -/
theorem text_calls {b : Nat} {w W : World} {tb m : Nat} {ys l : List Int} {v : Value} (hB : Below b w W) (hb : b ≤ w.heap.size) (hblk : Blk .u8 5 W tb (splice ys m l)) (hy : ys.length = 65537) (hyB : Pl.isB ys) (h32 : ∀ t, t < 65537 → ys.getD t 0 = 32) (hm : m ≤ 4095) (h0 : 0 < l.length) (hl : l.length ≤ 4) (hw : LetW l) (hO : OwB b W v l) :
    Calls Tryd.prog 7 #[.slice (some ⟨tb, 0, none⟩) 65536 65537] W fun e W1 => ∃ tg uc, e = .returned (.tuple #[.slice (some ⟨tg, 0, none⟩) 1 uc, .int .i64 0, .int .i64 0]) ∧
      Calls Tryd.prog 7 #[.slice (some ⟨tb, 0, none⟩) 65537 65537] W1 fun e W2 => ∃ va vc, e = .returned (.tuple #[.slice va 0 vc, .int .i64 0, .int .i64 180]) ∧ W2.cell? ⟨tg, 1, none⟩ = some (.string (strOfNums l)) ∧ W2.cell? ⟨tg, 3, none⟩ = some (.int .i64 (m : Int)) ∧ OwB b W2 v l ∧ Below b w W2 := by
  have hs : (splice ys m l).length = 65537 := by rw [length_splice _ _ _ (by omega)]; exact hy
  have hsB := isB_splice hyB hw.isB m
  have z0 := hB.size
  have hlt := hblk.lt
  have hone := text_one hy h32 hm h0 hl hw
  refine (Tokens_any (some ⟨tb, 0, none⟩) 65536 65537 ((splice ys m l).take 65536) W (Nat.le_refl _) ⟨by rw [List.length_take]; omega, Pl.isB_take hsB _, .inr ⟨tb, 0, rfl, hlt, fun t ht => by rw [Nat.zero_add, hblk.cell t (by omega), tk_getD ht]⟩⟩).mono ?_
  rintro e W1 ⟨u, rfl, o1, b1⟩
  rw [hone] at o1 ⊢
  obtain ⟨ua, uc, rfl⟩ := o1.form
  obtain ⟨tg, rfl, g1, g2⟩ := o1.some (by simp)
  refine ⟨tg, uc, rfl, ?_⟩
  have z1 := b1.size
  refine (Tokens_long (some ⟨tb, 0, none⟩) 65537 65537 (splice ys m l) W1 (by omega) hs).mono ?_
  rintro e W2 ⟨u, rfl, o2, b2⟩
  have hlong : lexP (splice ys m l) = ([], 0, 180) := by unfold lexP; rw [if_pos (by omega)]
  rw [hlong] at o2 ⊢
  obtain ⟨va, vc, rfl⟩ := o2.form
  obtain ⟨c0, c1, c2, c3⟩ := (o1.next b2).cell4 rfl 0 (by simp)
  exact ⟨va, vc, rfl, c1, c3, (hO.next b1).next b2, (hB.trans (b1.mono (by omega))).trans (b2.mono (by omega))⟩

set_option maxRecDepth 100000 in
set_option maxHeartbeats 8000000 in
theorem long_law (a : Option Addr) (n c : Nat) (zs : List Int) (mo : Int) (w : World) (hR : Rd w.heap.size w a n zs) :
    Calls Tryd.prog 3 #[.slice a n c, .int .i64 mo] w fun e w' => e = .returned (.bool true) ∧ Below w.heap.size w w' := by
  obtain ⟨PQ, hPQ⟩ : ∃ PQ : Ending → World → Prop, PQ = fun e w' => e = .returned (.bool true) ∧ Below w.heap.size w w' := ⟨_, rfl⟩
  rw [← hPQ]
  have HPQ := hid hPQ
  have HR := hid hR
  have hzl := hR.1
  obtain ⟨b, hb⟩ : ∃ b, b = w.heap.size := ⟨_, rfl⟩
  have Hb := hid hb
  obtain ⟨w1, hw1⟩ : ∃ w1, w1 = w.alloc (.cells #[.int .u8 97] 5) := ⟨_, rfl⟩
  have HO := hid (OwB.first w 97)
  rw [← hw1, ← hb] at HO
  have HB : Hid (Below b w w1) := by rw [hb, hw1]; exact below1 _ _
  have HW := hid hw1
  clear hPQ hR hb hw1
  go_enter Tryd.func3, Tryd.ntmps3
  go_wp2_with fail
  rw [← HW.out, ← Hb.out]
  go_loopw [5, 6] (fun wv iv wr => ∃ (j : Nat) (l : List Int), iv = .int .i64 (j : Int) ∧ j ≤ n ∧ j ≤ 3 ∧ l.length = j + 1 ∧ LetW l ∧ OwB b wr wv l ∧ Below b w wr) (fun _ iv _ => n - (intOf iv).toNat)
  case atStart => exact ⟨0, [97], rfl, Nat.zero_le _, by omega, rfl, by intro z hz; simp at hz; omega, HO.out, HB.out⟩
  case round =>
    clear HO HB HW
    obtain ⟨j, l, rfl, hj, hj3, hll, hlw, hO, hB⟩ := hrel
    obtain ⟨g, cc, rfl, hg0, hg1⟩ := hO.form (by omega)
    by_cases hjn : j < n ∧ j < 3
    · have hjn' : (j : Int) < (n : Int) := by omega
      have hj3' : (j : Int) < 3 := by omega
      have hbw := Hb.out
      have hRw := HR.out.below (by rw [← hbw]; exact hB)
      obtain ⟨g0, off, rfl, hgb, hcs⟩ := hRw.2.2.resolve_left (by omega)
      have hz := hRw.2.1 (zs.getD j 0) (by rw [List.getD_eq_getElem?_getD, List.getElem?_eq_getElem (by omega)]; exact List.getElem_mem _)
      have hcj := hcs j hjn.1
      have HP : Hid (∀ z : Int, 97 ≤ z → z ≤ 122 → ∃ v' w', (Builtin.append_ #[22, 22] 22 #[.slice (some ⟨g, 0, none⟩) l.length cc, .slice (some ⟨wr.heap.size, 0, none⟩) 1 1]).run Tryd.prog (wr.alloc (.cells #[.int .u8 z] 5)) = .ok v' w' ∧ (∃ a c n, v' = .slice a n c) ∧ ∃ l2 : List Int, l2.length = j + 2 ∧ LetW l2 ∧ OwB b w' v' l2 ∧ Below b w w') := fun z h1 h2 => by
        have z0 := hB.size
        rw [← hbw] at z0
        obtain ⟨v', w', hr, k1, k2⟩ := OwB.push 22 (hO.next (below1 wr (.cells #[.int .u8 z] 5))) z (heap_new _ _) (by omega) (by simp; omega)
        obtain ⟨g2, c2, e2, _⟩ := k1.form (by simp)
        refine ⟨v', w', hr, ⟨_, _, _, e2⟩, l ++ [z], by simp; omega, ?_, k1, ?_⟩
        · intro y hy
          rcases List.mem_append.1 hy with hy | hy
          · exact hlw y hy
          · simp at hy; omega
        · exact (hB.trans ((below1 _ _).mono z0)).trans (k2.below (by simp; omega) (fun g3 hg3 => by simp [Value.ownBlock] at hg3; omega))
      clear hRw hcs hO hB hbw
      generalize zs.getD j 0 = z at *
      have HZ := hid hz
      clear hz hlw hll hg0
      have hy1 : 97 ≤ (97 + z.tmod 26) % 256 ∧ (97 + z.tmod 26) % 256 ≤ 122 := by
        have := HZ.out
        rw [Int.tmod_eq_emod_of_nonneg (by omega)]
        omega
      obtain ⟨v', w', hr, ⟨xa, xc, xn, rfl⟩, l2, hk⟩ := HP.out _ hy1.1 hy1.2
      have HK := hid hk
      clear hk hy1 HP HZ
      go_wp2_with (at_builtin; refine Lib.wpList_append_run _ rfl _ _ _ _ rfl _ _ rfl rfl _ _ hr ?_)
      exact ⟨⟨j + 1, l2, by go_num, by omega, by omega, HK.out.1, HK.out.2.1, HK.out.2.2.1, HK.out.2.2.2⟩, by simp [intOf]; omega⟩
    · have hT : Hid True := trivial
      have hlt : (j : Int) < (n : Int) ∧ ¬ (j : Int) < 3 ∨ ¬ (j : Int) < (n : Int) := by omega
      obtain ⟨Z, hZ⟩ : ∃ Z, Z = zeros 65537 := ⟨_, rfl⟩
      have hmk : ∀ u : World, (Instr.makeSlice 22 (.int .i64 65537) (.int .i64 65537)).run Tryd.prog u = .ok (.slice (some ⟨u.heap.size, 0, none⟩) 65537 65537) (u.alloc (.cells (Z.map (Value.int .u8)).toArray 5)) := by rw [hZ]; exact make_u8 65537 (by omega)
      obtain ⟨w2, hw2⟩ : ∃ w2, w2 = wr.alloc (.cells (Z.map (Value.int .u8)).toArray 5) := ⟨_, rfl⟩
      have z0 := hB.size
      have HM : Hid (Blk .u8 5 w2 wr.heap.size Z ∧ Z.length = 65537 ∧ Pl.isB Z ∧ OwB b w2 (.slice (some ⟨g, 0, none⟩) l.length cc) l ∧ Below b w w2) := by
        have bl : Below wr.heap.size wr w2 := by rw [hw2]; exact below1 _ _
        exact ⟨by rw [hw2]; exact Blk.new _ _, by rw [hZ]; exact length_zeros _, by rw [hZ]; exact isB_zeros _, hO.next bl, hB.trans (bl.mono (by have := Hb.out; omega))⟩
      obtain ⟨tb, htb⟩ : ∃ tb, tb = wr.heap.size := ⟨_, rfl⟩
      have HT := hid htb
      rw [← htb] at HM hg1
      have HW2 := hid hw2
      have HL := hid (And.intro hlw hll)
      have hLL : 0 < l.length ∧ l.length ≤ 4 := by omega
      clear hw2 hZ hB hO hlw hll htb z0 hjn
      generalize hln : l.length = L at *
      rcases hlt with ⟨q1, q2⟩ | q1
      all_goals
        go_wp2_with fail
        rw [← HW2.out, ← HT.out]
        go_loopw [8] (fun iv wt => ∃ (k : Nat) (ys : List Int), iv = .int .i64 (k : Int) ∧ k ≤ 65537 ∧ Blk .u8 5 wt tb ys ∧ ys.length = 65537 ∧ Pl.isB ys ∧ (∀ t, t < k → ys.getD t 0 = 32) ∧ OwB b wt (.slice (some ⟨g, 0, none⟩) L cc) l ∧ Below b w wt) (fun iv _ => 65537 - (intOf iv).toNat)
        case atStart => exact ⟨0, Z, rfl, by omega, HM.out.1, HM.out.2.1, HM.out.2.2.1, (fun t ht => by omega), HM.out.2.2.2.1, HM.out.2.2.2.2⟩
        case round =>
          clear HM HW2 HT
          obtain ⟨k, ys, rfl, hk, hblk, hyl, hyB, h32, hO, hB⟩ := hrel
          by_cases hkn : k < 65537
          · have hkn' : (k : Int) < 65537 := by omega
            have cB := hblk.cell k (by omega)
            have fB := hblk.frozen k
            have HNX : Hid (∃ ys2, Blk .u8 5 (World.setCell _ ⟨tb, k, none⟩ (.int .u8 32)) tb ys2 ∧ ys2.length = 65537 ∧ Pl.isB ys2 ∧ (∀ t, t < k + 1 → ys2.getD t 0 = 32) ∧ OwB b (World.setCell _ ⟨tb, k, none⟩ (.int .u8 32)) (.slice (some ⟨g, 0, none⟩) L cc) l ∧ Below b w (World.setCell _ ⟨tb, k, none⟩ (.int .u8 32))) := ⟨ys.set k 32, hblk.set k 32, by rw [List.length_set]; exact hyl, (fun z hz => by rcases List.mem_or_eq_of_mem_set hz with h | h; exact hyB z h; omega), (fun t ht => by
                rw [List.getD_eq_getElem?_getD, List.getElem?_set]
                by_cases e : k = t
                · rw [if_pos e, if_pos (by omega)]; rfl
                · rw [if_neg e, ← List.getD_eq_getElem?_getD]; exact h32 t (by omega)), own_keep hO (fun g9 hg9 => by simp [Value.ownBlock] at hg9; exact Below.heap_setCell _ _ _ _ (by simp; omega)), hB.setCell (show b ≤ tb by omega) _⟩
            clear hblk hyB h32 hO hB
            go_wp2_with fail
            obtain ⟨ys2, p1, p2, p3, p4, p5, p6⟩ := HNX.out
            exact ⟨⟨k + 1, ys2, by go_num, by omega, p1, p2, p3, p4, p5, p6⟩, by simp [intOf]; omega⟩
          · have hkn' : ¬ (k : Int) < 65537 := by omega
            obtain ⟨m, hm⟩ : ∃ m : Nat, mo % 4096 = (m : Int) := ⟨(mo % 4096).toNat, by omega⟩
            have hm2 : m ≤ 4095 := by omega
            have hand : bits .and .i64 mo 4095 = (m : Int) := (and4095 mo).trans hm
            have hgw : g < wr.heap.size := by have := hblk.lt; omega
            obtain ⟨W3, hcp, hB3, hz3, hgr3⟩ := copy_u8 tb m (65537 - m) (65537 - m) (some ⟨g, 0, none⟩) L cc ys l wr wr.heap.size hblk (by rw [← hln]; exact OwB.rd (by rw [hln]; exact hO) rfl HL.out.1.isB hgw) (by omega) (by omega)
            have hO3 : OwB b W3 (.slice (some ⟨g, 0, none⟩) L cc) l := own_keep hO (fun g9 hg9 => by simp [Value.ownBlock] at hg9; exact hgr3.block g9 (by omega) (by simp; omega))
            have hbe3 : Below b w W3 := hB.grown hgr3 (by omega) (fun k9 e9 => by simp at e9; omega)
            have HC := hid (text_calls hbe3 (by have := Hb.out; omega) hB3 hyl hyB (fun t ht => h32 t (by omega)) hm2 (by omega) (by omega) HL.out.1 hO3)
            clear hblk hyB h32 hO hB hbe3 hO3 hgr3 hB3 hz3 hm
            go_wp2_with fail
            refine Calls.mono HC.out ?_
            rintro e W4 ⟨tg, uc, rfl, h⟩
            have HC2 := hid h
            clear h HC hcp
            go_wp2_with fail
            refine Calls.mono HC2.out ?_
            rintro e W5 ⟨va, vc, rfl, t1, t3, hO5, hB5⟩
            have hg5 : g < W5.heap.size := by have := own_blk hO5 (g := g) rfl; omega
            have hcv : ∀ u, u = W5 ∨ u = W5.drew → (convert 22 9 (.slice (some ⟨g, 0, none⟩) L cc)).run Tryd.prog u = .ok (.string (strOfNums l)) u := fun u hu => by
              have hr5 : Rd W5.heap.size W5 (some ⟨g, 0, none⟩) L l := by rw [← hln]; exact OwB.rd (by rw [hln]; exact hO5) rfl HL.out.1.isB hg5
              rcases hu with rfl | rfl
              · exact conv_str hr5 cc
              · exact conv_str (w := W5.drew) hr5 cc
            have hcv1 := hcv W5.drew (.inr rfl)
            have HO5 := hid (And.intro hO5 hB5)
            clear hO5 hB5 hcv HC2
            obtain ⟨U, hU⟩ : ∃ U, U = strOfNums l := ⟨_, rfl⟩
            have HU := hid hU
            rw [← hU] at t1 hcv1
            have kS := And.intro (show W5.drew.cell? ⟨tg, 1, none⟩ = some (.string U) from t1) (And.intro (show W5.drew.cell? ⟨tg, 3, none⟩ = some (.int .i64 (m : Int)) from t3) hcv1)
            clear hU t1 t3 hcv1
            go_wp2_with fail
            refine wp_region_held_drew (S := (fun u => u.cell? ⟨tg, 1, none⟩ = some (.string U) ∧ u.cell? ⟨tg, 3, none⟩ = some (.int .i64 (m : Int)) ∧ (convert 22 9 (.slice (some ⟨g, 0, none⟩) L cc)).run Tryd.prog u = .ok (.string U) u)) (by kernel_rfl) kS (fun hSS => ?_)
            refine wpAnyH_take (i := 0) (oi := ({ dst := some 82, op := Op.move (Operand.tmp 11), type := 24, pos := _, after := _, guard := none } : Oper)) (v := ?_) rfl (by kernel_rfl) (by kernel_rfl) (by kernel_rfl) (fun _ _ _ h => h) (Or.inl ⟨by rfl, ?_⟩) hSS ?_
            rotate_left
            · intro w9 hSw
              (try dsimp only at hSw)
              (try go_split_ands)
              first | (go_simp; done) | (go_simp; with_reducible rfl)
            try simp only [Act.put, List.setIfInBounds_toArray, List.set_cons_zero, List.set_cons_succ]
            refine wpAnyH_ready (rs := [1]) (by kernel_rfl) (by simp) (AllReadyH.cons (o := ({ dst := some 83, op := Op.call { callee := Callee.value (Operand.func 8), args := #[Operand.tmp 82], argTypes := #[24] }, type := 3, pos := _, after := _, guard := none } : Oper)) rfl (fun K9 hK9 => ?_) AllReadyH.nil)
            go_simp
            go_at_call 8
            refine Calls.mono (num_any _ _) ?_
            rintro e w9x ⟨rfl, rfl⟩
            refine hK9.out _ _ kS (fun hSS => ?_)
            clear hK9 K9
            try simp only [Act.put, List.setIfInBounds_toArray, List.set_cons_zero, List.set_cons_succ]
            refine wpAnyH_take (i := 2) (oi := ({ dst := some 84, op := Op.binOp BinOp.neq 3 (Operand.tmp 83) (Operand.const (Value.int IntKind.i64 0)) 3, type := 4, pos := _, after := _, guard := none } : Oper)) (v := ?_) rfl (by kernel_rfl) (by kernel_rfl) (by kernel_rfl) (fun _ _ _ h => h) (Or.inl ⟨by rfl, ?_⟩) hSS ?_
            rotate_left
            · intro w9 hSw
              (try dsimp only at hSw)
              (try go_split_ands)
              first | (go_simp; done) | (go_simp; with_reducible rfl)
            try simp only [Act.put, List.setIfInBounds_toArray, List.set_cons_zero, List.set_cons_succ]
            refine wpAnyH_take (i := 3) (oi := ({ dst := some 85, op := Op.move (Operand.tmp 84), type := 4, pos := _, after := _, guard := none } : Oper)) (v := ?_) rfl (by kernel_rfl) (by kernel_rfl) (by kernel_rfl) (fun _ _ _ h => h) (Or.inl ⟨by rfl, ?_⟩) hSS ?_
            rotate_left
            · intro w9 hSw
              (try dsimp only at hSw)
              (try go_split_ands)
              first | (go_simp; done) | (go_simp; with_reducible rfl)
            try simp only [Act.put, List.setIfInBounds_toArray, List.set_cons_zero, List.set_cons_succ]
            refine wpAnyH_take (i := 4) (oi := ({ dst := some 86, op := Op.move (Operand.tmp 9), type := 23, pos := _, after := _, guard := some (3, false) } : Oper)) (v := ?_) rfl (by kernel_rfl) (by kernel_rfl) (by kernel_rfl) (fun _ _ _ h => h) (Or.inl ⟨by rfl, ?_⟩) hSS ?_
            rotate_left
            · intro w9 hSw
              (try dsimp only at hSw)
              (try go_split_ands)
              first | (go_simp; done) | (go_simp; with_reducible rfl)
            try simp only [Act.put, List.setIfInBounds_toArray, List.set_cons_zero, List.set_cons_succ]
            refine wpAnyH_take (i := 5) (oi := ({ dst := some 87, op := Op.call { callee := Callee.builtin Builtin.len, args := #[Operand.tmp 86], argTypes := #[23] }, type := 3, pos := _, after := _, guard := some (3, false) } : Oper)) (v := ?_) rfl (by kernel_rfl) (by kernel_rfl) (by kernel_rfl) (fun _ _ _ h => h) (Or.inl ⟨by rfl, ?_⟩) hSS ?_
            rotate_left
            · intro w9 hSw
              (try dsimp only at hSw)
              (try go_split_ands)
              first | (go_simp; done) | (go_simp; with_reducible rfl)
            try simp only [Act.put, List.setIfInBounds_toArray, List.set_cons_zero, List.set_cons_succ]
            refine wpAnyH_take (i := 6) (oi := ({ dst := some 88, op := Op.binOp BinOp.neq 3 (Operand.tmp 87) (Operand.const (Value.int IntKind.i64 1)) 3, type := 4, pos := _, after := _, guard := some (3, false) } : Oper)) (v := ?_) rfl (by kernel_rfl) (by kernel_rfl) (by kernel_rfl) (fun _ _ _ h => h) (Or.inl ⟨by rfl, ?_⟩) hSS ?_
            rotate_left
            · intro w9 hSw
              (try dsimp only at hSw)
              (try go_split_ands)
              first | (go_simp; done) | (go_simp; with_reducible rfl)
            try simp only [Act.put, List.setIfInBounds_toArray, List.set_cons_zero, List.set_cons_succ]
            refine wpAnyH_take (i := 7) (oi := ({ dst := some 89, op := Op.pick (Operand.tmp 85) (Operand.const (Value.bool true)) (Operand.tmp 88), type := 4, pos := _, after := _, guard := none } : Oper)) (v := ?_) rfl (by kernel_rfl) (by kernel_rfl) (by kernel_rfl) (fun _ _ _ h => h) (Or.inl ⟨by rfl, ?_⟩) hSS ?_
            rotate_left
            · intro w9 hSw
              (try dsimp only at hSw)
              (try go_split_ands)
              first | (go_simp; done) | (go_simp; with_reducible rfl)
            try simp only [Act.put, List.setIfInBounds_toArray, List.set_cons_zero, List.set_cons_succ]
            refine wpAnyH_take (i := 8) (oi := ({ dst := some 90, op := Op.move (Operand.tmp 89), type := 4, pos := _, after := _, guard := none } : Oper)) (v := ?_) rfl (by kernel_rfl) (by kernel_rfl) (by kernel_rfl) (fun _ _ _ h => h) (Or.inl ⟨by rfl, ?_⟩) hSS ?_
            rotate_left
            · intro w9 hSw
              (try dsimp only at hSw)
              (try go_split_ands)
              first | (go_simp; done) | (go_simp; with_reducible rfl)
            try simp only [Act.put, List.setIfInBounds_toArray, List.set_cons_zero, List.set_cons_succ]
            refine wpAnyH_take (i := 9) (oi := ({ dst := some 91, op := Op.move (Operand.tmp 9), type := 23, pos := _, after := _, guard := some (8, false) } : Oper)) (v := ?_) rfl (by kernel_rfl) (by kernel_rfl) (by kernel_rfl) (fun _ _ _ h => h) (Or.inl ⟨by rfl, ?_⟩) hSS ?_
            rotate_left
            · intro w9 hSw
              (try dsimp only at hSw)
              (try go_split_ands)
              first | (go_simp; done) | (go_simp; with_reducible rfl)
            try simp only [Act.put, List.setIfInBounds_toArray, List.set_cons_zero, List.set_cons_succ]
            refine wpAnyH_take (i := 10) (oi := ({ dst := some 92, op := Op.indexAddr 23 (Operand.tmp 91) (Operand.const (Value.int IntKind.i64 0)), type := 0, pos := _, after := _, guard := some (8, false) } : Oper)) (v := ?_) rfl (by kernel_rfl) (by kernel_rfl) (by kernel_rfl) (fun _ _ _ h => h) (Or.inl ⟨by rfl, ?_⟩) hSS ?_
            rotate_left
            · intro w9 hSw
              (try dsimp only at hSw)
              (try go_split_ands)
              first | (go_simp; done) | (go_simp; with_reducible rfl)
            try simp only [Act.put, List.setIfInBounds_toArray, List.set_cons_zero, List.set_cons_succ]
            refine wpAnyH_take (i := 11) (oi := ({ dst := some 93, op := Op.fieldAddr 29 (Operand.tmp 92) 1, type := 0, pos := _, after := _, guard := some (8, false) } : Oper)) (v := ?_) rfl (by kernel_rfl) (by kernel_rfl) (by kernel_rfl) (fun _ _ _ h => h) (Or.inl ⟨by rfl, ?_⟩) hSS ?_
            rotate_left
            · intro w9 hSw
              (try dsimp only at hSw)
              (try go_split_ands)
              first | (go_simp; done) | (go_simp; with_reducible rfl)
            try simp only [Act.put, List.setIfInBounds_toArray, List.set_cons_zero, List.set_cons_succ]
            refine wpAnyH_take (i := 12) (oi := ({ dst := some 94, op := Op.load 9 (Operand.tmp 93), type := 9, pos := _, after := _, guard := some (8, false) } : Oper)) (v := ?_) rfl (by kernel_rfl) (by kernel_rfl) (by kernel_rfl) (fun _ _ _ h => h) (Or.inl ⟨by rfl, ?_⟩) hSS ?_
            rotate_left
            · intro w9 hSw
              (try dsimp only at hSw)
              (try go_split_ands)
              first | (go_simp; done) | (go_simp; with_reducible rfl)
            try simp only [Act.put, List.setIfInBounds_toArray, List.set_cons_zero, List.set_cons_succ]
            refine wpAnyH_take (i := 13) (oi := ({ dst := some 95, op := Op.move (Operand.tmp 5), type := 22, pos := _, after := _, guard := some (8, false) } : Oper)) (v := ?_) rfl (by kernel_rfl) (by kernel_rfl) (by kernel_rfl) (fun _ _ _ h => h) (Or.inl ⟨by rfl, ?_⟩) hSS ?_
            rotate_left
            · intro w9 hSw
              (try dsimp only at hSw)
              (try go_split_ands)
              first | (go_simp; done) | (go_simp; with_reducible rfl)
            try simp only [Act.put, List.setIfInBounds_toArray, List.set_cons_zero, List.set_cons_succ]
            refine wpAnyH_take (i := 14) (oi := ({ dst := some 96, op := Op.convert 22 9 (Operand.tmp 95), type := 9, pos := _, after := _, guard := some (8, false) } : Oper)) (v := .string U) rfl (by kernel_rfl) (by kernel_rfl) (by kernel_rfl) (fun _ _ _ h => h) (Or.inl ⟨by rfl, ?_⟩) hSS ?_
            · intro w9 hSw
              (try dsimp only at hSw)
              (try go_split_ands)
              first | (go_simp; done) | (go_simp; simp [*]; done)
            try simp only [Act.put, List.setIfInBounds_toArray, List.set_cons_zero, List.set_cons_succ]
            refine wpAnyH_take (i := 15) (oi := ({ dst := some 97, op := Op.binOp BinOp.neq 9 (Operand.tmp 94) (Operand.tmp 96) 9, type := 4, pos := _, after := _, guard := some (8, false) } : Oper)) (v := ?_) rfl (by kernel_rfl) (by kernel_rfl) (by kernel_rfl) (fun _ _ _ h => h) (Or.inl ⟨by rfl, ?_⟩) hSS ?_
            rotate_left
            · intro w9 hSw
              (try dsimp only at hSw)
              (try go_split_ands)
              first | (go_simp; done) | (go_simp; with_reducible rfl)
            try simp only [Act.put, List.setIfInBounds_toArray, List.set_cons_zero, List.set_cons_succ]
            refine wpAnyH_take (i := 16) (oi := ({ dst := some 98, op := Op.pick (Operand.tmp 90) (Operand.const (Value.bool true)) (Operand.tmp 97), type := 4, pos := _, after := _, guard := none } : Oper)) (v := ?_) rfl (by kernel_rfl) (by kernel_rfl) (by kernel_rfl) (fun _ _ _ h => h) (Or.inl ⟨by rfl, ?_⟩) hSS ?_
            rotate_left
            · intro w9 hSw
              (try dsimp only at hSw)
              (try go_split_ands)
              first | (go_simp; done) | (go_simp; with_reducible rfl)
            try simp only [Act.put, List.setIfInBounds_toArray, List.set_cons_zero, List.set_cons_succ]
            refine wpAnyH_take (i := 17) (oi := ({ dst := some 99, op := Op.move (Operand.tmp 98), type := 4, pos := _, after := _, guard := none } : Oper)) (v := ?_) rfl (by kernel_rfl) (by kernel_rfl) (by kernel_rfl) (fun _ _ _ h => h) (Or.inl ⟨by rfl, ?_⟩) hSS ?_
            rotate_left
            · intro w9 hSw
              (try dsimp only at hSw)
              (try go_split_ands)
              first | (go_simp; done) | (go_simp; with_reducible rfl)
            try simp only [Act.put, List.setIfInBounds_toArray, List.set_cons_zero, List.set_cons_succ]
            refine wpAnyH_take (i := 18) (oi := ({ dst := some 100, op := Op.move (Operand.tmp 9), type := 23, pos := _, after := _, guard := some (17, false) } : Oper)) (v := ?_) rfl (by kernel_rfl) (by kernel_rfl) (by kernel_rfl) (fun _ _ _ h => h) (Or.inl ⟨by rfl, ?_⟩) hSS ?_
            rotate_left
            · intro w9 hSw
              (try dsimp only at hSw)
              (try go_split_ands)
              first | (go_simp; done) | (go_simp; with_reducible rfl)
            try simp only [Act.put, List.setIfInBounds_toArray, List.set_cons_zero, List.set_cons_succ]
            refine wpAnyH_take (i := 19) (oi := ({ dst := some 101, op := Op.indexAddr 23 (Operand.tmp 100) (Operand.const (Value.int IntKind.i64 0)), type := 0, pos := _, after := _, guard := some (17, false) } : Oper)) (v := ?_) rfl (by kernel_rfl) (by kernel_rfl) (by kernel_rfl) (fun _ _ _ h => h) (Or.inl ⟨by rfl, ?_⟩) hSS ?_
            rotate_left
            · intro w9 hSw
              (try dsimp only at hSw)
              (try go_split_ands)
              first | (go_simp; done) | (go_simp; with_reducible rfl)
            try simp only [Act.put, List.setIfInBounds_toArray, List.set_cons_zero, List.set_cons_succ]
            refine wpAnyH_take (i := 20) (oi := ({ dst := some 102, op := Op.fieldAddr 29 (Operand.tmp 101) 3, type := 0, pos := _, after := _, guard := some (17, false) } : Oper)) (v := ?_) rfl (by kernel_rfl) (by kernel_rfl) (by kernel_rfl) (fun _ _ _ h => h) (Or.inl ⟨by rfl, ?_⟩) hSS ?_
            rotate_left
            · intro w9 hSw
              (try dsimp only at hSw)
              (try go_split_ands)
              first | (go_simp; done) | (go_simp; with_reducible rfl)
            try simp only [Act.put, List.setIfInBounds_toArray, List.set_cons_zero, List.set_cons_succ]
            refine wpAnyH_take (i := 21) (oi := ({ dst := some 103, op := Op.load 3 (Operand.tmp 102), type := 3, pos := _, after := _, guard := some (17, false) } : Oper)) (v := ?_) rfl (by kernel_rfl) (by kernel_rfl) (by kernel_rfl) (fun _ _ _ h => h) (Or.inl ⟨by rfl, ?_⟩) hSS ?_
            rotate_left
            · intro w9 hSw
              (try dsimp only at hSw)
              (try go_split_ands)
              first | (go_simp; done) | (go_simp; with_reducible rfl)
            try simp only [Act.put, List.setIfInBounds_toArray, List.set_cons_zero, List.set_cons_succ]
            refine wpAnyH_take (i := 22) (oi := ({ dst := some 104, op := Op.move (Operand.tmp 1), type := 3, pos := _, after := _, guard := some (17, false) } : Oper)) (v := ?_) rfl (by kernel_rfl) (by kernel_rfl) (by kernel_rfl) (fun _ _ _ h => h) (Or.inl ⟨by rfl, ?_⟩) hSS ?_
            rotate_left
            · intro w9 hSw
              (try dsimp only at hSw)
              (try go_split_ands)
              first | (go_simp; done) | (go_simp; with_reducible rfl)
            try simp only [Act.put, List.setIfInBounds_toArray, List.set_cons_zero, List.set_cons_succ]
            refine wpAnyH_take (i := 23) (oi := ({ dst := some 105, op := Op.binOp BinOp.and 3 (Operand.tmp 104) (Operand.const (Value.int IntKind.i64 4095)) 3, type := 3, pos := _, after := _, guard := some (17, false) } : Oper)) (v := ?_) rfl (by kernel_rfl) (by kernel_rfl) (by kernel_rfl) (fun _ _ _ h => h) (Or.inl ⟨by rfl, ?_⟩) hSS ?_
            rotate_left
            · intro w9 hSw
              (try dsimp only at hSw)
              (try go_split_ands)
              first | (go_simp; done) | (go_simp; with_reducible rfl)
            try simp only [Act.put, List.setIfInBounds_toArray, List.set_cons_zero, List.set_cons_succ]
            refine wpAnyH_take (i := 24) (oi := ({ dst := some 106, op := Op.binOp BinOp.neq 3 (Operand.tmp 103) (Operand.tmp 105) 3, type := 4, pos := _, after := _, guard := some (17, false) } : Oper)) (v := ?_) rfl (by kernel_rfl) (by kernel_rfl) (by kernel_rfl) (fun _ _ _ h => h) (Or.inl ⟨by rfl, ?_⟩) hSS ?_
            rotate_left
            · intro w9 hSw
              (try dsimp only at hSw)
              (try go_split_ands)
              first | (go_simp; done) | (go_simp; with_reducible rfl)
            try simp only [Act.put, List.setIfInBounds_toArray, List.set_cons_zero, List.set_cons_succ]
            refine wpAnyH_take (i := 25) (oi := ({ dst := some 107, op := Op.pick (Operand.tmp 99) (Operand.const (Value.bool true)) (Operand.tmp 106), type := 4, pos := _, after := _, guard := none } : Oper)) (v := ?_) rfl (by kernel_rfl) (by kernel_rfl) (by kernel_rfl) (fun _ _ _ h => h) (Or.inl ⟨by rfl, ?_⟩) hSS ?_
            rotate_left
            · intro w9 hSw
              (try dsimp only at hSw)
              (try go_split_ands)
              first | (go_simp; done) | (go_simp; with_reducible rfl)
            try simp only [Act.put, List.setIfInBounds_toArray, List.set_cons_zero, List.set_cons_succ]
            refine wpAnyH_take (i := 26) (oi := ({ dst := some 108, op := Op.move (Operand.tmp 107), type := 4, pos := _, after := _, guard := none } : Oper)) (v := ?_) rfl (by kernel_rfl) (by kernel_rfl) (by kernel_rfl) (fun _ _ _ h => h) (Or.inl ⟨by rfl, ?_⟩) hSS ?_
            rotate_left
            · intro w9 hSw
              (try dsimp only at hSw)
              (try go_split_ands)
              first | (go_simp; done) | (go_simp; with_reducible rfl)
            try simp only [Act.put, List.setIfInBounds_toArray, List.set_cons_zero, List.set_cons_succ]
            refine wpAnyH_take (i := 27) (oi := ({ dst := some 109, op := Op.move (Operand.tmp 14), type := 24, pos := _, after := _, guard := some (26, false) } : Oper)) (v := ?_) rfl (by kernel_rfl) (by kernel_rfl) (by kernel_rfl) (fun _ _ _ h => h) (Or.inl ⟨by rfl, ?_⟩) hSS ?_
            rotate_left
            · intro w9 hSw
              (try dsimp only at hSw)
              (try go_split_ands)
              first | (go_simp; done) | (go_simp; with_reducible rfl)
            try simp only [Act.put, List.setIfInBounds_toArray, List.set_cons_zero, List.set_cons_succ]
            refine wpAnyH_ready (rs := [28]) (by kernel_rfl) (by simp) (AllReadyH.cons (o := ({ dst := some 110, op := Op.call { callee := Callee.value (Operand.func 8), args := #[Operand.tmp 109], argTypes := #[24] }, type := 3, pos := _, after := _, guard := some (26, false) } : Oper)) rfl (fun K9 hK9 => ?_) AllReadyH.nil)
            go_simp
            go_at_call 8
            refine Calls.mono (num_any _ _) ?_
            rintro e w9x ⟨rfl, rfl⟩
            refine hK9.out _ _ kS (fun hSS => ?_)
            clear hK9 K9
            try simp only [Act.put, List.setIfInBounds_toArray, List.set_cons_zero, List.set_cons_succ]
            refine wpAnyH_take (i := 29) (oi := ({ dst := some 111, op := Op.binOp BinOp.neq 3 (Operand.tmp 110) (Operand.const (Value.int IntKind.i64 180)) 3, type := 4, pos := _, after := _, guard := some (26, false) } : Oper)) (v := ?_) rfl (by kernel_rfl) (by kernel_rfl) (by kernel_rfl) (fun _ _ _ h => h) (Or.inl ⟨by rfl, ?_⟩) hSS ?_
            rotate_left
            · intro w9 hSw
              (try dsimp only at hSw)
              (try go_split_ands)
              first | (go_simp; done) | (go_simp; with_reducible rfl)
            try simp only [Act.put, List.setIfInBounds_toArray, List.set_cons_zero, List.set_cons_succ]
            refine wpAnyH_take (i := 30) (oi := ({ dst := some 112, op := Op.pick (Operand.tmp 108) (Operand.const (Value.bool true)) (Operand.tmp 111), type := 4, pos := _, after := _, guard := none } : Oper)) (v := ?_) rfl (by kernel_rfl) (by kernel_rfl) (by kernel_rfl) (fun _ _ _ h => h) (Or.inl ⟨by rfl, ?_⟩) hSS ?_
            rotate_left
            · intro w9 hSw
              (try dsimp only at hSw)
              (try go_split_ands)
              first | (go_simp; done) | (go_simp; with_reducible rfl)
            try simp only [Act.put, List.setIfInBounds_toArray, List.set_cons_zero, List.set_cons_succ]
            refine wpAnyH_take (i := 31) (oi := ({ dst := some 113, op := Op.move (Operand.tmp 112), type := 4, pos := _, after := _, guard := none } : Oper)) (v := ?_) rfl (by kernel_rfl) (by kernel_rfl) (by kernel_rfl) (fun _ _ _ h => h) (Or.inl ⟨by rfl, ?_⟩) hSS ?_
            rotate_left
            · intro w9 hSw
              (try dsimp only at hSw)
              (try go_split_ands)
              first | (go_simp; done) | (go_simp; with_reducible rfl)
            try simp only [Act.put, List.setIfInBounds_toArray, List.set_cons_zero, List.set_cons_succ]
            refine wpAnyH_take (i := 32) (oi := ({ dst := some 114, op := Op.move (Operand.tmp 13), type := 3, pos := _, after := _, guard := some (31, false) } : Oper)) (v := ?_) rfl (by kernel_rfl) (by kernel_rfl) (by kernel_rfl) (fun _ _ _ h => h) (Or.inl ⟨by rfl, ?_⟩) hSS ?_
            rotate_left
            · intro w9 hSw
              (try dsimp only at hSw)
              (try go_split_ands)
              first | (go_simp; done) | (go_simp; with_reducible rfl)
            try simp only [Act.put, List.setIfInBounds_toArray, List.set_cons_zero, List.set_cons_succ]
            refine wpAnyH_take (i := 33) (oi := ({ dst := some 115, op := Op.binOp BinOp.neq 3 (Operand.tmp 114) (Operand.const (Value.int IntKind.i64 0)) 3, type := 4, pos := _, after := _, guard := some (31, false) } : Oper)) (v := ?_) rfl (by kernel_rfl) (by kernel_rfl) (by kernel_rfl) (fun _ _ _ h => h) (Or.inl ⟨by rfl, ?_⟩) hSS ?_
            rotate_left
            · intro w9 hSw
              (try dsimp only at hSw)
              (try go_split_ands)
              first | (go_simp; done) | (go_simp; with_reducible rfl)
            try simp only [Act.put, List.setIfInBounds_toArray, List.set_cons_zero, List.set_cons_succ]
            refine wpAnyH_take (i := 34) (oi := ({ dst := some 116, op := Op.pick (Operand.tmp 113) (Operand.const (Value.bool true)) (Operand.tmp 115), type := 4, pos := _, after := _, guard := none } : Oper)) (v := ?_) rfl (by kernel_rfl) (by kernel_rfl) (by kernel_rfl) (fun _ _ _ h => h) (Or.inl ⟨by rfl, ?_⟩) hSS ?_
            rotate_left
            · intro w9 hSw
              (try dsimp only at hSw)
              (try go_split_ands)
              first | (go_simp; done) | (go_simp; with_reducible rfl)
            try simp only [Act.put, List.setIfInBounds_toArray, List.set_cons_zero, List.set_cons_succ]
            refine wpAnyH_take (i := 35) (oi := ({ dst := some 117, op := Op.move (Operand.tmp 116), type := 4, pos := _, after := _, guard := none } : Oper)) (v := ?_) rfl (by kernel_rfl) (by kernel_rfl) (by kernel_rfl) (fun _ _ _ h => h) (Or.inl ⟨by rfl, ?_⟩) hSS ?_
            rotate_left
            · intro w9 hSw
              (try dsimp only at hSw)
              (try go_split_ands)
              first | (go_simp; done) | (go_simp; with_reducible rfl)
            try simp only [Act.put, List.setIfInBounds_toArray, List.set_cons_zero, List.set_cons_succ]
            refine wpAnyH_take (i := 36) (oi := ({ dst := some 118, op := Op.move (Operand.tmp 12), type := 23, pos := _, after := _, guard := some (35, false) } : Oper)) (v := ?_) rfl (by kernel_rfl) (by kernel_rfl) (by kernel_rfl) (fun _ _ _ h => h) (Or.inl ⟨by rfl, ?_⟩) hSS ?_
            rotate_left
            · intro w9 hSw
              (try dsimp only at hSw)
              (try go_split_ands)
              first | (go_simp; done) | (go_simp; with_reducible rfl)
            try simp only [Act.put, List.setIfInBounds_toArray, List.set_cons_zero, List.set_cons_succ]
            refine wpAnyH_take (i := 37) (oi := ({ dst := some 119, op := Op.call { callee := Callee.builtin Builtin.len, args := #[Operand.tmp 118], argTypes := #[23] }, type := 3, pos := _, after := _, guard := some (35, false) } : Oper)) (v := ?_) rfl (by kernel_rfl) (by kernel_rfl) (by kernel_rfl) (fun _ _ _ h => h) (Or.inl ⟨by rfl, ?_⟩) hSS ?_
            rotate_left
            · intro w9 hSw
              (try dsimp only at hSw)
              (try go_split_ands)
              first | (go_simp; done) | (go_simp; with_reducible rfl)
            try simp only [Act.put, List.setIfInBounds_toArray, List.set_cons_zero, List.set_cons_succ]
            refine wpAnyH_take (i := 38) (oi := ({ dst := some 120, op := Op.binOp BinOp.neq 3 (Operand.tmp 119) (Operand.const (Value.int IntKind.i64 0)) 3, type := 4, pos := _, after := _, guard := some (35, false) } : Oper)) (v := ?_) rfl (by kernel_rfl) (by kernel_rfl) (by kernel_rfl) (fun _ _ _ h => h) (Or.inl ⟨by rfl, ?_⟩) hSS ?_
            rotate_left
            · intro w9 hSw
              (try dsimp only at hSw)
              (try go_split_ands)
              first | (go_simp; done) | (go_simp; with_reducible rfl)
            try simp only [Act.put, List.setIfInBounds_toArray, List.set_cons_zero, List.set_cons_succ]
            refine wpAnyH_take (i := 39) (oi := ({ dst := some 121, op := Op.pick (Operand.tmp 117) (Operand.const (Value.bool true)) (Operand.tmp 120), type := 4, pos := _, after := _, guard := none } : Oper)) (v := ?_) rfl (by kernel_rfl) (by kernel_rfl) (by kernel_rfl) (fun _ _ _ h => h) (Or.inl ⟨by rfl, ?_⟩) hSS ?_
            rotate_left
            · intro w9 hSw
              (try dsimp only at hSw)
              (try go_split_ands)
              first | (go_simp; done) | (go_simp; with_reducible rfl)
            try simp only [Act.put, List.setIfInBounds_toArray, List.set_cons_zero, List.set_cons_succ]
            refine wpAnyH_done (by kernel_rfl) ?_ _
            clear kS
            go_wp2_with fail
            go_loopw [15, 16] (fun mv iv wr => ∃ k : Nat, iv = .int .i64 (k : Int) ∧ k ≤ 16385 ∧ OwT b wr mv (List.replicate k (tkW l)) ∧ OwB b wr (.slice (some ⟨g, 0, none⟩) L cc) l ∧ Below b w wr) (fun _ iv _ => 16385 - (intOf iv).toNat)
            case atStart => exact ⟨0, rfl, by omega, OwT.nil _ _, HO5.out.1, HO5.out.2.trans (below_drew _ _)⟩
            case round =>
              clear HO5
              obtain ⟨k, rfl, hk, hOT, hO, hB⟩ := hrel
              obtain ⟨ma, mc, hv⟩ := hOT.form
              rw [List.length_replicate] at hv
              subst hv
              have hgw : g < wr.heap.size := by have := own_blk hO (g := g) rfl; omega
              have hRl : Rd wr.heap.size wr (some ⟨g, 0, none⟩) L l := by rw [← hln]; exact OwB.rd (by rw [hln]; exact hO) rfl HL.out.1.isB hgw
              have hbw := Hb.out
              have z0 := hB.size
              by_cases hkn : k < 16385
              · have hkn' : (k : Int) ≤ 16384 := by omega
                have hcv := conv_str hRl cc
                obtain ⟨v', w', hr, p1, p2⟩ := OwT.push 23 (hOT.next (below1 wr (.cells (cellsT (tkW l)).toArray 29))) (tkW l) (heap_new _ _) (by rw [List.length_replicate]; omega) (by simp; omega)
                obtain ⟨va2, vc2, hv2⟩ := p1.form
                have HNX : Hid (OwT b w' v' (List.replicate (k + 1) (tkW l)) ∧ OwB b w' (.slice (some ⟨g, 0, none⟩) L cc) l ∧ Below b w w') := by
                  refine ⟨by rw [List.replicate_succ']; exact p1, ?_, ?_⟩
                  · refine own_keep (hO.next (below1 wr (.cells (cellsT (tkW l)).toArray 29))) (fun g9 hg9 => p2.block g9 ?_ ?_)
                    · have := own_blk hO hg9; simp; omega
                    · intro e
                      obtain ⟨_, _, c5, h5⟩ := own_blk hO hg9
                      obtain ⟨_, _, c29, h29⟩ := own_blk hOT e.symm
                      rw [h5] at h29
                      simp at h29
                  · exact (hB.trans ((below1 _ _).mono (by omega))).trans (p2.below (by simp; omega) (fun g3 hg3 => (own_blk hOT hg3).1))
                simp only [cellsT, tkW] at hr
                rw [← HU.out] at hr hcv
                subst hv2
                clear p1 p2 hOT hO hB hRl hbw z0
                generalize ((List.replicate k (tkW l) ++ [tkW l]).length) = nn at *
                go_wp2_with (at_builtin; refine Lib.wpList_append_run _ rfl _ _ _ _ rfl _ _ rfl rfl _ _ hr ?_)
                exact ⟨⟨k + 1, by go_num, by omega, HNX.out.1, HNX.out.2.1, HNX.out.2.2⟩, by simp [intOf]; omega⟩
              · have hk5 : k = 16385 := by omega
                have hmc0 := hOT.cap (by rw [List.length_replicate]; omega)
                rw [List.length_replicate] at hmc0
                have hmc : (16384 : Int) ≤ (mc : Int) := by omega
                clear hmc0
                subst hk5
                have HUN := hid (unt_calls hB (by omega) hOT (by omega) (by omega) HL.out.1)
                clear hOT hB hRl z0 hbw hO
                have hjl := jn_len l
                rw [hln] at hjl
                have e0 : strOfNums [] = (⟨#[]⟩ : ByteArray) := rfl
                by_cases hL : L = 4
                · have hq : jnQ (List.replicate 16384 l) = ([], 180) := by unfold jnQ; rw [if_pos (by omega)]
                  rw [hq, e0] at HUN
                  clear hjl hq e0
                  subst hL
                  go_wp2_with fail
                  refine Calls.mono HUN.out ?_
                  rintro e W6 ⟨rfl, h⟩
                  have HU2 := hid h
                  clear h HUN
                  go_wp2_with fail
                  refine Calls.mono HU2.out ?_
                  rintro e W7 ⟨rfl, h⟩
                  have HB7 := hid h
                  clear h HU2
                  go_wp2_with (first | (go_at_call 8; with_reducible refine (num_any _ _).mono ?_; rintro e w8 ⟨rfl, rfl⟩))
                  rw [HPQ.out]
                  exact ⟨rfl, by rw [← Hb.out]; exact HB7.out⟩
                · have hq : jnQ (List.replicate 16384 l) = (jnL (List.replicate 16384 l), 0) := by unfold jnQ; rw [if_neg (by omega)]
                  rw [hq] at HUN
                  have hVs := str_size (jnL (List.replicate 16384 l))
                  have hL3 : L = 1 ∨ L = 2 ∨ L = 3 := by omega
                  obtain ⟨V, hV⟩ : ∃ V, V = strOfNums (jnL (List.replicate 16384 l)) := ⟨_, rfl⟩
                  have HV := hid hV
                  simp only at HUN
                  rw [← hV] at HUN hVs
                  have HVs : Hid (V.size + 1 = 16384 * (L + 1)) := by rw [hVs]; exact hjl
                  clear hjl hq e0 hV hVs
                  go_wp2_with fail
                  refine Calls.mono HUN.out ?_
                  rintro e W6 ⟨rfl, h⟩
                  have HU2 := hid h
                  clear h HUN
                  go_wp2_with fail
                  refine Calls.mono HU2.out ?_
                  rintro e W7 ⟨rfl, h⟩
                  have HB7 := hid h
                  clear h HU2
                  obtain ⟨W8, cv, hcvb, hbk⟩ := back_call (l := l) HB7.out (by have := Hb.out; omega) (by omega) (by omega) HL.out.1
                  rw [← HV.out] at hcvb
                  have HBK := hid hbk
                  clear hbk
                  obtain ⟨NN, hNN⟩ : ∃ NN, NN = (jnL (List.replicate 16384 l)).length := ⟨_, rfl⟩
                  rw [← hNN] at hcvb HBK
                  clear hNN
                  obtain ⟨Z2, hZ2⟩ : ∃ Z2, Z2 = zeros 16385 := ⟨_, rfl⟩
                  have hmk2 : ∀ u : World, (Instr.makeSlice 22 (.int .i64 16385) (.int .i64 16385)).run Tryd.prog u = .ok (.slice (some ⟨u.heap.size, 0, none⟩) 16385 16385) (u.alloc (.cells (Z2.map (Value.int .u8)).toArray 5)) := by rw [hZ2]; exact make_u8 16385 (by omega)
                  have HZ2 : Hid (Z2.length = 16385 ∧ Pl.isB Z2) := by rw [hZ2]; exact ⟨length_zeros _, isB_zeros _⟩
                  clear hZ2 hmk
                  rcases hL3 with rfl | rfl | rfl
                  all_goals
                    first | have hvs : V.size = 32767 := (by have := HVs.out; omega) | have hvs : V.size = 49151 := (by have := HVs.out; omega) | have hvs : V.size = 65535 := (by have := HVs.out; omega)
                    clear HVs
                    go_wp2_with (first | (go_at_call 8; with_reducible refine (num_any _ _).mono ?_; rintro e w8 ⟨rfl, rfl⟩))
                    refine Calls.mono HBK.out ?_
                    rintro e W9 ⟨ba, bc, pl, rfl, hB9⟩
                    clear HBK hcvb
                    obtain ⟨wX, hwX⟩ : ∃ wX, wX = W9.alloc (.cells (Z2.map (Value.int .u8)).toArray 5) := ⟨_, rfl⟩
                    obtain ⟨tx, htx⟩ : ∃ tx, tx = W9.heap.size := ⟨_, rfl⟩
                    have HMX : Hid (Blk .u8 5 wX tx Z2 ∧ Below b w wX) := by
                      rw [hwX, htx]
                      exact ⟨Blk.new _ _, hB9.trans ((below1 _ _).mono (by have := hB9.size; have := Hb.out; omega))⟩
                    have hbx : b ≤ tx := by have := hB9.size; have := Hb.out; omega
                    have HWX := hid hwX
                    have HTX := hid htx
                    clear hwX htx hB9
                    go_wp2_with fail
                    rw [← HWX.out, ← HTX.out]
                    go_loopw [26] (fun iv wr => ∃ (k : Nat) (ys : List Int), iv = .int .i64 (k : Int) ∧ k ≤ 16385 ∧ Blk .u8 5 wr tx ys ∧ ys.length = 16385 ∧ Pl.isB ys ∧ (∀ t, t < k → ys.getD t 0 = 59) ∧ Below b w wr) (fun iv _ => 16385 - (intOf iv).toNat)
                    case atStart => exact ⟨0, Z2, rfl, by omega, HMX.out.1, HZ2.out.1, HZ2.out.2, (fun t ht => by omega), HMX.out.2⟩
                    case round =>
                      clear HMX HWX HTX hmk2
                      obtain ⟨k, ys, rfl, hk, hblk, hyl, hyB, h59, hB⟩ := hrel
                      by_cases hkn : k < 16385
                      · have hkn' : (k : Int) < 16385 := by omega
                        have cB := hblk.cell k (by omega)
                        have fB := hblk.frozen k
                        have HNX : Hid (∃ ys2, Blk .u8 5 (World.setCell _ ⟨tx, k, none⟩ (.int .u8 59)) tx ys2 ∧ ys2.length = 16385 ∧ Pl.isB ys2 ∧ (∀ t, t < k + 1 → ys2.getD t 0 = 59) ∧ Below b w (World.setCell _ ⟨tx, k, none⟩ (.int .u8 59))) := ⟨ys.set k 59, hblk.set k 59, by rw [List.length_set]; exact hyl, (fun z hz => by rcases List.mem_or_eq_of_mem_set hz with h | h; exact hyB z h; omega), (fun t ht => by
                            rw [List.getD_eq_getElem?_getD, List.getElem?_set]
                            by_cases e : k = t
                            · rw [if_pos e, if_pos (by omega)]; rfl
                            · rw [if_neg e, ← List.getD_eq_getElem?_getD]; exact h59 t (by omega)), hB.setCell (show b ≤ tx by omega) _⟩
                        clear hblk hyB h59 hB
                        go_wp2_with fail
                        obtain ⟨ys2, p1, p2, p3, p4, p5⟩ := HNX.out
                        exact ⟨⟨k + 1, ys2, by go_num, by omega, p1, p2, p3, p4, p5⟩, by simp [intOf]; omega⟩
                      · have hkn' : ¬ (k : Int) < 16385 := by omega
                        have HMC := hid (marks_calls hB (by have := Hb.out; omega) hblk hyl hyB (fun t ht => h59 t (by omega)))
                        clear hblk hyB h59 hB
                        go_wp2_with fail
                        refine Calls.mono HMC.out ?_
                        rintro e W11 ⟨a1, c1, p1, rfl, h⟩
                        have HM2 := hid h
                        clear h HMC
                        go_wp2_with fail
                        refine Calls.mono HM2.out ?_
                        rintro e W12 ⟨a2, c2, rfl, h⟩
                        have HBE := hid h
                        clear h HM2
                        go_wp2_with (first | (go_at_call 8; with_reducible refine (num_any _ _).mono ?_; rintro e w8 ⟨rfl, rfl⟩))
                        rw [HPQ.out]
                        exact ⟨rfl, by rw [← Hb.out]; exact HBE.out⟩

end Go.Proofs.YtoifmiloaefanaaDoor
