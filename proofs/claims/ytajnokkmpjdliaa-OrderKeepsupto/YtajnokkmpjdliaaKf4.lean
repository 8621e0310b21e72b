/-
  The law OrderKeeps.
-/
import Derived.Test.YtajnokkmpjdliaaKf3
namespace Go.Proofs.Ytajnokkmpjdliaa
open Go.RowKit

theorem sub_w (k k1 : Nat) (h : k1 + 1 = k) (hk : k ≤ 4000) : wrap64 ((k : Int) - 1) = (k1 : Int) ∧ IntKind.i64.wrap ((k : Int) - 1) = (k1 : Int) := ⟨by rw [w64 _ (by omega)]; omega, by rw [iw64 _ (by omega)]; omega⟩

set_option maxRecDepth 100000 in
set_option maxHeartbeats 8000000 in
theorem keeps_any (m c : Nat) (a : Option Addr) (s : Int) (Z : List (Int × Int)) (hm : m ≤ 1048576) (w : World) (hR : RdZ w a m Z) :
    Calls Try.prog 4 #[.int .i64 s, .slice a m c] w fun e w' => e = .returned (.bool true) ∧ Below w.heap.size w w' := by
  obtain ⟨PO, hPO⟩ : ∃ PO : Ending → World → Prop, PO = fun e w' => e = .returned (.bool true) ∧ Below w.heap.size w w' := ⟨_, rfl⟩
  rw [← hPO]
  have HPO := hid hPO
  obtain ⟨B, hB⟩ : ∃ B, B = w.heap.size := ⟨_, rfl⟩
  have HB := hid hB
  have HR : Hid (∀ W, Below B w W → RdZ W a m Z) := fun W hb => hR.next (by rw [← hB]; exact hb)
  have HM := hid hm
  have HW0 : Hid (Calls Try.prog 13 #[.int .i64 s, .int .i64 1, .int .i64 4000] w fun e w' => ∃ k : Nat, e = .returned (.int .i64 (k : Int)) ∧ 1 ≤ k ∧ k ≤ 4000 ∧ w' = w) := within_any s 1 4000 (by omega) (by omega) w
  clear hPO hB hR hm
  go_enter Try.func4, Try.ntmps4
  go_wp2_with fail
  go_at_call 13
  refine Calls.mono HW0.out ?_
  rintro e wq ⟨k, rfl, hk1, hk2, hwq⟩
  have hwq := hwq.symm
  subst hwq
  have HK : Hid (1 ≤ k ∧ k ≤ 4000) := ⟨hk1, hk2⟩
  clear hk1 hk2 HW0
  go_wp2_with fail
  go_loopw [7, 6] (fun iv ev wr => ∃ (i : Nat) (a6 : Option Addr) (c6 : Nat) (Y : List (Int × Int)), iv = .int .i64 (i : Int) ∧ ev = .slice a6 i c6 ∧ i ≤ m ∧ Y.length = i ∧ wr.ownsRow B 28 2 (.slice a6 i c6) i (flatE Y) ∧ (∀ e ∈ Y, ∃ x y : Nat, e = ((x : Int), (y : Int)) ∧ x < k ∧ y < k) ∧ Below B w wr) (fun iv _ _ => m - (intOf iv).toNat)
  case atStart => exact ⟨0, none, 0, [], rfl, rfl, Nat.zero_le _, rfl, ⟨rfl, .inl ⟨rfl, rfl⟩⟩, (fun e he => by cases he), Below.refl _ _⟩
  case round =>
    obtain ⟨i, a6, c6, Y, rfl, rfl, hi, hY, how, hok, hb⟩ := hrel
    by_cases p : i = m
    · subst p
      have hZ := own_rdz how hY
      have hokk : okZ (k : Int) Y = true := okZ_of HK.out.2 hok
      have hm9 := HM.out
      obtain ⟨E, hE⟩ : ∃ E, E = toN Y := ⟨_, rfl⟩
      have hEd : EdOk k E := by
        have := okZ.ed hokk
        rw [Int.toNat_natCast] at this
        rw [hE]; exact this
      have hEl : E.length = i := by rw [hE, toN_len, hY]
      have hsz : B ≤ wr.heap.size := by have := hb.size; have := HB.out; omega
      by_cases hL : (ordP k E).length < k
      · have HC : Hid (Calls Try.prog 14 #[.int .i64 (k : Int), .slice a6 i c6] wr fun e w1 => ∃ a1 c1, e = .returned (.tuple #[.slice a1 0 c1, .int .i64 241]) ∧ Calls Try.prog 6 #[.int .i64 (k : Int), .slice a6 i c6] w1 fun e w2 => ∃ a2 L2 c2, e = .returned (.tuple #[.slice a2 L2 c2, .int .i64 0]) ∧ 0 < L2 ∧ Calls Try.prog 15 #[.slice a6 i c6, .slice a2 L2 c2] w2 fun e w3 => e = .returned (.bool true) ∧ PO (.returned (.bool true)) w3) := by
          refine (Order_any i c6 a6 (k : Int) Y hm9 wr hZ).mono ?_
          rintro e w1 ⟨ov, rfl, r1, b1⟩
          rw [orX_no hokk (by rw [← hE]; exact hL)] at r1 ⊢
          obtain ⟨a1, c1, rfl, _⟩ := rdn_own r1
          refine ⟨a1, c1, rfl, ?_⟩
          have hZ1 := hZ.next b1
          refine (Circle_any i c6 a6 (k : Int) Y hm9 w1 hZ1).mono ?_
          rintro e w2 ⟨ov, l, f, rfl, r2, b2, hC⟩
          obtain ⟨a2, c2, rfl, n2⟩ := rdn_own r2
          have hf := hC.ok hokk
          have hr := hC.ring hokk (by rw [Int.toNat_natCast, ← hE]; exact hL)
          rw [Int.toNat_natCast, ← hE] at hr
          subst hf
          refine ⟨a2, _, c2, rfl, hr.ne, ?_⟩
          have hE2 : RdE w2 a6 i E := by rw [hE]; exact (hZ1.next b2).toE hokk
          have hll := hC.len
          have s1 := b1.size
          have s2 := b2.size
          refine (around_any k i c6 _ c2 a6 a2 E l hm9 (by omega) w2 hE2 n2 hr).mono ?_
          rintro e w3 ⟨rfl, b3⟩
          refine ⟨rfl, ?_⟩
          rw [HPO.out, ← HB.out]
          exact ⟨rfl, ((hb.trans (b1.mono hsz)).trans (b2.mono (by omega))).trans (b3.mono (by omega))⟩
        clear hZ hokk hm9 hE hEd hEl hsz hL hi hY how hok hb
        go_wp2_with fail
        go_at_call 14
        refine Calls.mono HC.out ?_
        rintro e w1 ⟨a1, c1, rfl, h1⟩
        have H1 := hid h1
        clear h1 HC
        go_wp2_with fail
        go_at_call 6
        refine Calls.mono H1.out ?_
        rintro e w2 ⟨a2, L2, c2, rfl, hp, h2⟩
        have H2 := hid h2
        have q5 : (0 : Int) < (L2 : Int) := by omega
        clear h2 H1
        go_wp2_with fail
        go_at_call 7
        refine Calls.mono (Num_any _ _) ?_
        rintro e wq ⟨rfl, hw0⟩
        have hw0 := hw0.symm
        subst hw0
        go_wp2_with fail
        go_at_call 7
        refine Calls.mono (Num_any _ _) ?_
        rintro e wq ⟨rfl, hw0⟩
        have hw0 := hw0.symm
        subst hw0
        go_wp2_with fail
        go_at_call 15
        refine Calls.mono H2.out ?_
        rintro e w3 ⟨rfl, h3⟩
        have H3 := hid h3
        clear h3 H2
        go_wp2_with fail
        exact H3.out
      · have hlen : (ordP k E).length = k := by have := (ord_kn k E).1.len; omega
        have HC : Hid (Calls Try.prog 14 #[.int .i64 (k : Int), .slice a6 i c6] wr fun e w1 => ∃ g1 c1, e = .returned (.tuple #[.slice (some ⟨g1, 0, none⟩) k c1, .int .i64 0]) ∧ Calls Try.prog 6 #[.int .i64 (k : Int), .slice a6 i c6] w1 fun e w2 => ∃ a2 c2, e = .returned (.tuple #[.slice a2 0 c2, .int .i64 0]) ∧ RdN w2 (some ⟨g1, 0, none⟩) k (ordP k E) ∧ RdE w2 a6 i E ∧ B ≤ w2.heap.size ∧ Below B w w2) := by
          refine (Order_any i c6 a6 (k : Int) Y hm9 wr hZ).mono ?_
          rintro e w1 ⟨ov, rfl, r1, b1⟩
          rw [orX_yes hokk (by rw [← hE]; exact hL), ← hE] at r1 ⊢
          have hlen' := hlen
          obtain ⟨l0, hl0⟩ : ∃ l0, l0 = ordP k E := ⟨_, rfl⟩
          rw [← hl0] at r1 hlen' ⊢
          dsimp only at r1 ⊢
          obtain ⟨a1, c1, rfl, n1⟩ := rdn_own r1
          rw [hlen'] at n1 ⊢
          obtain ⟨g1, rfl, _⟩ := n1.2 0 HK.out.1
          refine ⟨g1, c1, rfl, ?_⟩
          have hZ1 := hZ.next b1
          refine (Circle_any i c6 a6 (k : Int) Y hm9 w1 hZ1).mono ?_
          rintro e w2 ⟨ov, l, f, rfl, r2, b2, hC⟩
          obtain ⟨a2, c2, rfl, n2⟩ := rdn_own r2
          have hf := hC.ok hokk
          have hr := hC.none hokk (by rw [Int.toNat_natCast, ← hE]; exact hL)
          subst hf
          subst hr
          have s1 := b1.size
          have s2 := b2.size
          exact ⟨a2, c2, rfl, n1.next b2, by rw [hE]; exact (hZ1.next b2).toE hokk, by omega, (hb.trans (b1.mono hsz)).trans (b2.mono (by omega))⟩
        have HE := hid hEd
        have HEl := hid hEl
        have HLen := hid hlen
        have hmk := fun u => make_i64 k (by have := HK.out.2; omega) u
        clear hZ hokk hm9 hE hEd hEl hsz hL hi hY how hok hb hlen
        go_wp2_with fail
        go_at_call 14
        refine Calls.mono HC.out ?_
        rintro e w1 ⟨g1, c1, rfl, h1⟩
        have H1 := hid h1
        clear h1 HC
        go_wp2_with fail
        go_at_call 6
        refine Calls.mono H1.out ?_
        rintro e w2 ⟨a2, c2, rfl, n1, n2, n3, n4⟩
        have HG : Hid (∀ W, Below w2.heap.size w2 W → RdN W (some ⟨g1, 0, none⟩) k (ordP k E) ∧ RdE W a6 i E ∧ Below B w W) := fun W h => ⟨n1.next h, n2.next h, n4.trans (h.mono n3)⟩
        clear n1 n2 n3 n4 H1
        go_wp2_with fail
        go_at_call 7
        refine Calls.mono (Num_any _ _) ?_
        rintro e wq ⟨rfl, hw0⟩
        have hw0 := hw0.symm
        subst hw0
        go_wp2_with fail
        go_at_call 7
        refine Calls.mono (Num_any _ _) ?_
        rintro e wq ⟨rfl, hw0⟩
        have hw0 := hw0.symm
        subst hw0
        go_wp2_with fail
        go_at_call 7
        refine Calls.mono (Num_any _ _) ?_
        rintro e wq ⟨rfl, hw0⟩
        have hw0 := hw0.symm
        subst hw0
        go_wp2_with fail
        obtain ⟨u0, hu0⟩ : ∃ u0, u0 = w2.alloc (.cells ((zeros k).map (Value.int .i64)).toArray 3) := ⟨_, rfl⟩
        obtain ⟨ab, hab⟩ : ∃ ab, ab = w2.heap.size := ⟨_, rfl⟩
        have HU0 : Hid (Blk u0 ab (zeros k) ∧ Below w2.heap.size w2 u0) := ⟨by rw [hu0, hab]; exact Blk.new _ _, by rw [hu0]; exact below1 _ _⟩
        have HAB : Hid (ab = w2.heap.size) := hab
        rw [← hu0, ← hab]
        clear hu0 hab
        go_loopw [13] (fun iv wr => ∃ (j : Nat) (zs : List Int), iv = .int .i64 (j : Int) ∧ j ≤ k ∧ zs.length = k ∧ (∀ x, x < j → gt zs x = -1) ∧ Blk wr ab zs ∧ Below w2.heap.size w2 wr) (fun iv _ => k - (intOf iv).toNat)
        case atStart => exact ⟨0, _, rfl, Nat.zero_le _, by simp [zeros], (fun x hx => by omega), HU0.out⟩
        case round =>
          obtain ⟨j, zs, rfl, hj, hzl, hz, hB2, hb2⟩ := hrel
          clear HU0
          by_cases q : j = k
          · have HU1 : Hid (AtS k 0 (ordP k E) zs ∧ Blk wr ab zs ∧ Below w2.heap.size w2 wr) := ⟨AtS.start hzl (fun x hx => hz x (by omega)), hB2, hb2⟩
            have qq : (k : Int) ≤ (j : Int) := by omega
            clear hj hzl hz hB2 hb2 q
            go_wp2_with fail
            clear qq
            generalize decide (j < k) = bq
            generalize wr = wo at *
            go_loopw [14] (fun iv wr => ∃ (j : Nat) (at_ : List Int), iv = .int .i64 (j : Int) ∧ j ≤ k ∧ AtS k j (ordP k E) at_ ∧ Blk wr ab at_ ∧ Below w2.heap.size w2 wr) (fun iv _ => k - (intOf iv).toNat)
            case atStart => exact ⟨0, _, rfl, Nat.zero_le _, HU1.out⟩
            case round =>
              obtain ⟨j, at_, rfl, hj, hat, hB2, hb2⟩ := hrel
              clear HU1
              by_cases q : j = k
              · have HAT : Hid (AtS k k (ordP k E) at_) := by rw [q] at hat; exact hat
                obtain ⟨u0, hu0⟩ : ∃ u0, u0 = wr.alloc (.cells ((zeros k).map (Value.int .i64)).toArray 3) := ⟨_, rfl⟩
                obtain ⟨lb, hlb⟩ : ∃ lb, lb = wr.heap.size := ⟨_, rfl⟩
                have b01 := below1 wr (.cells ((zeros k).map (Value.int .i64)).toArray 3)
                have HU2 : Hid (LtS E k (fun x => (gt at_ x).toNat) 0 (zeros k) ∧ Blk u0 ab at_ ∧ Blk u0 lb (zeros k) ∧ Below w2.heap.size w2 u0) := ⟨LtS.start _ _ _, by rw [hu0]; exact hB2.below b01 hB2.lt, by rw [hu0, hlb]; exact Blk.new _ _, by rw [hu0]; exact hb2.trans (b01.mono hb2.size)⟩
                have HLB : Hid (ab < lb ∧ w2.heap.size ≤ lb) := ⟨by rw [hlb]; exact hB2.lt, by rw [hlb]; exact hb2.size⟩
                have qq : (k : Int) ≤ (j : Int) := by omega
                have HU0 := hid hu0
                clear hj hat hB2 hb2 q hu0 b01
                go_wp2_with fail
                rw [← HU0.out, ← hlb]
                clear qq hlb HU0
                generalize decide (j < k) = bq2
                generalize wr = wo2 at *
                go_loopw [16] (fun iv wr => ∃ (j : Nat) (lt : List Int), iv = .int .i64 (j : Int) ∧ j ≤ i ∧ LtS E k (fun x => (gt at_ x).toNat) j lt ∧ Blk wr ab at_ ∧ Blk wr lb lt ∧ Below w2.heap.size w2 wr) (fun iv _ => i - (intOf iv).toNat)
                case atStart => exact ⟨0, _, rfl, Nat.zero_le _, HU2.out⟩
                case round =>
                  obtain ⟨j, lt, rfl, hj, hlt, hB2, hB3, hb2⟩ := hrel
                  clear HU2
                  by_cases q : j = i
                  · have HC : Hid (Calls Try.prog 16 #[.slice (some ⟨g1, 0, none⟩) k c1, .slice (some ⟨lb, 0, none⟩) k k] wr fun e w' => e = .returned (.bool true) ∧ PO (.returned (.bool true)) w') := by
                      rw [q] at hlt
                      refine (leastLaw_any k c1 lb _ (ordP k E) lt HK.out.2 wr (HG.out wr hb2).1 hB3 hlt.l (ord_kn k E).1.lt (lt_held HEl.out HAT.out HLen.out hlt)).mono ?_
                      rintro e w' ⟨rfl, hb9⟩
                      refine ⟨rfl, ?_⟩
                      rw [HPO.out, ← HB.out]
                      have h9 := (HG.out wr hb2).2.2
                      exact ⟨rfl, h9.trans (hb9.mono (by have := h9.size; have := HB.out; omega))⟩
                    have qq : (i : Int) ≤ (j : Int) := by omega
                    clear hj hlt hB2 hB3 hb2 q
                    go_wp2_with fail
                    go_at_call 16
                    refine Calls.mono HC.out ?_
                    rintro e w' ⟨rfl, h9⟩
                    have H9 := hid h9
                    clear h9 HC
                    go_wp2_with fail
                    exact H9.out
                  · have hji : j < i := Nat.lt_of_le_of_ne hj q
                    have qj : (j : Int) < (i : Int) := by omega
                    obtain ⟨g, off, ha, c1, c2⟩ := (HG.out wr hb2).2.1.2 j hji
                    have hjE : j < E.length := by rw [HEl.out]; exact hji
                    have hem := eg_mem E hjE
                    obtain ⟨hbk, hak⟩ := HE.out _ hem
                    obtain ⟨b, hbb⟩ : ∃ b, b = (eg E j).1 := ⟨_, rfl⟩
                    obtain ⟨af, haf⟩ : ∃ af, af = (eg E j).2 := ⟨_, rfl⟩
                    obtain ⟨jb, hb1, hb2', hb3⟩ := HAT.out.all HLen.out hbk
                    obtain ⟨ja, ha1, ha2, ha3⟩ := HAT.out.all HLen.out hak
                    have hlt2 := ord_edge hem (by rw [HLen.out]; exact hb1) (by rw [HLen.out]; exact ha1) hb2' ha2
                    rw [← hbb] at c1 hb3 hbk
                    rw [← haf] at c2 ha3 hak
                    have d1 := hB2.cell b (by rw [HAT.out.ml]; exact hbk)
                    rw [show at_.getD b 0 = (jb : Int) from hb3] at d1
                    have d2 := hB2.cell af (by rw [HAT.out.ml]; exact hak)
                    rw [show at_.getD af 0 = (ja : Int) from ha3] at d2
                    obtain ⟨z, hz⟩ : ∃ z, z = gt lt af := ⟨_, rfl⟩
                    have d3 := hB3.cell af (by rw [hlt.l]; exact hak)
                    rw [show lt.getD af 0 = z from hz.symm] at d3
                    have d4 := hB3.frozen af
                    have q1 : (b : Int) < (k : Int) := by omega
                    have q2 : (af : Int) < (k : Int) := by omega
                    have q3 : 0 ≤ (b : Int) := by omega
                    have q4 : 0 ≤ (af : Int) := by omega
                    have q5 : (jb : Int) < (ja : Int) := by omega
                    have q6 : ¬ (ja : Int) ≤ (jb : Int) := by omega
                    have q7 : decide ((ja : Int) ≤ (jb : Int)) = false := decide_eq_false q6
                    have q8 : ¬ ja ≤ jb := by omega
                    have q9 : decide (ja ≤ jb) = false := decide_eq_false q8
                    have QN := hid q8
                    have hm9 := HM.out
                    have hk4 := HK.out.2
                    have hst := hlt.step (i := j) (z := if z < (jb : Int) + 1 then (jb : Int) + 1 else z) (by rw [← haf]; exact hak) (by rw [← haf, ← hz]; split <;> omega) (by rw [← hbb, hb3]; split <;> omega)
                    rw [← haf] at hst
                    have HNx : Hid (∀ nq, j + 1 ≤ i ∧ LtS E k (fun x => (gt at_ x).toNat) (j + 1) (lt.set af (if z < (jb : Int) + 1 then (jb : Int) + 1 else z)) ∧ Blk ((wr.drewN nq).setCell ⟨lb, af, none⟩ (.int .i64 (if z < (jb : Int) + 1 then (jb : Int) + 1 else z))) ab at_ ∧ Blk ((wr.drewN nq).setCell ⟨lb, af, none⟩ (.int .i64 (if z < (jb : Int) + 1 then (jb : Int) + 1 else z))) lb (lt.set af (if z < (jb : Int) + 1 then (jb : Int) + 1 else z)) ∧ Below w2.heap.size w2 ((wr.drewN nq).setCell ⟨lb, af, none⟩ (.int .i64 (if z < (jb : Int) + 1 then (jb : Int) + 1 else z)))) := fun nq => by
                      have hbt : But (fun x => x = lb) (wr.drewN nq) ((wr.drewN nq).setCell ⟨lb, af, none⟩ (.int .i64 (if z < (jb : Int) + 1 then (jb : Int) + 1 else z))) := (But.refl (fun x => x = lb) _).setCell (p := ⟨lb, af, none⟩) rfl _
                      have hB2' : Blk (wr.drewN nq) ab at_ := hB2
                      have hB3' : Blk (wr.drewN nq) lb lt := hB3
                      refine ⟨hji, hst, hB2'.but hbt (by have := HLB.out.1; omega), hB3'.set af _, ?_⟩
                      exact (hb2.trans (below_drewN _ _ _)).trans (hbt.below hb2.size (fun x hx e => by have := HLB.out.2; omega))
                    have HS32 : Hid ((fun y9 : World => (y9.cell? ⟨g, off + j * 2, none⟩ = some (.int .i64 (b : Int)) ∧ y9.cell? ⟨g, off + j * 2 + 1, none⟩ = some (.int .i64 (af : Int))) ∧ y9.cell? ⟨lb, af, none⟩ = some (.int .i64 z) ∧ y9.cell? ⟨ab, b, none⟩ = some (.int .i64 (jb : Int))) wr) := ⟨⟨c1, c2⟩, d3, d1⟩
                    have HEW := hid (inc_w j (by omega))
                    have HEB := hid (inc_w jb (by omega))
                    obtain ⟨ew, ewb⟩ := HEW.out
                    obtain ⟨eb, ebb⟩ := HEB.out
                    clear hj hlt hB2 hB3 hb2 q hjE hem hbk hak hbb haf hb1 hb2' hb3 ha1 ha2 ha3 hlt2 hz hm9 hk4 hst
                    subst ha
                    go_wp2_with fail
                    go_quiet (fail)
                    all_goals go_wp2_with fail
                    all_goals try (rename_i h9; exact absurd h9 QN.out)
                    refine wp_region_last (S := (fun y9 => (y9.cell? ⟨g, off + j * 2, none⟩ = some (.int .i64 (b : Int)) ∧ y9.cell? ⟨g, off + j * 2 + 1, none⟩ = some (.int .i64 (af : Int))) ∧ y9.cell? ⟨lb, af, none⟩ = some (.int .i64 z) ∧ y9.cell? ⟨ab, b, none⟩ = some (.int .i64 (jb : Int)))) 25 25 (by kernel_rfl) (by kernel_rfl) (by kernel_rfl) HS32.out (fun hSS => ?_)
                    refine wpAnyH_take (i := 0) (oi := ({ dst := some 160, op := Op.move (Operand.tmp 15), type := 23, pos := _, after := _, guard := none } : Oper)) (v := ?_) rfl (by kernel_rfl) (by kernel_rfl) (by kernel_rfl) (fun _ _ _ h => h) (Or.inl ⟨by rfl, ?_⟩) hSS ?_
                    rotate_left
                    · intro w9 hSw
                      (try dsimp only at hSw)
                      (try go_split_ands)
                      first | (go_simp; done) | (go_simp; with_reducible rfl)
                    try simp only [Act.put, List.setIfInBounds_toArray, List.set_cons_zero, List.set_cons_succ]
                    refine wpAnyH_take (i := 1) (oi := ({ dst := some 161, op := Op.move (Operand.tmp 6), type := 22, pos := _, after := _, guard := none } : Oper)) (v := ?_) rfl (by kernel_rfl) (by kernel_rfl) (by kernel_rfl) (fun _ _ _ h => h) (Or.inl ⟨by rfl, ?_⟩) hSS ?_
                    rotate_left
                    · intro w9 hSw
                      (try dsimp only at hSw)
                      (try go_split_ands)
                      first | (go_simp; done) | (go_simp; with_reducible rfl)
                    try simp only [Act.put, List.setIfInBounds_toArray, List.set_cons_zero, List.set_cons_succ]
                    refine wpAnyH_take (i := 2) (oi := ({ dst := some 162, op := Op.move (Operand.tmp 16), type := 3, pos := _, after := _, guard := none } : Oper)) (v := ?_) rfl (by kernel_rfl) (by kernel_rfl) (by kernel_rfl) (fun _ _ _ h => h) (Or.inl ⟨by rfl, ?_⟩) hSS ?_
                    rotate_left
                    · intro w9 hSw
                      (try dsimp only at hSw)
                      (try go_split_ands)
                      first | (go_simp; done) | (go_simp; with_reducible rfl)
                    try simp only [Act.put, List.setIfInBounds_toArray, List.set_cons_zero, List.set_cons_succ]
                    refine wpAnyH_take (i := 3) (oi := ({ dst := some 163, op := Op.indexAddr 22 (Operand.tmp 161) (Operand.tmp 162), type := 0, pos := _, after := _, guard := none } : Oper)) (v := ?_) rfl (by kernel_rfl) (by kernel_rfl) (by kernel_rfl) (fun _ _ _ h => h) (Or.inl ⟨by rfl, ?_⟩) hSS ?_
                    rotate_left
                    · intro w9 hSw
                      (try dsimp only at hSw)
                      (try go_split_ands)
                      first | (go_simp; done) | (go_simp; with_reducible rfl)
                    try simp only [Act.put, List.setIfInBounds_toArray, List.set_cons_zero, List.set_cons_succ]
                    refine wpAnyH_take (i := 4) (oi := ({ dst := some 164, op := Op.fieldAddr 28 (Operand.tmp 163) 1, type := 0, pos := _, after := _, guard := none } : Oper)) (v := ?_) rfl (by kernel_rfl) (by kernel_rfl) (by kernel_rfl) (fun _ _ _ h => h) (Or.inl ⟨by rfl, ?_⟩) hSS ?_
                    rotate_left
                    · intro w9 hSw
                      (try dsimp only at hSw)
                      (try go_split_ands)
                      first | (go_simp; done) | (go_simp; with_reducible rfl)
                    try simp only [Act.put, List.setIfInBounds_toArray, List.set_cons_zero, List.set_cons_succ]
                    refine wpAnyH_take (i := 5) (oi := ({ dst := some 165, op := Op.load 3 (Operand.tmp 164), type := 3, pos := _, after := _, guard := none } : Oper)) (v := ?_) rfl (by kernel_rfl) (by kernel_rfl) (by kernel_rfl) (fun _ _ _ h => h) (Or.inl ⟨by rfl, ?_⟩) hSS ?_
                    rotate_left
                    · intro w9 hSw
                      (try dsimp only at hSw)
                      (try go_split_ands)
                      first | (go_simp; done) | (go_simp; with_reducible rfl)
                    try simp only [Act.put, List.setIfInBounds_toArray, List.set_cons_zero, List.set_cons_succ]
                    refine wpAnyH_take (i := 6) (oi := ({ dst := some 166, op := Op.move (Operand.tmp 15), type := 23, pos := _, after := _, guard := none } : Oper)) (v := ?_) rfl (by kernel_rfl) (by kernel_rfl) (by kernel_rfl) (fun _ _ _ h => h) (Or.inl ⟨by rfl, ?_⟩) hSS ?_
                    rotate_left
                    · intro w9 hSw
                      (try dsimp only at hSw)
                      (try go_split_ands)
                      first | (go_simp; done) | (go_simp; with_reducible rfl)
                    try simp only [Act.put, List.setIfInBounds_toArray, List.set_cons_zero, List.set_cons_succ]
                    refine wpAnyH_take (i := 7) (oi := ({ dst := some 167, op := Op.move (Operand.tmp 6), type := 22, pos := _, after := _, guard := none } : Oper)) (v := ?_) rfl (by kernel_rfl) (by kernel_rfl) (by kernel_rfl) (fun _ _ _ h => h) (Or.inl ⟨by rfl, ?_⟩) hSS ?_
                    rotate_left
                    · intro w9 hSw
                      (try dsimp only at hSw)
                      (try go_split_ands)
                      first | (go_simp; done) | (go_simp; with_reducible rfl)
                    try simp only [Act.put, List.setIfInBounds_toArray, List.set_cons_zero, List.set_cons_succ]
                    refine wpAnyH_take (i := 8) (oi := ({ dst := some 168, op := Op.move (Operand.tmp 16), type := 3, pos := _, after := _, guard := none } : Oper)) (v := ?_) rfl (by kernel_rfl) (by kernel_rfl) (by kernel_rfl) (fun _ _ _ h => h) (Or.inl ⟨by rfl, ?_⟩) hSS ?_
                    rotate_left
                    · intro w9 hSw
                      (try dsimp only at hSw)
                      (try go_split_ands)
                      first | (go_simp; done) | (go_simp; with_reducible rfl)
                    try simp only [Act.put, List.setIfInBounds_toArray, List.set_cons_zero, List.set_cons_succ]
                    refine wpAnyH_take (i := 9) (oi := ({ dst := some 169, op := Op.indexAddr 22 (Operand.tmp 167) (Operand.tmp 168), type := 0, pos := _, after := _, guard := none } : Oper)) (v := ?_) rfl (by kernel_rfl) (by kernel_rfl) (by kernel_rfl) (fun _ _ _ h => h) (Or.inl ⟨by rfl, ?_⟩) hSS ?_
                    rotate_left
                    · intro w9 hSw
                      (try dsimp only at hSw)
                      (try go_split_ands)
                      first | (go_simp; done) | (go_simp; with_reducible rfl)
                    try simp only [Act.put, List.setIfInBounds_toArray, List.set_cons_zero, List.set_cons_succ]
                    refine wpAnyH_take (i := 10) (oi := ({ dst := some 170, op := Op.fieldAddr 28 (Operand.tmp 169) 1, type := 0, pos := _, after := _, guard := none } : Oper)) (v := ?_) rfl (by kernel_rfl) (by kernel_rfl) (by kernel_rfl) (fun _ _ _ h => h) (Or.inl ⟨by rfl, ?_⟩) hSS ?_
                    rotate_left
                    · intro w9 hSw
                      (try dsimp only at hSw)
                      (try go_split_ands)
                      first | (go_simp; done) | (go_simp; with_reducible rfl)
                    try simp only [Act.put, List.setIfInBounds_toArray, List.set_cons_zero, List.set_cons_succ]
                    refine wpAnyH_take (i := 11) (oi := ({ dst := some 171, op := Op.load 3 (Operand.tmp 170), type := 3, pos := _, after := _, guard := none } : Oper)) (v := ?_) rfl (by kernel_rfl) (by kernel_rfl) (by kernel_rfl) (fun _ _ _ h => h) (Or.inl ⟨by rfl, ?_⟩) hSS ?_
                    rotate_left
                    · intro w9 hSw
                      (try dsimp only at hSw)
                      (try go_split_ands)
                      first | (go_simp; done) | (go_simp; with_reducible rfl)
                    try simp only [Act.put, List.setIfInBounds_toArray, List.set_cons_zero, List.set_cons_succ]
                    refine wpAnyH_take (i := 12) (oi := ({ dst := some 172, op := Op.indexAddr 23 (Operand.tmp 166) (Operand.tmp 171), type := 0, pos := _, after := _, guard := none } : Oper)) (v := ?_) rfl (by kernel_rfl) (by kernel_rfl) (by kernel_rfl) (fun _ _ _ h => h) (Or.inl ⟨by rfl, ?_⟩) hSS ?_
                    rotate_left
                    · intro w9 hSw
                      (try dsimp only at hSw)
                      (try go_split_ands)
                      first | (go_simp; done) | (go_simp; with_reducible rfl)
                    try simp only [Act.put, List.setIfInBounds_toArray, List.set_cons_zero, List.set_cons_succ]
                    refine wpAnyH_take (i := 13) (oi := ({ dst := some 173, op := Op.load 3 (Operand.tmp 172), type := 3, pos := _, after := _, guard := none } : Oper)) (v := ?_) rfl (by kernel_rfl) (by kernel_rfl) (by kernel_rfl) (fun _ _ _ h => h) (Or.inl ⟨by rfl, ?_⟩) hSS ?_
                    rotate_left
                    · intro w9 hSw
                      (try dsimp only at hSw)
                      (try go_split_ands)
                      first | (go_simp; done) | (go_simp; with_reducible rfl)
                    try simp only [Act.put, List.setIfInBounds_toArray, List.set_cons_zero, List.set_cons_succ]
                    refine wpAnyH_take (i := 14) (oi := ({ dst := some 174, op := Op.move (Operand.tmp 12), type := 23, pos := _, after := _, guard := none } : Oper)) (v := ?_) rfl (by kernel_rfl) (by kernel_rfl) (by kernel_rfl) (fun _ _ _ h => h) (Or.inl ⟨by rfl, ?_⟩) hSS ?_
                    rotate_left
                    · intro w9 hSw
                      (try dsimp only at hSw)
                      (try go_split_ands)
                      first | (go_simp; done) | (go_simp; with_reducible rfl)
                    try simp only [Act.put, List.setIfInBounds_toArray, List.set_cons_zero, List.set_cons_succ]
                    refine wpAnyH_take (i := 15) (oi := ({ dst := some 175, op := Op.move (Operand.tmp 6), type := 22, pos := _, after := _, guard := none } : Oper)) (v := ?_) rfl (by kernel_rfl) (by kernel_rfl) (by kernel_rfl) (fun _ _ _ h => h) (Or.inl ⟨by rfl, ?_⟩) hSS ?_
                    rotate_left
                    · intro w9 hSw
                      (try dsimp only at hSw)
                      (try go_split_ands)
                      first | (go_simp; done) | (go_simp; with_reducible rfl)
                    try simp only [Act.put, List.setIfInBounds_toArray, List.set_cons_zero, List.set_cons_succ]
                    refine wpAnyH_take (i := 16) (oi := ({ dst := some 176, op := Op.move (Operand.tmp 16), type := 3, pos := _, after := _, guard := none } : Oper)) (v := ?_) rfl (by kernel_rfl) (by kernel_rfl) (by kernel_rfl) (fun _ _ _ h => h) (Or.inl ⟨by rfl, ?_⟩) hSS ?_
                    rotate_left
                    · intro w9 hSw
                      (try dsimp only at hSw)
                      (try go_split_ands)
                      first | (go_simp; done) | (go_simp; with_reducible rfl)
                    try simp only [Act.put, List.setIfInBounds_toArray, List.set_cons_zero, List.set_cons_succ]
                    refine wpAnyH_take (i := 17) (oi := ({ dst := some 177, op := Op.indexAddr 22 (Operand.tmp 175) (Operand.tmp 176), type := 0, pos := _, after := _, guard := none } : Oper)) (v := ?_) rfl (by kernel_rfl) (by kernel_rfl) (by kernel_rfl) (fun _ _ _ h => h) (Or.inl ⟨by rfl, ?_⟩) hSS ?_
                    rotate_left
                    · intro w9 hSw
                      (try dsimp only at hSw)
                      (try go_split_ands)
                      first | (go_simp; done) | (go_simp; with_reducible rfl)
                    try simp only [Act.put, List.setIfInBounds_toArray, List.set_cons_zero, List.set_cons_succ]
                    refine wpAnyH_take (i := 18) (oi := ({ dst := some 178, op := Op.fieldAddr 28 (Operand.tmp 177) 0, type := 0, pos := _, after := _, guard := none } : Oper)) (v := ?_) rfl (by kernel_rfl) (by kernel_rfl) (by kernel_rfl) (fun _ _ _ h => h) (Or.inl ⟨by rfl, ?_⟩) hSS ?_
                    rotate_left
                    · intro w9 hSw
                      (try dsimp only at hSw)
                      (try go_split_ands)
                      first | (go_simp; done) | (go_simp; with_reducible rfl)
                    try simp only [Act.put, List.setIfInBounds_toArray, List.set_cons_zero, List.set_cons_succ]
                    refine wpAnyH_take (i := 19) (oi := ({ dst := some 179, op := Op.load 3 (Operand.tmp 178), type := 3, pos := _, after := _, guard := none } : Oper)) (v := ?_) rfl (by kernel_rfl) (by kernel_rfl) (by kernel_rfl) (fun _ _ _ h => h) (Or.inl ⟨by rfl, ?_⟩) hSS ?_
                    rotate_left
                    · intro w9 hSw
                      (try dsimp only at hSw)
                      (try go_split_ands)
                      first | (go_simp; done) | (go_simp; with_reducible rfl)
                    try simp only [Act.put, List.setIfInBounds_toArray, List.set_cons_zero, List.set_cons_succ]
                    refine wpAnyH_take (i := 20) (oi := ({ dst := some 180, op := Op.indexAddr 23 (Operand.tmp 174) (Operand.tmp 179), type := 0, pos := _, after := _, guard := none } : Oper)) (v := ?_) rfl (by kernel_rfl) (by kernel_rfl) (by kernel_rfl) (fun _ _ _ h => h) (Or.inl ⟨by rfl, ?_⟩) hSS ?_
                    rotate_left
                    · intro w9 hSw
                      (try dsimp only at hSw)
                      (try go_split_ands)
                      first | (go_simp; done) | (go_simp; with_reducible rfl)
                    try simp only [Act.put, List.setIfInBounds_toArray, List.set_cons_zero, List.set_cons_succ]
                    refine wpAnyH_take (i := 21) (oi := ({ dst := some 181, op := Op.load 3 (Operand.tmp 180), type := 3, pos := _, after := _, guard := none } : Oper)) (v := ?_) rfl (by kernel_rfl) (by kernel_rfl) (by kernel_rfl) (fun _ _ _ h => h) (Or.inl ⟨by rfl, ?_⟩) hSS ?_
                    rotate_left
                    · intro w9 hSw
                      (try dsimp only at hSw)
                      (try go_split_ands)
                      first | (go_simp; done) | (go_simp; with_reducible rfl)
                    try simp only [Act.put, List.setIfInBounds_toArray, List.set_cons_zero, List.set_cons_succ]
                    refine wpAnyH_take (i := 22) (oi := ({ dst := some 182, op := Op.binOp BinOp.add 3 (Operand.tmp 181) (Operand.const (Value.int IntKind.i64 1)) 3, type := 3, pos := _, after := _, guard := none } : Oper)) (v := ?_) rfl (by kernel_rfl) (by kernel_rfl) (by kernel_rfl) (fun _ _ _ h => h) (Or.inl ⟨by rfl, ?_⟩) hSS ?_
                    rotate_left
                    · intro w9 hSw
                      (try dsimp only at hSw)
                      (try go_split_ands)
                      first | (go_simp; done) | (go_simp; with_reducible rfl)
                    try simp only [Act.put, List.setIfInBounds_toArray, List.set_cons_zero, List.set_cons_succ]
                    refine wpAnyH_take (i := 23) (oi := ({ dst := some 183, op := Op.call { callee := Callee.builtin Builtin.max, args := #[Operand.tmp 173, Operand.tmp 182], argTypes := #[3, 3] }, type := 3, pos := _, after := _, guard := none } : Oper)) (v := ?_) rfl (by kernel_rfl) (by kernel_rfl) (by kernel_rfl) (fun _ _ _ h => h) (Or.inl ⟨by rfl, ?_⟩) hSS ?_
                    rotate_left
                    · intro w9 hSw
                      (try dsimp only at hSw)
                      (try go_split_ands)
                      first | (go_simp; done) | (go_simp; with_reducible rfl)
                    try simp only [Act.put, List.setIfInBounds_toArray, List.set_cons_zero, List.set_cons_succ]
                    refine wpAnyH_take (i := 24) (oi := ({ dst := some 184, op := Op.indexAddr 23 (Operand.tmp 160) (Operand.tmp 165), type := 0, pos := _, after := _, guard := none } : Oper)) (v := ?_) rfl (by kernel_rfl) (by kernel_rfl) (by kernel_rfl) (fun _ _ _ h => h) (Or.inl ⟨by rfl, ?_⟩) hSS ?_
                    rotate_left
                    · intro w9 hSw
                      (try dsimp only at hSw)
                      (try go_split_ands)
                      first | (go_simp; done) | (go_simp; with_reducible rfl)
                    try simp only [Act.put, List.setIfInBounds_toArray, List.set_cons_zero, List.set_cons_succ]
                    refine wpAnyH_done (by kernel_rfl) ?_ _
                    refine last_step (L := 25) (o := ({ dst := none, op := Op.store 3 (Operand.tmp 184) (Operand.tmp 183), type := 0, pos := _, after := _, guard := none } : Oper)) rfl (fun K9 hK9 => ?_)
                    go_simp
                    refine hK9.out _ _ ?_
                    clear hK9 K9
                    try simp only [Act.put, List.setIfInBounds_toArray, List.set_cons_zero, List.set_cons_succ]
                    go_wp2_with fail
                    refine ⟨⟨j + 1, _, by rw [Int.natCast_add]; rfl, HNx.out (nq + 1)⟩, ?_⟩
                    exact mea_i (HNx.out 0).1
              · have hjk : j < k := Nat.lt_of_le_of_ne hj q
                have qj : (j : Int) < (k : Int) := by omega
                have hlen := HLen.out
                obtain ⟨g9, e9, d1⟩ := (HG.out wr hb2).1.2 j hjk
                cases e9
                obtain ⟨y, hy⟩ : ∃ y, y = (ordP k E).getD j 0 := ⟨_, rfl⟩
                rw [← hy] at d1
                have hkn := (ord_kn k E).1
                have hyk : y < k := by rw [hy]; exact hkn.lt _ (getD_mem (by omega))
                have qy : (y : Int) < (k : Int) := by omega
                have qy0 : 0 ≤ (y : Int) := by omega
                have d2 := hB2.cell y (by rw [hat.ml]; exact hyk)
                have hfr := hat.fresh hkn.nd hkn.lt (i := j) (by omega)
                rw [← hy] at hfr
                rw [show at_.getD y 0 = -1 from hfr] at d2
                have d3 := hB2.frozen y
                have hk4 := HK.out.2
                have hst := hat.step hkn.nd hkn.lt (i := j) (by omega)
                rw [← hy] at hst
                obtain ⟨u1, hu1⟩ : ∃ u1, u1 = wr.setCell ⟨ab, y, none⟩ (.int .i64 (j : Int)) := ⟨_, rfl⟩
                have HNx : Hid (j + 1 ≤ k ∧ AtS k (j + 1) (ordP k E) (at_.set y (j : Int)) ∧ Blk u1 ab (at_.set y (j : Int)) ∧ Below w2.heap.size w2 u1) := ⟨hjk, hst, by rw [hu1]; exact hB2.set y (j : Int), by
                  rw [hu1]
                  have hbt : But (fun x => x = ab) wr (wr.setCell ⟨ab, y, none⟩ (.int .i64 (j : Int))) := (But.refl (fun x => x = ab) wr).setCell (p := ⟨ab, y, none⟩) rfl _
                  exact hb2.trans (hbt.below hb2.size (fun x hx e => by have := HAB.out; omega))⟩
                have HU := hid hu1
                obtain ⟨ew, ewb⟩ := inc_w j (by omega)
                clear hj hat hB2 hb2 q hlen hy hkn hfr hst hu1 hk4 hyk
                go_wp2_with fail
                rw [← HU.out]
                refine ⟨⟨j + 1, _, by rw [Int.natCast_add]; rfl, HNx.out⟩, ?_⟩
                exact mea_i HNx.out.1
          · have hjk : j < k := Nat.lt_of_le_of_ne hj q
            have qj : (j : Int) < (k : Int) := by omega
            have d1 := hB2.cell j (by omega)
            obtain ⟨o, ho⟩ : ∃ o, o = zs.getD j 0 := ⟨_, rfl⟩
            rw [← ho] at d1
            have d3 := hB2.frozen j
            have hk4 := HK.out.2
            obtain ⟨u1, hu1⟩ : ∃ u1, u1 = wr.setCell ⟨ab, j, none⟩ (.int .i64 (-1)) := ⟨_, rfl⟩
            have HNx : Hid (j + 1 ≤ k ∧ (zs.set j (-1)).length = k ∧ (∀ x, x < j + 1 → gt (zs.set j (-1)) x = -1) ∧ Blk u1 ab (zs.set j (-1)) ∧ Below w2.heap.size w2 u1) := ⟨hjk, by rw [List.length_set]; exact hzl, fun x hx => by
              rw [gt_set _ _ _ _ (by omega)]
              by_cases e : x = j
              · rw [if_pos e]
              · rw [if_neg e]; exact hz x (by omega), by rw [hu1]; exact hB2.set j (-1), by
              rw [hu1]
              have hbt : But (fun x => x = ab) wr (wr.setCell ⟨ab, j, none⟩ (.int .i64 (-1))) := (But.refl (fun x => x = ab) wr).setCell (p := ⟨ab, j, none⟩) rfl _
              exact hb2.trans (hbt.below hb2.size (fun x hx e => by have := HAB.out; omega))⟩
            have HU := hid hu1
            obtain ⟨ew, ewb⟩ := inc_w j (by omega)
            clear hj hzl hz hB2 hb2 q ho hu1 hk4
            go_wp2_with fail
            rw [← HU.out]
            refine ⟨⟨j + 1, _, by rw [Int.natCast_add]; rfl, HNx.out⟩, ?_⟩
            exact mea_i HNx.out.1
    · have him : i < m := by omega
      have qi : (i : Int) < (m : Int) := by omega
      obtain ⟨g, off, ha, c1, c2⟩ := (HR.out wr hb).2 i him
      obtain ⟨x, hx⟩ : ∃ x, x = (zg Z i).1 := ⟨_, rfl⟩
      obtain ⟨y, hy⟩ : ∃ y, y = (zg Z i).2 := ⟨_, rfl⟩
      rw [← hx] at c1
      rw [← hy] at c2
      obtain ⟨k1, hk1⟩ : ∃ k1, k1 + 1 = k := ⟨k - 1, by have := HK.out; omega⟩
      have hk4 := HK.out.2
      have hm9 := HM.out
      have HEW := hid (inc_w i (by omega))
      have HE12 := hid (sub_w k k1 hk1 hk4)
      have HW1 : Hid (∀ W, Calls Try.prog 13 #[.int .i64 x, .int .i64 0, .int .i64 (k1 : Int)] W fun e w' => ∃ b : Nat, e = .returned (.int .i64 (b : Int)) ∧ b < k ∧ w' = W) := fun W => (within_any x 0 k1 (by omega) (by omega) W).mono (by rintro e w' ⟨b, rfl, _, h, rfl⟩; exact ⟨b, rfl, by omega, rfl⟩)
      have HW2 : Hid (∀ W, Calls Try.prog 13 #[.int .i64 y, .int .i64 0, .int .i64 (k1 : Int)] W fun e w' => ∃ b : Nat, e = .returned (.int .i64 (b : Int)) ∧ b < k ∧ w' = W) := fun W => (within_any y 0 k1 (by omega) (by omega) W).mono (by rintro e w' ⟨b, rfl, _, h, rfl⟩; exact ⟨b, rfl, by omega, rfl⟩)
      have hsz : B ≤ wr.heap.size := by have := hb.size; have := HB.out; omega
      have HS6 : Hid ((fun y9 : World => y9.cell? ⟨g, off + i * 2, none⟩ = some (.int .i64 x) ∧ y9.cell? ⟨g, off + i * 2 + 1, none⟩ = some (.int .i64 y)) wr.drew) := ⟨c1, c2⟩
      have HSA : Hid (∀ b af : Nat, (wr.drew.alloc (.cells #[.int .i64 (b : Int), .int .i64 (af : Int)] 28)).cell? ⟨g, off + i * 2, none⟩ = some (.int .i64 x) ∧ (wr.drew.alloc (.cells #[.int .i64 (b : Int), .int .i64 (af : Int)] 28)).cell? ⟨g, off + i * 2 + 1, none⟩ = some (.int .i64 y)) := fun b af => by
        have hb' : Below B w (wr.drew.alloc (.cells #[.int .i64 (b : Int), .int .i64 (af : Int)] 28)) := (hb.trans (below_drew _ _)).trans ((below1 _ _).mono hsz)
        obtain ⟨g9, off9, ha9, d1, d2⟩ := (HR.out _ hb').2 i him
        rw [ha] at ha9
        cases ha9
        rw [← hx] at d1
        rw [← hy] at d2
        exact ⟨d1, d2⟩
      have HPu : Hid (∀ b af : Nat, b < k → af < k → ∃ g7 c7 w7, (Builtin.append_ #[22, 22] 22 #[.slice a6 i c6, .slice (some ⟨wr.drew.heap.size, 0, none⟩) 1 1]).run Try.prog (wr.drew.alloc (.cells #[.int .i64 (b : Int), .int .i64 (af : Int)] 28)) = .ok (.slice (some ⟨g7, 0, none⟩) (i + 1) c7) w7 ∧ ((w7.cell? ⟨g, off + i * 2, none⟩ = some (.int .i64 x) ∧ w7.cell? ⟨g, off + i * 2 + 1, none⟩ = some (.int .i64 y)) ∧ i + 1 ≤ m ∧ (Y ++ [((b : Int), (af : Int))]).length = i + 1 ∧ w7.ownsRow B 28 2 (.slice (some ⟨g7, 0, none⟩) (i + 1) c7) (i + 1) (flatE (Y ++ [((b : Int), (af : Int))])) ∧ (∀ e ∈ Y ++ [((b : Int), (af : Int))], ∃ x y : Nat, e = ((x : Int), (y : Int)) ∧ x < k ∧ y < k) ∧ Below B w w7)) := fun b af h1 h2 => by
        obtain ⟨g7, c7, w7, hrun, r1, r2⟩ := push_e B a6 i c6 Y (b : Int) (af : Int) hY (by omega) wr.drew hsz how
        have hb7 : Below B w w7 := (hb.trans (below_drew _ _)).trans (r2.below hsz (fun k hk e => by have := (own_blk how e.symm).1; omega))
        obtain ⟨g9, off9, ha9, d1, d2⟩ := (HR.out _ hb7).2 i him
        rw [ha] at ha9
        cases ha9
        rw [← hx] at d1
        rw [← hy] at d2
        refine ⟨g7, c7, w7, hrun, ⟨d1, d2⟩, by omega, by rw [List.length_append, hY]; rfl, r1, fun e he => ?_, hb7⟩
        rcases List.mem_append.1 he with h | h
        · exact hok e h
        · simp at h
          exact ⟨b, af, h, h1, h2⟩
      obtain ⟨e1, e2⟩ := HE12.out
      obtain ⟨ew, ewb⟩ := HEW.out
      clear hi hY how hok hb p hk1 hk4 hm9 hx hy hsz him
      subst ha
      go_wp2_with fail
      refine wp_region_held_drew (S := (fun y9 => y9.cell? ⟨g, off + i * 2, none⟩ = some (.int .i64 x) ∧ y9.cell? ⟨g, off + i * 2 + 1, none⟩ = some (.int .i64 y))) (by kernel_rfl) HS6.out (fun hSS => ?_)
      refine wpAnyH_take (i := 0) (oi := ({ dst := some 25, op := Op.move (Operand.tmp 6), type := 22, pos := _, after := _, guard := none } : Oper)) (v := ?_) rfl (by kernel_rfl) (by kernel_rfl) (by kernel_rfl) (fun _ _ _ h => h) (Or.inl ⟨by rfl, ?_⟩) hSS ?_
      rotate_left
      · intro w9 hSw
        (try dsimp only at hSw)
        (try go_split_ands)
        first | (go_simp; done) | (go_simp; with_reducible rfl)
      try simp only [Act.put, List.setIfInBounds_toArray, List.set_cons_zero, List.set_cons_succ]
      refine wpAnyH_take (i := 1) (oi := ({ dst := some 26, op := Op.move (Operand.tmp 1), type := 22, pos := _, after := _, guard := none } : Oper)) (v := ?_) rfl (by kernel_rfl) (by kernel_rfl) (by kernel_rfl) (fun _ _ _ h => h) (Or.inl ⟨by rfl, ?_⟩) hSS ?_
      rotate_left
      · intro w9 hSw
        (try dsimp only at hSw)
        (try go_split_ands)
        first | (go_simp; done) | (go_simp; with_reducible rfl)
      try simp only [Act.put, List.setIfInBounds_toArray, List.set_cons_zero, List.set_cons_succ]
      refine wpAnyH_take (i := 2) (oi := ({ dst := some 27, op := Op.move (Operand.tmp 7), type := 3, pos := _, after := _, guard := none } : Oper)) (v := ?_) rfl (by kernel_rfl) (by kernel_rfl) (by kernel_rfl) (fun _ _ _ h => h) (Or.inl ⟨by rfl, ?_⟩) hSS ?_
      rotate_left
      · intro w9 hSw
        (try dsimp only at hSw)
        (try go_split_ands)
        first | (go_simp; done) | (go_simp; with_reducible rfl)
      try simp only [Act.put, List.setIfInBounds_toArray, List.set_cons_zero, List.set_cons_succ]
      refine wpAnyH_take (i := 3) (oi := ({ dst := some 28, op := Op.indexAddr 22 (Operand.tmp 26) (Operand.tmp 27), type := 0, pos := _, after := _, guard := none } : Oper)) (v := ?_) rfl (by kernel_rfl) (by kernel_rfl) (by kernel_rfl) (fun _ _ _ h => h) (Or.inl ⟨by rfl, ?_⟩) hSS ?_
      rotate_left
      · intro w9 hSw
        (try dsimp only at hSw)
        (try go_split_ands)
        first | (go_simp; done) | (go_simp; with_reducible rfl)
      try simp only [Act.put, List.setIfInBounds_toArray, List.set_cons_zero, List.set_cons_succ]
      refine wpAnyH_take (i := 4) (oi := ({ dst := some 29, op := Op.fieldAddr 28 (Operand.tmp 28) 0, type := 0, pos := _, after := _, guard := none } : Oper)) (v := ?_) rfl (by kernel_rfl) (by kernel_rfl) (by kernel_rfl) (fun _ _ _ h => h) (Or.inl ⟨by rfl, ?_⟩) hSS ?_
      rotate_left
      · intro w9 hSw
        (try dsimp only at hSw)
        (try go_split_ands)
        first | (go_simp; done) | (go_simp; with_reducible rfl)
      try simp only [Act.put, List.setIfInBounds_toArray, List.set_cons_zero, List.set_cons_succ]
      refine wpAnyH_take (i := 5) (oi := ({ dst := some 30, op := Op.load 3 (Operand.tmp 29), type := 3, pos := _, after := _, guard := none } : Oper)) (v := ?_) rfl (by kernel_rfl) (by kernel_rfl) (by kernel_rfl) (fun _ _ _ h => h) (Or.inl ⟨by rfl, ?_⟩) hSS ?_
      rotate_left
      · intro w9 hSw
        (try dsimp only at hSw)
        (try go_split_ands)
        first | (go_simp; done) | (go_simp; with_reducible rfl)
      try simp only [Act.put, List.setIfInBounds_toArray, List.set_cons_zero, List.set_cons_succ]
      refine wpAnyH_take (i := 6) (oi := ({ dst := some 31, op := Op.move (Operand.tmp 5), type := 3, pos := _, after := _, guard := none } : Oper)) (v := ?_) rfl (by kernel_rfl) (by kernel_rfl) (by kernel_rfl) (fun _ _ _ h => h) (Or.inl ⟨by rfl, ?_⟩) hSS ?_
      rotate_left
      · intro w9 hSw
        (try dsimp only at hSw)
        (try go_split_ands)
        first | (go_simp; done) | (go_simp; with_reducible rfl)
      try simp only [Act.put, List.setIfInBounds_toArray, List.set_cons_zero, List.set_cons_succ]
      refine wpAnyH_take (i := 7) (oi := ({ dst := some 32, op := Op.binOp BinOp.sub 3 (Operand.tmp 31) (Operand.const (Value.int IntKind.i64 1)) 3, type := 3, pos := _, after := _, guard := none } : Oper)) (v := ?_) rfl (by kernel_rfl) (by kernel_rfl) (by kernel_rfl) (fun _ _ _ h => h) (Or.inl ⟨by rfl, ?_⟩) hSS ?_
      rotate_left
      · intro w9 hSw
        (try dsimp only at hSw)
        (try go_split_ands)
        first | (go_simp; done) | (go_simp; with_reducible rfl)
      try simp only [Act.put, List.setIfInBounds_toArray, List.set_cons_zero, List.set_cons_succ]
      refine wpAnyH_take (i := 9) (oi := ({ dst := some 34, op := Op.move (Operand.tmp 1), type := 22, pos := _, after := _, guard := none } : Oper)) (v := ?_) rfl (by kernel_rfl) (by kernel_rfl) (by kernel_rfl) (fun _ _ _ h => h) (Or.inl ⟨by rfl, ?_⟩) hSS ?_
      rotate_left
      · intro w9 hSw
        (try dsimp only at hSw)
        (try go_split_ands)
        first | (go_simp; done) | (go_simp; with_reducible rfl)
      try simp only [Act.put, List.setIfInBounds_toArray, List.set_cons_zero, List.set_cons_succ]
      refine wpAnyH_take (i := 10) (oi := ({ dst := some 35, op := Op.move (Operand.tmp 7), type := 3, pos := _, after := _, guard := none } : Oper)) (v := ?_) rfl (by kernel_rfl) (by kernel_rfl) (by kernel_rfl) (fun _ _ _ h => h) (Or.inl ⟨by rfl, ?_⟩) hSS ?_
      rotate_left
      · intro w9 hSw
        (try dsimp only at hSw)
        (try go_split_ands)
        first | (go_simp; done) | (go_simp; with_reducible rfl)
      try simp only [Act.put, List.setIfInBounds_toArray, List.set_cons_zero, List.set_cons_succ]
      refine wpAnyH_take (i := 11) (oi := ({ dst := some 36, op := Op.indexAddr 22 (Operand.tmp 34) (Operand.tmp 35), type := 0, pos := _, after := _, guard := none } : Oper)) (v := ?_) rfl (by kernel_rfl) (by kernel_rfl) (by kernel_rfl) (fun _ _ _ h => h) (Or.inl ⟨by rfl, ?_⟩) hSS ?_
      rotate_left
      · intro w9 hSw
        (try dsimp only at hSw)
        (try go_split_ands)
        first | (go_simp; done) | (go_simp; with_reducible rfl)
      try simp only [Act.put, List.setIfInBounds_toArray, List.set_cons_zero, List.set_cons_succ]
      refine wpAnyH_take (i := 12) (oi := ({ dst := some 37, op := Op.fieldAddr 28 (Operand.tmp 36) 1, type := 0, pos := _, after := _, guard := none } : Oper)) (v := ?_) rfl (by kernel_rfl) (by kernel_rfl) (by kernel_rfl) (fun _ _ _ h => h) (Or.inl ⟨by rfl, ?_⟩) hSS ?_
      rotate_left
      · intro w9 hSw
        (try dsimp only at hSw)
        (try go_split_ands)
        first | (go_simp; done) | (go_simp; with_reducible rfl)
      try simp only [Act.put, List.setIfInBounds_toArray, List.set_cons_zero, List.set_cons_succ]
      refine wpAnyH_take (i := 13) (oi := ({ dst := some 38, op := Op.load 3 (Operand.tmp 37), type := 3, pos := _, after := _, guard := none } : Oper)) (v := ?_) rfl (by kernel_rfl) (by kernel_rfl) (by kernel_rfl) (fun _ _ _ h => h) (Or.inl ⟨by rfl, ?_⟩) hSS ?_
      rotate_left
      · intro w9 hSw
        (try dsimp only at hSw)
        (try go_split_ands)
        first | (go_simp; done) | (go_simp; with_reducible rfl)
      try simp only [Act.put, List.setIfInBounds_toArray, List.set_cons_zero, List.set_cons_succ]
      refine wpAnyH_take (i := 14) (oi := ({ dst := some 39, op := Op.move (Operand.tmp 5), type := 3, pos := _, after := _, guard := none } : Oper)) (v := ?_) rfl (by kernel_rfl) (by kernel_rfl) (by kernel_rfl) (fun _ _ _ h => h) (Or.inl ⟨by rfl, ?_⟩) hSS ?_
      rotate_left
      · intro w9 hSw
        (try dsimp only at hSw)
        (try go_split_ands)
        first | (go_simp; done) | (go_simp; with_reducible rfl)
      try simp only [Act.put, List.setIfInBounds_toArray, List.set_cons_zero, List.set_cons_succ]
      refine wpAnyH_take (i := 15) (oi := ({ dst := some 40, op := Op.binOp BinOp.sub 3 (Operand.tmp 39) (Operand.const (Value.int IntKind.i64 1)) 3, type := 3, pos := _, after := _, guard := none } : Oper)) (v := ?_) rfl (by kernel_rfl) (by kernel_rfl) (by kernel_rfl) (fun _ _ _ h => h) (Or.inl ⟨by rfl, ?_⟩) hSS ?_
      rotate_left
      · intro w9 hSw
        (try dsimp only at hSw)
        (try go_split_ands)
        first | (go_simp; done) | (go_simp; with_reducible rfl)
      try simp only [Act.put, List.setIfInBounds_toArray, List.set_cons_zero, List.set_cons_succ]
      refine wpAnyH_ready (rs := [8]) (by kernel_rfl) (by simp) (AllReadyH.cons (o := ({ dst := some 33, op := Op.call { callee := Callee.value (Operand.func 13), args := #[Operand.tmp 30, Operand.const (Value.int IntKind.i64 0), Operand.tmp 32], argTypes := #[3, 3, 3] }, type := 3, pos := _, after := _, guard := none } : Oper)) rfl (fun K9 hK9 => ?_) AllReadyH.nil)
      go_simp
      go_at_call 13
      refine Calls.mono (HW1.out _) ?_
      rintro e wq ⟨b, rfl, hb1, hwq⟩
      have hwq := hwq.symm
      subst hwq
      refine hK9.out _ _ hSS (fun hSS => ?_)
      clear hK9 K9
      try simp only [Act.put, List.setIfInBounds_toArray, List.set_cons_zero, List.set_cons_succ]
      refine wpAnyH_ready (rs := [16]) (by kernel_rfl) (by simp) (AllReadyH.cons (o := ({ dst := some 41, op := Op.call { callee := Callee.value (Operand.func 13), args := #[Operand.tmp 38, Operand.const (Value.int IntKind.i64 0), Operand.tmp 40], argTypes := #[3, 3, 3] }, type := 3, pos := _, after := _, guard := none } : Oper)) rfl (fun K9 hK9 => ?_) AllReadyH.nil)
      go_simp
      go_at_call 13
      refine Calls.mono (HW2.out _) ?_
      rintro e wq ⟨af, rfl, hb2, hwq⟩
      have hwq := hwq.symm
      subst hwq
      obtain ⟨g7, c7, w7, hrun, hnx⟩ := HPu.out b af hb1 hb2
      have HNX := hid hnx
      clear hnx
      refine hK9.out _ _ hSS (fun hSS => ?_)
      clear hK9 K9
      try simp only [Act.put, List.setIfInBounds_toArray, List.set_cons_zero, List.set_cons_succ]
      refine wpAnyH_take (i := 17) (oi := ({ dst := some 42, op := Op.build 28 #[(0, Operand.tmp 33), (1, Operand.tmp 41)], type := 28, pos := _, after := _, guard := none } : Oper)) (v := ?_) rfl (by kernel_rfl) (by kernel_rfl) (by kernel_rfl) (fun _ _ _ h => h) (Or.inl ⟨by rfl, ?_⟩) hSS ?_
      rotate_left
      · intro w9 hSw
        (try dsimp only at hSw)
        (try go_split_ands)
        first | (go_simp; done) | (go_simp; with_reducible rfl)
      try simp only [Act.put, List.setIfInBounds_toArray, List.set_cons_zero, List.set_cons_succ]
      refine wpAnyH_ready (rs := [18]) (by kernel_rfl) (by simp) (AllReadyH.cons (o := ({ dst := some 43, op := Op.buildSlice 22 1 #[(0, Operand.tmp 42)], type := 22, pos := _, after := _, guard := none } : Oper)) rfl (fun K9 hK9 => ?_) AllReadyH.nil)
      go_simp
      refine hK9.out _ _ (HSA.out b af) (fun hSS => ?_)
      clear hK9 K9
      try simp only [Act.put, List.setIfInBounds_toArray, List.set_cons_zero, List.set_cons_succ]
      refine wpAnyH_ready (rs := [19]) (by kernel_rfl) (by simp) (AllReadyH.cons (o := ({ dst := some 44, op := Op.call { callee := Callee.builtin Builtin.append, args := #[Operand.tmp 25, Operand.tmp 43], argTypes := #[22, 22] }, type := 22, pos := _, after := _, guard := none } : Oper)) rfl (fun K9 hK9 => ?_) AllReadyH.nil)
      refine step_append_run rfl _ _ _ _ (by rfl) _ _ (by rfl) (by rfl) _ _ (by exact hrun) ?_
      refine hK9.out _ _ HNX.out.1 (fun hSS => ?_)
      clear hK9 K9
      try simp only [Act.put, List.setIfInBounds_toArray, List.set_cons_zero, List.set_cons_succ]
      refine wpAnyH_take (i := 20) (oi := ({ dst := some 6, op := Op.assign (Operand.tmp 44), type := 22, pos := _, after := _, guard := none } : Oper)) (v := ?_) rfl (by kernel_rfl) (by kernel_rfl) (by kernel_rfl) (fun _ _ _ h => h) (Or.inl ⟨by rfl, ?_⟩) hSS ?_
      rotate_left
      · intro w9 hSw
        (try dsimp only at hSw)
        (try go_split_ands)
        first | (go_simp; done) | (go_simp; with_reducible rfl)
      try simp only [Act.put, List.setIfInBounds_toArray, List.set_cons_zero, List.set_cons_succ]
      refine wpAnyH_done (by kernel_rfl) ?_ _
      go_wp2_with fail
      refine ⟨⟨i + 1, _, _, _, by rw [Int.natCast_add]; rfl, rfl, HNX.out.2⟩, ?_⟩
      exact mea_i HNX.out.2.1
end Go.Proofs.Ytajnokkmpjdliaa
