/-
  THE BOOK: write.
-/
import Derived.Test.YteaebdonnicbkaaBkW
import Derived.Deep.RegionHeld3
namespace Go.Proofs.Yteaebdonnicbkaa
open Go.RowKit

set_option maxRecDepth 100000 in
set_option maxHeartbeats 8000000 in
theorem write_any (B : Nat) (R : Nat → Prop) (b : Nat) (cnt : Int) (tot : Nat) (fr he ma ke wa : Value) (n : Nat) (fv hv : List Value) (ms : List Int) (nK : Nat) (kv wv : List Value) (K : Nat → List Int) (Z : Nat → List Int) (w : World)
    (hn : n ≤ 3) (hnK : nK ≤ 67108864) (hB : B ≤ w.heap.size) (htot : tot ≤ 1073741754) (hZ : ∀ i, i < n → (Z i).length ≤ 67108864) (hms : ∀ i, i < n → 0 ≤ ms.getD i 0 ∧ ms.getD i 0 ≤ 536870912) (hml : ms.length = n)
    (h : BkI B R w b cnt tot fr he ma ke wa n n n fv hv (ms.map (Value.int .i64)) nK nK kv wv K) (hF : Fsh B R w n fv Z) (hH : ∀ i, i < n → Sl R w (hv.getD i (.bool false)) (Z i)) :
    Calls Try.prog 58 #[.pointer (some ⟨b, 0, none⟩)] w fun e w' => e = .returned (.tuple #[]) ∧ ∃ (R' : Nat → Prop) (ke' wa' : Value) (nK' : Nat) (kv' wv' : List Value) (K' : Nat → List Int), BkI B R' w' b cnt tot (.slice none 0 0) (.slice none 0 0) (.slice none 0 0) ke' wa' 0 0 0 [] [] [] nK' nK' kv' wv' K' ∧ nK' ≤ nK + 5 * n ∧ Wf (WX b ke wa n fv) R ke wa w w' R' ke' wa' (.slice none 0 0) := by
  have HU := hid (untouched_any (RF R n fv) B b cnt tot fr he ma ke wa n fv hv Z w (by omega) h.blk ⟨h.oF, hF.sl⟩ ⟨h.oH, fun i hi => (hH i hi).mono (fun g hg => .inl hg)⟩ (hF.t5 h.rT))
  obtain ⟨i22, hi22, hz22, hs22, hb22⟩ := info_parts info22
  obtain ⟨i5, hi5, hz5, hs5, hb5⟩ := info_parts info5
  obtain ⟨a3, c3, rfl, _⟩ := owns_slice h.oF
  obtain ⟨a5, c5, rfl, _⟩ := owns_slice h.oM
  have nS : ∀ g, RF R n fv g → g ≠ b := fun g hg => h.blk.ne_t5 (hF.t5 h.rT g hg)
  go_enter Try.func58, Try.ntmps58
  go_wp2_with fail
  refine Calls.mono HU.out ?_
  rintro e w1 ⟨rfl, hb1, hk1⟩
  have h1 : BkI B R w1 b cnt tot (.slice a3 n c3) he (.slice a5 n c5) ke wa n n n fv hv (ms.map (Value.int .i64)) nK nK kv wv K :=
    ⟨hk1, h.bB, owns_keep h.oF (fun g hg => hb1.block g (World.ownsRow.lt h.oF g hg).2 (fun e => h.blk.ne_row h.oF (by decide) (by rw [← e]; exact hg))), owns_keep h.oH (fun g hg => hb1.block g (World.ownsRow.lt h.oH g hg).2 (fun e => h.blk.ne_row h.oH (by decide) (by rw [← e]; exact hg))),
      owns_keep h.oM (fun g hg => hb1.block g (World.ownsRow.lt h.oM g hg).2 (fun e => h.blk.ne_row h.oM (by decide) (by rw [← e]; exact hg))),
      h.rK.but hb1 (fun g hg => ⟨(h.rT g hg).lt, nS g (.inl hg)⟩) (fun g hg e => h.blk.ne_row h.rK.own (by decide) (by rw [← e]; exact hg)), h.rW.but hb1 (fun g hg => ⟨(h.rT g hg).lt, nS g (.inl hg)⟩) (fun g hg e => h.blk.ne_row h.rW.own (by decide) (by rw [← e]; exact hg)),
      h.dFH, h.dFK, h.dFW, h.dHK, h.dHW, h.dKW, fun g hg => (h.rT g hg).keep (hb1.block g (h.rT g hg).lt (nS g (.inl hg)))⟩
  have hF1 : Fsh B R w1 n fv Z := hF.keep fun i g hi hg => hb1.block g (hF.own hi hg).1.lt (nS g (.inr ⟨i, hi, hg⟩))
  have hB1 : But (WX b ke wa n fv) w w1 := hb1.mono (fun k _ h => .inl h)
  have Hap := hid hF.apart
  have H1 := hid h1
  have HF1 := hid hF1
  have HB1 := hid hB1
  clear h1 hF1 hB1 hb1 hk1 nS h hF hH HU
  go_wp2_with fail
  go_loopw [2] (fun s wt => ∃ i : Nat, i ≤ n ∧ s = .int .i64 (i : Int) ∧ BkI B R wt b cnt tot (.slice a3 n c3) he (.slice a5 n c5) ke wa n n n fv hv (ms.map (Value.int .i64)) nK nK kv wv K ∧ Fsh B R wt n fv (Zw Z ms i) ∧ But (WX b ke wa n fv) w wt) (fun s _ => n - (intOf s).toNat)
  case atStart => exact ⟨0, Nat.zero_le _, rfl, H1.out, by rw [show Zw Z ms 0 = Z from by funext j; unfold Zw; rw [if_neg (by omega)]]; exact HF1.out, HB1.out⟩
  case round =>
    clear H1 HF1 HB1
    obtain ⟨i, hi, rfl, hI, hF, hbt⟩ := hrel
    have q3 := hI.blk.cell 3
    have q5 := hI.blk.cell 5
    simp only [List.getElem?_toArray, List.getElem?_cons_succ, List.getElem?_cons_zero] at q3 q5
    by_cases hin : i < n
    · obtain ⟨hzi, hfi⟩ := hF.each i hin
      rw [Zw_at] at hzi hfi
      obtain ⟨ai, ci, hvi, hai⟩ : ∃ ai ci, fv.getD i (.bool false) = .slice ai (Z i).length ci ∧ (∀ g, (fv.getD i (.bool false)).ownBlock = some g → ai = some ⟨g, 0, none⟩) := by
        rcases hfi with ⟨e1, e2⟩ | ⟨g, e1, _⟩
        · exact ⟨none, 0, by rw [e1, e2]; rfl, fun g hg => by rw [e1] at hg; cases hg⟩
        · exact ⟨_, _, e1, fun g' hg' => by rw [e1] at hg'; cases hg'; rfl⟩
      obtain ⟨g3, rfl, hB3, hl3, c3'⟩ := owns_cells hI.oF (by omega)
      obtain ⟨g5, rfl, hB5, hl5, c5'⟩ := owns_cells hI.oM (by omega)
      have r3 := c3' i hin
      have r5 := c5' i hin
      rw [hvi] at r3
      rw [show (ms.map (Value.int .i64)).getD i (.bool false) = .int .i64 (ms.getD i 0) from by simp [show i < ms.length by omega]] at r5
      obtain ⟨m0, m1⟩ := hms i hin
      have hLi := hZ i hin
      have hi1 : (i : Int) < (n : Int) := by omega
      have HI := hid hI
      have HFs := hid hF
      have Hbt := hid hbt
      have Hai := hid hai
      have Hvi := hid hvi
      have Hfi := hid hfi
      have Hzi := hid hzi
      have Hc3 := hid c3'
      clear hI hF hbt hai hvi hfi hzi c3' c5' hms hZ
      generalize hmi : ms.getD i 0 = mi at *
      have Hmi := hid hmi
      generalize hLL : (Z i).length = L at *
      have HLL := hid hLL
      clear hmi hLL
      go_wp2_with fail
      go_region_held3 (fun w' => w'.cell? ⟨b, 3, none⟩ = some (.slice (some ⟨g3, 0, none⟩) n c3) ∧ w'.cell? ⟨b, 5, none⟩ = some (.slice (some ⟨g5, 0, none⟩) n c5) ∧ w'.cell? ⟨g3, i, none⟩ = some (.slice ai L ci) ∧ w'.cell? ⟨g5, i, none⟩ = some (.int .i64 mi)) (first | (exact ⟨by assumption, by assumption, by assumption, by assumption⟩) | go_keep)
        ((go_at_call 64; refine (marked_any L mi _ (by omega) (by omega) (by omega)).mono ?_; rintro e w2 ⟨rfl, hB2, hsz2, hb2⟩; have HB2 : Hid (Blk .u8 5 w2 wr.heap.size (markL L mi)) := hB2; have Hs2 : Hid (w2.heap.size = wr.heap.size + 1) := hsz2; have Hb2 : Hid (Below wr.heap.size wr w2) := below_undrew hb2; have p3 : w2.cell? ⟨b, 3, none⟩ = some (.slice (some ⟨g3, 0, none⟩) n c3) := (hb2.cell (by exact HI.out.blk.lt)).trans q3; have p5 : w2.cell? ⟨b, 5, none⟩ = some (.slice (some ⟨g5, 0, none⟩) n c5) := (hb2.cell (by exact HI.out.blk.lt)).trans q5; have pr3 : w2.cell? ⟨g3, i, none⟩ = some (.slice ai L ci) := (hb2.cell (by exact hl3)).trans r3; have pr5 : w2.cell? ⟨g5, i, none⟩ = some (.int .i64 mi) := (hb2.cell (by exact hl5)).trans r5; clear hB2 hsz2 hb2))
      clear q3 q5 r3 r5
      go_wp2_with fail
      obtain ⟨W0, hW0⟩ : ∃ W0, W0 = wr := ⟨wr, rfl⟩
      subst hW0
      go_loopw [4] (fun s wt => ∃ k : Nat, k ≤ L ∧ s = .int .i64 (k : Int) ∧ But (fun x => (fv.getD i (.bool false)).ownBlock = some x) w2 wt ∧ (∀ g, (fv.getD i (.bool false)).ownBlock = some g → ∃ ys, Blk .u8 5 wt g ys ∧ ys.length = L ∧ ys.take k = (markL L mi).take k)) (fun s _ => L - (intOf s).toNat)
      case atStart =>
        refine ⟨0, Nat.zero_le _, rfl, But.refl _ _, fun g hg => ⟨Z i, ?_, HLL.out, rfl⟩⟩
        have hq := HFs.out.own hin hg
        rw [Zw_at] at hq
        exact hq.1.below Hb2.out hq.1.lt
      case round =>
        obtain ⟨k, hk, rfl, hbk, hys⟩ := hrel
        by_cases hkL : k < L
        · obtain ⟨g, hvg, hBg, hRg, hBBg⟩ := Hfi.out.resolve_left (fun ⟨_, e⟩ => by have := HLL.out; rw [e] at this; simp at this; omega)
          have how : (fv.getD i (.bool false)).ownBlock = some g := by rw [hvg]; rfl
          obtain rfl := Hai.out g how
          obtain rfl : L = ci := by have := Hvi.out; rw [hvg] at this; simp at this; exact this
          obtain ⟨ys, hBy, hyl, hyt⟩ := hys g how
          have hT5 := T5.blk hBg
          have nb : b ≠ g := fun e => HI.out.blk.ne_t5 hT5 e.symm
          have n3 : g3 ≠ g := fun e => hT5.ne_row HI.out.oF (by decide) (by rw [← e]; rfl)
          have nm : W0.heap.size ≠ g := by have := hBg.lt; omega
          have hs2 : W0.heap.size < w2.heap.size := by have := Hs2.out; omega
          have u3 := (hbk.cell (p := ⟨b, 3, none⟩) (by have := HI.out.blk.lt; show b < _; omega) (fun h => nb (by rw [how] at h; exact (Option.some.inj h).symm))).trans p3
          have ur3 := (hbk.cell (p := ⟨g3, i, none⟩) (by show g3 < _; omega) (fun h => n3 (by rw [how] at h; exact (Option.some.inj h).symm))).trans pr3
          have um := (hbk.cell (p := ⟨W0.heap.size, k, none⟩) hs2 (fun h => nm (by rw [how] at h; exact (Option.some.inj h).symm))).trans (HB2.out.cell k (by rw [length_markL]; exact hkL))
          rw [markL_getD mi hkL] at um
          have ug := hBy.cell k (by omega)
          have uf := hBy.frozen k
          have hk1 : (k : Int) < (L : Int) := by omega
          have HBy := hid (hBy.set k (mkd mi k))
          have HYt := hid (markL_set mi hkL hyl hyt)
          have HYl := hid hyl
          have Hbk := hid (hbk.setCell (p := ⟨g, k, none⟩) how (.int .u8 (mkd mi k)))
          have How := hid how
          clear hvg hBg hRg hBBg how hBy hyl hyt hys hbk p3 p5 pr3 pr5 hT5
          generalize ys.getD k 0 = old at *
          generalize mkd mi k = mv at *
          go_wp2_with fail
          go_region
          all_goals go_wp2
          all_goals
            go_roundw
            case rel =>
              refine ⟨k + 1, by omega, by go_num, Hbk.out.drew, fun g' hg' => ?_⟩
              obtain rfl : g' = g := by rw [How.out] at hg'; exact (Option.some.inj hg').symm
              exact ⟨_, HBy.out.drew, by simpa using HYl.out, HYt.out⟩
            case measure => simp [intOf]; omega
        · have HBk := hid hbk
          have HYs := hid hys
          clear hbk hys p3 p5 pr3 pr5
          go_wp2
          go_roundw
          case rel =>
            have hmark : ∀ g, (fv.getD i (.bool false)).ownBlock = some g → Blk .u8 5 wr g (markL L mi) := fun g hg => by
              obtain ⟨ys, q1, q2, q3⟩ := HYs.out g hg
              rw [List.take_of_length_le (by omega), List.take_of_length_le (by rw [length_markL]; omega)] at q3
              rw [← q3]
              exact q1
            have hFw := (HFs.out.below Hb2.out).wrote hin (zs := markL L mi) (by rw [length_markL, Zw_at]; exact HLL.out.symm) (isB_markL _ _) HBk.out hmark
            rw [← HLL.out, ← Hmi.out, Zw_succ] at hFw
            have hx : ∀ x, (fv.getD i (.bool false)).ownBlock = some x → T5 w2 x ∧ ¬ R x ∧ B ≤ x := fun x hx => by
              have hq := (HFs.out.below Hb2.out).own hin hx
              exact ⟨T5.blk hq.1, hq.2.1, hq.2.2.1⟩
            have hI2 := HI.out.below Hb2.out
            refine ⟨i + 1, by omega, by go_num, hI2.keep fun x hxx => HBk.out.block x (hI2.there hxx) (fun ho => ?_), hFw, (Hbt.out.step (But.of_below (X := fun _ => False) Hb2.out) (fun _ _ q => q.elim)).step HBk.out (fun x _ ho => .inr (.inr (.inr ⟨i, hin, ho⟩)))⟩
            obtain ⟨t5, nR, _⟩ := hx x ho
            rcases hxx with e | e | e | e | e | e | e
            · exact hI2.blk.ne_t5 t5 e
            · exact t5.ne_row hI2.oF (by decide) e
            · exact t5.ne_row hI2.oH (by decide) e
            · exact t5.ne_row hI2.oM (by decide) e
            · exact t5.ne_row hI2.rK.own (by decide) e
            · exact t5.ne_row hI2.rW.own (by decide) e
            · exact nR e
          case measure => simp [intOf]; omega
    · have hie : Zw Z ms i = Zw Z ms n := by rw [show i = n by omega]
      rw [hie] at hF
      have HI := hid hI
      have HFs := hid hF
      have Hbt := hid hbt
      clear hI hF hbt hie
      go_wp2_with fail
      clear hin hi q3 q5
      go_loopw [5, 6] (fun gr s wt => ∃ (i : Nat) (R' : Nat → Prop) (ke' wa' : Value) (nK' : Nat) (kv' wv' : List Value) (K' : Nat → List Int) (grv : List Value) (Zg : Nat → List Int), i ≤ n ∧ s = .int .i64 (i : Int) ∧ nK' ≤ nK + 2 * i ∧
          W3 B R' wt b cnt tot (.slice a3 n c3) he (.slice a5 n c5) ke' wa' n fv hv (ms.map (Value.int .i64)) nK' kv' wv' K' gr (3 * i) grv Zg (Zw Z ms n) i ∧ (∀ j, j < 3 * i → (Zg j).length ≤ 67108867) ∧ Wf (WX b ke wa n fv) R ke wa w wt R' ke' wa' gr) (fun _ s _ => n - (intOf s).toNat)
      case atStart => exact ⟨0, R, ke, wa, nK, kv, wv, K, [], Z, Nat.zero_le _, rfl, by omega, ⟨HI.out, ⟨World.ownsRow_nil _ _ _ _, fun i h => by omega⟩, (fun g h => by cases h), (fun g h => by cases h), (fun g h => by cases h), (fun g h => by cases h), fun j _ hj => HFs.out.each j hj⟩, fun j h => by omega, ⟨Hbt.out, fun x hx => .inl hx, fun g h => .inl h, fun g h => .inl h, fun g h => by cases h⟩⟩
      case round =>
        clear HI HFs Hbt
        obtain ⟨i, R', ke', wa', nK', kv', wv', K', grv, Zg, hi, rfl, hnK', hW, hZg, hbt⟩ := hrel
        by_cases hin : i < n
        · obtain ⟨g3, rfl, hB3, hl3, c3'⟩ := owns_cells hW.bk.oF (by omega)
          obtain ⟨g5, rfl, hB5, hl5, c5'⟩ := owns_cells hW.bk.oM (by omega)
          have q3 := hW.bk.blk.cell 3
          have q5 := hW.bk.blk.cell 5
          have q1 := hW.bk.blk.cell 1
          simp only [List.getElem?_toArray, List.getElem?_cons_succ, List.getElem?_cons_zero] at q1 q3 q5
          have r3 := c3' i hin
          have r5 := c5' i hin
          obtain ⟨ai, hvi, hnil, how, holds⟩ := (hW.fs i (Nat.le_refl _) hin).olds
          have hzl : (Zw Z ms n i).length = (Z i).length := by unfold Zw; rw [if_pos hin, length_markL]
          rw [hvi] at r3
          rw [show (ms.map (Value.int .i64)).getD i (.bool false) = .int .i64 (ms.getD i 0) from by simp [show i < ms.length by omega]] at r5
          obtain ⟨m0, m1⟩ := hms i hin
          have hLi := hZ i hin
          rw [← hzl] at hLi
          have hi1 : (i : Int) < (n : Int) := by omega
          have HW := hid hW
          have Hbt := hid hbt
          have HZg := hid hZg
          have Hhow := hid how
          have Hhol := hid holds
          have Hvi := hid hvi
          clear hW hbt hZg how holds hvi c3' c5' hzl
          generalize hmi : ms.getD i 0 = mi at *
          have Hmi := hid hmi
          generalize hzi : Zw Z ms n i = zi at *
          have Hzi := hid hzi
          clear hmi hzi
          have S1 := hid (olds_cells (w := wr.alloc (.cells (([(mi + 101) % 256] : List Int).map (Value.int .u8)).toArray 5)) (ai := ai) (zs := zi) (fun a ha => by obtain ⟨g, e, hB, _⟩ := Hhol.out a ha; exact ⟨g, e, hB.alloc _⟩))
          have Hnil := hid hnil
          clear hnil
          go_wp2_with (at_builtin; refine wpList_append_grows _ rfl (.tmp 86) (.tmp 89) 22 (by rfl) 5 i5 (.int .u8 0) 1 1 Try.underlying22 hi5 hz5 hs5 hb5 rfl (by decide) ai zi.length zi.length (zi.map (Value.int .u8)) (by rfl) (fun h => ⟨Hnil.out h, Hnil.out h⟩) (by rw [List.length_map, Nat.mul_one]) (by exact S1.out) ⟨wr.heap.size, 0, none⟩ 1 1 [.int .u8 ((mi + 101) % 256)] (by rfl) (by rfl) (by exact newsB wr [(mi + 101) % 256]) (by intro u hu; simp at hu; subst hu; rfl) (by omega) (by unfold maxLen; omega) (by omega) ?_)
          intro v1 w1 ho1 hg1
          obtain ⟨g1, cap1, rfl, hgs1, hO1⟩ := grown_own (zs := zi ++ [(mi + 101) % 256]) ho1 (by simp) (by omega)
          have B1 := hid (((Below.refl wr.heap.size wr).alloc (Nat.le_refl _) (.cells #[.int .u8 ((mi + 101) % 256)] 5)).trans ((below_grown hg1).mono (by simp)))
          have O1 := hid hO1
          have Bl1 := fun (W : World) (hW : Below wr.heap.size wr W) => (fun a ha => (by obtain ⟨g, e, hB, _⟩ := Hhol.out a ha; exact ⟨g, e, hB.below hW hB.lt⟩) : ∀ a, ai = some a → ∃ g, a = ⟨g, 0, none⟩ ∧ Blk .u8 5 W g zi)
          have BL := hid Bl1
          have S2 := hid (olds_cells (BL.out (w1.alloc (.cells (([(mi + 102) % 256, (mi + 103) % 256] : List Int).map (Value.int .u8)).toArray 5)) (B1.out.alloc B1.out.size _)))
          clear ho1 hg1 hO1 S1 Bl1
          go_wp2_with (at_builtin; refine wpList_append_grows _ rfl (.tmp 91) (.tmp 96) 22 (by rfl) 5 i5 (.int .u8 0) 1 1 Try.underlying22 hi5 hz5 hs5 hb5 rfl (by decide) ai zi.length zi.length (zi.map (Value.int .u8)) (by rfl) (fun h => ⟨Hnil.out h, Hnil.out h⟩) (by rw [List.length_map, Nat.mul_one]) (by exact S2.out) ⟨w1.heap.size, 0, none⟩ 2 2 [.int .u8 ((mi + 102) % 256), .int .u8 ((mi + 103) % 256)] (by rfl) (by rfl) (by exact newsB w1 [(mi + 102) % 256, (mi + 103) % 256]) (by intro u hu; simp at hu; rcases hu with rfl | rfl <;> rfl) (by omega) (by unfold maxLen; omega) (by omega) ?_)
          intro v2 w2 ho2 hg2
          obtain ⟨g2, cap2, rfl, hgs2, hO2⟩ := grown_own (zs := zi ++ [(mi + 102) % 256, (mi + 103) % 256]) ho2 (by simp) (by omega)
          have C2 : Below w1.heap.size w1 w2 := ((Below.refl w1.heap.size w1).alloc (Nat.le_refl _) (.cells #[.int .u8 ((mi + 102) % 256), .int .u8 ((mi + 103) % 256)] 5)).trans ((below_grown hg2).mono (by simp))
          have B2 := hid (B1.out.trans (C2.mono B1.out.size))
          have E2 := hid C2
          have O2 := hid hO2
          have S3 := hid (olds_cells (BL.out (w2.alloc (.cells (([(mi + 104) % 256, (mi + 105) % 256, (mi + 106) % 256] : List Int).map (Value.int .u8)).toArray 5)) (B2.out.alloc B2.out.size _)))
          clear ho2 hg2 hO2 S2 C2
          go_wp2_with (at_builtin; refine wpList_append_grows _ rfl (.tmp 98) (.tmp 105) 22 (by rfl) 5 i5 (.int .u8 0) 1 1 Try.underlying22 hi5 hz5 hs5 hb5 rfl (by decide) ai zi.length zi.length (zi.map (Value.int .u8)) (by rfl) (fun h => ⟨Hnil.out h, Hnil.out h⟩) (by rw [List.length_map, Nat.mul_one]) (by exact S3.out) ⟨w2.heap.size, 0, none⟩ 3 3 [.int .u8 ((mi + 104) % 256), .int .u8 ((mi + 105) % 256), .int .u8 ((mi + 106) % 256)] (by rfl) (by rfl) (by exact newsB w2 [(mi + 104) % 256, (mi + 105) % 256, (mi + 106) % 256]) (by intro u hu; simp at hu; rcases hu with rfl | rfl | rfl <;> rfl) (by omega) (by unfold maxLen; omega) (by omega) ?_)
          intro v3 w3 ho3 hg3
          obtain ⟨g13, cap3, rfl, hgs3, hO3⟩ := grown_own (zs := zi ++ [(mi + 104) % 256, (mi + 105) % 256, (mi + 106) % 256]) ho3 (by simp) (by omega)
          have C3 : Below w2.heap.size w2 w3 := ((Below.refl w2.heap.size w2).alloc (Nat.le_refl _) (.cells #[.int .u8 ((mi + 104) % 256), .int .u8 ((mi + 105) % 256), .int .u8 ((mi + 106) % 256)] 5)).trans ((below_grown hg3).mono (by simp))
          have B3 := hid (B2.out.trans (C3.mono B2.out.size))
          have E3 := hid C3
          have O3 := hid hO3
          clear ho3 hg3 hO3 S3 C3
          have t1 := (B3.out.cell (p := ⟨b, 1, none⟩) (by exact HW.out.bk.blk.lt)).trans q1
          have t5 := (B3.out.cell (p := ⟨b, 5, none⟩) (by exact HW.out.bk.blk.lt)).trans q5
          have tr5 := (B3.out.cell (p := ⟨g5, i, none⟩) (by exact hl5)).trans r5
          clear q1 q3 q5 r3 r5
          have ew1 : IntKind.i64.wrap ((tot : Int) + 70) = ((tot + 70 : Nat) : Int) := by rw [IntKind.wrap_i64]; omega
          have ew2 : IntKind.i64.wrap (mi + 107) = mi + 107 := by rw [IntKind.wrap_i64]; omega
          have hM := marked_any (tot + 70) (mi + 107) w3.drew (by omega) (by omega) (by omega)
          rw [show ((tot + 70 : Nat) : Int) = (tot : Int) + 70 from by omega] at hM
          have HM := hid hM
          clear hM
          go_wp2_with fail
          go_region_held3 (fun w' => w'.cell? ⟨b, 1, none⟩ = some (.int .i64 (tot : Int)) ∧ w'.cell? ⟨b, 5, none⟩ = some (.slice (some ⟨g5, 0, none⟩) n c5) ∧ w'.cell? ⟨g5, i, none⟩ = some (.int .i64 mi)) (first | (exact ⟨by assumption, by assumption, by assumption⟩) | go_keep)
            ((go_at_call 64; refine Calls.mono HM.out ?_; rintro e w4 ⟨rfl, hB4, hsz4, hb4⟩; have HB4 : Hid (Blk .u8 5 w4 w3.heap.size (markL (tot + 70) (mi + 107))) := hB4; have Hb4 : Hid (Below w3.heap.size w3 w4) := below_undrew hb4; have y1 : w4.cell? ⟨b, 1, none⟩ = some (.int .i64 (tot : Int)) := (hb4.cell (p := ⟨b, 1, none⟩) (by exact Nat.lt_of_lt_of_le HW.out.bk.blk.lt B3.out.size)).trans t1; have y5 : w4.cell? ⟨b, 5, none⟩ = some (.slice (some ⟨g5, 0, none⟩) n c5) := (hb4.cell (p := ⟨b, 5, none⟩) (by exact Nat.lt_of_lt_of_le HW.out.bk.blk.lt B3.out.size)).trans t5; have yr5 : w4.cell? ⟨g5, i, none⟩ = some (.int .i64 mi) := (hb4.cell (p := ⟨g5, i, none⟩) (by exact Nat.lt_of_lt_of_le hl5 B3.out.size)).trans tr5; clear hB4 hsz4 hb4))
          clear t1 t5 tr5 HM ew1 ew2
          have B4 := hid (B3.out.trans (Hb4.out.mono B3.out.size))
          have HY := hid (And.intro y1 (And.intro y5 yr5))
          clear y1 y5 yr5
          generalize hmo : markL (tot + 70) (mi + 107) = mo at *
          have Hmol : Hid (mo.length = tot + 70) := by show _ = _; rw [← hmo, length_markL]
          have Hmob : Hid (Pl.isB mo) := by show Pl.isB _; rw [← hmo]; exact isB_markL _ _
          have Hmo := hid hmo
          clear hmo
          obtain ⟨W0, hW0⟩ : ∃ W0, W0 = wr := ⟨wr, rfl⟩
          subst hW0
          go_wp2_with fail
          go_loopw [13, 14] (fun s13 s14 wt => ∃ k : Nat, k ≤ tot + 70 ∧ s14 = .int .i64 (k : Int) ∧ Below w4.heap.size w4 wt ∧ ((k = 0 ∧ s13 = .slice ai zi.length zi.length) ∨ (0 < k ∧ ∃ g cap, s13 = .slice (some ⟨g, 0, none⟩) (zi.length + k) cap ∧ w4.heap.size ≤ g ∧ Own wt g (zi.length + k) cap (zi ++ mo.take k)))) (fun _ s14 _ => tot + 70 - (intOf s14).toNat)
          case atStart => exact ⟨0, Nat.zero_le _, rfl, Below.refl _ _, .inl ⟨rfl, rfl⟩⟩
          case round =>
            obtain ⟨k, hk, rfl, hbk, halt⟩ := hrel
            by_cases hkT : k < tot + 70
            · have hcm := (hbk.cell (p := ⟨w3.heap.size, k, none⟩) (by exact HB4.out.lt)).trans (HB4.out.cell k (by rw [Hmol.out]; exact hkT))
              have hk1 : (k : Int) < (tot : Int) + 70 := by omega
              have htk := hid (take_snoc (L := mo) (j := k) (by rw [Hmol.out]; exact hkT))
              rw [← List.getD_eq_getElem?_getD] at htk
              generalize mo.getD k 0 = x at *
              have Hbk := hid hbk
              rcases halt with ⟨rfl, rfl⟩ | ⟨hk0, g, cap, rfl, hgg, hO⟩
              · have S4 := hid (olds_cells (BL.out (wr.alloc (.cells (([x] : List Int).map (Value.int .u8)).toArray 5)) ((B4.out.trans (hbk.mono B4.out.size)).alloc (Nat.le_trans B4.out.size hbk.size) _)))
                clear hbk
                go_wp2_with (at_builtin; refine wpList_append_grows _ rfl (.tmp 128) (.tmp 133) 22 (by rfl) 5 i5 (.int .u8 0) 1 1 Try.underlying22 hi5 hz5 hs5 hb5 rfl (by decide) ai zi.length zi.length (zi.map (Value.int .u8)) (by rfl) (fun h => ⟨Hnil.out h, Hnil.out h⟩) (by rw [List.length_map, Nat.mul_one]) (by exact S4.out) ⟨wr.heap.size, 0, none⟩ 1 1 [.int .u8 x] (by rfl) (by rfl) (by exact newsB wr [x]) (by intro u hu; simp at hu; subst hu; rfl) (by omega) (by unfold maxLen; omega) (by omega) ?_)
                intro v' w' ho hg
                obtain ⟨g', cap', rfl, hgs, hO'⟩ := grown_own (zs := zi ++ [x]) ho (by simp) (by omega)
                have Hb' := hid (Hbk.out.trans ((((Below.refl wr.heap.size wr).alloc (Nat.le_refl _) (.cells #[.int .u8 x] 5)).trans ((below_grown hg).mono (by simp))).mono Hbk.out.size))
                have HO' := hid hO'
                have hge : w4.heap.size ≤ g' := by have := Hbk.out.size; omega
                clear ho hg hO' S4 Hbk
                go_wp2
                go_roundw
                case rel => exact ⟨1, by omega, by go_num, Hb'.out, .inr ⟨by decide, g', cap', rfl, hge, by rw [htk.out]; exact HO'.out⟩⟩
                case measure => simp [intOf]
              · have HO := hid (World.ownsRow.alloc (owns_base hO hgg) (.cells (([x] : List Int).map (Value.int .u8)).toArray 5))
                have HOl := hid hO.len
                clear hbk hO
                go_wp2_with (at_builtin; refine wpList_append_lies _ rfl (.tmp 128) (.tmp 133) 22 (by rfl) w4.heap.size 5 i5 (.int .u8 0) 1 1 Try.underlying22 hi5 hz5 hs5 hb5 rfl (by decide) _ (zi.length + k) ((zi ++ mo.take k).map (Value.int .u8)) (by rfl) (by exact HO.out) ⟨wr.heap.size, 0, none⟩ 1 1 [.int .u8 x] (by rfl) (by rfl) (by exact newsB wr [x]) (by intro u hu; simp at hu; subst hu; rfl) (by decide) (by unfold maxLen; omega) (by omega) (by have := Hbk.out.size; simp; omega) (wr.heap.size + 1) (by simp) ?_)
                intro g' cap' w' ho hg hlie _
                have hge : w4.heap.size ≤ g' := by
                  have := Hbk.out.size
                  rcases hlie with h | h
                  · cases h; exact hgg
                  · omega
                have HO' := hid (Own.of (zs := (zi ++ mo.take k) ++ [x]) (by simpa [List.map_take] using ho))
                have Hb' := hid ((Hbk.out.alloc Hbk.out.size (.cells #[.int .u8 x] 5)).grown hg (by have := Hbk.out.size; simp; omega) (fun q hq => by cases hq; exact hgg))
                clear ho hg hlie HO Hbk
                go_wp2
                go_roundw
                case rel => exact ⟨k + 1, by omega, by go_num, Hb'.out, .inr ⟨by omega, g', cap', rfl, hge, by rw [htk.out, ← List.append_assoc]; exact HO'.out⟩⟩
                case measure => simp [intOf]; omega
            · have hke : k = tot + 70 := by omega
              subst hke
              rcases halt with ⟨h0, _⟩ | ⟨_, g4, cap4, rfl, hg4, hO4⟩
              · omega
              rw [List.take_of_length_le (by rw [Hmol.out]; omega)] at hO4
              have O4 := hid hO4
              have B5 := hid (B4.out.trans (hbk.mono B4.out.size))
              have B45 := hid hbk
              clear hbk hO4
              obtain ⟨ag, cg, rfl, _⟩ := owns_slice HW.out.rg.own
              have G0 := hid (owns_below HW.out.rg.own (B5.out.alloc B5.out.size (.cells #[.slice (some ⟨g1, 0, none⟩) (zi.length + 1) cap1, .slice (some ⟨g2, 0, none⟩) (zi.length + 2) cap2, .slice (some ⟨g13, 0, none⟩) (zi.length + 3) cap3] 22)))
              have hB0 : B ≤ wr.heap.size := Nat.le_trans (Nat.le_trans hB Hbt.out.but.size) B5.out.size
              go_wp2_with (at_builtin; refine wpList_append_lies _ rfl (.tmp 135) (.tmp 139) 53 (by rfl) B 22 i22 (.slice none 0 0) 1 24 Try.underlying53 hi22 hz22 hs22 hb22 rfl (by decide) _ (3 * i) grv (by rfl) G0.out ⟨wr.heap.size, 0, none⟩ 3 3 [.slice (some ⟨g1, 0, none⟩) (zi.length + 1) cap1, .slice (some ⟨g2, 0, none⟩) (zi.length + 2) cap2, .slice (some ⟨g13, 0, none⟩) (zi.length + 3) cap3] (by rfl) (by rfl) (by exact newsS wr _) (by intro u hu; simp at hu; rcases hu with rfl | rfl | rfl <;> rfl) (by decide) (by unfold maxLen; omega) (by omega) (by simp; omega) (wr.heap.size + 1) (by simp) ?_)
              intro gg capg w5 hog hgg hlieg _
              have D3 := Hb4.out.trans (B45.out.mono Hb4.out.size)
              have D2 := E3.out.trans (D3.mono E3.out.size)
              have D1 := E2.out.trans (D2.mono E2.out.size)
              have z1 := B1.out.size
              have z2 := B2.out.size
              have z3 := B3.out.size
              have z4 := B4.out.size
              have hzb : Pl.isB zi := by have := (HW.out.fs i (Nat.le_refl _) hin).1; rw [Hzi.out] at this; exact this
              obtain ⟨R1, hR1⟩ : ∃ R1 : Nat → Prop, ∀ x, R1 x ↔ (R' x ∨ (fv.getD i (.bool false)).ownBlock = some x ∨ x = g1 ∨ x = g2 ∨ x = g13 ∨ x = g4) := ⟨_, fun _ => Iff.rfl⟩
              have hf1 : ∀ j g, i + 1 ≤ j → j < n → (fv.getD j (.bool false)).ownBlock = some g → ¬ R1 g := by
                intro j g hj hjn hg hr
                rcases (HW.out.fs j (by omega) hjn).2 with ⟨e, _⟩ | ⟨g', e, q1, q2, _⟩
                · rw [e] at hg; cases hg
                · have e' : g' = g := by rw [e] at hg; cases hg; rfl
                  subst e'
                  have := q1.lt
                  rcases (hR1 _).1 hr with q | q | q | q | q | q
                  · exact q2 q
                  · exact Hap.out i j _ hin hjn (by omega) q hg
                  all_goals omega
              have hT1 : ∀ g, R1 g → T5 wr g := by
                intro g hr
                rcases (hR1 g).1 hr with q | q | q | q | q | q
                · exact (HW.out.bk.rT g q).keep (B5.out.block g (HW.out.bk.rT g q).lt)
                · obtain ⟨_, hBg, _⟩ := Hhow.out g q
                  exact T5.blk (hBg.below B5.out hBg.lt)
                · rw [q]; exact (O1.out.below D1).t5
                · rw [q]; exact (O2.out.below D2).t5
                · rw [q]; exact (O3.out.below D3).t5
                · rw [q]; exact O4.out.t5
              have W5a := HW.out.next.wide B5.out (fun g hg => (hR1 g).2 (.inl hg)) hT1 hf1 (fun _ _ => rfl)
              have s1 := Sl.of_own (R := R1) (O1.out.below D1) (isB_app hzb (by intro z hz; simp at hz; omega)) ((hR1 _).2 (.inr (.inr (.inl rfl))))
              have s2 := Sl.of_own (R := R1) (O2.out.below D2) (isB_app hzb (by intro z hz; simp at hz; omega)) ((hR1 _).2 (.inr (.inr (.inr (.inl rfl)))))
              have s3 := Sl.of_own (R := R1) (O3.out.below D3) (isB_app hzb (by intro z hz; simp at hz; omega)) ((hR1 _).2 (.inr (.inr (.inr (.inr (.inl rfl))))))
              have s4 := Sl.of_own (R := R1) O4.out (isB_app hzb Hmob.out) ((hR1 _).2 (.inr (.inr (.inr (.inr (.inr rfl))))))
              have s0 := ((HW.out.fs i (Nat.le_refl _) hin).sl (R2 := fun x => (fv.getD i (.bool false)).ownBlock = some x) (fun g hg => hg)).keep (w' := wr) (fun g hg => B5.out.block g (by obtain ⟨_, hBg, _⟩ := Hhow.out g hg; exact hBg.lt))
              have s0' := s0.mono (R' := R1) (fun g hg => (hR1 g).2 (.inr (.inl hg)))
              rw [Hvi.out, Hzi.out] at s0'
              have WF5a := Hbt.out.wide (R2 := R1) B5.out (fun x hx => by
                rcases (hR1 x).1 hx with q | q | q | q | q | q
                · exact .inl q
                · exact .inr (.inl (.inr (.inr (.inr ⟨i, hin, q⟩))))
                all_goals exact .inr (.inr (by omega)))
              have moB := HB4.out.below B45.out HB4.out.lt
              obtain ⟨W5, Hu5⟩ := W5a.app hgg hog hlieg s1 s2 s3
              have WF5 := WF5a.app (m := 3 * i + 3) (c := capg) Hu5 hlieg
              have nG : ∀ x, T5 wr x → w5.heap[x]? = wr.heap[x]? := fun x hx => Hu5.block x hx.lt (hx.ne_row W5a.rg.own (by decide))
              have S4 := hid (s4.keep (w' := w5) (fun g hg => nG g (hT1 g hg)))
              have S0 := hid (s0'.keep (w' := w5) (fun g hg => nG g (hT1 g hg)))
              have M5 := hid (moB.of_block (nG _ (T5.blk moB)))
              have HW5 := hid W5
              have HF5 := hid WF5
              have Hzb := hid hzb
              have hmz : Hid (markL zi.length mi = zi) := by
                show _ = _
                have := Hzi.out
                unfold Zw at this
                rw [if_pos hin, Hmi.out] at this
                rw [← this, length_markL]
              clear D1 D2 D3 z1 z2 z3 z4 hzb hf1 hT1 W5a s1 s2 s3 s4 s0 s0' WF5a moB W5 Hu5 WF5 nG hgg hog hlieg HW G0 O1 O2 O3 O4 HB4 B45 B5 B4 B3 B2 B1 E2 E3 Hb4 BL HY Hhol Hhow Hbt
              have c5 := HW5.out.bk.blk.cell 5
              simp only [List.getElem?_toArray, List.getElem?_cons_succ, List.getElem?_cons_zero] at c5
              have d5 := owns_at HW5.out.bk.oM hin
              rw [show (ms.map (Value.int .i64)).getD i (.bool false) = .int .i64 mi from by rw [← Hmi.out]; simp [show i < ms.length by omega]] at d5
              have HM6 := hid (marked_any zi.length mi w5 (by omega) (by omega) (by omega))
              go_wp2_with fail
              refine Calls.mono HM6.out ?_
              rintro e w6 ⟨rfl, hB6, _, hb6⟩
              rw [hmz.out] at hB6
              have W6 := hid (HW5.out.wide1 zi hb6 (Nat.le_refl _) (T5.blk hB6))
              have S46 := hid ((S4.out.keep (w' := w6) (fun g hg => hb6.block g (HW5.out.bk.rT g hg).lt)).mono (R' := fun x => R1 x ∨ x = w5.heap.size) (fun _ q => .inl q))
              have S06 := hid ((S0.out.keep (w' := w6) (fun g hg => hb6.block g (HW5.out.bk.rT g hg).lt)).mono (R' := fun x => R1 x ∨ x = w5.heap.size) (fun _ q => .inl q))
              have SN6 := hid (Sl.of_blk (R := fun x => R1 x ∨ x = w5.heap.size) hB6 Hzb.out (.inr rfl) zi.length)
              have M6 := hid (M5.out.below hb6 M5.out.lt)
              have HF6 := hid (HF5.out.wide (R2 := fun x => R1 x ∨ x = w5.heap.size) hb6 (fun x q => q.elim .inl (fun e => .inr (.inr (Nat.le_of_eq e.symm)))))
              have hB6s : B ≤ w6.heap.size := Nat.le_trans hB HF6.out.but.size
              have HK6 := hid (keep_any B _ b cnt tot _ he _ ke' wa' n n n fv hv _ nK' kv' wv' _ _ _ zi w6 (by omega) hB6s W6.out.bk S06.out SN6.out (upd_at K' nK' zi))
              clear HM6 hB6 hb6 S4 S0 SN6 S06 M5 HW5 HF5 c5 d5 hB6s
              go_wp2_with fail
              refine Calls.mono HK6.out ?_
              rintro e w7 ⟨ke7, wa7, rfl, hI7, hT7, _, hu7, hk7, hw7⟩
              have W7 := hid (W6.out.kept hI7 hu7 hk7 hw7)
              have HXX := hid (fun x (q : x = b ∨ ke.ownBlock = some x ∨ wa.ownBlock = some x) => (q.elim .inl (fun q => q.elim (fun q => .inr (.inl q)) (fun q => .inr (.inr (.inl q)))) : WX b ke wa n fv x))
              have HF7 := hid (HF6.out.kept hu7 HXX.out hk7 hw7)
              have S47 := hid (S46.out.keep (w' := w7) (fun g hg => hT7 g (W6.out.bk.rT g hg)))
              have M7 := hid (M6.out.of_block (hT7 _ (T5.blk M6.out)))
              clear HK6 hI7 hT7 hu7 hk7 hw7 S46 M6 W6 HF6
              have c5 := W7.out.bk.blk.cell 5
              simp only [List.getElem?_toArray, List.getElem?_cons_succ, List.getElem?_cons_zero] at c5
              have d5 := owns_at W7.out.bk.oM hin
              rw [show (ms.map (Value.int .i64)).getD i (.bool false) = .int .i64 mi from by rw [← Hmi.out]; simp [show i < ms.length by omega]] at d5
              have HM8 := hid (marked_any zi.length mi w7 (by omega) (by omega) (by omega))
              go_wp2_with fail
              refine Calls.mono HM8.out ?_
              rintro e w8 ⟨rfl, hB8, _, hb8⟩
              rw [hmz.out] at hB8
              have OL8 := hid (olds_cells (w := w8) (ai := some ⟨w7.heap.size, 0, none⟩) (zs := zi) (fun a ha => ⟨_, (Option.some.inj ha).symm, hB8⟩))
              have NW8 := hid (olds_cells (w := w8) (ai := some ⟨w3.heap.size, 0, none⟩) (zs := mo) (fun a ha => ⟨_, (Option.some.inj ha).symm, M7.out.below hb8 M7.out.lt⟩) _ rfl)
              have Hb8 := hid hb8
              clear HM8 hB8 hb8 c5 d5 M7
              go_wp2_with (at_builtin; refine wpList_append_grows _ rfl (.tmp 165) (.tmp 166) 22 (by rfl) 5 i5 (.int .u8 0) 1 1 Try.underlying22 hi5 hz5 hs5 hb5 rfl (by decide) (some ⟨w7.heap.size, 0, none⟩) zi.length zi.length (zi.map (Value.int .u8)) (by rfl) (fun h => by cases h) (by rw [List.length_map, Nat.mul_one]) (by exact OL8.out) ⟨w3.heap.size, 0, none⟩ (tot + 70) (tot + 70) (mo.map (Value.int .u8)) (by rfl) (by simp [Hmol.out]) (by exact NW8.out) (by intro u hu; simp at hu; obtain ⟨_, _, rfl⟩ := hu; rfl) (by omega) (by unfold maxLen; omega) (by omega) ?_)
              intro v9 w9 ho9 hg9
              obtain ⟨g9, cap9, rfl, hgs9, hO9⟩ := grown_own (zs := zi ++ mo) ho9 (by simp) (by omega)
              have hb9 := Hb8.out.trans ((below_grown hg9).mono Hb8.out.size)
              have hge : w7.heap.size ≤ g9 := by omega
              have W9 := hid (W7.out.wide1 (zi ++ mo) hb9 hge hO9.t5)
              have S49 := hid ((S47.out.keep (w' := w9) (fun g hg => hb9.block g (W7.out.bk.rT g hg).lt)).mono (R' := fun x => (R1 x ∨ x = w5.heap.size) ∨ x = g9) (fun _ q => .inl q))
              have SN9 := hid (Sl.of_own (R := fun x => (R1 x ∨ x = w5.heap.size) ∨ x = g9) hO9 (isB_app Hzb.out Hmob.out) (.inr rfl))
              have HF9 := hid (HF7.out.wide (R2 := fun x => (R1 x ∨ x = w5.heap.size) ∨ x = g9) hb9 (fun x q => q.elim .inl (fun e => .inr (.inr (by rw [e]; exact hge)))))
              have hB9s : B ≤ w9.heap.size := Nat.le_trans hB HF9.out.but.size
              have hml' : (zi ++ mo).length = zi.length + (tot + 70) := by rw [List.length_append, Hmol.out]
              have HK9 := hid (keep_any B _ b cnt tot _ he _ ke7 wa7 n n n fv hv _ (nK' + 1) _ _ _ _ _ (zi ++ mo) w9 (by omega) hB9s W9.out.bk S49.out SN9.out (upd_at _ (nK' + 1) (zi ++ mo)))
              clear ho9 hg9 hO9 hb9 hge S49 SN9 S47 W7 HF7 OL8 NW8 Hb8 hgs9 hB9s
              go_wp2_with fail
              refine Calls.mono HK9.out ?_
              rintro e wX ⟨keX, waX, rfl, hIX, hTX, _, huX, hkX, hwX⟩
              have WX' := hid (W9.out.kept hIX huX hkX hwX)
              have HFX := hid (HF9.out.kept huX HXX.out hkX hwX)
              clear HK9 hIX hTX huX hkX hwX W9 HF9 hml'
              go_wp2
              go_roundw
              case rel =>
                refine ⟨i + 1, _, keX, waX, nK' + 2, _, _, _, _, _, by omega, by go_num, by omega, WX'.out, fun j hj => ?_, HFX.out⟩
                unfold Z3
                split
                · exact HZg.out j (by assumption)
                · split
                  · simp; omega
                  · split <;> (simp; omega)
              case measure => simp [intOf]; omega
        · have hie : i = n := by omega
          rw [hie] at hW hZg hnK'
          obtain ⟨ag, cg, rfl, _⟩ := owns_slice hW.rg.own
          have q3 := hW.bk.blk.cell 3
          simp only [List.getElem?_toArray, List.getElem?_cons_succ, List.getElem?_cons_zero] at q3
          have HW := hid hW
          have Hbt := hid hbt
          have HZg := hid hZg
          clear hW hbt hZg
          go_wp2_with fail
          clear q3 hin hi hie
          obtain ⟨Rp, hRp⟩ : ∃ Rp, Rp = R' := ⟨R', rfl⟩
          go_loopw [15] (fun s wt => ∃ (m : Nat) (R' : Nat → Prop) (ke' wa' : Value) (nK' : Nat) (kv' wv' : List Value) (K' : Nat → List Int), m ≤ 3 * n ∧ s = .int .i64 (m : Int) ∧ nK' ≤ nK + 2 * n + m ∧
              W3 B R' wt b cnt tot (.slice a3 n c3) he (.slice a5 n c5) ke' wa' n fv hv (ms.map (Value.int .i64)) nK' kv' wv' K' (.slice ag (3 * n) cg) (3 * n) grv Zg (Zw Z ms n) n ∧ Wf (WX b ke wa n fv) R ke wa w wt R' ke' wa' (.slice ag (3 * n) cg)) (fun s _ => 3 * n - (intOf s).toNat)
          case atStart => exact ⟨0, R', ke', wa', nK', kv', wv', K', Nat.zero_le _, rfl, by omega, HW.out, Hbt.out⟩
          case round =>
            clear HW Hbt hRp hnK'
            obtain ⟨m, R2, ke2, wa2, nK2, kv2, wv2, K2, hm, rfl, hnK2, hW, hbt⟩ := hrel
            by_cases hmn : m < 3 * n
            · obtain ⟨gg, rfl, hBg, hlg, cgc⟩ := owns_cells hW.rg.own (by omega)
              have kc := cgc m hmn
              have hsm := hW.rg.sl m hmn
              obtain ⟨a, c, hgv, hnil, hrd⟩ := hsm.rd hW.bk.rT
              have hzb := hsm.1
              have hlen := HZg.out m hmn
              rw [hgv] at kc hsm
              have HCp := hid (CopyBytes_any a (Zg m).length c (Zg m) wr.drew (by omega) hnil hrd)
              have HXX := hid (fun x (q : x = b ∨ ke.ownBlock = some x ∨ wa.ownBlock = some x) => (q.elim .inl (fun q => q.elim (fun q => .inr (.inl q)) (fun q => .inr (.inr (.inl q)))) : WX b ke wa n fv x))
              have HW := hid hW
              have Hbt := hid hbt
              have Hsm := hid hsm
              have Hgv := hid hgv
              have Hzb := hid hzb
              have hm1 : (m : Int) < ((3 * n : Nat) : Int) := by omega
              clear hW hbt hsm hgv hzb cgc hrd hnil
              generalize hzm : Zg m = zm at *
              go_wp2_with fail
              go_region_held3 (fun w' => w'.cell? ⟨gg, m, none⟩ = some (.slice a zm.length c)) (first | (assumption) | go_keep)
                ((first
                  | (go_at_call 12; refine Calls.mono HCp.out ?_; rintro e w6 ⟨g6, cap6, rfl, hgs6, hO6, hb6⟩; have hb6' := below_undrew hb6; have W6 := hid (HW.out.wide1 zm hb6' hgs6 hO6.t5); have S6 := hid ((Hsm.out.keep (w' := w6) (fun g hg => hb6'.block g (HW.out.bk.rT g hg).lt)).mono (R' := fun x => R2 x ∨ x = g6) (fun _ q => .inl q)); have SN6 := hid (Sl.of_own (R := fun x => R2 x ∨ x = g6) hO6 Hzb.out (.inr rfl)); have HF6 := hid (Hbt.out.wide (R2 := fun x => R2 x ∨ x = g6) hb6' (fun x q => q.elim .inl (fun e => .inr (.inr (by rw [e]; exact hgs6))))); have HK6 := hid (keep_any B _ b cnt tot _ he _ ke2 wa2 n n n fv hv _ nK2 kv2 wv2 _ _ _ zm w6 (by omega) (Nat.le_trans hB HF6.out.but.size) W6.out.bk S6.out SN6.out (upd_at K2 nK2 zm)); have k6 : w6.cell? ⟨gg, m, none⟩ = some (.slice a zm.length c) := (hb6'.cell (p := ⟨gg, m, none⟩) hlg).trans kc; clear hO6 hb6 hb6' S6 SN6)
                  | (go_at_call 65; refine Calls.mono HK6.out ?_; rintro e w7 ⟨ke7, wa7, rfl, hI7, _, _, hu7, hk7, hw7⟩; have W7 := hid (W6.out.kept hI7 hu7 hk7 hw7); have HF7 := hid (HF6.out.kept hu7 HXX.out hk7 hw7); have k7 : w7.cell? ⟨gg, m, none⟩ = some (.slice a zm.length c) := (owns_at W7.out.rg.own hmn).trans (by rw [Hgv.out]); clear hI7 hu7 hk7 hw7)))
              all_goals
                go_wp2
                go_roundw
                case rel => exact ⟨m + 1, _, ke7, wa7, nK2 + 1, _, _, _, by omega, by go_num, by omega, W7.out, HF7.out⟩
                case measure => simp [intOf]; omega
            · have HW := hid hW
              have Hbt := hid hbt
              have HXX := hid (fun x (q : x = b ∨ ke.ownBlock = some x ∨ wa.ownBlock = some x) => (q.elim .inl (fun q => q.elim (fun q => .inr (.inl q)) (fun q => .inr (.inr (.inl q)))) : WX b ke wa n fv x))
              have I3 := hid hW.bk.setF.setH.setM
              have HU3 := hid (((hbt.but.setCell (p := ⟨b, 3, none⟩) (.inl rfl) (.slice none 0 0)).setCell (p := ⟨b, 4, none⟩) (.inl rfl) (.slice none 0 0)).setCell (p := ⟨b, 5, none⟩) (.inl rfl) (.slice none 0 0))
              have q3 := hW.bk.blk.cell 3
              have q4 := hW.bk.setF.blk.cell 4
              have q5 := hW.bk.setF.setH.blk.cell 5
              have q2 := I3.out.blk.cell 2
              have f3 := hW.bk.blk.frozen 3
              have f4 := hW.bk.setF.blk.frozen 4
              have f5 := hW.bk.setF.setH.blk.frozen 5
              simp only [List.getElem?_toArray, List.getElem?_cons_succ, List.getElem?_cons_zero] at q2 q3 q4 q5
              have HS := hid (same_any R2 B b cnt tot false _ _ _ ke2 wa2 nK2 kv2 wv2 _ _ (by omega) I3.out.blk I3.out.rK I3.out.rW I3.out.rT)
              clear hW hbt
              go_wp2_with fail
              refine Calls.mono HS.out ?_
              rintro e w4 ⟨rfl, hu4⟩
              have I4 := hid (I3.out.keep (w' := w4) (fun g hg => hu4.block g (I3.out.there hg) (fun q => q)))
              have HU4 := hid (HU3.out.step hu4 (fun _ _ q => q.elim))
              have c2 := I4.out.blk.cell 2
              have f2 := I4.out.blk.frozen 2
              simp only [List.getElem?_toArray, List.getElem?_cons_succ, List.getElem?_cons_zero] at c2
              clear HS hu4 q2 q3 q4 q5 f3 f4 f5
              go_wp2
              go_end0
              exact ⟨rfl, R2, ke2, wa2, nK2, kv2, wv2, _, I4.out.setB, by omega, ⟨HU4.out.setCell (p := ⟨b, 2, none⟩) (.inl rfl) _, Hbt.out.rr, Hbt.out.kk, Hbt.out.ww, fun g q => by cases q⟩⟩

end Go.Proofs.Yteaebdonnicbkaa
