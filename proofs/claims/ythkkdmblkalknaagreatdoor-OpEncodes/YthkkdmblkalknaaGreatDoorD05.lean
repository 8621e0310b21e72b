import Derived.Test.YthkkdmblkalknaaGreatDoorD04
import Derived.Deep.RegionHeld3
/-
  THE BOOK: write.
-/
namespace Go.Proofs.YthkkdmblkalknaaGreatDoor.bk
open Go.RowKit

set_option maxRecDepth 100000 in
set_option maxHeartbeats 8000000 in
theorem write_any (B : Nat) (R : Nat → Prop) (b : Nat) (cnt : Int) (tot : Nat) (fr he ma ke wa : Value) (n : Nat) (fv hv : List Value) (ms : List Int) (nK : Nat) (kv wv : List Value) (K : Nat → List Int) (Z : Nat → List Int) (w : World)
    (hn : n ≤ 3) (hnK : nK ≤ 67108864) (hB : B ≤ w.heap.size) (htot : tot ≤ 1073741754) (hZ : ∀ i, i < n → (Z i).length ≤ 268435456) (hms : ∀ i, i < n → 0 ≤ ms.getD i 0 ∧ ms.getD i 0 ≤ 536870912) (hml : ms.length = n)
    (h : BkI B R w b cnt tot fr he ma ke wa n n n fv hv (ms.map (Value.int .i64)) nK nK kv wv K) (hF : Fsh B R w n fv Z) (hH : ∀ i, i < n → Sl R w (hv.getD i (.bool false)) (Z i)) :
    Calls Tryz.prog 85 #[.pointer (some ⟨b, 0, none⟩)] w fun e w' => e = .returned (.tuple #[]) ∧ ∃ (R' : Nat → Prop) (ke' wa' : Value) (nK' : Nat) (kv' wv' : List Value) (K' : Nat → List Int), BkI B R' w' b cnt tot (.slice none 0 0) (.slice none 0 0) (.slice none 0 0) ke' wa' 0 0 0 [] [] [] nK' nK' kv' wv' K' ∧ nK' ≤ nK + 5 * n ∧ Wf (WX b ke wa n fv) R ke wa w w' R' ke' wa' (.slice none 0 0) := by
  have HU := hid (untouched_any (RF R n fv) B b cnt tot fr he ma ke wa n fv hv Z w (by omega) h.blk ⟨h.oF, hF.sl⟩ ⟨h.oH, fun i hi => (hH i hi).mono (fun g hg => .inl hg)⟩ (hF.t5 h.rT))
  obtain ⟨i22, hi22, hz22, hs22, hb22⟩ := info_parts info22
  obtain ⟨i5, hi5, hz5, hs5, hb5⟩ := info_parts info5
  obtain ⟨a3, c3, rfl, _⟩ := owns_slice h.oF
  obtain ⟨a5, c5, rfl, _⟩ := owns_slice h.oM
  have nS : ∀ g, RF R n fv g → g ≠ b := fun g hg => h.blk.ne_t5 (hF.t5 h.rT g hg)
  go_enter Tryz.func85, Tryz.ntmps85
  go_wp2_with fail
  refine Calls.mono HU.out ?_
  rintro e w1 ⟨rfl, hb1, hk1⟩
  have h1 : BkI B R w1 b cnt tot (.slice a3 n c3) he (.slice a5 n c5) ke wa n n n fv hv (ms.map (Value.int .i64)) nK nK kv wv K :=
    ⟨hk1, h.bB, owns_keep h.oF (fun g hg => hb1.block g (World.ownsRow.lt h.oF g hg).2 (fun e => h.blk.ne_row h.oF (by decide) (by rw [← e]; exact hg))), owns_keep h.oH (fun g hg => hb1.block g (World.ownsRow.lt h.oH g hg).2 (fun e => h.blk.ne_row h.oH (by decide) (by rw [← e]; exact hg))),
      owns_keep h.oM (fun g hg => hb1.block g (World.ownsRow.lt h.oM g hg).2 (fun e => h.blk.ne_row h.oM (by decide) (by rw [← e]; exact hg))),
      h.rK.but hb1 (fun g hg => ⟨(h.rT g hg).lt, nS g (.inl hg)⟩) (fun g hg e => h.blk.ne_row h.rK.own (by decide) (by rw [← e]; exact hg)), h.rW.but hb1 (fun g hg => ⟨(h.rT g hg).lt, nS g (.inl hg)⟩) (fun g hg e => h.blk.ne_row h.rW.own (by decide) (by rw [← e]; exact hg)),
      h.dFH, h.dFK, h.dFW, h.dHK, h.dHW, h.dKW, fun g hg => (h.rT g hg).keep (hb1.block g (h.rT g hg).lt (nS g (.inl hg)))⟩
  have hF1 : Fsh B R w1 n fv Z := hF.keep fun i g hi hg => hb1.block g (hF.own hi hg).1.lt (nS g (.inr ⟨i, hi, hg⟩))
  have hB1 : But (WX b ke wa n fv) w w1 := hb1.mono (fun k _ h => .inl h)
  have Hap := hid hF.apart
  have H1 := hid h1
  have HF1 := hid hF1
  have HB1 := hid hB1
  clear h1 hF1 hB1 hb1 hk1 nS h hF hH HU
  go_wp2_with fail
  go_loopw [2] (fun s wt => ∃ i : Nat, i ≤ n ∧ s = .int .i64 (i : Int) ∧ BkI B R wt b cnt tot (.slice a3 n c3) he (.slice a5 n c5) ke wa n n n fv hv (ms.map (Value.int .i64)) nK nK kv wv K ∧ Fsh B R wt n fv (Zw Z ms i) ∧ But (WX b ke wa n fv) w wt) (fun s _ => n - (intOf s).toNat)
  case atStart => exact ⟨0, Nat.zero_le _, rfl, H1.out, by rw [show Zw Z ms 0 = Z from by funext j; unfold Zw; rw [if_neg (by omega)]]; exact HF1.out, HB1.out⟩
  case round =>
    clear H1 HF1 HB1
    obtain ⟨i, hi, rfl, hI, hF, hbt⟩ := hrel
    have q3 := hI.blk.cell 3
    have q5 := hI.blk.cell 5
    simp only [List.getElem?_toArray, List.getElem?_cons_succ, List.getElem?_cons_zero] at q3 q5
    by_cases hin : i < n
    · obtain ⟨hzi, hfi⟩ := hF.each i hin
      rw [Zw_at] at hzi hfi
      obtain ⟨ai, ci, hvi, hai⟩ : ∃ ai ci, fv.getD i (.bool false) = .slice ai (Z i).length ci ∧ (∀ g, (fv.getD i (.bool false)).ownBlock = some g → ai = some ⟨g, 0, none⟩) := by
        rcases hfi with ⟨e1, e2⟩ | ⟨g, ⟨c, e1, _⟩, _⟩
        · exact ⟨none, 0, by rw [e1, e2]; rfl, fun g hg => by rw [e1] at hg; cases hg⟩
        · exact ⟨_, _, e1, fun g' hg' => by rw [e1] at hg'; cases hg'; rfl⟩
      obtain ⟨g3, rfl, hB3, hl3, c3'⟩ := owns_cells hI.oF (by omega)
      obtain ⟨g5, rfl, hB5, hl5, c5'⟩ := owns_cells hI.oM (by omega)
      have r3 := c3' i hin
      have r5 := c5' i hin
      rw [hvi] at r3
      rw [show (ms.map (Value.int .i64)).getD i (.bool false) = .int .i64 (ms.getD i 0) from by simp [show i < ms.length by omega]] at r5
      obtain ⟨m0, m1⟩ := hms i hin
      have hLi := hZ i hin
      have hi1 : (i : Int) < (n : Int) := by omega
      have HI := hid hI
      have HFs := hid hF
      have Hbt := hid hbt
      have Hai := hid hai
      have Hvi := hid hvi
      have Hfi := hid hfi
      have Hzi := hid hzi
      have Hc3 := hid c3'
      clear hI hF hbt hai hvi hfi hzi c3' c5' hms hZ
      generalize hmi : ms.getD i 0 = mi at *
      have Hmi := hid hmi
      generalize hLL : (Z i).length = L at *
      have HLL := hid hLL
      clear hmi hLL
      go_wp2_with fail
      go_region_held3 (fun w' => w'.cell? ⟨b, 3, none⟩ = some (.slice (some ⟨g3, 0, none⟩) n c3) ∧ w'.cell? ⟨b, 5, none⟩ = some (.slice (some ⟨g5, 0, none⟩) n c5) ∧ w'.cell? ⟨g3, i, none⟩ = some (.slice ai L ci) ∧ w'.cell? ⟨g5, i, none⟩ = some (.int .i64 mi)) (first | (exact ⟨by assumption, by assumption, by assumption, by assumption⟩) | go_keep)
        ((go_at_call 115; refine (marked_any L mi _ (by omega) (by omega) (by omega)).mono ?_; rintro e w2 ⟨rfl, hB2, hsz2, hb2⟩; have HB2 : Hid (Blk .u8 5 w2 wr.heap.size (markL L mi)) := hB2; have Hs2 : Hid (w2.heap.size = wr.heap.size + 1) := hsz2; have Hb2 : Hid (Below wr.heap.size wr w2) := below_undrew hb2; have p3 : w2.cell? ⟨b, 3, none⟩ = some (.slice (some ⟨g3, 0, none⟩) n c3) := (hb2.cell (by exact HI.out.blk.lt)).trans q3; have p5 : w2.cell? ⟨b, 5, none⟩ = some (.slice (some ⟨g5, 0, none⟩) n c5) := (hb2.cell (by exact HI.out.blk.lt)).trans q5; have pr3 : w2.cell? ⟨g3, i, none⟩ = some (.slice ai L ci) := (hb2.cell (by exact hl3)).trans r3; have pr5 : w2.cell? ⟨g5, i, none⟩ = some (.int .i64 mi) := (hb2.cell (by exact hl5)).trans r5; clear hB2 hsz2 hb2))
      clear q3 q5 r3 r5
      go_wp2_with fail
      obtain ⟨W0, hW0⟩ : ∃ W0, W0 = wr := ⟨wr, rfl⟩
      subst hW0
      go_loopw [4] (fun s wt => ∃ k : Nat, k ≤ L ∧ s = .int .i64 (k : Int) ∧ But (fun x => (fv.getD i (.bool false)).ownBlock = some x) w2 wt ∧ (∀ g, (fv.getD i (.bool false)).ownBlock = some g → ∃ ys, Own wt g L ci ys ∧ ys.length = L ∧ ys.take k = (markL L mi).take k)) (fun s _ => L - (intOf s).toNat)
      case atStart =>
        refine ⟨0, Nat.zero_le _, rfl, But.refl _ _, fun g hg => ⟨Z i, ?_, HLL.out, rfl⟩⟩
        obtain ⟨⟨c, e, o⟩, _⟩ := HFs.out.own hin hg
        rw [Zw_at] at e o
        have hce : c = ci := by have := Hvi.out.symm.trans e; simp at this; exact this.2.2.symm
        rw [hce, HLL.out] at o
        exact o.below Hb2.out
      case round =>
        obtain ⟨k, hk, rfl, hbk, hys⟩ := hrel
        by_cases hkL : k < L
        · obtain ⟨g, hFO, hRg, hBBg⟩ := Hfi.out.resolve_left (fun ⟨_, e⟩ => by have := HLL.out; rw [e] at this; simp at this; omega)
          have how : (fv.getD i (.bool false)).ownBlock = some g := hFO.ob
          obtain rfl := Hai.out g how
          obtain ⟨ys, hBy, hyl, hyt⟩ := hys g how
          have hT5 := hFO.t5
          have nb : b ≠ g := fun e => HI.out.blk.ne_t5 hT5 e.symm
          have n3 : g3 ≠ g := fun e => hT5.ne_row HI.out.oF (by decide) (by rw [← e]; rfl)
          have nm : W0.heap.size ≠ g := by have := hFO.lt; omega
          have hs2 : W0.heap.size < w2.heap.size := by have := Hs2.out; omega
          have u3 := (hbk.cell (p := ⟨b, 3, none⟩) (by have := HI.out.blk.lt; show b < _; omega) (fun h => nb (by rw [how] at h; exact (Option.some.inj h).symm))).trans p3
          have ur3 := (hbk.cell (p := ⟨g3, i, none⟩) (by show g3 < _; omega) (fun h => n3 (by rw [how] at h; exact (Option.some.inj h).symm))).trans pr3
          have um := (hbk.cell (p := ⟨W0.heap.size, k, none⟩) hs2 (fun h => nm (by rw [how] at h; exact (Option.some.inj h).symm))).trans (HB2.out.cell k (by rw [length_markL]; exact hkL))
          rw [markL_getD mi hkL] at um
          have ug := hBy.cell k (by omega)
          have uf := hBy.frozen k
          have hk1 : (k : Int) < (L : Int) := by omega
          have HBy := hid (hBy.set k (mkd mi k))
          have HYt := hid (markL_set mi hkL hyl hyt)
          have HYl := hid hyl
          have Hbk := hid (hbk.setCell (p := ⟨g, k, none⟩) how (.int .u8 (mkd mi k)))
          have How := hid how
          clear hFO hRg hBBg how hBy hyl hyt hys hbk p3 p5 pr3 pr5 hT5
          generalize ys.getD k 0 = old at *
          generalize mkd mi k = mv at *
          go_wp2_with fail
          go_region
          all_goals go_wp2
          all_goals
            go_roundw
            case rel =>
              refine ⟨k + 1, by omega, by go_num, Hbk.out.drew, fun g' hg' => ?_⟩
              obtain rfl : g' = g := by rw [How.out] at hg'; exact (Option.some.inj hg').symm
              exact ⟨_, HBy.out, by simpa using HYl.out, HYt.out⟩
            case measure => simp [intOf]; omega
        · have HBk := hid hbk
          have HYs := hid hys
          clear hbk hys p3 p5 pr3 pr5
          go_wp2
          go_roundw
          case rel =>
            have hmark : ∀ g c, fv.getD i (.bool false) = .slice (some ⟨g, 0, none⟩) (Zw Z ms i i).length c → Own wr g (Zw Z ms i i).length c (markL L mi) := fun g c e => by
              obtain ⟨ys, q1, q2, q3⟩ := HYs.out g (by rw [e]; rfl)
              rw [List.take_of_length_le (by omega), List.take_of_length_le (by rw [length_markL]; omega)] at q3
              have hce : c = ci := by have := Hvi.out.symm.trans e; simp at this; exact this.2.2.symm
              rw [← q3, hce, Zw_at, HLL.out]
              exact q1
            have hFw := (HFs.out.below Hb2.out).wrote hin (zs := markL L mi) (by rw [length_markL, Zw_at]; exact HLL.out.symm) (isB_markL _ _) HBk.out hmark
            rw [← HLL.out, ← Hmi.out, Zw_succ] at hFw
            have hx : ∀ x, (fv.getD i (.bool false)).ownBlock = some x → T5 w2 x ∧ ¬ R x ∧ B ≤ x := fun x hx => by
              have hq := (HFs.out.below Hb2.out).own hin hx
              exact ⟨hq.1.t5, hq.2.1, hq.2.2⟩
            have hI2 := HI.out.below Hb2.out
            refine ⟨i + 1, by omega, by go_num, hI2.keep fun x hxx => HBk.out.block x (hI2.there hxx) (fun ho => ?_), hFw, (Hbt.out.step (But.of_below (X := fun _ => False) Hb2.out) (fun _ _ q => q.elim)).step HBk.out (fun x _ ho => .inr (.inr (.inr ⟨i, hin, ho⟩)))⟩
            obtain ⟨t5, nR, _⟩ := hx x ho
            rcases hxx with e | e | e | e | e | e | e
            · exact hI2.blk.ne_t5 t5 e
            · exact t5.ne_row hI2.oF (by decide) e
            · exact t5.ne_row hI2.oH (by decide) e
            · exact t5.ne_row hI2.oM (by decide) e
            · exact t5.ne_row hI2.rK.own (by decide) e
            · exact t5.ne_row hI2.rW.own (by decide) e
            · exact nR e
          case measure => simp [intOf]; omega
    · have hie : Zw Z ms i = Zw Z ms n := by rw [show i = n by omega]
      rw [hie] at hF
      have HI := hid hI
      have HFs := hid hF
      have Hbt := hid hbt
      clear hI hF hbt hie
      go_wp2_with fail
      clear hin hi q3 q5
      go_loopw [5, 6] (fun gr s wt => ∃ (i : Nat) (R' : Nat → Prop) (ke' wa' : Value) (nK' : Nat) (kv' wv' : List Value) (K' : Nat → List Int) (grv : List Value) (Zg : Nat → List Int), i ≤ n ∧ s = .int .i64 (i : Int) ∧ nK' ≤ nK + 2 * i ∧
          W3 B R' wt b cnt tot (.slice a3 n c3) he (.slice a5 n c5) ke' wa' n fv hv (ms.map (Value.int .i64)) nK' kv' wv' K' gr (3 * i) grv Zg (Zw Z ms n) i ∧ (∀ j, j < 3 * i → (Zg j).length ≤ 268435459) ∧ Wf (WX b ke wa n fv) R ke wa w wt R' ke' wa' gr) (fun _ s _ => n - (intOf s).toNat)
      case atStart => exact ⟨0, R, ke, wa, nK, kv, wv, K, [], Z, Nat.zero_le _, rfl, by omega, ⟨HI.out, ⟨World.ownsRow_nil _ _ _ _, fun i h => by omega⟩, (fun g h => by cases h), (fun g h => by cases h), (fun g h => by cases h), (fun g h => by cases h), fun j _ hj => HFs.out.each j hj⟩, fun j h => by omega, ⟨Hbt.out, fun x hx => .inl hx, fun g h => .inl h, fun g h => .inl h, fun g h => by cases h⟩⟩
      case round =>
        clear HI HFs Hbt
        obtain ⟨i, R', ke', wa', nK', kv', wv', K', grv, Zg, hi, rfl, hnK', hW, hZg, hbt⟩ := hrel
        by_cases hin : i < n
        · obtain ⟨g3, rfl, hB3, hl3, c3'⟩ := owns_cells hW.bk.oF (by omega)
          obtain ⟨g5, rfl, hB5, hl5, c5'⟩ := owns_cells hW.bk.oM (by omega)
          have q3 := hW.bk.blk.cell 3
          have q5 := hW.bk.blk.cell 5
          have q1 := hW.bk.blk.cell 1
          simp only [List.getElem?_toArray, List.getElem?_cons_succ, List.getElem?_cons_zero] at q1 q3 q5
          have r3 := c3' i hin
          have r5 := c5' i hin
          obtain ⟨ai, ci, hvi, hnil, how, holds⟩ := (hW.fs i (Nat.le_refl _) hin).olds
          have hzl : (Zw Z ms n i).length = (Z i).length := by unfold Zw; rw [if_pos hin, length_markL]
          rw [hvi] at r3 how
          rw [show (ms.map (Value.int .i64)).getD i (.bool false) = .int .i64 (ms.getD i 0) from by simp [show i < ms.length by omega]] at r5
          obtain ⟨m0, m1⟩ := hms i hin
          have hLi := hZ i hin
          rw [← hzl] at hLi
          have hi1 : (i : Int) < (n : Int) := by omega
          have HW := hid hW
          have Hbt := hid hbt
          have HZg := hid hZg
          have Hhow := hid how
          have Hvi := hid hvi
          clear hW hbt hZg how hvi c3' c5' hzl
          generalize hmi : ms.getD i 0 = mi at *
          have Hmi := hid hmi
          generalize hzi : Zw Z ms n i = zi at *
          have Hzi := hid hzi
          clear hmi hzi
          obtain ⟨mo, hmo⟩ : ∃ mo, markL (tot + 70) (mi + 107) = mo := ⟨_, rfl⟩
          have Hmol : Hid (mo.length = tot + 70) := by show _ = _; rw [← hmo, length_markL]
          have Hmob : Hid (Pl.isB mo) := by show Pl.isB _; rw [← hmo]; exact isB_markL _ _
          have G0 := Gs.start mo rfl hnil holds
          obtain ⟨W0, hW0⟩ : ∃ W0, W0 = wr := ⟨wr, rfl⟩
          subst hW0
          have nB : ¬ (Value.slice ai zi.length ci).ownBlock = some b := fun e => HW.out.bk.blk.ne_t5 (Hhow.out b e).1 rfl
          have n5 : ¬ (Value.slice ai zi.length ci).ownBlock = some g5 := fun e => (Hhow.out g5 e).1.ne_row HW.out.bk.oM (by decide) rfl
          have Hne := hid (And.intro nB n5)
          have A1 := hid (G0.below ((Below.refl _ _).alloc (Nat.le_refl _) (.cells (([(mi + 101) % 256] : List Int).map (Value.int .u8)).toArray 5)))
          clear hnil holds G0 nB n5
          go_wp2_with (at_builtin; refine wpList_app rfl (.tmp 86) (.tmp 89) (by rfl) ai zi.length ci zi (by rfl) rfl A1.out.nil A1.out.at0 ⟨W0.heap.size, 0, none⟩ 1 1 [(mi + 101) % 256] (by rfl) (by rfl) (by exact newsB W0 [(mi + 101) % 256]) (by omega) (by unfold maxLen; omega) (by omega) ?_)
          intro g1 cap1 w1 hA1 hO1
          obtain ⟨G1, V1, _⟩ := A1.out.app hA1 hO1
          have al2 : Below w1.heap.size w1 (w1.alloc (.cells (([(mi + 102) % 256, (mi + 103) % 256] : List Int).map (Value.int .u8)).toArray 5)) := (Below.refl _ _).alloc (Nat.le_refl _) _
          have A2 := hid (And.intro (G1.below al2) (V1.below al2))
          clear hA1 hO1 G1 V1 A1 al2
          go_wp2_with (at_builtin; refine wpList_app rfl (.tmp 91) (.tmp 96) (by rfl) ai zi.length ci zi (by rfl) rfl A2.out.1.nil A2.out.1.at0 ⟨w1.heap.size, 0, none⟩ 2 2 [(mi + 102) % 256, (mi + 103) % 256] (by rfl) (by rfl) (by exact newsB w1 [(mi + 102) % 256, (mi + 103) % 256]) (by omega) (by unfold maxLen; omega) (by omega) ?_)
          intro g2 cap2 w2 hA2 hO2
          obtain ⟨G2, V2, t2⟩ := A2.out.1.app hA2 hO2
          have V1 := A2.out.2.keep t2 A2.out.1.ownlt
          have al3 : Below w2.heap.size w2 (w2.alloc (.cells (([(mi + 104) % 256, (mi + 105) % 256, (mi + 106) % 256] : List Int).map (Value.int .u8)).toArray 5)) := (Below.refl _ _).alloc (Nat.le_refl _) _
          have A3 := hid (And.intro (G2.below al3) (And.intro (V1.below al3) (V2.below al3)))
          clear hA2 hO2 G2 V2 t2 V1 A2 al3
          go_wp2_with (at_builtin; refine wpList_app rfl (.tmp 98) (.tmp 105) (by rfl) ai zi.length ci zi (by rfl) rfl A3.out.1.nil A3.out.1.at0 ⟨w2.heap.size, 0, none⟩ 3 3 [(mi + 104) % 256, (mi + 105) % 256, (mi + 106) % 256] (by rfl) (by rfl) (by exact newsB w2 [(mi + 104) % 256, (mi + 105) % 256, (mi + 106) % 256]) (by omega) (by unfold maxLen; omega) (by omega) ?_)
          intro g13 cap3 w3 hA3 hO3
          obtain ⟨G3, V3, t3⟩ := A3.out.1.app hA3 hO3
          have V1 := A3.out.2.1.keep t3 A3.out.1.ownlt
          have V2 := A3.out.2.2.keep t3 A3.out.1.ownlt
          have z3 := G3.but.size
          have GV3 := hid (And.intro G3 (And.intro V1 (And.intro V2 V3)))
          have t1 := (G3.but.cell (p := ⟨b, 1, none⟩) (by exact HW.out.bk.blk.lt) Hne.out.1).trans q1
          have t5 := (G3.but.cell (p := ⟨b, 5, none⟩) (by exact HW.out.bk.blk.lt) Hne.out.1).trans q5
          have tr5 := (G3.but.cell (p := ⟨g5, i, none⟩) (by exact hl5) Hne.out.2).trans r5
          clear hA3 hO3 G3 V3 t3 V1 V2 A3 q1 q3 q5 r3 r5
          have ew1 : IntKind.i64.wrap ((tot : Int) + 70) = ((tot + 70 : Nat) : Int) := by rw [IntKind.wrap_i64]; omega
          have ew2 : IntKind.i64.wrap (mi + 107) = mi + 107 := by rw [IntKind.wrap_i64]; omega
          have hM := marked_any (tot + 70) (mi + 107) w3.drew (by omega) (by omega) (by omega)
          rw [show ((tot + 70 : Nat) : Int) = (tot : Int) + 70 from by omega, hmo] at hM
          have HM := hid hM
          have Hmo := hid hmo
          clear hM hmo
          have hbl : b < w3.heap.size := by have := HW.out.bk.blk.lt; omega
          have hl5' : g5 < w3.heap.size := by omega
          go_wp2_with fail
          go_region_held3 (fun w' => w'.cell? ⟨b, 1, none⟩ = some (.int .i64 (tot : Int)) ∧ w'.cell? ⟨b, 5, none⟩ = some (.slice (some ⟨g5, 0, none⟩) n c5) ∧ w'.cell? ⟨g5, i, none⟩ = some (.int .i64 mi)) (first | (exact ⟨by assumption, by assumption, by assumption⟩) | go_keep)
            ((go_at_call 115; refine Calls.mono HM.out ?_; rintro e w4 ⟨rfl, hB4, hsz4, hb4⟩; have HB4 : Hid (Blk .u8 5 w4 w3.heap.size mo) := hB4; have Hb4 : Hid (Below w3.heap.size w3 w4) := below_undrew hb4; have y1 : w4.cell? ⟨b, 1, none⟩ = some (.int .i64 (tot : Int)) := (hb4.cell (p := ⟨b, 1, none⟩) hbl).trans t1; have y5 : w4.cell? ⟨b, 5, none⟩ = some (.slice (some ⟨g5, 0, none⟩) n c5) := (hb4.cell (p := ⟨b, 5, none⟩) hbl).trans t5; have yr5 : w4.cell? ⟨g5, i, none⟩ = some (.int .i64 mi) := (hb4.cell (p := ⟨g5, i, none⟩) hl5').trans tr5; clear hB4 hsz4 hb4))
          clear t1 t5 tr5 HM ew1 ew2 y1 y5 yr5
          have z4 := Hb4.out.size
          have GV4 := hid (And.intro (GV3.out.1.below Hb4.out) (And.intro (GV3.out.2.1.below Hb4.out) (And.intro (GV3.out.2.2.1.below Hb4.out) (GV3.out.2.2.2.below Hb4.out))))
          have hmlt := HB4.out.lt
          have hown0 := hid GV4.out.1.ownlt
          clear GV3 Hb4
          go_wp2_with fail
          go_loopw [13, 14] (fun s13 s14 wt => ∃ k : Nat, k ≤ tot + 70 ∧ s14 = .int .i64 (k : Int) ∧ Gs W0 wt ai zi.length ci zi mo k ∧ Vj w4.heap.size wt ai zi.length ci zi k s13 (mo.take k) ∧ But (fun x => (Value.slice ai zi.length ci).ownBlock = some x ∨ w4.heap.size ≤ x) w4 wt) (fun _ s14 _ => tot + 70 - (intOf s14).toNat)
          case atStart => exact ⟨0, Nat.zero_le _, rfl, GV4.out.1, .inl ⟨GV4.out.1.cap, rfl⟩, But.refl _ _⟩
          case round =>
            obtain ⟨k, hk, rfl, hG, hV, hbk⟩ := hrel
            have nmore : ¬ ((Value.slice ai zi.length ci).ownBlock = some w3.heap.size ∨ w4.heap.size ≤ w3.heap.size) := fun h => by
              rcases h with h | h
              · have := hown0.out _ h; omega
              · omega
            by_cases hkT : k < tot + 70
            · have hcm := (hbk.cell (p := ⟨w3.heap.size, k, none⟩) hmlt nmore).trans (HB4.out.cell k (by rw [Hmol.out]; exact hkT))
              have hk1 : (k : Int) < (tot : Int) + 70 := by omega
              have htk := take_snoc (L := mo) (j := k) (by rw [Hmol.out]; exact hkT)
              rw [← List.getD_eq_getElem?_getD] at htk
              generalize mo.getD k 0 = x at *
              obtain ⟨a', c', rfl, hnil', hl', hcs⟩ := hG.now hV
              have al : Below wr.heap.size wr (wr.alloc (.cells (([x] : List Int).map (Value.int .u8)).toArray 5)) := (Below.refl _ _).alloc (Nat.le_refl _) _
              have HL' : Hid (∀ b, a' = some b → ∃ g, b = ⟨g, 0, none⟩ ∧ Own (wr.alloc (.cells (([x] : List Int).map (Value.int .u8)).toArray 5)) g (zi.length + k) c' (zi ++ mo.take k)) := fun b e => by
                obtain ⟨g, e2, o⟩ := hl' b e
                exact ⟨g, e2, o.below al⟩
              have hlz : (zi ++ mo.take k).length = zi.length + k := by simp [Hmol.out]; omega
              have Hlz := hid hlz
              have Hnl := hid hnil'
              have hsb := hbk.size
              have HSt : Hid (∀ g' cap' w', AppR a' (zi.length + k) c' 1 (wr.alloc (.cells (([x] : List Int).map (Value.int .u8)).toArray 5)) g' cap' w' → Own w' g' (zi.length + k + 1) cap' ((zi ++ mo.take k) ++ [x]) → Gs W0 w' ai zi.length ci zi mo (k + 1) ∧ Vj w4.heap.size w' ai zi.length ci zi (k + 1) (.slice (some ⟨g', 0, none⟩) (zi.length + k + 1) cap') (mo.take (k + 1)) ∧ But (fun x => (Value.slice ai zi.length ci).ownBlock = some x ∨ w4.heap.size ≤ x) w4 w') := fun g' cap' w' hA hO => by
                have hsz : (wr.alloc (.cells (([x] : List Int).map (Value.int .u8)).toArray 5)).heap.size = wr.heap.size + 1 := by simp
                obtain ⟨q1, q2, q3⟩ := (hG.below al).step (S := w4.heap.size) (by omega) (by omega) (hcs.imp id (fun ⟨l, G, e, s1, s2⟩ => ⟨l, G, e, s1, by omega⟩)) hA hO htk
                exact ⟨q1, q2, (hbk.trans (But.of_below al)).trans q3⟩
              clear hG hV hbk hl' hcs al hlz hnil' htk nmore
              go_wp2_with (at_builtin; refine wpList_app rfl (.tmp 128) (.tmp 133) (by rfl) a' (zi.length + k) c' (zi ++ mo.take k) (by rfl) Hlz.out Hnl.out HL'.out ⟨wr.heap.size, 0, none⟩ 1 1 [x] (by rfl) (by rfl) (by exact newsB wr [x]) (by omega) (by unfold maxLen; omega) (by omega) ?_)
              intro g' cap' w' hA hO
              have HN := hid (HSt.out g' cap' w' hA (by rw [List.append_assoc]; exact hO))
              clear hA hO HSt HL'
              go_wp2
              go_roundw
              case rel => exact ⟨k + 1, by omega, by go_num, HN.out.1, HN.out.2.1, HN.out.2.2⟩
              case measure => simp [intOf]; omega
            · have hke : k = tot + 70 := by omega
              subst hke
              obtain ⟨a4, c4, rfl, _⟩ := hG.now hV
              have V1 := GV4.out.2.1.keep hbk (fun x q => q.elim (fun q => (hown0.out x q).imp id (fun q => q)) .inr)
              have V2 := GV4.out.2.2.1.keep hbk (fun x q => q.elim (fun q => (hown0.out x q).imp id (fun q => q)) .inr)
              have V3 := GV4.out.2.2.2.keep hbk (fun x q => q.elim (fun q => (hown0.out x q).imp id (fun q => q)) .inr)
              have moB := HB4.out.of_block (hbk.block _ hmlt nmore)
              have HG := hid hG
              have HV := hid hV
              have HVs := hid (And.intro V1 (And.intro V2 V3))
              have HmoB := hid moB
              have hsG := hG.but.size
              clear hbk hG hV V1 V2 V3 moB
              obtain ⟨ag, cg, rfl, _⟩ := owns_slice HW.out.rg.own
              have G0 := hid (World.ownsRow.alloc (owns_keep HW.out.rg.own (w' := wr) (fun g hg => HG.out.but.block g (World.ownsRow.lt HW.out.rg.own g hg).2 (fun e => (Hhow.out g e).1.ne_row HW.out.rg.own (by decide) hg))) (.cells #[.slice (some ⟨g1, 0, none⟩) (zi.length + 1) cap1, .slice (some ⟨g2, 0, none⟩) (zi.length + 2) cap2, .slice (some ⟨g13, 0, none⟩) (zi.length + 3) cap3] 23))
              have hB0 : B ≤ wr.heap.size := Nat.le_trans (Nat.le_trans hB Hbt.out.but.size) hsG
              go_wp2_with (at_builtin; refine wpList_append_lies _ rfl (.tmp 135) (.tmp 139) 54 (by rfl) B 23 i22 (.slice none 0 0) 1 24 Tryz.underlying54 hi22 hz22 hs22 hb22 rfl (by decide) _ (3 * i) grv (by rfl) G0.out ⟨wr.heap.size, 0, none⟩ 3 3 [.slice (some ⟨g1, 0, none⟩) (zi.length + 1) cap1, .slice (some ⟨g2, 0, none⟩) (zi.length + 2) cap2, .slice (some ⟨g13, 0, none⟩) (zi.length + 3) cap3] (by rfl) (by rfl) (by exact newsS wr _) (by intro u hu; simp at hu; rcases hu with rfl | rfl | rfl <;> rfl) (by decide) (by unfold maxLen; omega) (by omega) (by simp; omega) (wr.heap.size + 1) (by simp) ?_)
              intro gg capg w5 hog hgg hlieg _
              have hzb : Pl.isB zi := by have := (HW.out.fs i (Nat.le_refl _) hin).1; rw [Hzi.out] at this; exact this
              obtain ⟨R1, hR1⟩ : ∃ R1 : Nat → Prop, ∀ x, R1 x ↔ (R' x ∨ (Value.slice ai zi.length ci).ownBlock = some x ∨ (W0.heap.size ≤ x ∧ T5 wr x)) := ⟨_, fun _ => Iff.rfl⟩
              have hf1 : ∀ j g, i + 1 ≤ j → j < n → (fv.getD j (.bool false)).ownBlock = some g → ¬ R1 g := by
                intro j g hj hjn hg hr
                rcases (HW.out.fs j (by omega) hjn).2 with ⟨e, _⟩ | ⟨g', q1, q2, _⟩
                · rw [e] at hg; cases hg
                · obtain rfl : g' = g := Option.some.inj (q1.ob.symm.trans hg)
                  have := q1.lt
                  rcases (hR1 _).1 hr with q | q | q
                  · exact q2 q
                  · exact Hap.out i j _ hin hjn (by omega) (by rw [Hvi.out]; exact q) hg
                  · omega
              have hT1 : ∀ g, R1 g → T5 wr g := by
                intro g hr
                rcases (hR1 g).1 hr with q | q | q
                · exact (HW.out.bk.rT g q).keep (HG.out.but.block g (HW.out.bk.rT g q).lt (fun e => (Hhow.out g e).2.1 q))
                · obtain ⟨ad, rfl⟩ : ∃ ad, ai = some ad := by
                    cases ai with
                    | none => cases q
                    | some ad => exact ⟨ad, rfl⟩
                  obtain ⟨g', rfl, o⟩ := HG.out.at0 ad rfl
                  cases q
                  exact o.t5
                · exact q.2
              have W5a := HW.out.next.wideB (Y := fun x => (Value.slice ai zi.length ci).ownBlock = some x) HG.out.but (fun x _ e => ⟨(Hhow.out x e).1, (Hhow.out x e).2.1, fun j hj hjn e2 => Hap.out i j x hin hjn (by omega) (by rw [Hvi.out]; exact e) e2⟩) (fun g hg => (hR1 g).2 (.inl hg)) hT1 hf1 (fun _ _ => rfl)
              have r1 : ∀ x, (Value.slice ai zi.length ci).ownBlock = some x → R1 x := fun x q => (hR1 x).2 (.inr (.inl q))
              have r2 : ∀ x, W0.heap.size ≤ x → T5 wr x → R1 x := fun x q q2 => (hR1 x).2 (.inr (.inr ⟨q, q2⟩))
              obtain ⟨z1, l1, s1, _⟩ := Vj.sl HG.out HVs.out.1 (Nat.le_refl _) (by omega) (by rw [Hmol.out]; omega) rfl hzb Hmob.out (by intro z hz; simp at hz; omega) r1 r2
              obtain ⟨z2, l2, s2, _⟩ := Vj.sl HG.out HVs.out.2.1 (Nat.le_refl _) (by omega) (by rw [Hmol.out]; omega) rfl hzb Hmob.out (by intro z hz; simp at hz; omega) r1 r2
              obtain ⟨z3', l3, s3, _⟩ := Vj.sl HG.out HVs.out.2.2 (Nat.le_refl _) (by omega) (by rw [Hmol.out]; omega) rfl hzb Hmob.out (by intro z hz; simp at hz; omega) r1 r2
              have hmt : mo.take (tot + 70) = mo := List.take_of_length_le (by rw [Hmol.out]; omega)
              obtain ⟨z4', l4, s4, e4⟩ := Vj.sl HG.out HV.out (by omega) (Nat.le_refl _) (by rw [Hmol.out]; omega) (by rw [hmt, Hmol.out]) hzb Hmob.out (by rw [hmt]; exact Hmob.out) r1 r2
              rw [e4 rfl, hmt] at s4
              obtain ⟨z0, l0, s0, e0⟩ := Vj.sl (j := 0) (nw := []) (v := .slice ai zi.length ci) HG.out (.inl ⟨HG.out.cap, rfl⟩ : Vj w4.heap.size wr ai zi.length ci zi 0 _ []) (by omega) (by omega) (by rw [Hmol.out]; omega) rfl hzb Hmob.out Pl.isB_nil r1 r2
              have s0' := s0
              rw [e0 rfl, List.append_nil] at s0'
              have WF5a := Hbt.out.wideB (R2 := R1) (Y := fun x => (Value.slice ai zi.length ci).ownBlock = some x) HG.out.but (fun x _ q => .inr (.inr (.inr ⟨i, hin, by rw [Hvi.out]; exact q⟩))) (fun x hx => by
                rcases (hR1 x).1 hx with q | q | q
                · exact .inl q
                · exact .inr (.inl (.inr (.inr (.inr ⟨i, hin, by rw [Hvi.out]; exact q⟩))))
                · exact .inr (.inr q.1))
              have moB := HmoB.out
              obtain ⟨W5, Hu5⟩ := W5a.app hgg hog hlieg s1 s2 s3
              have WF5 := WF5a.app (m := 3 * i + 3) (c := capg) Hu5 hlieg
              have nG : ∀ x, T5 wr x → w5.heap[x]? = wr.heap[x]? := fun x hx => Hu5.block x hx.lt (hx.ne_row W5a.rg.own (by decide))
              have S4 := hid (s4.keep (w' := w5) (fun g hg => nG g (hT1 g hg)))
              have S0 := hid (s0'.keep (w' := w5) (fun g hg => nG g (hT1 g hg)))
              have M5 := hid (moB.of_block (nG _ (T5.blk moB)))
              have HW5 := hid W5
              have HF5 := hid WF5
              have Hzb := hid hzb
              have hmz : Hid (markL zi.length mi = zi) := by
                show _ = _
                have := Hzi.out
                unfold Zw at this
                rw [if_pos hin, Hmi.out] at this
                rw [← this, length_markL]
              have Hl := hid (And.intro l1 (And.intro l2 l3))
              clear hzb hf1 hT1 W5a s1 s2 s3 s4 s0 s0' WF5a moB W5 Hu5 WF5 nG hgg hog hlieg HW G0 HB4 HG HV HVs HmoB r1 r2 e4 e0 l0 l1 l2 l3 l4 hmt GV4 hown0 Hne Hhow Hbt
              have c5 := HW5.out.bk.blk.cell 5
              simp only [List.getElem?_toArray, List.getElem?_cons_succ, List.getElem?_cons_zero] at c5
              have d5 := owns_at HW5.out.bk.oM hin
              rw [show (ms.map (Value.int .i64)).getD i (.bool false) = .int .i64 mi from by rw [← Hmi.out]; simp [show i < ms.length by omega]] at d5
              have HM6 := hid (marked_any zi.length mi w5 (by omega) (by omega) (by omega))
              go_wp2_with fail
              refine Calls.mono HM6.out ?_
              rintro e w6 ⟨rfl, hB6, _, hb6⟩
              rw [hmz.out] at hB6
              have W6 := hid (HW5.out.wide1 zi hb6 (Nat.le_refl _) (T5.blk hB6))
              have S46 := hid ((S4.out.keep (w' := w6) (fun g hg => hb6.block g (HW5.out.bk.rT g hg).lt)).mono (R' := fun x => R1 x ∨ x = w5.heap.size) (fun _ q => .inl q))
              have S06 := hid ((S0.out.keep (w' := w6) (fun g hg => hb6.block g (HW5.out.bk.rT g hg).lt)).mono (R' := fun x => R1 x ∨ x = w5.heap.size) (fun _ q => .inl q))
              have SN6 := hid (Sl.of_blk (R := fun x => R1 x ∨ x = w5.heap.size) hB6 Hzb.out (.inr rfl) zi.length)
              have M6 := hid (M5.out.below hb6 M5.out.lt)
              have HF6 := hid (HF5.out.wide (R2 := fun x => R1 x ∨ x = w5.heap.size) hb6 (fun x q => q.elim .inl (fun e => .inr (.inr (Nat.le_of_eq e.symm)))))
              have hB6s : B ≤ w6.heap.size := Nat.le_trans hB HF6.out.but.size
              have HK6 := hid (keep_any B _ b cnt tot _ he _ ke' wa' n n n fv hv _ nK' kv' wv' _ _ _ zi w6 (by omega) hB6s W6.out.bk S06.out SN6.out (upd_at K' nK' zi))
              clear HM6 hB6 hb6 S4 S0 SN6 S06 M5 HW5 HF5 c5 d5 hB6s
              go_wp2_with fail
              refine Calls.mono HK6.out ?_
              rintro e w7 ⟨ke7, wa7, rfl, hI7, hT7, _, hu7, hk7, hw7⟩
              have W7 := hid (W6.out.kept hI7 hu7 hk7 hw7)
              have HXX := hid (fun x (q : x = b ∨ ke.ownBlock = some x ∨ wa.ownBlock = some x) => (q.elim .inl (fun q => q.elim (fun q => .inr (.inl q)) (fun q => .inr (.inr (.inl q)))) : WX b ke wa n fv x))
              have HF7 := hid (HF6.out.kept hu7 HXX.out hk7 hw7)
              have S47 := hid (S46.out.keep (w' := w7) (fun g hg => hT7 g (W6.out.bk.rT g hg)))
              have M7 := hid (M6.out.of_block (hT7 _ (T5.blk M6.out)))
              clear HK6 hI7 hT7 hu7 hk7 hw7 S46 M6 W6 HF6
              have c5 := W7.out.bk.blk.cell 5
              simp only [List.getElem?_toArray, List.getElem?_cons_succ, List.getElem?_cons_zero] at c5
              have d5 := owns_at W7.out.bk.oM hin
              rw [show (ms.map (Value.int .i64)).getD i (.bool false) = .int .i64 mi from by rw [← Hmi.out]; simp [show i < ms.length by omega]] at d5
              have HM8 := hid (marked_any zi.length mi w7 (by omega) (by omega) (by omega))
              go_wp2_with fail
              refine Calls.mono HM8.out ?_
              rintro e w8 ⟨rfl, hB8, _, hb8⟩
              rw [hmz.out] at hB8
              have OL8 := hid (olds_cells (w := w8) (ai := some ⟨w7.heap.size, 0, none⟩) (zs := zi) (fun a ha => ⟨_, (Option.some.inj ha).symm, hB8⟩))
              have NW8 := hid (olds_cells (w := w8) (ai := some ⟨w3.heap.size, 0, none⟩) (zs := mo) (fun a ha => ⟨_, (Option.some.inj ha).symm, M7.out.below hb8 M7.out.lt⟩) _ rfl)
              have Hb8 := hid hb8
              clear HM8 hB8 hb8 c5 d5 M7
              go_wp2_with (at_builtin; refine wpList_append_grows _ rfl (.tmp 165) (.tmp 166) 23 (by rfl) 5 i5 (.int .u8 0) 1 1 Tryz.underlying23 hi5 hz5 hs5 hb5 rfl (by decide) (some ⟨w7.heap.size, 0, none⟩) zi.length zi.length (zi.map (Value.int .u8)) (by rfl) (fun h => by cases h) (by rw [List.length_map, Nat.mul_one]) (by exact OL8.out) ⟨w3.heap.size, 0, none⟩ (tot + 70) (tot + 70) (mo.map (Value.int .u8)) (by rfl) (by simp [Hmol.out]) (by exact NW8.out) (by intro u hu; simp at hu; obtain ⟨_, _, rfl⟩ := hu; rfl) (by omega) (by unfold maxLen; omega) (by omega) ?_)
              intro v9 w9 ho9 hg9
              obtain ⟨g9, cap9, rfl, hgs9, hO9⟩ := grown_own (zs := zi ++ mo) ho9 (by simp) (by omega)
              have hb9 := Hb8.out.trans ((below_grown hg9).mono Hb8.out.size)
              have hge : w7.heap.size ≤ g9 := by omega
              have W9 := hid (W7.out.wide1 (zi ++ mo) hb9 hge hO9.t5)
              have S49 := hid ((S47.out.keep (w' := w9) (fun g hg => hb9.block g (W7.out.bk.rT g hg).lt)).mono (R' := fun x => (R1 x ∨ x = w5.heap.size) ∨ x = g9) (fun _ q => .inl q))
              have SN9 := hid (Sl.of_own (R := fun x => (R1 x ∨ x = w5.heap.size) ∨ x = g9) hO9 (isB_app Hzb.out Hmob.out) (.inr rfl))
              have HF9 := hid (HF7.out.wide (R2 := fun x => (R1 x ∨ x = w5.heap.size) ∨ x = g9) hb9 (fun x q => q.elim .inl (fun e => .inr (.inr (by rw [e]; exact hge)))))
              have hB9s : B ≤ w9.heap.size := Nat.le_trans hB HF9.out.but.size
              have hml' : (zi ++ mo).length = zi.length + (tot + 70) := by rw [List.length_append, Hmol.out]
              have HK9 := hid (keep_any B _ b cnt tot _ he _ ke7 wa7 n n n fv hv _ (nK' + 1) _ _ _ _ _ (zi ++ mo) w9 (by omega) hB9s W9.out.bk S49.out SN9.out (upd_at _ (nK' + 1) (zi ++ mo)))
              clear ho9 hg9 hO9 hb9 hge S49 SN9 S47 W7 HF7 OL8 NW8 Hb8 hgs9 hB9s
              go_wp2_with fail
              refine Calls.mono HK9.out ?_
              rintro e wX ⟨keX, waX, rfl, hIX, hTX, _, huX, hkX, hwX⟩
              have WX' := hid (W9.out.kept hIX huX hkX hwX)
              have HFX := hid (HF9.out.kept huX HXX.out hkX hwX)
              clear HK9 hIX hTX huX hkX hwX W9 HF9 hml'
              go_wp2
              go_roundw
              case rel =>
                refine ⟨i + 1, _, keX, waX, nK' + 2, _, _, _, _, _, by omega, by go_num, by omega, WX'.out, fun j hj => ?_, HFX.out⟩
                unfold Z3
                split
                · exact HZg.out j (by assumption)
                · obtain ⟨l1, l2, l3⟩ := Hl.out
                  split
                  · omega
                  · split <;> omega
              case measure => simp [intOf]; omega
        · have hie : i = n := by omega
          rw [hie] at hW hZg hnK'
          obtain ⟨ag, cg, rfl, _⟩ := owns_slice hW.rg.own
          have q3 := hW.bk.blk.cell 3
          simp only [List.getElem?_toArray, List.getElem?_cons_succ, List.getElem?_cons_zero] at q3
          have HW := hid hW
          have Hbt := hid hbt
          have HZg := hid hZg
          clear hW hbt hZg
          go_wp2_with fail
          clear q3 hin hi hie
          obtain ⟨Rp, hRp⟩ : ∃ Rp, Rp = R' := ⟨R', rfl⟩
          go_loopw [15] (fun s wt => ∃ (m : Nat) (R' : Nat → Prop) (ke' wa' : Value) (nK' : Nat) (kv' wv' : List Value) (K' : Nat → List Int), m ≤ 3 * n ∧ s = .int .i64 (m : Int) ∧ nK' ≤ nK + 2 * n + m ∧
              W3 B R' wt b cnt tot (.slice a3 n c3) he (.slice a5 n c5) ke' wa' n fv hv (ms.map (Value.int .i64)) nK' kv' wv' K' (.slice ag (3 * n) cg) (3 * n) grv Zg (Zw Z ms n) n ∧ Wf (WX b ke wa n fv) R ke wa w wt R' ke' wa' (.slice ag (3 * n) cg)) (fun s _ => 3 * n - (intOf s).toNat)
          case atStart => exact ⟨0, R', ke', wa', nK', kv', wv', K', Nat.zero_le _, rfl, by omega, HW.out, Hbt.out⟩
          case round =>
            clear HW Hbt hRp hnK'
            obtain ⟨m, R2, ke2, wa2, nK2, kv2, wv2, K2, hm, rfl, hnK2, hW, hbt⟩ := hrel
            by_cases hmn : m < 3 * n
            · obtain ⟨gg, rfl, hBg, hlg, cgc⟩ := owns_cells hW.rg.own (by omega)
              have kc := cgc m hmn
              have hsm := hW.rg.sl m hmn
              obtain ⟨a, c, hgv, hnil, hrd⟩ := hsm.rd hW.bk.rT
              have hzb := hsm.1
              have hlen := HZg.out m hmn
              rw [hgv] at kc hsm
              have HCp := hid (CopyBytes_any a (Zg m).length c (Zg m) wr.drew (by omega) hnil hrd)
              have HXX := hid (fun x (q : x = b ∨ ke.ownBlock = some x ∨ wa.ownBlock = some x) => (q.elim .inl (fun q => q.elim (fun q => .inr (.inl q)) (fun q => .inr (.inr (.inl q)))) : WX b ke wa n fv x))
              have HW := hid hW
              have Hbt := hid hbt
              have Hsm := hid hsm
              have Hgv := hid hgv
              have Hzb := hid hzb
              have hm1 : (m : Int) < ((3 * n : Nat) : Int) := by omega
              clear hW hbt hsm hgv hzb cgc hrd hnil
              generalize hzm : Zg m = zm at *
              go_wp2_with fail
              go_region_held3 (fun w' => w'.cell? ⟨gg, m, none⟩ = some (.slice a zm.length c)) (first | (assumption) | go_keep)
                ((first
                  | (go_at_call 17; refine Calls.mono HCp.out ?_; rintro e w6 ⟨g6, cap6, rfl, hgs6, hO6, hb6⟩; have hb6' := below_undrew hb6; have W6 := hid (HW.out.wide1 zm hb6' hgs6 hO6.t5); have S6 := hid ((Hsm.out.keep (w' := w6) (fun g hg => hb6'.block g (HW.out.bk.rT g hg).lt)).mono (R' := fun x => R2 x ∨ x = g6) (fun _ q => .inl q)); have SN6 := hid (Sl.of_own (R := fun x => R2 x ∨ x = g6) hO6 Hzb.out (.inr rfl)); have HF6 := hid (Hbt.out.wide (R2 := fun x => R2 x ∨ x = g6) hb6' (fun x q => q.elim .inl (fun e => .inr (.inr (by rw [e]; exact hgs6))))); have HK6 := hid (keep_any B _ b cnt tot _ he _ ke2 wa2 n n n fv hv _ nK2 kv2 wv2 _ _ _ zm w6 (by omega) (Nat.le_trans hB HF6.out.but.size) W6.out.bk S6.out SN6.out (upd_at K2 nK2 zm)); have k6 : w6.cell? ⟨gg, m, none⟩ = some (.slice a zm.length c) := (hb6'.cell (p := ⟨gg, m, none⟩) hlg).trans kc; clear hO6 hb6 hb6' S6 SN6)
                  | (go_at_call 116; refine Calls.mono HK6.out ?_; rintro e w7 ⟨ke7, wa7, rfl, hI7, _, _, hu7, hk7, hw7⟩; have W7 := hid (W6.out.kept hI7 hu7 hk7 hw7); have HF7 := hid (HF6.out.kept hu7 HXX.out hk7 hw7); have k7 : w7.cell? ⟨gg, m, none⟩ = some (.slice a zm.length c) := (owns_at W7.out.rg.own hmn).trans (by rw [Hgv.out]); clear hI7 hu7 hk7 hw7)))
              all_goals
                go_wp2
                go_roundw
                case rel => exact ⟨m + 1, _, ke7, wa7, nK2 + 1, _, _, _, by omega, by go_num, by omega, W7.out, HF7.out⟩
                case measure => simp [intOf]; omega
            · have HW := hid hW
              have Hbt := hid hbt
              have HXX := hid (fun x (q : x = b ∨ ke.ownBlock = some x ∨ wa.ownBlock = some x) => (q.elim .inl (fun q => q.elim (fun q => .inr (.inl q)) (fun q => .inr (.inr (.inl q)))) : WX b ke wa n fv x))
              have I3 := hid hW.bk.setF.setH.setM
              have HU3 := hid (((hbt.but.setCell (p := ⟨b, 3, none⟩) (.inl rfl) (.slice none 0 0)).setCell (p := ⟨b, 4, none⟩) (.inl rfl) (.slice none 0 0)).setCell (p := ⟨b, 5, none⟩) (.inl rfl) (.slice none 0 0))
              have q3 := hW.bk.blk.cell 3
              have q4 := hW.bk.setF.blk.cell 4
              have q5 := hW.bk.setF.setH.blk.cell 5
              have q2 := I3.out.blk.cell 2
              have f3 := hW.bk.blk.frozen 3
              have f4 := hW.bk.setF.blk.frozen 4
              have f5 := hW.bk.setF.setH.blk.frozen 5
              simp only [List.getElem?_toArray, List.getElem?_cons_succ, List.getElem?_cons_zero] at q2 q3 q4 q5
              have HS := hid (same_any R2 B b cnt tot false _ _ _ ke2 wa2 nK2 kv2 wv2 _ _ (by omega) I3.out.blk I3.out.rK I3.out.rW I3.out.rT)
              clear hW hbt
              go_wp2_with fail
              refine Calls.mono HS.out ?_
              rintro e w4 ⟨rfl, hu4⟩
              have I4 := hid (I3.out.keep (w' := w4) (fun g hg => hu4.block g (I3.out.there hg) (fun q => q)))
              have HU4 := hid (HU3.out.step hu4 (fun _ _ q => q.elim))
              have c2 := I4.out.blk.cell 2
              have f2 := I4.out.blk.frozen 2
              simp only [List.getElem?_toArray, List.getElem?_cons_succ, List.getElem?_cons_zero] at c2
              clear HS hu4 q2 q3 q4 q5 f3 f4 f5
              go_wp2
              go_end0
              exact ⟨rfl, R2, ke2, wa2, nK2, kv2, wv2, _, I4.out.setB, by omega, ⟨HU4.out.setCell (p := ⟨b, 2, none⟩) (.inl rfl) _, Hbt.out.rr, Hbt.out.kk, Hbt.out.ww, fun g q => by cases q⟩⟩
end Go.Proofs.YthkkdmblkalknaaGreatDoor.bk
