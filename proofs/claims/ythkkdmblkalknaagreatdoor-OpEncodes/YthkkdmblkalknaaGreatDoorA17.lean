import Derived.Test.YthkkdmblkalknaaGreatDoorA16
/-
  OpOneForm: the law.
-/
namespace Go.Proofs.YthkkdmblkalknaaGreatDoor
open Go.RowKit

theorem and_pos (x : Int) : 0 ≤ bits .and .i64 x 9223372036854775807 := by
  have h : (BitVec.ofInt 64 x &&& BitVec.ofInt 64 9223372036854775807).toNat ≤ 9223372036854775807 := by
    rw [BitVec.toNat_and]
    exact Nat.and_le_right
  show 0 ≤ IntKind.i64.wrap (((BitVec.ofInt 64 x &&& BitVec.ofInt 64 9223372036854775807).toNat : Nat) : Int)
  rw [IntKind.wrap_i64]
  omega
theorem int_z (p : Nat) : ((p : Int) == 0) = decide (p = 0) := by by_cases h : p = 0 <;> simp [h]
theorem at_bd (x : Int) (L : Nat) : ∃ p : Nat, (bits .and .i64 x 9223372036854775807).tmod ((L : Int) + 1) = p ∧ p ≤ L := by
  have h := and_pos x
  have h1 := Int.tmod_nonneg ((L : Int) + 1) h
  have h2 := Int.tmod_lt_of_pos (bits .and .i64 x 9223372036854775807) (show 0 < (L : Int) + 1 by omega)
  obtain ⟨p, hp⟩ := Int.eq_ofNat_of_zero_le h1
  exact ⟨p, hp, by omega⟩
set_option maxRecDepth 100000 in
set_option maxHeartbeats 16000000 in
theorem oneForm_law (x : Option Addr) (c : Nat) (os : List PO) (da : Option Addr) (dn dc : Nat) (zs : List Int) (text : ByteArray) (cut : Int) (w : World) (hG : GT w) (hl : os.length ≤ 16777216) (hR : RdO w.heap.size w x os) (hD : Rd w.heap.size w da dn zs) (hda : da = none → dc = 0) (hdn : dn ≤ 16777216) (ht : text.size ≤ 16777216)
    (he : (encL (goodL os)).length ≤ 16777216) (hp : (prtL (goodL os)).length ≤ 16777216) :
    Calls Tryz.prog 3 #[.slice x os.length c, .slice da dn dc, .string text, .int .i64 cut] w fun e w' => e = .returned (.bool true) ∧ Below w.heap.size w w' := by
  have HAW := hid (awake_any w hG)
  have HN := hid num_any
  have HS0 : Hid (∀ W, Below w.heap.size w W → OfS w os 0 (.slice none 0 0) (.slice none 0 0) W) := fun W hb => ⟨⟨[], GL.nil W (Nat.le_refl _)⟩, IL.nil _ _, hb⟩
  have HSTEP : Hid (∀ (wr : World) (r : Nat) (hr : r < os.length) (gv ev : Value), OfS w os r gv ev wr → ∃ b off a cp, x = some ⟨b, off, none⟩ ∧ OpC wr b (off + r * 6) os[r] a cp ∧ OfK b off r os[r] a cp wr fun w4 xn => (os[r].ck ≠ 0 → OfS w os (r + 1) gv ev w4) ∧ (os[r].ck = 0 → xn = (encO os[r]).length ∧ ∃ gv' w5, (Builtin.append_ #[22, 22] 22 #[gv, .slice (some ⟨w4.heap.size, 0, none⟩) 1 1]).run Tryz.prog (w4.alloc (.cells #[.int .i64 os[r].k, .string os[r].nm, .string os[r].ot, .int .i64 os[r].fr, .int .i64 os[r].to, .slice a os[r].da.length cp] 29)) = .ok gv' w5 ∧
      ∃ ev' w6, (Builtin.append_ #[25, 25] 25 #[ev, .slice (some ⟨w5.heap.size, 0, none⟩) 1 1]).run Tryz.prog (w5.alloc (.cells #[.int .i64 (((encL (goodL (os.take r))).length : Int) + ((encO os[r]).length : Int))] 3)) = .ok ev' w6 ∧ OfS w os (r + 1) gv' ev' w6)) := by
    intro wr r hr gv ev hS
    have hR2 := hR.below hS.bel
    obtain ⟨b, off, rfl, hbl, hc⟩ := hR2.2.resolve_left (fun e => by rw [e] at hr; simp at hr)
    obtain ⟨a, cp, hO, r1, ha⟩ := hc r hr
    have hok := hR2.1 (os[r]'hr) (List.getElem_mem hr)
    have hz := hS.bel.size
    refine ⟨b, off, a, cp, rfl, hO, ?_⟩
    have hk := ofK_any hG rfl hS.bel hbl hok hO r1 ha
    unfold OfK at hk ⊢
    refine hk.mono ?_
    rintro e w1 ⟨va, vn, vc, rfl, k1⟩
    refine ⟨va, vn, vc, rfl, k1.mono ?_⟩
    rintro e w2 ⟨rfl, q2, k2⟩
    refine ⟨rfl, q2, k2.mono ?_⟩
    rintro e w3 ⟨ya, yn, yc, rfl, k3⟩
    refine ⟨ya, yn, yc, rfl, k3.mono ?_⟩
    rintro e w4 ⟨xa, xn, xc, rfl, q4, b4, hxn⟩
    have hS4 := hS.next b4
    refine ⟨xa, xn, xc, rfl, q4, fun h => hS4.no hr h, fun h => ⟨hxn h, ?_⟩⟩
    have := hS4.yes hr hl h a cp (r1.below (b4.mono hz)) ha ((encL (goodL (os.take r))).length + (encO os[r]).length) rfl
    rwa [show (((encL (goodL (os.take r))).length + (encO os[r]).length : Nat) : Int) = ((encL (goodL (os.take r))).length : Int) + ((encO os[r]).length : Int) by omega] at this
  have HSZ : Hid (∀ r, r ≤ os.length → (encL (goodL (os.take r))).length ≤ 16777216) := fun r _ => by
    have e : goodL os = goodL (os.take r) ++ goodL (os.drop r) := by
      unfold goodL
      rw [← List.filter_append, List.take_append_drop]
    rw [e, encL_app, List.length_append] at he
    omega
  have HSZ2 : Hid (∀ r (hr : r < os.length), os[r].ck = 0 → (encL (goodL (os.take (r + 1)))).length = (encL (goodL (os.take r))).length + (encO os[r]).length) := fun r hr h => by
    rw [good_yes hr h, encL_app, List.length_append]
    simp [encL]
  have HSZ3 : Hid (∀ r (hr : r < os.length), os[r].ck ≠ 0 → (encL (goodL (os.take (r + 1)))).length = (encL (goodL (os.take r))).length) := fun r hr h => by rw [good_no hr h]
  obtain ⟨gs, hgs⟩ : ∃ gs, gs = goodL os := ⟨_, rfl⟩
  have HTAIL : Hid (∀ gv ev W, OfS w os os.length gv ev W → ∃ ga gc ea ec n L S, gv = .slice ga n gc ∧ ev = .slice ea n ec ∧ (n ≤ gc ∧ n ≤ ec ∧ (encL (goodL (os.take os.length))).length = L ∧ L ≤ 16777216) ∧ (n ≤ 16777216 ∧ (0 < n → ∃ g, ga = some ⟨g, 0, none⟩) ∧ (0 < n → ∃ g, ea = some ⟨g, 0, none⟩)) ∧ OfC (.slice ga n gc) n L S W fun w9 ba bc => ((0 < L → ∃ g, ba = some ⟨g, 0, none⟩) ∧ L ≤ bc) ∧ OfD da dn dc w9 fun w12 => OfT text w12 fun w14 => ∀ p, p ≤ L → OfX ba p bc w14 fun w16 ta tn tc I => (whl gs p n = true → I = 0 ∧ Calls Tryz.prog 19 #[.slice ta tn tc, .slice ga (cnt gs p n) gc] w16 fun e w17 => e = .returned (.bool true) ∧ Below w.heap.size w w17) ∧ (whl gs p n = false → I = 161 ∧ tn = 0 ∧ Below w.heap.size w w16) ∧ (∀ t g, t < n → ea = some ⟨g, 0, none⟩ → w16.cell? ⟨g, t, none⟩ = some (.int .i64 (ends gs (t + 1) : Int)))) := by
    intro gv ev W hS
    obtain ⟨⟨vs, hgl⟩, hil, hbel⟩ := hS
    rw [List.take_length] at hgl hil ⊢
    rw [← hgs] at hgl hil he hp ⊢
    have hz := hbel.size
    have hck : ∀ o ∈ gs, o.ck = 0 := fun o ho => by
      rw [hgs] at ho
      unfold goodL at ho
      simpa using (List.mem_filter.1 ho).2
    have hok : ∀ o ∈ gs, okO o := fun o ho => ck_okO (hck o ho)
    have hgl' : gs.length ≤ 16777216 := by rw [hgs]; exact Nat.le_trans (good_len os) hl
    have hrow := hgl.row
    obtain ⟨ga, gc, rfl, hgc, hrd, _⟩ := hgl.rdo hz hok
    have hel : (endsL gs).length = gs.length := by unfold endsL; simp
    have hil' := hil
    unfold IL at hil'
    rw [hel] at hil'
    obtain ⟨ea, ec, rfl, hec, hea⟩ : ∃ ea ec, ev = .slice ea gs.length ec ∧ gs.length ≤ ec ∧ (0 < gs.length → ∃ g, ea = some ⟨g, 0, none⟩) := by
      rcases hil'.2 with ⟨e1, e2⟩ | ⟨g, cap, cur, e1, _, _, e2, _⟩
      · exact ⟨none, 0, by rw [e1, e2], by omega, fun h => by omega⟩
      · exact ⟨_, cap, e1, e2, fun _ => ⟨g, rfl⟩⟩
    have hga : 0 < gs.length → ∃ g, ga = some ⟨g, 0, none⟩ := fun h => by
      rcases hrow.2 with ⟨e1, e2⟩ | ⟨g, cap, cur, e1, _⟩
      · omega
      · cases e1; exact ⟨g, rfl⟩
    refine ⟨ga, gc, ea, ec, gs.length, (encL gs).length, ⟨(prtL gs).toArray⟩, rfl, rfl, ⟨hgc, hec, rfl, he⟩, ⟨hgl', hga, hea⟩, ?_⟩
    have hGW := hG.next hbel
    have h1 := ofC_any (gc := gc) hGW hgl' hrd hck he hp
    unfold OfC at h1 ⊢
    refine h1.mono ?_
    rintro e v1 ⟨a1, c1, rfl, h1⟩
    refine ⟨a1, c1, rfl, h1.mono ?_⟩
    rintro e v2 ⟨ba, bc, rfl, h1⟩
    refine ⟨ba, bc, rfl, h1.mono ?_⟩
    rintro e v3 ⟨a2, c2, rfl, h1⟩
    refine ⟨a2, c2, rfl, h1.mono ?_⟩
    rintro e v4 ⟨rfl, h1⟩
    refine ⟨rfl, h1.mono ?_⟩
    rintro e v5 ⟨d5, c5, rfl, h1⟩
    refine ⟨d5, c5, rfl, h1.mono ?_⟩
    rintro e v6 ⟨xa, xc, rfl, h1⟩
    refine ⟨xa, xc, rfl, h1.mono ?_⟩
    rintro e v7 ⟨ya, yc, rfl, h1⟩
    refine ⟨ya, yc, rfl, h1.mono ?_⟩
    rintro e v8 ⟨rfl, h1⟩
    refine ⟨rfl, h1.mono ?_⟩
    rintro e v9 ⟨rfl, b9, ow9⟩
    have z9 := b9.size
    have bw9 : Below w.heap.size w v9 := hbel.trans (b9.mono hz)
    refine ⟨rfl, ⟨fun h => ?_, ?_⟩, ?_⟩
    · rcases ow9.2 with ⟨e1, e2⟩ | ⟨g, cap, cur, e1, _⟩
      · omega
      · cases e1; exact ⟨g, rfl⟩
    · rcases ow9.2 with ⟨e1, e2⟩ | ⟨g, cap, cur, e1, _, _, e2, _⟩
      · omega
      · cases e1; exact e2
    have h2 := ofD_any (hG.next bw9) bw9.size (hD.below bw9) hda hdn
    unfold OfD at h2 ⊢
    refine h2.mono ?_
    rintro e v10 ⟨pa, pc, rfl, h2⟩
    refine ⟨pa, pc, rfl, h2.mono ?_⟩
    rintro e v11 ⟨za, zn, zc, I, rfl, h2⟩
    refine ⟨za, zn, zc, I, rfl, h2.mono ?_⟩
    rintro e v12 ⟨g2, n2, c2', rfl, hsm, b12⟩
    refine ⟨g2, n2, c2', rfl, hsm, ?_⟩
    have bw12 : Below w.heap.size w v12 := bw9.trans (b12.mono bw9.size)
    have h3 := ofT_any (s := text) (hG.next bw12) ht
    unfold OfT at h3 ⊢
    refine h3.mono ?_
    rintro e v13 ⟨ua, un, uc, K, I2, rfl, h3⟩
    refine ⟨ua, un, uc, K, I2, rfl, h3.mono ?_⟩
    rintro e v14 ⟨S2, rfl, hS2, b14⟩
    refine ⟨S2, rfl, hS2, fun p hp' => ?_⟩
    have bw14 : Below w.heap.size w v14 := bw12.trans (b14.mono bw12.size)
    have b9_14 : Below v9.heap.size v9 v14 := b12.trans (b14.mono b12.size)
    have bW14 : Below W.heap.size W v14 := b9.trans (b9_14.mono z9)
    have h4 := ofX_any (gc := gc) (hG.next bw14) hgl' (hrd.below bW14) bW14.size hck (ow9.next b9_14) he hp'
    unfold OfX at h4 ⊢
    refine h4.mono ?_
    rintro e v15 ⟨qa, qc, rfl, h4⟩
    refine ⟨qa, qc, rfl, h4.mono ?_⟩
    rintro e v16 ⟨ta, tn, tc, I3, rfl, k1, k2, b16⟩
    have bw16 : Below w.heap.size w v16 := bw14.trans (b16.mono bw14.size)
    refine ⟨ta, tn, tc, I3, rfl, fun hw => ?_, fun hw => ?_, fun t g htn hea' => ?_⟩
    · obtain ⟨j, j1, j2, j3⟩ := whl_yes hck hw
      obtain ⟨q1, q2, q3⟩ := k1 j j1 j2
      rw [j3]
      refine ⟨q1, q3.mono ?_⟩
      rintro e v17 ⟨rfl, b17⟩
      exact ⟨rfl, bw14.trans (b17.mono bw14.size)⟩
    · obtain ⟨q1, q2⟩ := k2 (whl_no hw)
      exact ⟨q1, q2, bw16⟩
    · subst hea'
      have hi16 : IL w.heap.size v16 _ (endsL gs) := hil.next (bW14.trans (b16.mono bW14.size))
      have := hi16.at t (by omega)
      rw [this]
      unfold endsL
      simp
  clear hR hD hda hp he
  go_enter Tryz.func3, Tryz.ntmps3
  go_wp2_with fail
  refine HAW.out.mono ?_
  rintro e w1 ⟨rfl, hb1⟩
  have HB1 := hid hb1
  clear hb1 HAW
  go_wp2_with fail
  go_loopw [9, 10, 11, 12] (fun g ev sz i wr => ∃ r : Nat, r ≤ os.length ∧ i = .int .i64 (r : Int) ∧ sz = .int .i64 ((encL (goodL (os.take r))).length : Int) ∧ OfS w os r g ev wr) (fun _ _ _ i _ => os.length - (intOf i).toNat)
  case atStart => exact ⟨0, Nat.zero_le _, rfl, by simp [goodL, encL], HS0.out _ HB1.out⟩
  case round =>
    clear HS0 HB1
    obtain ⟨r, hr, rfl, rfl, hS⟩ := hrel
    by_cases hlt : r < os.length
    · obtain ⟨b, off, a, cp, rfl, ⟨c0, c1, c2, c3, c4, c5⟩, hK⟩ := HSTEP.out wr r hlt _ _ hS
      have HK := hid hK
      unfold OfK at HK
      have hr1 : (r : Int) < (os.length : Int) := by omega
      have hs0 := HSZ.out r hr
      have hs1 := HSZ.out (r + 1) hlt
      have HY := hid (HSZ2.out r hlt)
      have HNo := hid (HSZ3.out r hlt)
      clear hK hS HSTEP HSZ HSZ2 HSZ3
      generalize os[r]'hlt = o at *
      generalize hsz0 : (encL (goodL (os.take r))).length = s0 at *
      generalize hsz1 : (encL (goodL (os.take (r + 1)))).length = s1 at *
      have HZ1 := hid hsz1
      clear hsz0 hsz1
      go_wp2_with fail
      refine HK.out.mono ?_
      rintro e w2 ⟨va, vn, vc, rfl, h1⟩
      have H1 := hid h1
      clear h1 HK c0 c1 c2 c3 c4 c5
      go_wp2_with fail
      refine H1.out.mono ?_
      rintro e w3 ⟨rfl, ⟨c0, c1, c2, c3, c4, c5⟩, h1⟩
      have H2 := hid h1
      clear h1 H1
      generalize hck : o.ck = k at *
      have HCK := hid hck
      clear hck
      go_wp2_with fail
      refine H2.out.mono ?_
      rintro e w4 ⟨ya, yn, yc, rfl, h1⟩
      have H3 := hid h1
      clear h1 H2 c0 c1 c2 c3 c4 c5
      go_wp2_with fail
      refine H3.out.mono ?_
      rintro e w5 ⟨xa, xn, xc, rfl, ⟨c0, c1, c2, c3, c4, c5⟩, hno, hyes⟩
      have HNO := hid hno
      have HYES := hid hyes
      clear hno hyes H3
      by_cases hk0 : k = 0
      · obtain ⟨rfl, gv', w6, run1, ev', w7, run2, hS2⟩ := HYES.out hk0
        have hsum := HY.out hk0
        have HS2 := hid hS2
        subst hk0
        generalize (encO o).length = s2 at *
        clear hS2 HNO HYES HNo HY
        go_wp2_with (first | (at_builtin; refine Lib.wpList_append_run _ rfl _ _ _ _ rfl _ _ rfl rfl _ _ run1 ?_) | (at_builtin; refine Lib.wpList_append_run _ rfl _ _ _ _ rfl _ _ rfl rfl _ _ run2 ?_) | (go_at_call 13; refine (HN.out _ _).mono ?_; rintro e w7' ⟨rfl, hw7⟩; rw [hw7]; clear hw7))
        go_roundw
        case rel => exact ⟨r + 1, by omega, by go_num, by rw [HZ1.out, hsum, Int.natCast_add], HS2.out⟩
        case measure => simp [intOf]; omega
      · have HS2 := hid (HNO.out hk0)
        have hsum := HNo.out hk0
        have hkq : (k == 0) = false := by simpa using hk0
        clear HNO HYES HNo HY
        go_wp2_with (go_at_call 13; refine (HN.out _ _).mono ?_; rintro e w7' ⟨rfl, hw7⟩; rw [hw7]; clear hw7)
        go_roundw
        case rel => exact ⟨r + 1, by omega, by go_num, by rw [HZ1.out, hsum], HS2.out⟩
        case measure => simp [intOf]; omega
    · have e : r = os.length := by omega
      subst e
      clear HSTEP HSZ HSZ2 HSZ3 hlt hr
      obtain ⟨ga, gc, ea, ec, n, L, S, rfl, rfl, ⟨hgc, hec, hL, hnL⟩, ⟨hnn, hgas, heas⟩, hT⟩ := HTAIL.out _ _ _ hS
      rw [hL]
      have HT := hid hT
      clear hT hS HTAIL hL
      unfold OfC at HT
      go_wp2_with fail
      refine HT.out.mono ?_
      rintro e v1 ⟨a1, c1, rfl, h1⟩
      have H1 := hid h1
      clear h1 HT
      go_wp2_with fail
      refine H1.out.mono ?_
      rintro e v2 ⟨ba, bc, rfl, h1⟩
      have H2 := hid h1
      clear h1 H1
      go_wp2_with fail
      refine H2.out.mono ?_
      rintro e v3 ⟨a2, c2, rfl, h1⟩
      have H3 := hid h1
      clear h1 H2
      go_wp2_with fail
      refine H3.out.mono ?_
      rintro e v4 ⟨rfl, h1⟩
      have H4 := hid h1
      clear h1 H3
      go_wp2_with fail
      refine H4.out.mono ?_
      rintro e v5 ⟨da5, dc5, rfl, h1⟩
      have H5 := hid h1
      clear h1 H4
      go_wp2_with fail
      refine H5.out.mono ?_
      rintro e v6 ⟨xa, xc, rfl, h1⟩
      have H6 := hid h1
      clear h1 H5
      go_wp2_with fail
      refine H6.out.mono ?_
      rintro e v7 ⟨ya, yc, rfl, h1⟩
      have H7 := hid h1
      clear h1 H6
      go_wp2_with (go_at_call 13; refine (HN.out _ _).mono ?_; rintro e w7' ⟨rfl, hw7⟩; rw [hw7]; clear hw7)
      refine H7.out.mono ?_
      rintro e v8 ⟨rfl, h1⟩
      have H8 := hid h1
      clear h1 H7
      go_wp2_with fail
      refine H8.out.mono ?_
      rintro e v9 ⟨rfl, ⟨hbas, hbc⟩, h1⟩
      have HBA := hid hbas
      have HGA := hid hgas
      have HEA := hid heas
      clear hbas hgas heas
      have H9 := hid h1
      clear h1 H8
      unfold OfD at H9
      go_wp2_with fail
      refine H9.out.mono ?_
      rintro e v10 ⟨pa, pc, rfl, h1⟩
      have H10 := hid h1
      clear h1 H9
      go_wp2_with fail
      refine H10.out.mono ?_
      rintro e v11 ⟨za, zn, zc, I, rfl, h1⟩
      have H11 := hid h1
      clear h1 H10
      go_wp2_with fail
      refine H11.out.mono ?_
      rintro e v12 ⟨ga2, gn2, gc2, rfl, hsame, h1⟩
      have HSM := hid hsame
      have H12 := hid h1
      clear h1 H11 hsame
      unfold OfT at H12
      by_cases hI : I = 0
      · have HQ := hid (HSM.out hI)
        subst hI
        clear HSM
        go_wp2_with (go_at_call 13; refine (HN.out _ _).mono ?_; rintro e w7' ⟨rfl, hw7⟩; rw [hw7]; clear hw7)
        refine HQ.out.mono ?_
        rintro e v13 ⟨rfl, hv13⟩
        rw [hv13]
        clear hv13 HQ
        go_wp2_with (go_at_call 13; refine (HN.out _ _).mono ?_; rintro e w7' ⟨rfl, hw7⟩; rw [hw7]; clear hw7)
        refine H12.out.mono ?_
        rintro e v14 ⟨ua, un, uc, K, I2, rfl, h1⟩
        have H13 := hid h1
        clear h1 H12
        go_wp2_with fail
        refine H13.out.mono ?_
        rintro e v15 ⟨S2, rfl, hS2, h1⟩
        obtain ⟨p, hpe, hpL⟩ := at_bd cut L
        have H14 := hid (h1 p hpL)
        unfold OfX at H14
        clear h1 H13
        by_cases hI2 : I2 = 0
        · obtain rfl := hS2 hI2
          subst hI2
          clear hS2
          go_wp2_with (go_at_call 13; refine (HN.out _ _).mono ?_; rintro e w7' ⟨rfl, hw7⟩; rw [hw7]; clear hw7)
          refine H14.out.mono ?_
          rintro e v16 ⟨qa, qc, rfl, h1⟩
          have H15 := hid h1
          clear h1 H14
          go_wp2_with fail
          refine H15.out.mono ?_
          rintro e v17 ⟨ta, tn, tc, I3, rfl, k1, k2, k3⟩
          have K1 := hid k1
          have K2 := hid k2
          have K3 := hid k3
          clear k1 k2 k3 H15
          go_wp2_with fail
          go_loop [37, 38, 39] (fun cv wv iv => ∃ t : Nat, t ≤ n ∧ iv = .int .i64 (t : Int) ∧ cv = .int .i64 (cnt gs p t : Int) ∧ wv = .bool (whl gs p t)) (fun _ _ iv => n - (intOf iv).toNat)
          case atStart => exact ⟨0, Nat.zero_le _, rfl, by simp [cnt], by simp [whl, int_z]⟩
          case round =>
            obtain ⟨t, htn, rfl, rfl, rfl⟩ := hrel
            by_cases hlt : t < n
            · obtain ⟨eg, rfl⟩ := HEA.out (by omega)
              have ce := K3.out t eg hlt rfl
              have HCS := hid (cnt_succ gs p t)
              have HWS := hid (whl_succ gs p t)
              have hcl := cnt_le gs p t
              have hlt1 : (t : Int) < (n : Int) := by omega
              clear K1 K2 K3 HEA
              generalize ends gs (t + 1) = et at *
              generalize cnt gs p t = c0 at *
              generalize whl gs p t = b0 at *
              by_cases hle : et ≤ p
              · have hle1 : (et : Int) ≤ (p : Int) := by omega
                cases b0 with
                | true =>
                  go_wp2
                  go_round
                  case rel => exact ⟨t + 1, by omega, by go_num, by rw [HCS.out, if_pos hle]; go_num, by rw [HWS.out]; rfl⟩
                  case measure => simp [intOf]; omega
                | false =>
                  by_cases heq : et = p
                  · subst heq
                    go_wp2
                    go_round
                    case rel => exact ⟨t + 1, by omega, by go_num, by rw [HCS.out, if_pos hle]; go_num, by rw [HWS.out]; simp⟩
                    case measure => simp [intOf]; omega
                  · have hq : ((et : Int) == (p : Int)) = false := by simp; omega
                    go_wp2
                    go_round
                    case rel => exact ⟨t + 1, by omega, by go_num, by rw [HCS.out, if_pos hle]; go_num, by rw [HWS.out]; simp [heq]⟩
                    case measure => simp [intOf]; omega
              · have hle1 : ¬ (et : Int) ≤ (p : Int) := by omega
                cases b0 with
                | true =>
                  go_wp2
                  go_round
                  case rel => exact ⟨t + 1, by omega, by go_num, by rw [HCS.out, if_neg hle]; rfl, by rw [HWS.out]; rfl⟩
                  case measure => simp [intOf]; omega
                | false =>
                  have hq : ((et : Int) == (p : Int)) = false := by simp; omega
                  have hne : et ≠ p := by omega
                  go_wp2
                  go_round
                  case rel => exact ⟨t + 1, by omega, by go_num, by rw [HCS.out, if_neg hle]; rfl, by rw [HWS.out]; simp [hne]⟩
                  case measure => simp [intOf]; omega
            · have e : t = n := by omega
              subst e
              have hcl := cnt_le gs p t
              cases hw : whl gs p t with
              | true =>
                obtain ⟨rfl, hcall⟩ := K1.out hw
                have HC := hid hcall
                clear hcall K1 K2 K3 hw
                generalize cnt gs p t = cc at *
                go_wp2_with (go_at_call 13; refine (HN.out _ _).mono ?_; rintro e w7' ⟨rfl, hw7⟩; rw [hw7]; clear hw7)
                refine HC.out.mono ?_
                rintro e v18 ⟨rfl, hb⟩
                have HB := hid hb
                clear hb HC
                go_wp2
                go_ret
                exact ⟨rfl, HB.out⟩
              | false =>
                obtain ⟨rfl, rfl, hb⟩ := K2.out hw
                have HB := hid hb
                clear hb K1 K2 K3 hw
                go_wp2_with (go_at_call 13; refine (HN.out _ _).mono ?_; rintro e w7' ⟨rfl, hw7⟩; rw [hw7]; clear hw7)
                go_ret
                exact ⟨rfl, HB.out⟩
        · have hIq2 : (I2 == 0) = false := by simpa using hI2
          clear hS2 hI2
          go_wp2_with (go_at_call 13; refine (HN.out _ _).mono ?_; rintro e w7' ⟨rfl, hw7⟩; rw [hw7]; clear hw7)
          refine H14.out.mono ?_
          rintro e v16 ⟨qa, qc, rfl, h1⟩
          have H15 := hid h1
          clear h1 H14
          go_wp2_with fail
          refine H15.out.mono ?_
          rintro e v17 ⟨ta, tn, tc, I3, rfl, k1, k2, k3⟩
          have K1 := hid k1
          have K2 := hid k2
          have K3 := hid k3
          clear k1 k2 k3 H15
          go_wp2_with fail
          go_loop [37, 38, 39] (fun cv wv iv => ∃ t : Nat, t ≤ n ∧ iv = .int .i64 (t : Int) ∧ cv = .int .i64 (cnt gs p t : Int) ∧ wv = .bool (whl gs p t)) (fun _ _ iv => n - (intOf iv).toNat)
          case atStart => exact ⟨0, Nat.zero_le _, rfl, by simp [cnt], by simp [whl, int_z]⟩
          case round =>
            obtain ⟨t, htn, rfl, rfl, rfl⟩ := hrel
            by_cases hlt : t < n
            · obtain ⟨eg, rfl⟩ := HEA.out (by omega)
              have ce := K3.out t eg hlt rfl
              have HCS := hid (cnt_succ gs p t)
              have HWS := hid (whl_succ gs p t)
              have hcl := cnt_le gs p t
              have hlt1 : (t : Int) < (n : Int) := by omega
              clear K1 K2 K3 HEA
              generalize ends gs (t + 1) = et at *
              generalize cnt gs p t = c0 at *
              generalize whl gs p t = b0 at *
              by_cases hle : et ≤ p
              · have hle1 : (et : Int) ≤ (p : Int) := by omega
                cases b0 with
                | true =>
                  go_wp2
                  go_round
                  case rel => exact ⟨t + 1, by omega, by go_num, by rw [HCS.out, if_pos hle]; go_num, by rw [HWS.out]; rfl⟩
                  case measure => simp [intOf]; omega
                | false =>
                  by_cases heq : et = p
                  · subst heq
                    go_wp2
                    go_round
                    case rel => exact ⟨t + 1, by omega, by go_num, by rw [HCS.out, if_pos hle]; go_num, by rw [HWS.out]; simp⟩
                    case measure => simp [intOf]; omega
                  · have hq : ((et : Int) == (p : Int)) = false := by simp; omega
                    go_wp2
                    go_round
                    case rel => exact ⟨t + 1, by omega, by go_num, by rw [HCS.out, if_pos hle]; go_num, by rw [HWS.out]; simp [heq]⟩
                    case measure => simp [intOf]; omega
              · have hle1 : ¬ (et : Int) ≤ (p : Int) := by omega
                cases b0 with
                | true =>
                  go_wp2
                  go_round
                  case rel => exact ⟨t + 1, by omega, by go_num, by rw [HCS.out, if_neg hle]; rfl, by rw [HWS.out]; rfl⟩
                  case measure => simp [intOf]; omega
                | false =>
                  have hq : ((et : Int) == (p : Int)) = false := by simp; omega
                  have hne : et ≠ p := by omega
                  go_wp2
                  go_round
                  case rel => exact ⟨t + 1, by omega, by go_num, by rw [HCS.out, if_neg hle]; rfl, by rw [HWS.out]; simp [hne]⟩
                  case measure => simp [intOf]; omega
            · have e : t = n := by omega
              subst e
              have hcl := cnt_le gs p t
              cases hw : whl gs p t with
              | true =>
                obtain ⟨rfl, hcall⟩ := K1.out hw
                have HC := hid hcall
                clear hcall K1 K2 K3 hw
                generalize cnt gs p t = cc at *
                go_wp2_with (go_at_call 13; refine (HN.out _ _).mono ?_; rintro e w7' ⟨rfl, hw7⟩; rw [hw7]; clear hw7)
                refine HC.out.mono ?_
                rintro e v18 ⟨rfl, hb⟩
                have HB := hid hb
                clear hb HC
                go_wp2
                go_ret
                exact ⟨rfl, HB.out⟩
              | false =>
                obtain ⟨rfl, rfl, hb⟩ := K2.out hw
                have HB := hid hb
                clear hb K1 K2 K3 hw
                go_wp2_with (go_at_call 13; refine (HN.out _ _).mono ?_; rintro e w7' ⟨rfl, hw7⟩; rw [hw7]; clear hw7)
                go_ret
                exact ⟨rfl, HB.out⟩
      · have hIq : (I == 0) = false := by simpa using hI
        clear HSM hI
        go_wp2_with (go_at_call 13; refine (HN.out _ _).mono ?_; rintro e w7' ⟨rfl, hw7⟩; rw [hw7]; clear hw7)
        refine H12.out.mono ?_
        rintro e v14 ⟨ua, un, uc, K, I2, rfl, h1⟩
        have H13 := hid h1
        clear h1 H12
        go_wp2_with fail
        refine H13.out.mono ?_
        rintro e v15 ⟨S2, rfl, hS2, h1⟩
        obtain ⟨p, hpe, hpL⟩ := at_bd cut L
        have H14 := hid (h1 p hpL)
        unfold OfX at H14
        clear h1 H13
        by_cases hI2 : I2 = 0
        · obtain rfl := hS2 hI2
          subst hI2
          clear hS2
          go_wp2_with (go_at_call 13; refine (HN.out _ _).mono ?_; rintro e w7' ⟨rfl, hw7⟩; rw [hw7]; clear hw7)
          refine H14.out.mono ?_
          rintro e v16 ⟨qa, qc, rfl, h1⟩
          have H15 := hid h1
          clear h1 H14
          go_wp2_with fail
          refine H15.out.mono ?_
          rintro e v17 ⟨ta, tn, tc, I3, rfl, k1, k2, k3⟩
          have K1 := hid k1
          have K2 := hid k2
          have K3 := hid k3
          clear k1 k2 k3 H15
          go_wp2_with fail
          go_loop [37, 38, 39] (fun cv wv iv => ∃ t : Nat, t ≤ n ∧ iv = .int .i64 (t : Int) ∧ cv = .int .i64 (cnt gs p t : Int) ∧ wv = .bool (whl gs p t)) (fun _ _ iv => n - (intOf iv).toNat)
          case atStart => exact ⟨0, Nat.zero_le _, rfl, by simp [cnt], by simp [whl, int_z]⟩
          case round =>
            obtain ⟨t, htn, rfl, rfl, rfl⟩ := hrel
            by_cases hlt : t < n
            · obtain ⟨eg, rfl⟩ := HEA.out (by omega)
              have ce := K3.out t eg hlt rfl
              have HCS := hid (cnt_succ gs p t)
              have HWS := hid (whl_succ gs p t)
              have hcl := cnt_le gs p t
              have hlt1 : (t : Int) < (n : Int) := by omega
              clear K1 K2 K3 HEA
              generalize ends gs (t + 1) = et at *
              generalize cnt gs p t = c0 at *
              generalize whl gs p t = b0 at *
              by_cases hle : et ≤ p
              · have hle1 : (et : Int) ≤ (p : Int) := by omega
                cases b0 with
                | true =>
                  go_wp2
                  go_round
                  case rel => exact ⟨t + 1, by omega, by go_num, by rw [HCS.out, if_pos hle]; go_num, by rw [HWS.out]; rfl⟩
                  case measure => simp [intOf]; omega
                | false =>
                  by_cases heq : et = p
                  · subst heq
                    go_wp2
                    go_round
                    case rel => exact ⟨t + 1, by omega, by go_num, by rw [HCS.out, if_pos hle]; go_num, by rw [HWS.out]; simp⟩
                    case measure => simp [intOf]; omega
                  · have hq : ((et : Int) == (p : Int)) = false := by simp; omega
                    go_wp2
                    go_round
                    case rel => exact ⟨t + 1, by omega, by go_num, by rw [HCS.out, if_pos hle]; go_num, by rw [HWS.out]; simp [heq]⟩
                    case measure => simp [intOf]; omega
              · have hle1 : ¬ (et : Int) ≤ (p : Int) := by omega
                cases b0 with
                | true =>
                  go_wp2
                  go_round
                  case rel => exact ⟨t + 1, by omega, by go_num, by rw [HCS.out, if_neg hle]; rfl, by rw [HWS.out]; rfl⟩
                  case measure => simp [intOf]; omega
                | false =>
                  have hq : ((et : Int) == (p : Int)) = false := by simp; omega
                  have hne : et ≠ p := by omega
                  go_wp2
                  go_round
                  case rel => exact ⟨t + 1, by omega, by go_num, by rw [HCS.out, if_neg hle]; rfl, by rw [HWS.out]; simp [hne]⟩
                  case measure => simp [intOf]; omega
            · have e : t = n := by omega
              subst e
              have hcl := cnt_le gs p t
              cases hw : whl gs p t with
              | true =>
                obtain ⟨rfl, hcall⟩ := K1.out hw
                have HC := hid hcall
                clear hcall K1 K2 K3 hw
                generalize cnt gs p t = cc at *
                go_wp2_with (go_at_call 13; refine (HN.out _ _).mono ?_; rintro e w7' ⟨rfl, hw7⟩; rw [hw7]; clear hw7)
                refine HC.out.mono ?_
                rintro e v18 ⟨rfl, hb⟩
                have HB := hid hb
                clear hb HC
                go_wp2
                go_ret
                exact ⟨rfl, HB.out⟩
              | false =>
                obtain ⟨rfl, rfl, hb⟩ := K2.out hw
                have HB := hid hb
                clear hb K1 K2 K3 hw
                go_wp2_with (go_at_call 13; refine (HN.out _ _).mono ?_; rintro e w7' ⟨rfl, hw7⟩; rw [hw7]; clear hw7)
                go_ret
                exact ⟨rfl, HB.out⟩
        · have hIq2 : (I2 == 0) = false := by simpa using hI2
          clear hS2 hI2
          go_wp2_with (go_at_call 13; refine (HN.out _ _).mono ?_; rintro e w7' ⟨rfl, hw7⟩; rw [hw7]; clear hw7)
          refine H14.out.mono ?_
          rintro e v16 ⟨qa, qc, rfl, h1⟩
          have H15 := hid h1
          clear h1 H14
          go_wp2_with fail
          refine H15.out.mono ?_
          rintro e v17 ⟨ta, tn, tc, I3, rfl, k1, k2, k3⟩
          have K1 := hid k1
          have K2 := hid k2
          have K3 := hid k3
          clear k1 k2 k3 H15
          go_wp2_with fail
          go_loop [37, 38, 39] (fun cv wv iv => ∃ t : Nat, t ≤ n ∧ iv = .int .i64 (t : Int) ∧ cv = .int .i64 (cnt gs p t : Int) ∧ wv = .bool (whl gs p t)) (fun _ _ iv => n - (intOf iv).toNat)
          case atStart => exact ⟨0, Nat.zero_le _, rfl, by simp [cnt], by simp [whl, int_z]⟩
          case round =>
            obtain ⟨t, htn, rfl, rfl, rfl⟩ := hrel
            by_cases hlt : t < n
            · obtain ⟨eg, rfl⟩ := HEA.out (by omega)
              have ce := K3.out t eg hlt rfl
              have HCS := hid (cnt_succ gs p t)
              have HWS := hid (whl_succ gs p t)
              have hcl := cnt_le gs p t
              have hlt1 : (t : Int) < (n : Int) := by omega
              clear K1 K2 K3 HEA
              generalize ends gs (t + 1) = et at *
              generalize cnt gs p t = c0 at *
              generalize whl gs p t = b0 at *
              by_cases hle : et ≤ p
              · have hle1 : (et : Int) ≤ (p : Int) := by omega
                cases b0 with
                | true =>
                  go_wp2
                  go_round
                  case rel => exact ⟨t + 1, by omega, by go_num, by rw [HCS.out, if_pos hle]; go_num, by rw [HWS.out]; rfl⟩
                  case measure => simp [intOf]; omega
                | false =>
                  by_cases heq : et = p
                  · subst heq
                    go_wp2
                    go_round
                    case rel => exact ⟨t + 1, by omega, by go_num, by rw [HCS.out, if_pos hle]; go_num, by rw [HWS.out]; simp⟩
                    case measure => simp [intOf]; omega
                  · have hq : ((et : Int) == (p : Int)) = false := by simp; omega
                    go_wp2
                    go_round
                    case rel => exact ⟨t + 1, by omega, by go_num, by rw [HCS.out, if_pos hle]; go_num, by rw [HWS.out]; simp [heq]⟩
                    case measure => simp [intOf]; omega
              · have hle1 : ¬ (et : Int) ≤ (p : Int) := by omega
                cases b0 with
                | true =>
                  go_wp2
                  go_round
                  case rel => exact ⟨t + 1, by omega, by go_num, by rw [HCS.out, if_neg hle]; rfl, by rw [HWS.out]; rfl⟩
                  case measure => simp [intOf]; omega
                | false =>
                  have hq : ((et : Int) == (p : Int)) = false := by simp; omega
                  have hne : et ≠ p := by omega
                  go_wp2
                  go_round
                  case rel => exact ⟨t + 1, by omega, by go_num, by rw [HCS.out, if_neg hle]; rfl, by rw [HWS.out]; simp [hne]⟩
                  case measure => simp [intOf]; omega
            · have e : t = n := by omega
              subst e
              have hcl := cnt_le gs p t
              cases hw : whl gs p t with
              | true =>
                obtain ⟨rfl, hcall⟩ := K1.out hw
                have HC := hid hcall
                clear hcall K1 K2 K3 hw
                generalize cnt gs p t = cc at *
                go_wp2_with (go_at_call 13; refine (HN.out _ _).mono ?_; rintro e w7' ⟨rfl, hw7⟩; rw [hw7]; clear hw7)
                refine HC.out.mono ?_
                rintro e v18 ⟨rfl, hb⟩
                have HB := hid hb
                clear hb HC
                go_wp2
                go_ret
                exact ⟨rfl, HB.out⟩
              | false =>
                obtain ⟨rfl, rfl, hb⟩ := K2.out hw
                have HB := hid hb
                clear hb K1 K2 K3 hw
                go_wp2_with (go_at_call 13; refine (HN.out _ _).mono ?_; rintro e w7' ⟨rfl, hw7⟩; rw [hw7]; clear hw7)
                go_ret
                exact ⟨rfl, HB.out⟩

end Go.Proofs.YthkkdmblkalknaaGreatDoor
