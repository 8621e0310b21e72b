/-
  Unpack and the document's, whatever comes in (functions 18, 47).
-/
import Derived.Test.YteaebdonnicbkaaUnR
import Derived.Test.YteaebdonnicbkaaRSt
import Derived.Deep.RegionHeld3
namespace Go.Proofs.Yteaebdonnicbkaa
open Go.RowKit

theorem Unpack_any (a a2 : Option Addr) (n c m c2 : Nat) (zs ws : List Int) (w : World) (hm : m ≤ 16777216) (hcap : n ≤ c) (hR : Rd w.heap.size w a n zs) (hR2 : RdI w.heap.size w a2 m ws) :
    Calls Try.prog 18 #[.slice a n c, .slice a2 m c2] w fun e w' => ∃ al, e = .returned (.tuple #[.slice al (unpkR zs ws).2.length (unpkR zs ws).2.length, .int .i64 (unpkR zs ws).1]) ∧
      ((al = none ∧ (unpkR zs ws).2 = []) ∨ ∃ g, al = some ⟨g, 0, none⟩ ∧ w.heap.size ≤ g ∧ Blk .i64 3 w' g (unpkR zs ws).2) ∧ Below w.heap.size w w' := by
  have hzl := hR.1
  have hwl := hR2.1
  by_cases h1 : okW ws
  · by_cases h2 : zs.length = sumW ws
    · by_cases h3 : ∃ k, k < ws.length ∧ 9223372036854775807 < valK zs ws k
      · rw [unpk_value h1 h2 h3]
        refine (Unpack_value a a2 n c m c2 zs ws w hm hcap hR hR2 h1 (by omega) (by rw [← hwl]; exact h3)).mono ?_
        rintro e w' ⟨rfl, hb⟩
        exact ⟨none, rfl, .inl ⟨rfl, rfl⟩, hb⟩
      · rw [unpk_fine h1 h2 h3]
        refine (Unpack_ok a a2 n c m c2 zs ws w hm hcap hR hR2 h1 (by omega) (fun k hk => Int.not_lt.1 (fun h => h3 ⟨k, by omega, h⟩))).mono ?_
        rintro e w' ⟨g, rfl, hg, hB, hb⟩
        rw [← hwl] at hB
        exact ⟨some ⟨g, 0, none⟩, by simp only [length_vals, hwl], .inr ⟨g, rfl, hg, hB⟩, hb⟩
    · rw [unpk_size h1 h2]
      refine (Unpack_size a a2 n c m c2 ws w hm hR2 h1 (by omega)).mono ?_
      rintro e w' ⟨rfl, rfl⟩
      exact ⟨none, rfl, .inl ⟨rfl, rfl⟩, Below.refl _ _⟩
  · rw [unpk_width h1]
    refine (Unpack_width a a2 n c m c2 ws w hm hR2 h1).mono ?_
    rintro e w' ⟨rfl, rfl⟩
    exact ⟨none, rfl, .inl ⟨rfl, rfl⟩, Below.refl _ _⟩

set_option maxRecDepth 100000 in
set_option maxHeartbeats 4000000 in
theorem refUnpack_any (a a2 : Option Addr) (n c m c2 : Nat) (zs ws : List Int) (w : World) (hm : m ≤ 16777216) (hn : n ≤ 16777216) (hcap : n ≤ c) (hR : Rd w.heap.size w a n zs) (hR2 : RdI w.heap.size w a2 m ws) :
    Calls Try.prog 47 #[.slice a n c, .slice a2 m c2] w fun e w' => ∃ a3 n3 c3, e = .returned (.tuple #[.slice a3 n3 c3, .int .i64 (unpkR zs ws).1]) ∧ RdI w'.heap.size w' a3 n3 (unpkR zs ws).2 ∧ Below w.heap.size w w' := by
  obtain ⟨hzl, hzb, hz3⟩ := hR
  obtain ⟨hwl, hw3⟩ := hR2
  have HW := hid (unpk_width (zs := zs) (ws := ws))
  have HS := hid (unpk_size (zs := zs) (ws := ws))
  have HV := hid (unpk_value (zs := zs) (ws := ws))
  have HF := hid (unpk_fine (zs := zs) (ws := ws))
  generalize unpkR zs ws = R at *
  have Hz3 := hid hz3
  have Hw3 := hid hw3
  have Hzb := hid hzb
  clear hz3 hw3 hzb
  go_enter Try.func47, Try.ntmps47
  go_wp2_with fail
  go_loop [6] (fun i => ∃ k : Nat, k ≤ m ∧ i = .int .i64 (k : Int) ∧ okW (ws.take k)) (fun i => m - (intOf i).toNat)
  case atStart => exact ⟨0, Nat.zero_le _, rfl, by intro x hx; simp at hx⟩
  case round =>
    obtain ⟨k, hk, rfl, hok⟩ := hrel
    by_cases hkm : k < m
    · obtain ⟨b2, off2, rfl, hb2, hc2⟩ := Hw3.out.resolve_left (by omega)
      have hck := hc2 k hkm
      have hkm' : (k : Int) < (m : Int) := by omega
      have hmem : ws.getD k 0 ∈ ws := by simp [show k < ws.length by omega]
      have Hok := hid hok
      have Htk : Hid (ws.take (k + 1) = ws.take k ++ [ws.getD k 0]) := by
        show _ = _
        rw [List.take_succ_eq_append_getElem (by omega)]
        simp [show k < ws.length by omega]
      have Hbad : Hid (¬ (1 ≤ ws.getD k 0 ∧ ws.getD k 0 ≤ 8) → R = (10, [])) := by
        show _ → _
        intro h
        refine HW.out (fun hw => h (wf_bd (hw _ hmem)))
      clear hc2 hmem hok
      generalize ws.getD k 0 = x at *
      by_cases hx1 : x < 1
      · have HE := hid (Hbad.out (by omega))
        go_wp2
        go_ret2
        rw [HE.out]
        first
        | exact ⟨none, 0, 0, rfl, ⟨rfl, .inl rfl⟩, Below.refl _ _⟩
        | exact ⟨none, 0, ⟨0, rfl⟩, ⟨rfl, .inl rfl⟩, Below.refl _ _⟩
      have hx1' : 1 ≤ x := by omega
      by_cases hx8 : 8 < x
      · have HE := hid (Hbad.out (by omega))
        go_wp2
        go_ret2
        rw [HE.out]
        first
        | exact ⟨none, 0, 0, rfl, ⟨rfl, .inl rfl⟩, Below.refl _ _⟩
        | exact ⟨none, 0, ⟨0, rfl⟩, ⟨rfl, .inl rfl⟩, Below.refl _ _⟩
      have hx8' : x ≤ 8 := by omega
      go_wp2
      go_round
      case rel => exact ⟨k + 1, by omega, by go_num, by
        rw [Htk.out]
        intro y hy
        rcases List.mem_append.1 hy with hy | hy
        · exact Hok.out y hy
        · simp at hy; subst hy; simp [wfB]; omega⟩
      case measure => simp [intOf]; omega
    · have hokw : okW ws := by rw [List.take_of_length_le (by omega)] at hok; exact hok
      have Hok := hid hokw
      have hkm' : ¬ ((k : Int) < (m : Int)) := by omega
      clear hok hokw HW
      go_wp2_with fail
      go_loopw [7, 8, 9, 10] (fun o at' hi i wt => ∃ (k A : Nat) (xs : List Int) (H : Bool), k ≤ m ∧ i = .int .i64 (k : Int) ∧ at' = .int .i64 (A : Int) ∧ A = sumW (ws.take k) ∧ A ≤ n ∧ hi = .bool H ∧ (H = true ↔ ∃ j, j < k ∧ 9223372036854775807 < valK zs ws j) ∧ (H = false → xs = vals zs ws k) ∧ OwI w.heap.size wt o k xs ∧ Below w.heap.size w wt) (fun _ _ _ i _ => m - (intOf i).toNat)
      case atStart => exact ⟨0, 0, [], false, Nat.zero_le _, rfl, rfl, by simp [sumW], Nat.zero_le _, rfl, ⟨fun h => (by cases h), fun ⟨j, h, _⟩ => (by omega)⟩, fun _ => rfl, OwI.nil _ _, Below.refl _ _⟩
      case round =>
        clear hkm' hkm hk
        obtain ⟨k, A, xs, H, hk, rfl, rfl, hA, hAn, rfl, hH, hxs, hO, hbt⟩ := hrel
        obtain ⟨ao, co, rfl, _⟩ := owns_slice hO
        by_cases hkm : k < m
        · obtain ⟨b2, off2, rfl, hb2, hc2⟩ := Hw3.out.resolve_left (by omega)
          have hck := (hbt.cell (p := ⟨b2, off2 + k, none⟩) (by exact hb2)).trans (hc2 k hkm)
          have hcw := hc2 k hkm
          have hkm' : (k : Int) < (m : Int) := by omega
          have hmem : ws.getD k 0 ∈ ws := by simp [show k < ws.length by omega]
          obtain ⟨hx1, hx8⟩ := wf_bd (Hok.out _ hmem)
          have hpart := sumW_part (ws := ws) (k := k) (by omega)
          have hsn := sumW_snoc (ws := ws) (k := k) (by omega)
          have hvk : valK zs ws k = Pl.num ((zs.drop A).take (ws.getD k 0).toNat) := by rw [hA]; rfl
          obtain ⟨X, hX⟩ := Int.eq_ofNat_of_zero_le (show 0 ≤ ws.getD k 0 by omega)
          rw [hX] at hck hcw hx1 hx8 hpart hsn hvk
          have Hc2 := hid hcw
          clear hcw
          rw [Int.toNat_natCast] at hpart hsn hvk
          rw [← hA] at hpart hsn
          have Hvk := hid hvk
          have Hsn := hid hsn
          have HH := hid hH
          have Hxs := hid hxs
          have HO := hid hO
          have Hbt := hid hbt
          have HA := hid hA
          clear hc2 hmem hvk hsn hH hxs hO hbt hA hX
          by_cases hbig : n < A + X
          · have HE := hid (HS.out Hok.out (by omega))
            have hbig' : (n : Int) - (A : Int) < (X : Int) := by omega
            go_wp2
            go_ret2
            rw [HE.out]
            first
            | exact ⟨none, 0, 0, rfl, ⟨rfl, .inl rfl⟩, Hbt.out⟩
            | exact ⟨none, 0, ⟨0, rfl⟩, ⟨rfl, .inl rfl⟩, Hbt.out⟩
          · have hbig' : ¬ ((n : Int) - (A : Int) < (X : Int)) := by omega
            obtain ⟨b, off, rfl, hb, hc⟩ := Hz3.out.resolve_left (by omega)
            have hll : ((zs.drop A).take X).length = X := by rw [List.length_take, List.length_drop]; omega
            have hlb : Pl.isB ((zs.drop A).take X) := Pl.isB_take (Pl.isB_drop Hzb.out _) _
            have hpc : ∀ t, t < X → wr.cell? ⟨b, off + A + t, none⟩ = some (.int .u8 (((zs.drop A).take X).getD t 0)) := by
              intro t ht
              have e1 := (Hbt.out.cell (p := ⟨b, off + (A + t), none⟩) (by exact hb)).trans (hc (A + t) (by omega))
              rw [show off + A + t = off + (A + t) by omega, e1, List.getD_eq_getElem?_getD, List.getD_eq_getElem?_getD, List.getElem?_take_of_lt ht, List.getElem?_drop]
            have eA : IntKind.i64.wrap ((A : Int) + (X : Int)) = (A : Int) + (X : Int) := by rw [IntKind.wrap_i64]; omega
            have i1 : (A : Int) ≤ (A : Int) + (X : Int) := by omega
            have i2 : (A : Int) + (X : Int) ≤ (c : Int) := by omega
            have i3 : ((A : Int) + (X : Int)).toNat = A + X := by omega
            have i4 : ¬ (c = A) := by omega
            have Hb := hid hb
            clear hc
            by_cases htop : X = 8 ∧ 127 < ((zs.drop A).take X).getD 7 0
            · obtain ⟨rfl, ht7⟩ := htop
              have HN := hid (number_high b (off + A) (c - A) ((zs.drop A).take 8) wr (hpc 7 (by decide)) ht7)
              have hval : 9223372036854775807 < valK zs ws k := by rw [Hvk.out]; exact high_of_top hlb hll ht7
              have Hval := hid hval
              clear hpc hlb hll ht7 hval
              go_wp2_with fail
              refine Calls.mono HN.out ?_
              rintro e w5 ⟨rfl, e5⟩
              have e6 := e5.symm
              subst e6
              clear e5 HN
              cases H
              · clear Hxs
                have hX2 : w.heap.size ≤ wr.heap.size := Hbt.out.size
                have HO2 := hid (HO.out.alloc (.cells #[.int .i64 0] 3))
                have Hb2 := hid (Hbt.out.alloc Hbt.out.size (.cells #[.int .i64 0] 3))
                go_wp2_with (at_builtin; refine wpI_one (by rfl) _ _ (by rfl) w.heap.size _ k xs (by rfl) (by exact HO2.out) ⟨wr.heap.size, 0, none⟩ 1 0 (by rfl) (by exact newsI wr _) (by omega) (by exact Hb2.out.size) ?_)
                intro g7 c7 w7 ho7 hb7
                have hB7 := Hb2.out.trans hb7
                have hck7 := (hB7.cell (p := ⟨b2, off2 + k, none⟩) (by exact hb2)).trans Hc2.out
                have HO7 := hid ho7
                have HB7 := hid hB7
                clear ho7 hb7 hB7 HO2 Hb2 hck
                go_wp2
                go_roundw
                case rel => exact ⟨k + 1, A + 8, xs ++ [0], true, by omega, by go_num, by go_num, Hsn.out.symm, by omega, rfl, ⟨fun _ => ⟨k, by omega, Hval.out⟩, fun _ => rfl⟩, fun h => (by cases h), HO7.out, HB7.out⟩
                case measure => simp [intOf]; omega
              · clear Hxs
                have hX2 : w.heap.size ≤ wr.heap.size := Hbt.out.size
                have HO2 := hid (HO.out.alloc (.cells #[.int .i64 0] 3))
                have Hb2 := hid (Hbt.out.alloc Hbt.out.size (.cells #[.int .i64 0] 3))
                go_wp2_with (at_builtin; refine wpI_one (by rfl) _ _ (by rfl) w.heap.size _ k xs (by rfl) (by exact HO2.out) ⟨wr.heap.size, 0, none⟩ 1 0 (by rfl) (by exact newsI wr _) (by omega) (by exact Hb2.out.size) ?_)
                intro g7 c7 w7 ho7 hb7
                have hB7 := Hb2.out.trans hb7
                have hck7 := (hB7.cell (p := ⟨b2, off2 + k, none⟩) (by exact hb2)).trans Hc2.out
                have HO7 := hid ho7
                have HB7 := hid hB7
                clear ho7 hb7 hB7 HO2 Hb2 hck
                go_wp2
                go_roundw
                case rel => exact ⟨k + 1, A + 8, xs ++ [0], true, by omega, by go_num, by go_num, Hsn.out.symm, by omega, rfl, ⟨fun _ => ⟨k, by omega, Hval.out⟩, fun _ => rfl⟩, fun h => (by cases h), HO7.out, HB7.out⟩
                case measure => simp [intOf]; omega
            · have HN := hid (number_ok b (off + A) X (c - A) ((zs.drop A).take X) wr (by omega) hll hlb hpc (fun h8 => Int.not_lt.1 (fun h => htop ⟨h8, h⟩)))
              have hval : valK zs ws k ≤ 9223372036854775807 ∧ 0 ≤ valK zs ws k := by
                rw [Hvk.out]
                exact ⟨low_of_not hlb (by omega) (fun h8 => Int.not_lt.1 (fun h => htop ⟨by omega, h⟩)), Pl.num_nonneg hlb⟩
              rw [← Hvk.out] at HN
              have Hval := hid hval
              clear hpc hlb hll htop hval
              go_wp2_with fail
              refine Calls.mono HN.out ?_
              rintro e w5 ⟨rfl, e5⟩
              have e6 := e5.symm
              subst e6
              clear e5 HN
              cases H
              · have Hv0 : Hid (vals zs ws (k + 1) = vals zs ws k ++ [valK zs ws k]) := rfl
                generalize hvv : valK zs ws k = v at *
                have Hvv := hid hvv
                clear hvv
                have hX2 : w.heap.size ≤ wr.heap.size := Hbt.out.size
                have HO2 := hid (HO.out.alloc (.cells #[.int .i64 v] 3))
                have Hb2 := hid (Hbt.out.alloc Hbt.out.size (.cells #[.int .i64 v] 3))
                go_wp2_with (at_builtin; refine wpI_one (by rfl) _ _ (by rfl) w.heap.size _ k xs (by rfl) (by exact HO2.out) ⟨wr.heap.size, 0, none⟩ 1 v (by rfl) (by exact newsI wr _) (by omega) (by exact Hb2.out.size) ?_)
                intro g7 c7 w7 ho7 hb7
                have hB7 := Hb2.out.trans hb7
                have hck7 := (hB7.cell (p := ⟨b2, off2 + k, none⟩) (by exact hb2)).trans Hc2.out
                have HO7 := hid ho7
                have HB7 := hid hB7
                clear ho7 hb7 hB7 HO2 Hb2 hck
                go_wp2
                go_roundw
                case rel => exact ⟨k + 1, A + X, xs ++ [v], false, by omega, by go_num, by go_num, Hsn.out.symm, by omega, rfl, ⟨fun h => (by cases h), fun ⟨j, h1, h2⟩ => (by
              by_cases hj : j = k
              · subst hj
                have h3 := Hval.out
                have h4 := Hvv.out
                omega
              · exact HH.out.2 ⟨j, by omega, h2⟩)⟩, fun _ => (by rw [Hxs.out (by trivial), Hv0.out]), HO7.out, HB7.out⟩
                case measure => simp [intOf]; omega
              · generalize hvv : valK zs ws k = v at *
                have Hvv := hid hvv
                clear hvv
                have hX2 : w.heap.size ≤ wr.heap.size := Hbt.out.size
                have HO2 := hid (HO.out.alloc (.cells #[.int .i64 v] 3))
                have Hb2 := hid (Hbt.out.alloc Hbt.out.size (.cells #[.int .i64 v] 3))
                go_wp2_with (at_builtin; refine wpI_one (by rfl) _ _ (by rfl) w.heap.size _ k xs (by rfl) (by exact HO2.out) ⟨wr.heap.size, 0, none⟩ 1 v (by rfl) (by exact newsI wr _) (by omega) (by exact Hb2.out.size) ?_)
                intro g7 c7 w7 ho7 hb7
                have hB7 := Hb2.out.trans hb7
                have hck7 := (hB7.cell (p := ⟨b2, off2 + k, none⟩) (by exact hb2)).trans Hc2.out
                have HO7 := hid ho7
                have HB7 := hid hB7
                clear ho7 hb7 hB7 HO2 Hb2 hck
                go_wp2
                go_roundw
                case rel => exact ⟨k + 1, A + X, xs ++ [v], true, by omega, by go_num, by go_num, Hsn.out.symm, by omega, rfl, ⟨fun _ => (by obtain ⟨j, h1, h2⟩ := HH.out.1 (by trivial); exact ⟨j, by omega, h2⟩), fun _ => rfl⟩, fun h => (by cases h), HO7.out, HB7.out⟩
                case measure => simp [intOf]; omega
        · obtain rfl : k = m := by omega
          rw [List.take_of_length_le (by omega)] at hA
          have HO := hid hO.rdi
          have Hbt := hid hbt
          have hkm' : ¬ ((k : Int) < (k : Int)) := by omega
          by_cases hAn2 : A = n
          · have hs : zs.length = sumW ws := by omega
            cases H with
            | true =>
              obtain ⟨j, hj1, hj2⟩ := hH.1 rfl
              have HE := hid (HV.out Hok.out hs ⟨j, by omega, hj2⟩)
              subst hAn2
              clear hH hxs hO hbt hA hs
              go_wp2
              go_ret2
              rw [HE.out]
              first
              | exact ⟨none, 0, 0, rfl, ⟨rfl, .inl rfl⟩, Hbt.out⟩
              | exact ⟨none, 0, ⟨0, rfl⟩, ⟨rfl, .inl rfl⟩, Hbt.out⟩
            | false =>
              have HE := hid (HF.out Hok.out hs (fun ⟨j, hj1, hj2⟩ => (by have := hH.2 ⟨j, by omega, hj2⟩; cases this)))
              have Hxs := hid (hxs rfl)
              subst hAn2
              clear hH hxs hO hbt hA hs
              go_wp2
              go_ret2
              rw [HE.out]
              rw [Hxs.out] at HO
              rw [hwl]
              first
              | exact ⟨_, _, _, rfl, HO.out, Hbt.out⟩
              | exact ⟨_, _, ⟨_, rfl⟩, HO.out, Hbt.out⟩
          · have HE := hid (HS.out Hok.out (by omega))
            have hne : ((A : Int) == (n : Int)) = false := by simp; omega
            clear hH hxs hO hbt hA
            go_wp2
            go_ret2
            rw [HE.out]
            first
            | exact ⟨none, 0, 0, rfl, ⟨rfl, .inl rfl⟩, Hbt.out⟩
            | exact ⟨none, 0, ⟨0, rfl⟩, ⟨rfl, .inl rfl⟩, Hbt.out⟩

end Go.Proofs.Yteaebdonnicbkaa
