/-
  The document's Unstamp: where the head may be.
-/
import Derived.Test.YteaebdonnicbkabRUn
import Derived.Test.YteaebdonnicbkabUAny
import Derived.Deep.QuietTactic
import Derived.BigQuiet
import Derived.Lib.Bytes
import Derived.Deep.RegionHeld3
namespace Go.Proofs.Yteaebdonnicbkab
open Go.RowKit

/-- AN APPEND in a region that draws its order -/
theorem step_app_any {ops : Array Oper} {o : Oper} {a : Act} {w : World} {K : Act → World → Prop} {Q : Exit → Act → World → Prop} {E : Prop} (hgd : o.guard = none) (s x : Operand)
    (ho : o.op = .call { callee := .builtin .append, args := #[s, x], argTypes := #[29, 29] }) (B : Nat) (v : Value) (n : Nat) (zs : List Int) (hs : a.eval s = v) (hown : OwB B w v n zs)
    (ad : Addr) (m c : Nat) (cs : List Int) (hx : a.eval x = .slice (some ad) m c) (hl : cs.length = m) (hnews : ∀ j u, (cs.map (Value.int .u8))[j]? = some u → w.cell? (ad.add j) = some u)
    (h63 : n + m ≤ 140737488355328) (hbase : B ≤ w.heap.size) (h : ∀ v' w', OwB B w' v' (n + m) (zs ++ cs) → Below B w w' → K (a.put o.dst v') w') :
    if Region.wanted o (yielded ops a.tmps) = true then Oper.wp Try.prog o a w K Q else E := by
  obtain ⟨i5, hi5, hz5, hs5, hb5⟩ := info_parts info5
  have hw : Region.wanted o (yielded ops a.tmps) = true := by simp [Region.wanted, hgd]
  rw [if_pos hw]
  refine wp_append_own w s x 29 ho B 5 i5 (.int .u8 0) 1 1 Try.underlying29 hi5 hz5 hs5 hb5 rfl (by decide) v n (zs.map (Value.int .u8)) hs hown ad m c (cs.map (Value.int .u8)) hx (by rw [List.length_map, hl, Nat.mul_one]) hnews (u8_one _) (by unfold maxLen; omega) (by omega) hbase ?_
  intro v' w' ho' hg _
  rw [← List.map_append] at ho'
  exact h v' w' ho' ((Below.refl _ _).grown hg hbase (fun k hk => (World.ownsRow.lt hown k hk).1))

set_option maxRecDepth 100000 in
set_option maxHeartbeats 2000000 in
theorem refU_rest (b off cap : Nat) (zs : List Int) (K S : Int) (L : Nat) (w : World) (R : (Int × Int) × List Int × Int) (hz : zs.length = 512) (hzb : Pl.isB zs) (hb : b < w.heap.size) (hcap : 512 ≤ cap)
    (hc : ∀ t, t < 512 → w.cell? ⟨b, off + t, none⟩ = some (.int .u8 (zs.getD t 0)))
    (hK : zs.getD 0 0 = K) (hK1 : 1 ≤ K) (hL : Pl.num ((zs.drop 1).take 2) = (L : Int)) (hL1 : L ≤ 497) (hS : Pl.num ((zs.drop 3).take 8) = S) (hS1 : S ≤ 1099511627776)
    (R1 : zeroB (zs.drop (15 + L)) = false → R = ((0, 0), [], 16))
    (R2 : zeroB (zs.drop (15 + L)) = true → stampZ K S ((zs.drop 15).take L) ≠ zs → R = ((0, 0), [], 17))
    (R3 : stampZ K S ((zs.drop 15).take L) = zs → R = ((K, S), (zs.drop 15).take L, 0)) :
    Calls Try.prog 16 #[.slice (some ⟨b, off, none⟩) 512 cap] w fun e w' => ∃ a2 n2 c2, e = .returned (unstV R a2 n2 c2) ∧ Rd w'.heap.size w' a2 n2 R.2.1 ∧ Below w.heap.size w w' := by
  have hS0 : 0 ≤ S := by rw [← hS]; exact Pl.num_nonneg (Pl.isB_take (Pl.isB_drop hzb _) _)
  have hK2 : K < 256 := by rw [← hK, List.getD_eq_getElem?_getD]; exact (Pl.isB_getD hzb 0).2
  have c0 : w.cell? ⟨b, off, none⟩ = some (.int .u8 K) := by rw [← hK]; exact hc 0 (by decide)
  have e7 : ((zs.drop 3).take 8).getD 7 0 = zs.getD 10 0 := by
    rw [List.getD_eq_getElem?_getD, List.getD_eq_getElem?_getD, List.getElem?_take_of_lt (by decide), List.getElem?_drop]
  have hlow : zs.getD 10 0 ≤ 127 := by
    by_cases h : 127 < zs.getD 10 0
    · have := high_num hzb hz h
      omega
    · omega
  have g1 := number_ok b (off + 1) 2 (cap - 1) ((zs.drop 1).take 2) w (by decide) (by simp; omega) (Pl.isB_take (Pl.isB_drop hzb _) _) (part_cells hc 1 2 (by decide)) (fun h => by omega)
  have g3 := number_ok b (off + 3) 8 (cap - 3) ((zs.drop 3).take 8) w (by decide) (by simp; omega) (Pl.isB_take (Pl.isB_drop hzb _) _) (part_cells hc 3 8 (by decide)) (fun _ => by rw [e7]; exact hlow)
  rw [hL] at g1
  rw [hS] at g3
  have G1 := hid g1
  have G3 := hid g3
  have hK3 : (K == 0) = false := by simp; omega
  have HR1 := hid R1
  have HR2 := hid R2
  have HR3 := hid R3
  have Hc := hid hc
  have Hzb := hid hzb
  have Hz := hid hz
  have Hbl := hid (show Pl.isB ((zs.drop 15).take L) from Pl.isB_take (Pl.isB_drop hzb _) _)
  have Hll : Hid (((zs.drop 15).take L).length = L) := by show _ = _; simp; omega
  have hcn : ((512 : Int) == 512) = true := rfl
  clear g1 g3 hlow e7 hK hL hS R1 R2 R3 hc hzb hz
  go_enter Try.func16, Try.ntmps16
  go_wp2_with fail
  refine Calls.mono G1.out ?_
  rintro e w1 ⟨rfl, rfl⟩
  go_wp2_with fail
  refine Calls.mono G3.out ?_
  rintro e w1 ⟨rfl, rfl⟩
  go_wp2_with fail
  go_loop [10] (fun i => ∃ j : Nat, 15 + L ≤ j ∧ j ≤ 512 ∧ i = .int .i64 (j : Int) ∧ zeroB ((zs.drop (15 + L)).take (j - (15 + L))) = true) (fun i => 512 - (intOf i).toNat)
  case atStart => exact ⟨15 + L, Nat.le_refl _, by omega, by go_num, by simp [zeroB]⟩
  case round =>
    obtain ⟨j, hj1, hj2, rfl, hzj⟩ := hrel
    by_cases hj : j < 512
    · have hcj := Hc.out j hj
      have hjj : (j : Int) < 512 := by omega
      have hg : (zs.drop (15 + L))[j - (15 + L)]?.getD 0 = zs.getD j 0 := by
        rw [List.getElem?_drop, show 15 + L + (j - (15 + L)) = j by omega, List.getD_eq_getElem?_getD]
      have hbj := Pl.isB_getD Hzb.out j
      rw [← List.getD_eq_getElem?_getD] at hbj
      have HG := hid hg
      have Hzj := hid hzj
      clear hg hzj
      by_cases hx : zs.getD j 0 = 0
      · have Hx := hid hx
        rw [hx] at hcj
        clear hx hbj
        go_wp2
        go_round
        case rel => exact ⟨j + 1, by omega, by omega, by go_num, by
          rw [show j + 1 - (15 + L) = j - (15 + L) + 1 by omega]
          exact zeroB_step Hzj.out (HG.out.trans Hx.out)⟩
        case measure => simp [intOf]; omega
      · have HE := hid (HR1.out (zeroB_not (k := j - (15 + L)) (by rw [HG.out]; exact hx)))
        generalize zs.getD j 0 = x at *
        have hx2 : (x == 0) = false := by simpa using hx
        go_wp2_with fail
        refine bodyPost_ret (v := unstV ((0, 0), [], 16) none 0 0) (by simp [unstV, results, Try.results16, go_sem]) rfl ?_
        rw [HE.out]
        first
        | exact ⟨none, 0, 0, rfl, ⟨rfl, Pl.isB_nil, .inl rfl⟩, Below.refl _ _⟩
        | exact ⟨none, 0, ⟨0, rfl⟩, ⟨rfl, Pl.isB_nil, .inl rfl⟩, Below.refl _ _⟩
    · obtain rfl : j = 512 := by omega
      have hz0 : zeroB (zs.drop (15 + L)) = true := by
        have h1 := Hz.out
        rw [List.take_of_length_le (by rw [List.length_drop]; omega)] at hzj
        exact hzj
      have Hz0 := hid hz0
      have hpc := part_cells Hc.out 15 L (by omega)
      have HRd : Hid (Rd w1.heap.size w1 (some ⟨b, off + 15, none⟩) L ((zs.drop 15).take L)) := ⟨Hll.out, Hbl.out, .inr ⟨b, off + 15, rfl, hb, hpc⟩⟩
      have HSt := hid (refStamp_ok K S (some ⟨b, off + 15, none⟩) L (cap - 15) ((zs.drop 15).take L) w1.drew hK1 (by omega) hS0 hS1 hL1 (fun h => by cases h) (show Rd w1.drew.heap.size w1.drew _ _ _ from HRd.out))
      clear hz0 hpc hzj hj
      generalize hbody : (zs.drop 15).take L = body at *
      have Hbody := hid hbody
      clear hbody
      have eL : IntKind.i64.wrap (15 + (L : Int)) = 15 + (L : Int) := by rw [IntKind.wrap_i64]; omega
      have b1 : (15 : Int) ≤ 15 + (L : Int) := by omega
      have eK : IntKind.i64.wrap K = K := by rw [IntKind.wrap_i64]; omega
      have b2 : 15 + (L : Int) ≤ (cap : Int) := by omega
      have b3 : (15 + (L : Int)).toNat = 15 + L := by omega
      have b4 : ¬ (cap = 15) := by omega
      go_wp2_with fail
      go_region_held3 (fun w' => w'.cell? ⟨b, off, none⟩ = some (.int .u8 K)) (first | assumption | go_keep)
        ((go_at_call 31; refine Calls.mono HSt.out ?_; rintro e w2 ⟨g, cp, rfl, hg, hO, hb2⟩; have O2 := hid hO; have B2 : Hid (Below w1.heap.size w1 w2) := below_undrew hb2; have k0 : w2.cell? ⟨b, off, none⟩ = some (.int .u8 K) := (hb2.cell (p := ⟨b, off, none⟩) (by exact hb)).trans c0; clear hO hb2))
      have HZ2 : Hid (Rd w2.heap.size w2 (some ⟨b, off, none⟩) 512 zs) := ⟨Hz.out, Hzb.out, .inr ⟨b, off, rfl, Nat.lt_of_lt_of_le hb B2.out.size, fun t ht => (B2.out.cell (p := ⟨b, off + t, none⟩) (by exact hb)).trans (Hc.out t ht)⟩⟩
      have hst := stamp_facts K S body hK1 (by omega) hS0 hS1 (by have := Hll.out; omega) Hbl.out
      have hsb := isB_stamp K S body hK1 (by omega) Hbl.out
      have v1 := conv_str (O2.out.rd hsb) cp
      have v2 := conv_str HZ2.out cap
      have hdec : Hid (stampZ K S body = zs ∨ (stampZ K S body ≠ zs ∧ ((strOfNums (stampZ K S body)).toList == (strOfNums zs).toList) = false)) := by
        show _ ∨ _
        by_cases h : stampZ K S body = zs
        · exact .inl h
        · exact .inr ⟨h, beq_eq_false_iff_ne.2 (fun e => h (str_inj hsb Hzb.out (by rw [Go.Lib.strOfNums_toList, Go.Lib.strOfNums_toList] at e; unfold strOfNums; exact congrArg (fun l => ByteArray.mk l.toArray) e)))⟩
      clear hst
      rcases hdec.out with he | ⟨hne, hne2⟩
      · have HE := hid (HR3.out he)
        rw [he] at v1
        generalize strOfNums zs = s at *
        clear HR1 HR2 HR3 hdec
        have Hhe := hid he
        clear he
        have SR : Hid (∀ j u, (body.map (Value.int .u8))[j]? = some u → w2.drew.cell? ((⟨b, off + 15, none⟩ : Addr).add j) = some u) := by
          show ∀ j u, _ → _
          intro j u hj
          by_cases hL0 : L = 0
          · have : body = [] := List.length_eq_zero_iff.1 (by rw [Hll.out]; exact hL0)
            rw [this] at hj
            simp at hj
          · obtain ⟨ad, e, h⟩ := ((HRd.out.below B2.out).mono B2.out.size).src (by omega)
            cases e
            exact h j u hj
        have hsz2 : w1.heap.size ≤ w2.heap.size := B2.out.size
        go_wp2_with fail
        go_region_held3 (fun w' => w'.cell? ⟨b, off, none⟩ = some (.int .u8 K)) (first | assumption | go_keep)
          ((refine step_app_any (by rfl) _ _ (by rfl) w1.heap.size _ 0 [] (by rfl) (OwB.nil _ _) ⟨b, off + 15, none⟩ L (cap - 15) body (by rfl) Hll.out (by exact SR.out) (by omega) (by exact hsz2) ?_; intro v5 w5 ho5 hb5; have O5 := hid ho5; have B5 := hid hb5; have k5 : w5.cell? ⟨b, off, none⟩ = some (.int .u8 K) := (hb5.cell (p := ⟨b, off, none⟩) (by exact hb)).trans k0; clear ho5 hb5))
        obtain ⟨a5, c5, rfl, _⟩ := owns_slice O5.out
        rw [Nat.zero_add] at *
        have R5 : Hid (Rd w5.heap.size w5 a5 L body) := by
          show Rd _ _ _ _ _
          have h5 : OwB w1.heap.size w5 (.slice a5 L c5) L body := by simpa using O5.out
          by_cases hL0 : L = 0
          · exact ⟨Hll.out, Hbl.out, .inl hL0⟩
          · obtain ⟨g5, cp5, e5, _, hOw⟩ := h5.form (by omega)
            cases e5
            exact hOw.rd Hbl.out
        have BB5 : Hid (Below w1.heap.size w1 w5) := (B2.out.drew).trans B5.out
        clear O5 B5
        go_wp2_with fail
        refine bodyPost_ret (v := unstV ((K, S), body, 0) a5 L c5) (by simp [unstV, results, Try.results16, go_sem]) rfl ?_
        rw [HE.out]
        first
        | exact ⟨a5, L, c5, rfl, R5.out, BB5.out⟩
        | exact ⟨a5, L, ⟨c5, rfl⟩, R5.out, BB5.out⟩
      · have HE := hid (HR2.out Hz0.out hne)
        generalize strOfNums (stampZ K S body) = s1 at *
        generalize strOfNums zs = s2 at *
        clear HR1 HR2 HR3 hdec
        go_wp2_with fail
        refine bodyPost_ret (v := unstV ((0, 0), [], 17) none 0 0) (by simp [unstV, results, Try.results16, go_sem]) rfl ?_
        rw [HE.out]
        first
        | exact ⟨none, 0, 0, rfl, ⟨rfl, Pl.isB_nil, .inl rfl⟩, B2.out⟩
        | exact ⟨none, 0, ⟨0, rfl⟩, ⟨rfl, Pl.isB_nil, .inl rfl⟩, B2.out⟩

end Go.Proofs.Yteaebdonnicbkab
