import Derived.Test.YthkkdmblkalknaaGreatDoorA14
import Derived.Test.YthkkdmblkalknaaGreatDoorA13
/-
  What is printed is parsed.
-/
namespace Go.Proofs.YthkkdmblkalknaaGreatDoor
open Go.RowKit

theorem ba_ext {a b : ByteArray} (h : a.data.toList = b.data.toList) : a = b := by
  cases a; cases b
  simp only [ByteArray.mk.injEq]
  exact Array.toList_inj.1 h
theorem join_len : ∀ (ts : List (List UInt8)), ts.length ≤ (Lib.join ts [32]).length + 1
  | [] => by simp
  | [x] => by simp
  | x :: y :: ys => by
    have := join_len (y :: ys)
    rw [join_cons]
    simp only [List.length_cons, List.length_append] at this ⊢
    omega
theorem join_no10 : ∀ (ts : List (List UInt8)), (∀ t ∈ ts, plainW t) → ∀ b ∈ Lib.join ts [32], b ≠ 10
  | [], _, b, hb => by simp [Lib.join, List.intercalate] at hb
  | [x], h, b, hb => by rw [join_one] at hb; exact (h x (by simp) b hb).2
  | x :: y :: ys, h, b, hb => by
    rw [join_cons] at hb
    rcases List.mem_append.1 hb with q | q
    · exact (h x (by simp) b q).2
    · rcases List.mem_cons.1 q with rfl | q
      · decide
      · exact join_no10 (y :: ys) (fun t ht => h t (by simp at ht ⊢; exact .inr ht)) b q
theorem idx10 : ∀ (a r : List UInt8), (∀ b ∈ a, b ≠ 10) → Lib.indexByte (a ++ 10 :: r) 10 = a.length
  | [], r, _ => by simp [Lib.indexByte]
  | b :: a, r, h => by
    have hb := h b (by simp)
    have ih := idx10 a r (fun c hc => h c (by simp [hc]))
    rw [List.cons_append]
    unfold Lib.indexByte
    rw [ih]
    simp [hb]
set_option maxRecDepth 100000 in
theorem words_len {m : Nat} (m1 : 1 ≤ m) (m2 : m ≤ 11) : (wordsOf m).length = nw m ∧ nw m ≤ 4 ∧ nw m ≠ 0 := by
  rcases nat_kinds m1 m2 with rfl | rfl | rfl | rfl | rfl | rfl | rfl | rfl | rfl | rfl | rfl <;> decide
set_option maxRecDepth 100000 in
theorem words_first {m : Nat} (m1 : 1 ≤ m) (m2 : m ≤ 11) (o : PO) : (txts o (wordsOf m)).getD 0 cE = kw m := by
  rcases nat_kinds m1 m2 with rfl | rfl | rfl | rfl | rfl | rfl | rfl | rfl | rfl | rfl | rfl <;> simp [wordsOf, frm, nw, tl, kw, txts, shownB]
/-- a line's body -/
def bodyL (o : PO) : List UInt8 := Lib.join ((txts o (wordsOf o.k.toNat)).map (·.data.toList)) [32]
theorem lineL_body (o : PO) : lineL o = bodyL o ++ [10] := lineL_eq o
theorem body_no10 {o : PO} (h : o.ck = 0) (hda : Pl.isB o.da) : ∀ b ∈ bodyL o, b ≠ 10 := by
  obtain ⟨m, hF⟩ := ck_f h
  have hp := txts_plain hF hda (ck_n h hF.kk)
  unfold bodyL
  rw [hF.kk, Int.toNat_natCast]
  exact join_no10 _ fun t ht => by
    obtain ⟨x, hx, rfl⟩ := List.mem_map.1 ht
    exact hp x hx
theorem line_fwd {o : PO} (h : o.ck = 0) (hda : Pl.isB o.da) : lineP (lineB o) = (o, true) := by
  obtain ⟨m, hF⟩ := ck_f h
  have m1 := hF.m1
  have m2 := hF.m2
  have hp := txts_plain hF hda (ck_n h hF.kk)
  obtain ⟨wl, w4, w0⟩ := words_len m1 m2
  have hl : (txts o (wordsOf m)).length = nw m := by unfold txts; rw [List.length_map]; exact wl
  have eb : bodyL o = Lib.join ((txts o (wordsOf m)).map (·.data.toList)) [32] := by unfold bodyL; rw [hF.kk, Int.toNat_natCast]
  have es : (lineB o).data.toList = bodyL o ++ [10] := lineL_body o
  have hw : whole (lineB o) = true := by
    unfold whole Lib.hasSuffix
    rw [es, List.isSuffixOf_iff_suffix]
    exact ⟨_, rfl⟩
  have hb : (bodyB (lineB o)).data.toList = bodyL o := by
    unfold bodyB
    rw [List.toList_toArray]
    have := suf_eq hw
    rw [es] at this
    rw [es]
    exact (List.append_cancel_right this).symm
  have hps : pieces (lineB o) = txts o (wordsOf m) := by
    have hsz : (bodyB (lineB o)).size = (bodyL o).length := by rw [← hb, Array.length_toList]; rfl
    have e : (pieces (lineB o)).map (·.data.toList) = (txts o (wordsOf m)).map (·.data.toList) := by
      unfold pieces
      rw [Lib.splitB_data, hb, hsz]
      show Lib.splitK [32] 0 _ (bodyL o) = _
      rw [eb]
      have jl := join_len ((txts o (wordsOf m)).map (·.data.toList))
      rw [List.length_map, hl] at jl
      refine splitK_join _ _ (fun e => ?_) ?_ (fun t ht b hb' => ?_)
      · have := congrArg List.length e
        rw [List.length_map, hl] at this
        exact w0 this
      · rw [List.length_map, hl]
        omega
      · obtain ⟨x, hx, rfl⟩ := List.mem_map.1 ht
        exact (hp x hx b hb').1
    exact (List.map_inj_right (fun x y hxy => ba_ext hxy)).1 e
  have hkd : kd ((pieces (lineB o)).getD 0 cE) = m := by
    rw [hps, words_first m1 m2]
    exact kd_hit m1 m2 rfl
  unfold lineP
  rw [hkd, if_neg (by rw [hw]; simp; omega), hps, if_neg (by rw [hl]; simp), take_fwd hF hda]
  simp [finL, h]
theorem lineB_data (o : PO) : (lineB o).data.toList = lineL o := rfl
theorem lines_prt : ∀ (os : List PO), (∀ o ∈ os, o.ck = 0) → (∀ o ∈ os, Pl.isB o.da) → linesB ⟨(prtL os).toArray⟩ = os.map lineB
  | [], _, _ => linesB_nil rfl
  | o :: os, h, hd => by
    have ih := lines_prt os (fun q hq => h q (by simp [hq])) (fun q hq => hd q (by simp [hq]))
    have e : prtL (o :: os) = bodyL o ++ 10 :: prtL os := by
      unfold prtL
      rw [List.flatMap_cons, lineL_body]
      simp
    have hn := body_no10 (h o (by simp)) (hd o (by simp))
    have hi : nlI ⟨(prtL (o :: os)).toArray⟩ = (bodyL o).length := by
      unfold nlI
      rw [List.toList_toArray, e]
      exact idx10 _ _ hn
    have hsz : (⟨(prtL (o :: os)).toArray⟩ : ByteArray).size ≠ 0 := by
      show (prtL (o :: os)).toArray.size ≠ 0
      rw [List.size_toArray, e]
      simp
    have hc : cutL ⟨(prtL (o :: os)).toArray⟩ = (lineB o, ⟨(prtL os).toArray⟩) := by
      unfold cutL
      rw [if_neg (by rw [hi]; omega), hi, Int.toNat_natCast]
      refine Prod.ext (ba_ext ?_) (ba_ext ?_)
      · show (ByteArray.extract _ _ _).data.toList = _
        rw [Lib.extract_from_zero, lineB_data, lineL_body, List.toList_toArray, e, show bodyL o ++ 10 :: prtL os = (bodyL o ++ [10]) ++ prtL os by simp, show (bodyL o).length + 1 = (bodyL o ++ [10]).length by simp, List.take_left]
      · show (ByteArray.extract _ _ _).data.toList = _
        rw [Lib.extract_to_end, List.toList_toArray, List.toList_toArray, e, show bodyL o ++ 10 :: prtL os = (bodyL o ++ [10]) ++ prtL os by simp, show (bodyL o).length + 1 = (bodyL o ++ [10]).length by simp, List.drop_left]
    rw [linesB_cons hsz, hc, List.map_cons, ih]
theorem prs_prt {os : List PO} (h : ∀ o ∈ os, o.ck = 0) (hd : ∀ o ∈ os, Pl.isB o.da) : prs ⟨(prtL os).toArray⟩ = (os, 0, 0) := by
  unfold prs
  rw [lines_prt os h hd, prsL_ok _ 0 [] (fun l hl => by
    obtain ⟨o, ho, rfl⟩ := List.mem_map.1 hl
    rw [line_fwd (h o ho) (hd o ho)])]
  rw [List.map_map, List.nil_append]
  have : os.map ((fun l => (lineP l).1) ∘ lineB) = os := by
    conv => rhs; rw [← List.map_id os]
    exact List.map_congr_left fun o ho => by simp only [Function.comp_apply, line_fwd (h o ho) (hd o ho), id]
  rw [this]

end Go.Proofs.YthkkdmblkalknaaGreatDoor
/-
  Encode and Decode: there and back, of lists; what is cut short.
-/
namespace Go.Proofs.YthkkdmblkalknaaGreatDoor
open Go.RowKit

theorem encO_eq {m : Nat} {o : PO} (hF : Fit m o) : encO o = Pl.dig (m : Int) 1 ++ encK m o := by
  unfold encO
  rw [hF.kk, Int.toNat_natCast, enc_kind hF.m1 hF.m2]
theorem dec1_of {s : St} {m : Nat} (m1 : 1 ≤ m) (m2 : m ≤ 11) (hm : (nbG pt s 1).1 = m) : dec1 s = decK m (kd0 m, (nbG pt s 1).2) := by
  unfold dec1 kind1
  rw [hm, Int.toNat_natCast, dec_kind m1 m2]
  rfl
theorem kind_enc {m : Nat} (m2 : m ≤ 11) (r : List Int) : nbG pt (Pl.dig (m : Int) 1 ++ r, false) 1 = ((m : Int), (r, false)) :=
  nb_app (m : Int) 1 (by omega) (by show (m : Int) < 256 ^ 1; omega) r false
/-- what is encoded is taken -/
theorem opP_enc {o : PO} (h : o.ck = 0) (r : List Int) : opP (encO o ++ r, false) = ((o, 0), (r, false)) := by
  obtain ⟨m, hF⟩ := ck_f h
  have hFt := hF.fit
  have e0 : encO o ++ r = Pl.dig (m : Int) 1 ++ (encK m o ++ r) := by rw [encO_eq hFt, List.append_assoc]
  have hk := kind_enc (m := m) hF.m2 (encK m o ++ r)
  have hd : dec1 (Pl.dig (m : Int) 1 ++ (encK m o ++ r), false) = (o, (r, false)) := by
    rw [dec1_of hF.m1 hF.m2 (by rw [hk]), hk]
    exact decK_enc hFt r
  have m1 := hF.m1
  have m2 := hF.m2
  rw [e0]
  unfold opP
  rw [hk, if_neg (by simp only; omega), hd]
  simp [h]
/-- what is taken was encoded so -/
theorem opP_inv {s : St} (hb : Pl.isB s.1) (he : (opP s).1.2 = 0) : s.2 = false ∧ s.1 = encO (opP s).1.1 ++ (opP s).2.1 ∧ (opP s).2.2 = false ∧ (opP s).1.1.ck = 0 ∧ Pl.isB (opP s).2.1 ∧ ∃ m, Fit m (opP s).1.1 := by
  unfold opP at he ⊢
  by_cases hk : (nbG pt s 1).1 < 1 ∨ 11 < (nbG pt s 1).1
  · rw [if_pos hk] at he; cases he
  rw [if_neg hk] at he ⊢
  by_cases hc : (dec1 s).2.2 = true
  · rw [if_pos hc] at he; cases he
  rw [if_neg hc] at he ⊢
  by_cases h0 : (dec1 s).1.ck = 0
  case neg => rw [if_neg h0] at he; cases he
  rw [if_pos h0]
  obtain ⟨m, hm⟩ := Int.eq_ofNat_of_zero_le (show 0 ≤ (nbG pt s 1).1 by omega)
  have m1 : 1 ≤ m := by omega
  have m2 : m ≤ 11 := by omega
  have hd := dec1_of (s := s) m1 m2 hm
  have hb1 : Pl.isB (nbG pt s 1).2.1 := (isB_pt hb 1).2
  rw [hd] at hc h0 ⊢
  obtain ⟨q1, q2, q3, q4⟩ := decK_inv (s := (nbG pt s 1).2) m1 m2 hb1 (by simpa using hc)
  obtain ⟨f1, f2, _⟩ := nb_inv (s := s) (n := 1) hb q1
  have f2' : s.1 = Pl.dig (m : Int) 1 ++ (nbG pt s 1).2.1 := by rw [← hm]; exact f2
  refine ⟨f1, ?_, by simpa using hc, h0, q4, m, q3⟩
  simp only
  rw [encO_eq q3, List.append_assoc, ← q2]
  exact f2'
theorem isB_nums' (s : ByteArray) : Pl.isB (nums s) := isB_nums s
theorem isB_app {a b : List Int} (ha : Pl.isB a) (hb : Pl.isB b) : Pl.isB (a ++ b) := fun z hz => (List.mem_append.1 hz).elim (ha z) (hb z)
theorem isB_txt (s : ByteArray) : Pl.isB (txtB s) := isB_app (Pl.isB_dig _ _) (isB_nums s)
theorem isB_encK (m : Nat) (o : PO) (h : Pl.isB o.da) : Pl.isB (encK m o) := by
  unfold encK
  split
  all_goals first | exact isB_app (isB_txt _) (Pl.isB_dig _ _) | exact isB_txt _ | exact isB_app (isB_txt _) (isB_app (Pl.isB_dig _ _) h) | exact isB_app (isB_txt _) (isB_app (Pl.isB_dig _ _) (Pl.isB_dig _ _)) | exact Pl.isB_dig _ _ | exact isB_app (isB_txt _) (isB_txt _)
theorem isB_encO {o : PO} (hc : o.ck = 0) (h : Pl.isB o.da) : Pl.isB (encO o) := by
  obtain ⟨m, hF⟩ := ck_f hc
  rw [encO_eq hF.fit]
  exact isB_app (Pl.isB_dig _ _) (isB_encK m o h)
/-- what is cut short -/
theorem opP_cut {o : PO} (hc : o.ck = 0) (hda : Pl.isB o.da) {j : Nat} (j1 : 0 < j) (j2 : j < (encO o).length) : (opP ((encO o).take j, false)).1.2 = 161 := by
  obtain ⟨m, hF⟩ := ck_f hc
  have hFt := hF.fit
  have m1 := hF.m1
  have m2 := hF.m2
  have hlen : (encO o).length = 1 + (encK m o).length := by rw [encO_eq hFt, List.length_append, Pl.length_dig]
  have e0 : (encO o).take j = Pl.dig (m : Int) 1 ++ (encK m o).take (j - 1) := by
    rw [encO_eq hFt, List.take_append, Pl.length_dig, List.take_of_length_le (by rw [Pl.length_dig]; omega)]
  have hk := kind_enc (m := m) m2 ((encK m o).take (j - 1))
  have hd := dec1_of (s := (Pl.dig (m : Int) 1 ++ (encK m o).take (j - 1), false)) m1 m2 (by rw [hk])
  rw [hk] at hd
  simp only at hd
  rw [e0]
  unfold opP
  rw [hk, if_neg (by simp only; omega), hd]
  have hfl : (decK m (kd0 m, ((encK m o).take (j - 1), false))).2.2 = true := by
    cases hf : (decK m (kd0 m, ((encK m o).take (j - 1), false))).2.2 with
    | true => rfl
    | false =>
      obtain ⟨_, q2, q3, _⟩ := decK_inv (s := ((encK m o).take (j - 1), false)) m1 m2 (Pl.isB_take (isB_encK m o hda) _) hf
      generalize decK m (kd0 m, ((encK m o).take (j - 1), false)) = D at q2 q3
      have h1 := decK_enc hFt []
      have h2 := decK_enc q3 (D.2.1 ++ (encK m o).drop (j - 1))
      rw [← List.append_assoc] at h2
      simp only at q2
      rw [← q2, List.take_append_drop] at h2
      rw [List.append_nil] at h1
      rw [h1] at h2
      have h3 : ([] : List Int) = D.2.1 ++ (encK m o).drop (j - 1) := congrArg (fun x => x.2.1) h2
      have h4 := congrArg List.length h3
      simp only [List.length_nil, List.length_append, List.length_drop] at h4
      omega
  rw [if_pos hfl]

/-! ### lists -/
theorem decA_enc : ∀ (os : List PO) (acc : List PO) (n : Nat), (∀ o ∈ os, o.ck = 0) → (encL os).length ≤ n → decA n (encL os, false) acc = (acc ++ os, 0)
  | [], acc, n, _, _ => by rw [decA_stop (by rfl)]; simp
  | o :: os, acc, n, h, hn => by
    have ho := h o (by simp)
    have e : encL (o :: os) = encO o ++ encL os := by simp [encL]
    have hne : encO o ≠ [] := by
      obtain ⟨m, hF⟩ := ck_f ho
      rw [encO_eq hF.fit]
      simp [Pl.dig]
    rw [e] at hn ⊢
    have hop := opP_enc ho (encL os)
    rw [decA_go (s := (encO o ++ encL os, false)) hn (by simp [hne]) (by rw [hop]), hop]
    simp only
    rw [decA_enc os _ n (fun q hq => h q (by simp [hq])) (by rw [List.length_append] at hn; omega)]
    simp
theorem dcd_enc {os : List PO} (h : ∀ o ∈ os, o.ck = 0) : dcd (encL os) = (os, 0) := by
  unfold dcd
  rw [decA_enc os [] _ h (Nat.le_refl _)]
  rfl
theorem decA_inv : ∀ (n : Nat) (s : St) (acc : List PO), Pl.isB s.1 → s.2 = false → s.1.length ≤ n → (decA n s acc).2 = 0 → ∃ os, (decA n s acc).1 = acc ++ os ∧ s.1 = encL os ∧ ∀ o ∈ os, o.ck = 0 ∧ ∃ m, Fit m o
  | n, s, acc, hb, hs, hn, h => by
    by_cases h0 : s.1 = []
    · rw [decA_stop h0]
      exact ⟨[], by simp, by rw [h0]; rfl, by simp⟩
    · by_cases he : (opP s).1.2 = 0
      · have hgo := decA_go (acc := acc) hn h0 he
        rw [hgo] at h ⊢
        obtain ⟨_, q2, q3, q4, q5, q6⟩ := opP_inv hb he
        have hlt := opP_lt h0
        cases n with
        | zero => omega
        | succ n =>
          rw [decA_enough (n + 1) n _ _ (by omega) (by omega)] at h ⊢
          obtain ⟨os, r1, r2, r3⟩ := decA_inv n (opP s).2 (acc ++ [(opP s).1.1]) q5 q3 (by omega) h
          refine ⟨(opP s).1.1 :: os, by rw [r1]; simp, ?_, ?_⟩
          · rw [q2, r2]; simp [encL]
          · intro o ho
            rcases List.mem_cons.1 ho with rfl | ho
            · exact ⟨q4, q6⟩
            · exact r3 o ho
      · rw [decA_err hn h0 he] at h
        exact absurd h he
theorem enc_dcd {zs : List Int} (hb : Pl.isB zs) (h : (dcd zs).2 = 0) : encL (dcd zs).1 = zs ∧ ∀ o ∈ (dcd zs).1, o.ck = 0 ∧ ∃ m, Fit m o := by
  obtain ⟨os, h1, h2, h3⟩ := decA_inv zs.length (zs, false) [] hb rfl (Nat.le_refl _) h
  have e : (dcd zs).1 = os := by unfold dcd; rw [h1]; rfl
  rw [e]
  exact ⟨h2.symm, h3⟩

end Go.Proofs.YthkkdmblkalknaaGreatDoor
/-
  A list that is cut short.
-/
namespace Go.Proofs.YthkkdmblkalknaaGreatDoor
open Go.RowKit

theorem encL_cons (o : PO) (os : List PO) : encL (o :: os) = encO o ++ encL os := by simp [encL]
theorem encO_ne {o : PO} (h : o.ck = 0) : 0 < (encO o).length := by
  obtain ⟨m, hF⟩ := ck_f h
  rw [encO_eq hF.fit]
  simp [Pl.dig]
theorem decA_enc_err : ∀ (os : List PO) (t : List Int) (acc : List PO) (n : Nat), (∀ o ∈ os, o.ck = 0) → t ≠ [] → (opP (t, false)).1.2 = 161 → (encL os ++ t).length ≤ n → decA n (encL os ++ t, false) acc = ([], 161)
  | [], t, acc, n, _, ht, he, hn => by
    have e : encL [] ++ t = t := rfl
    rw [e] at hn ⊢
    rw [decA_err (s := (t, false)) hn ht (by rw [he]; decide), he]
  | o :: os, t, acc, n, h, ht, he, hn => by
    have ho := h o (by simp)
    have hpos := encO_ne ho
    rw [encL_cons, List.append_assoc] at hn ⊢
    have hop := opP_enc ho (encL os ++ t)
    have hne : encO o ++ (encL os ++ t) ≠ [] := fun e => by
      have := congrArg List.length e
      simp only [List.length_append, List.length_nil] at this
      omega
    rw [decA_go (s := (encO o ++ (encL os ++ t), false)) hn hne (by rw [hop]), hop]
    simp only
    exact decA_enc_err os t _ n (fun q hq => h q (by simp [hq])) ht he (by simp only [List.length_append] at hn ⊢; omega)
/-- where the operations end -/
def ends (os : List PO) (j : Nat) : Nat := (encL (os.take j)).length
theorem ends_succ (os : List PO) (j : Nat) (h : j < os.length) : ends os (j + 1) = ends os j + (encO os[j]).length := by
  unfold ends encL
  rw [List.take_succ_eq_append_getElem h, List.flatMap_append, List.length_append]
  congr 1
  simp only [List.flatMap_cons, List.flatMap_nil, List.append_nil]
theorem encL_split (os : List PO) (j : Nat) : encL os = encL (os.take j) ++ encL (os.drop j) := by
  unfold encL
  rw [← List.flatMap_append, List.take_append_drop]
/-- cut at an operation's end -/
theorem dcd_whole {os : List PO} (h : ∀ o ∈ os, o.ck = 0) (j : Nat) : dcd ((encL os).take (ends os j)) = (os.take j, 0) := by
  have e : (encL os).take (ends os j) = encL (os.take j) := by
    rw [encL_split os j]
    unfold ends
    exact List.take_left
  rw [e]
  exact dcd_enc fun o ho => h o (List.mem_of_mem_take ho)
/-- cut within an operation -/
theorem dcd_cut {os : List PO} (h : ∀ o ∈ os, o.ck = 0) (hda : ∀ o ∈ os, Pl.isB o.da) (j : Nat) (hj : j < os.length) (k : Nat) (k1 : ends os j < k) (k2 : k < ends os (j + 1)) : dcd ((encL os).take k) = ([], 161) := by
  have e1 : encL os = encL (os.take j) ++ (encO os[j] ++ encL (os.drop (j + 1))) := by
    rw [encL_split os j, List.drop_eq_getElem_cons hj, encL_cons]
  have hs := ends_succ os j hj
  have e2 : (encL os).take k = encL (os.take j) ++ (encO os[j]).take (k - ends os j) := by
    rw [e1, List.take_append, List.take_of_length_le (by show ends os j ≤ k; omega), List.take_append_of_le_length (by show k - ends os j ≤ _; omega)]
    rfl
  have hm : os[j] ∈ os := List.getElem_mem hj
  have hc := opP_cut (h _ hm) (hda _ hm) (j := k - ends os j) (by omega) (by omega)
  rw [e2]
  unfold dcd
  exact decA_enc_err (os.take j) _ [] _ (fun o ho => h o (List.mem_of_mem_take ho)) (fun e => by
    have := congrArg List.length e
    simp only [List.length_take, List.length_nil] at this
    omega) hc (Nat.le_refl _)

end Go.Proofs.YthkkdmblkalknaaGreatDoor
/-
  OpOneForm: the operations that are good (a list of one's own, its data where they were), and the places where they end.
-/
namespace Go.Proofs.YthkkdmblkalknaaGreatDoor
open Go.RowKit

/-- a list of one's own from B on; its data below D -/
structure GL (D B : Nat) (w : World) (v : Value) (os : List PO) (vs : List Value) : Prop where
  len : vs.length = os.length
  row : w.ownsRow B 29 6 v os.length (flatO os vs)
  dat : ∀ i (h : i < os.length), ∃ a c, vs[i]'(by omega) = .slice a os[i].da.length c ∧ Rd D w a os[i].da.length os[i].da ∧ (a = none → c = 0)
  DB : D ≤ B
theorem GL.nil {D B : Nat} (w : World) (h : D ≤ B) : GL D B w (.slice none 0 0) [] [] := ⟨rfl, ⟨rfl, .inl ⟨rfl, rfl⟩⟩, fun i h => by simp at h, h⟩
theorem GL.next {D B : Nat} {w w' : World} {v : Value} {os : List PO} {vs : List Value} (h : GL D B w v os vs) (hB : B ≤ w.heap.size) (hb : Below w.heap.size w w') : GL D B w' v os vs :=
  ⟨h.len, own_keep h.row fun g hg => hb.block g (own_blk h.row hg).2.1, fun i hi => by
    obtain ⟨a, c, e1, e2, e3⟩ := h.dat i hi
    exact ⟨a, c, e1, e2.below (hb.mono (Nat.le_trans h.DB hB)), e3⟩, h.DB⟩
theorem GL.rdo {D B : Nat} {w : World} {v : Value} {os : List PO} {vs : List Value} (h : GL D B w v os vs) (hB : B ≤ w.heap.size) (hok : ∀ o ∈ os, okO o) : ∃ a c, v = .slice a os.length c ∧ os.length ≤ c ∧ RdO w.heap.size w a os ∧ (a = none → c = 0) := by
  have hc := fun g => World.ownsRow.cells (g := g) h.row
  have hlt := fun g (hg : v.ownBlock = some g) => (own_blk h.row hg).2.1
  have hD := h.DB
  rcases h.row.2 with ⟨rfl, q⟩ | ⟨g', cap, cur, rfl, hb', hh, r1, r2, r3, r4⟩
  · exact ⟨none, 0, by rw [q], by omega, ⟨hok, .inl (List.eq_nil_of_length_eq_zero q)⟩, fun _ => rfl⟩
  · refine ⟨some ⟨g', 0, none⟩, cap, rfl, r1, ⟨hok, .inr ⟨g', 0, rfl, hlt g' rfl, fun t ht => ?_⟩⟩, fun e => by cases e⟩
    have hl := h.len
    obtain ⟨a, c, e1, e2, e3⟩ := h.dat t ht
    have k : ∀ i u, i < 6 → (cells6 os[t] (vs[t]'(by omega)))[i]? = some u → w.cell? ⟨g', 0 + t * 6 + i, none⟩ = some u := fun i u hi hu => by
      have := hc g' rfl (t * 6 + i) u (by rw [flatO_at os vs hl t ht i hi]; exact hu)
      rw [Addr.add_lit] at this
      rw [show 0 + t * 6 + i = 0 + (t * 6 + i) by omega]
      exact this
    refine ⟨a, c, ⟨?_, k 1 _ (by omega) rfl, k 2 _ (by omega) rfl, k 3 _ (by omega) rfl, k 4 _ (by omega) rfl, ?_⟩, e2.mono (by omega), e3⟩
    · exact k 0 _ (by omega) rfl
    · exact k 5 _ (by omega) (by simp [cells6, e1])
theorem GL.push {D B : Nat} {w : World} {v : Value} {os : List PO} {vs : List Value} (h : GL D B w v os vs) (o : PO) (a : Option Addr) (c : Nat) (hd : Rd D w a o.da.length o.da) (ha : a = none → c = 0) {g : Nat} (hg : w.heap[g]? = some (.cells (cells6 o (.slice a o.da.length c)).toArray 29 (0, 0))) (hl : os.length ≤ 16777216) (hw : B ≤ w.heap.size) :
    ∃ v' w', (Builtin.append_ #[22, 22] 22 #[v, .slice (some ⟨g, 0, none⟩) 1 1]).run Tryz.prog w = .ok v' w' ∧ GL D B w' v' (os ++ [o]) (vs ++ [.slice a o.da.length c]) ∧ Gr w w' v v' := by
  obtain ⟨i0, hi, hz0, hz1, hz2⟩ := info_parts info29
  obtain ⟨v', w', hr, h2, h3, _, h5⟩ := run_append_own_at (P := Tryz.prog) w B 22 22 29 i0 _ 6 80 Tryz.underlying22 hi hz0 hz1 hz2 rfl (by decide) v os.length (flatO os vs) h.row ⟨g, 0, none⟩ 1 1 (cells6 o (.slice a o.da.length c)) rfl (fun j u hu => by
    rw [Addr.add_lit, Nat.zero_add]
    simp only [World.cell?, hg]
    simpa using hu) (fun u hu => by simp only [cells6, List.mem_cons, List.not_mem_nil, or_false] at hu; rcases hu with rfl | rfl | rfl | rfl | rfl | rfl <;> rfl) (by unfold maxLen; omega) (by omega) hw
  have gr : Gr w w' v v' := ⟨h3.os, h3.tape, h3.output, h3.size, h3.block, h5.elim .inl fun e => .inr ⟨_, e, Nat.le_refl _⟩⟩
  have bel : Below B w w' := gr.below hw fun x hx => (own_blk h.row hx).1
  have hlen := h.len
  refine ⟨v', w', hr, ⟨by simp [h.len], ?_, fun i hi => ?_, h.DB⟩, gr⟩
  · rw [flatO_app os vs o _ h.len, List.length_append]
    exact h2
  · by_cases he : i < os.length
    · obtain ⟨a', c', e1, e2, e3⟩ := h.dat i he
      refine ⟨a', c', ?_, ?_, e3⟩
      · rw [List.getElem_append_left (by omega)]
        simp only [List.getElem_append_left he]
        exact e1
      · simp only [List.getElem_append_left he]
        exact e2.below (bel.mono h.DB)
    · simp only [List.length_append, List.length_cons, List.length_nil] at hi
      have e : i = os.length := by omega
      subst e
      refine ⟨a, c, ?_, ?_, ha⟩
      · rw [List.getElem_append_right (by omega)]
        simp [hlen]
      · simp only [List.getElem_append_right (Nat.le_refl _), Nat.sub_self, List.getElem_cons_zero]
        exact hd.below (bel.mono h.DB)
/-- numbers of one's own -/
def IL (B : Nat) (w : World) (v : Value) (zs : List Nat) : Prop := w.ownsRow B 3 1 v zs.length (zs.map fun z : Nat => Value.int .i64 (z : Int))
theorem infoI : (Tryz.prog.info? 3).map (fun i => (i.zero, i.size, i.bytes)) = some (some (.int .i64 0), 1, 8) := by kernel_rfl
theorem IL.nil (B : Nat) (w : World) : IL B w (.slice none 0 0) [] := ⟨rfl, .inl ⟨rfl, rfl⟩⟩
theorem IL.next {B : Nat} {w w' : World} {v : Value} {zs : List Nat} (h : IL B w v zs) (hb : Below w.heap.size w w') : IL B w' v zs := own_keep h fun g hg => hb.block g (own_blk h hg).2.1
theorem IL.push {B : Nat} {w : World} {v : Value} {zs : List Nat} (h : IL B w v zs) (z : Nat) {g : Nat} (hg : w.heap[g]? = some (.cells #[.int .i64 (z : Int)] 3 (0, 0))) (hl : zs.length ≤ 16777216) (hw : B ≤ w.heap.size) :
    ∃ v' w', (Builtin.append_ #[25, 25] 25 #[v, .slice (some ⟨g, 0, none⟩) 1 1]).run Tryz.prog w = .ok v' w' ∧ IL B w' v' (zs ++ [z]) ∧ Gr w w' v v' := by
  obtain ⟨i0, hi, hz0, hz1, hz2⟩ := info_parts infoI
  obtain ⟨v', w', hr, h2, h3, _, h5⟩ := run_append_own_at (P := Tryz.prog) w B 25 25 3 i0 _ 1 8 Tryz.underlying25 hi hz0 hz1 hz2 rfl (by decide) v zs.length _ h ⟨g, 0, none⟩ 1 1 [.int .i64 (z : Int)] rfl (fun j u hu => by
    rw [Addr.add_lit, Nat.zero_add]
    simp only [World.cell?, hg]
    simpa using hu) (fun u hu => by simp only [List.mem_cons, List.not_mem_nil, or_false] at hu; subst hu; rfl) (by unfold maxLen; omega) (by omega) hw
  refine ⟨v', w', hr, ?_, ⟨h3.os, h3.tape, h3.output, h3.size, h3.block, h5.elim .inl fun e => .inr ⟨_, e, Nat.le_refl _⟩⟩⟩
  unfold IL
  rw [List.length_append, List.map_append]
  exact h2
theorem IL.at {B g n c : Nat} {w : World} {zs : List Nat} (h : IL B w (.slice (some ⟨g, 0, none⟩) n c) zs) (i : Nat) (hi : i < zs.length) : w.cell? ⟨g, i, none⟩ = some (.int .i64 (zs[i] : Int)) := by
  have := World.ownsRow.cells (g := g) h rfl i (.int .i64 (zs[i] : Int)) (by simp [hi])
  rw [Addr.add_lit, Nat.zero_add] at this
  exact this

end Go.Proofs.YthkkdmblkalknaaGreatDoor
/-
  OpOneForm: a round of its first loop.
-/
namespace Go.Proofs.YthkkdmblkalknaaGreatDoor
open Go.RowKit

def goodL (os : List PO) : List PO := os.filter fun o => decide (o.ck = 0)
def endsL (gs : List PO) : List Nat := (List.range gs.length).map fun j => ends gs (j + 1)
theorem good_yes {os : List PO} {r : Nat} (hr : r < os.length) (h : os[r].ck = 0) : goodL (os.take (r + 1)) = goodL (os.take r) ++ [os[r]] := by
  unfold goodL
  rw [List.take_succ_eq_append_getElem hr, List.filter_append]
  simp [h]
theorem good_no {os : List PO} {r : Nat} (hr : r < os.length) (h : os[r].ck ≠ 0) : goodL (os.take (r + 1)) = goodL (os.take r) := by
  unfold goodL
  rw [List.take_succ_eq_append_getElem hr, List.filter_append]
  simp [h]
theorem good_len (os : List PO) : (goodL os).length ≤ os.length := List.length_filter_le _ _
theorem ends_all (gs : List PO) : ends gs gs.length = (encL gs).length := by unfold ends; rw [List.take_length]
theorem encL_app (a b : List PO) : encL (a ++ b) = encL a ++ encL b := by simp [encL]
theorem ends_app (gs : List PO) (o : PO) (j : Nat) (h : j ≤ gs.length) : ends (gs ++ [o]) j = ends gs j := by
  unfold ends
  rw [List.take_append_of_le_length h]
theorem endsL_app (gs : List PO) (o : PO) : endsL (gs ++ [o]) = endsL gs ++ [(encL gs).length + (encO o).length] := by
  unfold endsL
  rw [List.length_append, List.length_singleton, List.range_succ, List.map_append]
  congr 1
  · refine List.map_congr_left fun j hj => ?_
    have := List.mem_range.1 hj
    exact ends_app gs o (j + 1) (by omega)
  · simp only [List.map_cons, List.map_nil]
    congr 1
    have : gs.length + 1 = (gs ++ [o]).length := by simp
    rw [this, ends_all, encL_app, List.length_append]
    simp [encL]
theorem wordB_len (o : PO) (x : ByteArray) : (wordB o x).length ≤ 4 + o.nm.size + o.ot.size + o.da.length := by
  unfold wordB txtB
  repeat' split
  all_goals (try simp only [List.length_append, Pl.length_dig, length_nums, List.length_nil]) <;> omega
theorem flat_len (o : PO) : ∀ (ws : List ByteArray), (ws.flatMap (wordB o)).length ≤ ws.length * (4 + o.nm.size + o.ot.size + o.da.length)
  | [] => by simp
  | x :: ws => by
    have := flat_len o ws
    have := wordB_len o x
    rw [List.flatMap_cons, List.length_append, List.length_cons, Nat.add_mul]
    omega
theorem encO_len {o : PO} (h : okO o) : (encO o).length ≤ 536870912 := by
  unfold encO
  have h1 := flat_len o (wordsOf o.k.toNat)
  have h2 : (wordsOf o.k.toNat).length ≤ 4 := by
    unfold wordsOf frm
    rw [List.length_take]
    simp only [List.length_cons, List.length_nil]
    omega
  have := h.nm
  have := h.ot
  have := h.da
  have h3 : (wordsOf o.k.toNat).length * (4 + o.nm.size + o.ot.size + o.da.length) ≤ 4 * (4 + o.nm.size + o.ot.size + o.da.length) := Nat.mul_le_mul_right _ h2
  rw [List.length_append, Pl.length_dig]
  omega
/-- within the first loop -/
structure OfS (w : World) (os : List PO) (r : Nat) (gv ev : Value) (wr : World) : Prop where
  gl : ∃ vs, GL w.heap.size w.heap.size wr gv (goodL (os.take r)) vs
  il : IL w.heap.size wr ev (endsL (goodL (os.take r)))
  bel : Below w.heap.size w wr
theorem gi_ne {D B B' : Nat} {w : World} {gv ev : Value} {os : List PO} {vs : List Value} {zs : List Nat} (h : GL D B w gv os vs) (k : IL B' w ev zs) {g : Nat} (hg : gv.ownBlock = some g) : ev.ownBlock ≠ some g := by
  intro e
  obtain ⟨_, _, c1, h1⟩ := own_blk h.row hg
  obtain ⟨_, _, c2, h2⟩ := own_blk k e
  rw [h1] at h2
  simp at h2
theorem OfS.next {w : World} {os : List PO} {r : Nat} {gv ev : Value} {wr W : World} (h : OfS w os r gv ev wr) (hb : Below wr.heap.size wr W) : OfS w os r gv ev W := by
  obtain ⟨vs, hg⟩ := h.gl
  exact ⟨⟨vs, hg.next h.bel.size hb⟩, h.il.next hb, h.bel.trans (hb.mono h.bel.size)⟩
theorem OfS.no {w : World} {os : List PO} {r : Nat} {gv ev : Value} {wr : World} (h : OfS w os r gv ev wr) (hr : r < os.length) (hc : os[r].ck ≠ 0) : OfS w os (r + 1) gv ev wr := by
  obtain ⟨h1, h2, h3⟩ := h
  rw [← good_no hr hc] at h1 h2
  exact ⟨h1, h2, h3⟩
/-- one good operation more -/
theorem OfS.yes {w : World} {os : List PO} {r : Nat} {gv ev : Value} {wr : World} (h : OfS w os r gv ev wr) (hr : r < os.length) (hl : os.length ≤ 16777216) (hc : os[r].ck = 0) (a : Option Addr) (c : Nat) (hd : Rd w.heap.size wr a os[r].da.length os[r].da) (ha : a = none → c = 0) (n : Nat) (hn : n = (encL (goodL (os.take r))).length + (encO os[r]).length) :
    ∃ gv' w5, (Builtin.append_ #[22, 22] 22 #[gv, .slice (some ⟨wr.heap.size, 0, none⟩) 1 1]).run Tryz.prog (wr.alloc (.cells #[.int .i64 os[r].k, .string os[r].nm, .string os[r].ot, .int .i64 os[r].fr, .int .i64 os[r].to, .slice a os[r].da.length c] 29)) = .ok gv' w5 ∧
      ∃ ev' w6, (Builtin.append_ #[25, 25] 25 #[ev, .slice (some ⟨w5.heap.size, 0, none⟩) 1 1]).run Tryz.prog (w5.alloc (.cells #[.int .i64 (n : Int)] 3)) = .ok ev' w6 ∧ OfS w os (r + 1) gv' ev' w6 := by
  have hz := h.bel.size
  have hgl := good_len (os.take r)
  rw [List.length_take] at hgl
  have b1 : Below wr.heap.size wr (wr.alloc (.cells #[.int .i64 os[r].k, .string os[r].nm, .string os[r].ot, .int .i64 os[r].fr, .int .i64 os[r].to, .slice a os[r].da.length c] 29)) := below1 _ _
  have h1 := h.next b1
  obtain ⟨vs, hg⟩ := h1.gl
  have z1 := b1.size
  obtain ⟨gv', w5, r1, g2, gr⟩ := hg.push os[r] a c (hd.below (b1.mono hz)) ha (g := wr.heap.size) (heap_new _ _) (by omega) (by omega)
  have il5 : IL w.heap.size w5 ev (endsL (goodL (os.take r))) := own_keep h1.il fun g hg' => gr.block g (own_blk h1.il hg').2.1 (fun e => gi_ne hg h1.il e.symm hg')
  have bel5 : Below w.heap.size w w5 := h1.bel.trans (gr.below h1.bel.size fun x hx => (own_blk hg.row hx).1)
  have z5 := bel5.size
  have b6 : Below w5.heap.size w5 (w5.alloc (.cells #[.int .i64 (n : Int)] 3)) := below1 _ _
  have z6 := b6.size
  have le : (endsL (goodL (os.take r))).length ≤ 16777216 := by unfold endsL; rw [List.length_map, List.length_range]; omega
  obtain ⟨ev', w6, r2, i2, gr2⟩ := (il5.next b6).push n (g := w5.heap.size) (heap_new _ _) le (by omega)
  refine ⟨gv', w5, r1, ev', w6, r2, ?_⟩
  have g3 := g2.next (by omega) b6
  have bev : Below w.heap.size (w5.alloc (.cells #[.int .i64 (n : Int)] 3)) w6 := gr2.below (by omega) fun x hx => (own_blk (il5.next b6) hx).1
  refine ⟨⟨vs ++ [.slice a os[r].da.length c], ?_⟩, ?_, bel5.trans ((b6.mono z5).trans bev)⟩
  · rw [good_yes hr hc]
    refine ⟨g3.len, own_keep g3.row fun g hg' => gr2.block g (own_blk g3.row hg').2.1 (fun e => gi_ne g3 (il5.next b6) hg' e.symm), fun i hi => ?_, g3.DB⟩
    obtain ⟨a', c', e1, e2, e3⟩ := g3.dat i hi
    exact ⟨a', c', e1, e2.below bev, e3⟩
  · rw [good_yes hr hc, endsL_app, ← hn]
    exact i2

end Go.Proofs.YthkkdmblkalknaaGreatDoor
/-
  OpOneForm: the calls of a round of its first loop.
-/
namespace Go.Proofs.YthkkdmblkalknaaGreatDoor
open Go.RowKit

theorem rdo_one {w : World} {o : PO} {v : Value} (hok : okO o) (ho : ∃ a c, v = .slice a o.da.length c ∧ Rd w.heap.size w a o.da.length o.da ∧ (a = none → c = 0)) : RdO (w.heap.size + 1) (w.alloc (.cells #[.int .i64 o.k, .string o.nm, .string o.ot, .int .i64 o.fr, .int .i64 o.to, v] 29)) (some ⟨w.heap.size, 0, none⟩) [o] := by
  obtain ⟨a, c, rfl, h1, h2⟩ := ho
  refine ⟨fun q hq => by rw [List.mem_singleton.1 hq]; exact hok, .inr ⟨w.heap.size, 0, rfl, by omega, fun t ht => ?_⟩⟩
  have hh := heap_new w (.cells #[.int .i64 o.k, .string o.nm, .string o.ot, .int .i64 o.fr, .int .i64 o.to, .slice a o.da.length c] 29)
  have k : ∀ i, (w.alloc (.cells #[.int .i64 o.k, .string o.nm, .string o.ot, .int .i64 o.fr, .int .i64 o.to, .slice a o.da.length c] 29)).cell? ⟨w.heap.size, i, none⟩ = #[Value.int .i64 o.k, .string o.nm, .string o.ot, .int .i64 o.fr, .int .i64 o.to, .slice a o.da.length c][i]? := fun i => by simp only [World.cell?, hh]; rfl
  simp only [List.length_cons, List.length_nil] at ht
  obtain rfl : t = 0 := by omega
  exact ⟨a, c, ⟨k _, k _, k _, k _, k _, k _⟩, (h1.below (below1 _ _)).mono (by omega), h2⟩
/-- the calls of a round -/
def OfK (b off r : Nat) (o : PO) (a : Option Addr) (c : Nat) (wr : World) (Q : World → Nat → Prop) : Prop :=
  Calls Tryz.prog 11 #[.agg #[.int .i64 o.k, .string o.nm, .string o.ot, .int .i64 o.fr, .int .i64 o.to, .slice a o.da.length c]] wr fun e w1 => ∃ va vn vc, e = .returned (.agg #[.int .i64 o.k, .string o.nm, .string o.ot, .int .i64 o.fr, .int .i64 o.to, .slice va vn vc]) ∧
    Calls Tryz.prog 10 #[.agg #[.int .i64 o.k, .string o.nm, .string o.ot, .int .i64 o.fr, .int .i64 o.to, .slice va vn vc]] w1 fun e w2 => e = .returned (.int .i64 o.ck) ∧ OpC w2 b (off + r * 6) o a c ∧
    Calls Tryz.prog 11 #[.agg #[.int .i64 o.k, .string o.nm, .string o.ot, .int .i64 o.fr, .int .i64 o.to, .slice a o.da.length c]] w2 fun e w3 => ∃ ya yn yc, e = .returned (.agg #[.int .i64 o.k, .string o.nm, .string o.ot, .int .i64 o.fr, .int .i64 o.to, .slice ya yn yc]) ∧
    Calls Tryz.prog 12 #[.slice (some ⟨w3.heap.size, 0, none⟩) 1 1] (w3.alloc (.cells #[.int .i64 o.k, .string o.nm, .string o.ot, .int .i64 o.fr, .int .i64 o.to, .slice ya yn yc] 29)) fun e w4 => ∃ xa xn xc, e = .returned (.tuple #[.slice xa xn xc, .int .i64 o.ck]) ∧ OpC w4 b (off + r * 6) o a c ∧ Q w4 xn
theorem ofK_any {D : Nat} {w wr : World} {b off r : Nat} {o : PO} {a : Option Addr} {c : Nat} (hG : GT w) (hD : D = w.heap.size) (hB : Below D w wr) (hb : b < D) (hok : okO o) (hO : OpC wr b (off + r * 6) o a c) (hR : Rd D wr a o.da.length o.da) (ha : a = none → c = 0) :
    OfK b off r o a c wr fun w4 xn => Below wr.heap.size wr w4 ∧ (o.ck = 0 → xn = (encO o).length) := by
  subst hD
  have hz := hB.size
  refine (CopyOp_any o a c wr (hR.mono hz) ha hok.da).mono ?_
  rintro e w1 ⟨v1, rfl, o1, b1⟩
  obtain ⟨va, vc, rfl⟩ := o1.form
  have z1 := b1.size
  have g1 : GT w1 := hG.next (hB.trans (b1.mono hz))
  refine ⟨va, _, vc, rfl, (Check_any o.k o.nm o.ot o.fr o.to va o.da.length vc w1 g1 hok.nm hok.ot hok.f0 hok.t1).mono ?_⟩
  rintro e w2 ⟨rfl, b2⟩
  have b12 : Below wr.heap.size wr w2 := b1.trans (b2.mono z1)
  have z2 := b12.size
  refine ⟨rfl, hO.keep (b12.block b (by omega)), (CopyOp_any o a c w2 ((hR.below (b12.mono hz)).mono (by omega)) ha hok.da).mono ?_⟩
  rintro e w3 ⟨v3, rfl, o3, b3⟩
  obtain ⟨ya, yc, rfl⟩ := o3.form
  have b13 : Below wr.heap.size wr w3 := b12.trans (b3.mono z2)
  have z3 := b13.size
  refine ⟨ya, _, yc, rfl, ?_⟩
  have hisB : Pl.isB o.da := hR.2.1
  obtain ⟨ya', yc', e1, _, r3, n3⟩ := o3.rd hisB
  have rd1 := rdo_one (w := w3) (v := .slice ya o.da.length yc) hok ⟨ya', yc', e1, r3, n3⟩
  have b4 : Below w3.heap.size w3 (w3.alloc (.cells #[.int .i64 o.k, .string o.nm, .string o.ot, .int .i64 o.fr, .int .i64 o.to, .slice ya o.da.length yc] 29)) := below1 _ _
  have z4 : (w3.alloc (.cells #[.int .i64 o.k, .string o.nm, .string o.ot, .int .i64 o.fr, .int .i64 o.to, .slice ya o.da.length yc] 29)).heap.size = w3.heap.size + 1 := by simp
  rw [← z4] at rd1
  have b14 : Below wr.heap.size wr (w3.alloc (.cells #[.int .i64 o.k, .string o.nm, .string o.ot, .int .i64 o.fr, .int .i64 o.to, .slice ya o.da.length yc] 29)) := b13.trans (b4.mono z3)
  have el : encL [o] = encO o := by simp [encL]
  refine (Encode_any (some ⟨w3.heap.size, 0, none⟩) 1 [o] _ (by simp) (by rw [el]; exact encO_len hok) (hG.next (hB.trans (b14.mono hz))) rd1).mono ?_
  rintro e w5 ⟨v5, rfl, o5, b5⟩
  obtain ⟨xa, xc, rfl⟩ := o5.form
  have ck1 : ckA [o] = o.ck := by
    unfold ckA ckA
    split
    · rename_i h; exact h.symm
    · rfl
  have b15 : Below wr.heap.size wr w5 := b14.trans (b5.mono b14.size)
  rw [ck1]
  refine ⟨xa, _, xc, rfl, hO.keep (b15.block b (by omega)), b15, fun h => ?_⟩
  rw [if_pos h, el]

end Go.Proofs.YthkkdmblkalknaaGreatDoor
