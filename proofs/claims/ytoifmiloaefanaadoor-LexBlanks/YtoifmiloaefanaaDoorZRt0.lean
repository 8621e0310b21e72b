import Derived.Test.YtoifmiloaefanaaDoorZUr3
/-
  PLAIN: what is written of tokens that may be is cut into them again, whatever gaps stand behind them.
-/
namespace Go.Proofs.YtoifmiloaefanaaDoor

/-! ### a token at a place -/
theorem pas_app {p : Int → Bool} : ∀ (l rest : List Int), (∀ z ∈ l, p z = true) → (∀ z, rest.head? = some z → p z = false) → pas p (l ++ rest) = l.length
  | [], rest, _, h => by
    cases rest with
    | nil => rfl
    | cons z r => simp [pas, h z rfl]
  | z :: l, rest, h1, h2 => by
    have ih := pas_app l rest (fun y hy => h1 y (by simp [hy])) h2
    simp only [List.cons_append, pas, h1 z (by simp), if_true, ih, List.length_cons]
theorem pas_len {p : Int → Bool} : ∀ (l : List Int), pas p l = l.length → ∀ z ∈ l, p z = true
  | [], _, z, hz => by simp at hz
  | y :: l, h, z, hz => by
    simp only [pas] at h
    cases q : p y with
    | false => rw [q] at h; simp at h
    | true =>
      rw [q, if_pos rfl, List.length_cons] at h
      rcases List.mem_cons.1 hz with rfl | hz
      · exact q
      · exact pas_len l (by omega) z hz
theorem inn_more : ∀ (a : List Int) (o m : Nat) (rest : List Int), inn o a = (m, 0) → inn o (a ++ rest) = (m, 0)
  | [], o, m, rest, h => by simp [inn] at h
  | z :: r, o, m, rest, h => by
    have ih : ∀ o m, inn o r = (m, 0) → inn o (r ++ rest) = (m, 0) := fun o m h => inn_more r o m rest h
    have upi : ∀ o m, up (inn o r) = (m, 0) → up (inn o (r ++ rest)) = (m, 0) := fun o m h => by
      obtain ⟨x, y⟩ : Nat × Nat := inn o r
      cases hr : inn o r with
      | mk p q =>
        rw [hr] at h
        simp [up] at h
        obtain ⟨rfl, rfl⟩ := h
        rw [ih o p hr]
        rfl
    rw [List.cons_append]
    simp only [inn] at h ⊢
    split
    · rename_i q0; rw [if_pos q0] at h; exact upi _ _ h
    rename_i q0
    rw [if_neg q0] at h
    split
    · rename_i q; rw [if_pos q] at h; exact upi _ _ h
    rename_i q1
    rw [if_neg q1] at h
    split
    · rename_i q; rw [if_pos q] at h; exact upi _ _ h
    rename_i q2
    rw [if_neg q2] at h
    split
    · rename_i q; rw [if_pos q] at h; exact h
    rename_i q3
    rw [if_neg q3] at h
    by_cases q4 : o = 0 ∧ z = 36 ∧ r.head? = some 123
    · rw [if_pos q4] at h
      have h5 : (r ++ rest).head? = some 123 := by
        cases r with
        | nil => simp at q4
        | cons y s => simpa using q4.2.2
      rw [if_pos ⟨q4.1, q4.2.1, h5⟩]
      exact upi _ _ h
    · rw [if_neg q4] at h
      simp at h
theorem getD_drop (zs : List Int) (k : Nat) : zs.getD k 0 = (zs.drop k).getD 0 0 := by
  rw [List.getD_eq_getElem?_getD, List.getD_eq_getElem?_getD, List.getElem?_drop, Nat.add_zero]
theorem subL_drop (zs : List Int) (a m : Nat) : subL zs a (a + m) = (zs.drop a).take m := by
  unfold subL
  rw [List.drop_take, Nat.add_sub_cancel_left]
theorem at_drop (zs : List Int) (k e : Nat) : zs[k + e]? = (zs.drop k)[e]? := by rw [List.getElem?_drop]
theorem head_app {l rest : List Int} (h : l ≠ []) : (l ++ rest).getD 0 0 = l.getD 0 0 := by
  cases l with
  | nil => exact absurd rfl h
  | cons z r => rfl
theorem wd_split {z : Int} (h : isWd z = false) : isLet z = false ∧ isDig z = false := by
  unfold isWd at h
  simpa using h
/-- a token that may be, written at a place -/
theorem tok_at {t : Tk} {zs rest : List Int} {k : Nat} (hm : mayT t = true) (hz : zs.drop k = wrT t ++ rest) (hr : ∀ z, rest.head? = some z → isWd z = false) : skA false zs k = k ∧ tokA zs k = (⟨t.k, t.tx, t.n, (k : Int)⟩, k + (wrT t).length, 0) := by
  have hne := wrT_ne hm
  have hg : zs.getD k 0 = (wrT t).getD 0 0 := by rw [getD_drop, hz, head_app hne]
  have hk : k < zs.length := by
    have := congrArg List.length hz
    rw [List.length_drop, List.length_append] at this
    have := List.length_pos_iff.2 hne
    omega
  have hsub : ∀ m, subL zs k (k + m) = (wrT t ++ rest).take m := fun m => by rw [subL_drop, hz]
  obtain ⟨kk, tx, n, a⟩ := t
  have hm0 := hm
  unfold mayT at hm
  by_cases k1 : kk = 1
  · subst k1
    have hw : wrT ⟨1, tx, n, a⟩ = tx := by unfold wrT wrL; simp
    rw [hw] at hz hg hsub hne ⊢
    have hn : n = 0 := by
      by_cases q : n = 0
      · exact q
      · simp [q] at hm
    subst hn
    simp at hm
    obtain ⟨_, h2, h3⟩ := hm
    have hl : isLet (tx.getD 0 0) = true := by rw [List.getD_eq_getElem?_getD]; exact h2
    have hall := pas_len tx (by simpa [pasA] using h3)
    have hp : pasA isWd zs k = k + tx.length := by unfold pasA; rw [hz, pas_app tx rest hall hr]
    refine ⟨skA_stop hk (by rw [hg]; exact (let_bl hl).1) (by rw [hg]; exact (let_bl hl).2), ?_⟩
    rw [tok_let (by rw [hg]; exact hl), hp, hsub, List.take_left]
  by_cases k4 : kk = 4
  · subst k4
    have hw : wrT ⟨4, tx, n, a⟩ = tx := by unfold wrT wrL; simp
    rw [hw] at hz hg hsub hne ⊢
    have hn : n = 0 := by
      by_cases q : n = 0
      · exact q
      · simp [q] at hm
    subst hn
    simp at hm
    obtain ⟨h2, h3⟩ := hm
    have hl : isMk (tx.getD 0 0) = true := by rw [List.getD_eq_getElem?_getD]; exact h3
    have hb : isBl (tx.getD 0 0) = false ∧ tx.getD 0 0 ≠ 35 := by
      generalize tx.getD 0 0 = z at hl
      unfold isMk at hl
      unfold isBl
      simp at hl ⊢
      omega
    refine ⟨skA_stop hk (by rw [hg]; exact hb.1) (by rw [hg]; exact hb.2), ?_⟩
    rw [tok_mk (by rw [hg]; exact hl), h2, hsub 1, ← h2, List.take_left]
  by_cases k3 : kk = 3
  · subst k3
    simp at hm
    obtain ⟨rfl, h0, h1⟩ := hm
    obtain ⟨v, rfl⟩ : ∃ v : Nat, n = (v : Int) := ⟨n.toNat, by omega⟩
    have hw : wrT ⟨3, [], (v : Int), a⟩ = itoL (v : Int) := by unfold wrT; simp
    rw [hw] at hz hg hsub hne ⊢
    have hd := itoL_dig v
    have hd0 := hd _ (getD_mem hne)
    have hb : isBl ((itoL (v : Int)).getD 0 0) = false ∧ (itoL (v : Int)).getD 0 0 ≠ 35 := by
      generalize (itoL (v : Int)).getD 0 0 = z at hd0
      unfold isDig at hd0
      unfold isBl
      simp at hd0 ⊢
      omega
    refine ⟨skA_stop hk (by rw [hg]; exact hb.1) (by rw [hg]; exact hb.2), ?_⟩
    have hE : dgE zs k = k + (itoL (v : Int)).length := by unfold dgE pasA; rw [hz, pas_app _ rest hd (fun z hz => (wd_split (hr z hz)).2)]
    have hat : zs[k + (itoL (v : Int)).length]? = rest.head? := by
      rw [at_drop, hz, List.getElem?_append_right (Nat.le_refl _), Nat.sub_self]
      cases rest <;> rfl
    have hno : ∀ z, zs[k + (itoL (v : Int)).length]? = some z → isWd z = false := fun z h => hr z (by rw [← hat]; exact h)
    have hU : unU zs (k + (itoL (v : Int)).length) = 1 := by
      unfold unU
      rw [if_neg (fun h => by have := hno _ h; revert this; decide), if_neg (fun h => by have := hno _ h; revert this; decide)]
    have hUE : unE zs (k + (itoL (v : Int)).length) = k + (itoL (v : Int)).length := by
      unfold unE
      rw [if_neg]
      rintro (h | h)
      · have := hno _ h; revert this; decide
      · have := hno _ h; revert this; decide
    have hV : nbT zs k = (v : Int) := by
      unfold nbT nbV
      rw [hE, hU, hsub, List.take_left, dgV_itoL]
      omega
    have hN : nbE zs k = k + (itoL (v : Int)).length := by unfold nbE; rw [hE, hUE]
    have hW : wdAt zs (nbE zs k) = false := by
      rw [hN]
      unfold wdAt
      cases h : zs[k + (itoL (v : Int)).length]? with
      | none => rfl
      | some z => exact hno z h
    unfold tokA
    rw [hg, if_neg (by rw [dig_not_let hd0]; simp), if_pos hd0, hV, hW, hN, if_neg (by rintro (h | h) <;> first | omega | cases h)]
  by_cases k2 : kk = 2
  · subst k2
    have hw : wrT ⟨2, tx, n, a⟩ = 34 :: (tx ++ [34]) := by unfold wrT wrL; simp
    rw [hw] at hz hg hsub hne ⊢
    have hn : n = 0 := by
      by_cases q : n = 0
      · exact q
      · simp [q] at hm
    subst hn
    have hm1 : (innA 0 (tx ++ [34]) 0).2 ≠ 1 ∧ (innA 0 (tx ++ [34]) 0).1 = tx.length := by simpa using hm
    have hI : inn 0 (tx ++ [34]) = (tx.length, 0) := by
      have e : innA 0 (tx ++ [34]) 0 = inn 0 (tx ++ [34]) := by unfold innA; simp
      rw [e] at hm1
      have h2 := inn_two' (tx ++ [34]) 0
      have h3 := innA_end2 (tx ++ [34]) 0 0 (Nat.zero_le _)
      rw [e] at h3
      have h4 : (inn 0 (tx ++ [34])).2 = 0 := by
        by_cases q : (inn 0 (tx ++ [34])).2 = 2
        · have := h3 q
          rw [hm1.2] at this
          simp at this
        · omega
      exact Prod.ext hm1.2 h4
    have hd1 : zs.drop (k + 1) = tx ++ [34] ++ rest := by
      rw [← List.drop_drop, hz]
      simp
    have hIz : innA 0 zs (k + 1) = (k + 1 + tx.length, 0) := by
      unfold innA
      rw [hd1, inn_more _ _ _ rest hI]
    have hg34 : zs.getD k 0 = 34 := by rw [hg]; rfl
    refine ⟨skA_stop hk (by rw [hg34]; rfl) (by rw [hg34]; decide), ?_⟩
    unfold tokA
    rw [hg34, if_neg (by decide), if_neg (by decide), if_pos rfl, hIz, if_pos rfl]
    have hs : subL zs (k + 1) (k + 1 + tx.length) = tx := by
      rw [subL_drop, hd1, List.append_assoc, List.take_left]
    simp only [hs]
    simp
    omega
  · simp [k1, k2, k3, k4] at hm

/-! ### tokens with gaps behind them -/
/-- a gap says nothing -/
def GapOk (g : List Int) : Prop := (∀ zs k rest, zs.drop k = g ++ rest → skA false zs k = skA false zs (k + g.length)) ∧ ∀ z, g.head? = some z → isWd z = false
def glu : List (Tk × List Int) → List Int
  | [] => []
  | p :: r => wrT p.1 ++ (p.2 ++ glu r)
def Glue : List (Tk × List Int) → Prop
  | [] => True
  | p :: r => mayT p.1 = true ∧ GapOk p.2 ∧ (p.2 = [] → r = []) ∧ Glue r
def strip (t : Tk) : Tk := ⟨t.k, t.tx, t.n, 0⟩
theorem lex_glue : ∀ (ps : List (Tk × List Int)) (zs : List Int) (k c : Nat), Glue ps → c + ps.length ≤ 16384 → k ≤ zs.length → zs.drop k = glu ps → ∃ us, lexA zs k c = (us, 0, 0) ∧ us.map strip = ps.map fun p => strip p.1
  | [], zs, k, c, _, _, hk, hz => by
    have : zs.length ≤ k := by
      have := congrArg List.length hz
      simp [glu] at this
      omega
    rw [lexA_end c (by rw [skA_end this]; exact this)]
    exact ⟨[], rfl, rfl⟩
  | (t, g) :: r, zs, k, c, hG, hc, hk, hz => by
    obtain ⟨hm, hgap, hlast, hrest⟩ := hG
    simp only at hm hgap hlast
    have hz' : zs.drop k = wrT t ++ (g ++ glu r) := hz
    have hhead : ∀ z, (g ++ glu r).head? = some z → isWd z = false := fun z h => by
      cases g with
      | nil =>
        rw [hlast rfl] at h
        simp [glu] at h
      | cons y s => exact hgap.2 z (by simpa using h)
    obtain ⟨h1, h2⟩ := tok_at hm hz' hhead
    have hlen := congrArg List.length hz'
    rw [List.length_drop, List.length_append, List.length_append] at hlen
    have hw0 := List.length_pos_iff.2 (wrT_ne hm)
    have hnx : nxtA zs k c = (⟨t.k, t.tx, t.n, (k : Int)⟩, k + (wrT t).length, 0) := by
      unfold nxtA
      rw [if_neg (by simp at hc; omega), h2]
    have hd1 : zs.drop (k + (wrT t).length) = g ++ glu r := by rw [← List.drop_drop, hz', List.drop_left]
    have hd2 : zs.drop (k + (wrT t).length + g.length) = glu r := by rw [← List.drop_drop, hd1, List.drop_left]
    obtain ⟨us, e1, e2⟩ := lex_glue r zs (k + (wrT t).length + g.length) (c + 1) hrest (by simp at hc; omega) (by omega) hd2
    rw [lexA_ok hk (by rw [h1]; omega) (by rw [h1, hnx]), h1, hnx]
    simp only
    rw [lexA_skip (by omega) (k + (wrT t).length + g.length) (by omega) (hgap.1 zs _ _ hd1), e1]
    exact ⟨⟨t.k, t.tx, t.n, (k : Int)⟩ :: us, rfl, by simp [strip, e2]⟩
theorem gap32 : GapOk [32] := ⟨fun zs k rest h => by
  have hk : k < zs.length := by
    have := congrArg List.length h
    simp at this
    omega
  have hg : zs.getD k 0 = 32 := by rw [getD_drop, h]; rfl
  exact skA_blank hk (by rw [hg]; rfl), fun z h => by simp at h; subst h; rfl⟩
theorem gap0 : GapOk [] := ⟨fun zs k rest h => rfl, fun z h => by simp at h⟩
/-- what is joined is glued -/
def gapJ : List Tk → List (Tk × List Int)
  | [] => []
  | [t] => [(t, [])]
  | t :: r => (t, [32]) :: gapJ r
theorem gapJ_map : ∀ (ts : List Tk), (gapJ ts).map (fun p => strip p.1) = ts.map strip
  | [] => rfl
  | [t] => rfl
  | t :: u :: r => by
    have ih := gapJ_map (u :: r)
    have e : gapJ (t :: u :: r) = (t, [32]) :: gapJ (u :: r) := rfl
    rw [e, List.map_cons, ih]
    rfl
theorem gapJ_glu : ∀ (ts : List Tk), glu (gapJ ts) = jnL (ts.map wrT)
  | [] => rfl
  | [t] => by simp [gapJ, glu, jnL]
  | t :: u :: r => by
    have ih := gapJ_glu (u :: r)
    have e : gapJ (t :: u :: r) = (t, [32]) :: gapJ (u :: r) := rfl
    rw [e, glu, ih]
    rfl
theorem gapJ_ok : ∀ (ts : List Tk), (∀ t ∈ ts, mayT t = true) → Glue (gapJ ts)
  | [], _ => trivial
  | [t], h => ⟨h t (by simp), gap0, fun _ => rfl, trivial⟩
  | t :: u :: r, h => by
    have ih := gapJ_ok (u :: r) (fun x hx => h x (by simp at hx ⊢; exact .inr hx))
    exact ⟨h t (by simp), gap32, fun e => by simp at e, ih⟩
theorem gapJ_len (ts : List Tk) : (gapJ ts).length = ts.length := by
  have := congrArg List.length (gapJ_map ts)
  simpa using this
/-- TOKENS OF WHAT IS WRITTEN -/
theorem lex_back (ts : List Tk) (h : ∀ t ∈ ts, mayT t = true) (hn : ts.length ≤ 16384) (hl : (jnL (ts.map wrT)).length ≤ 65536) : ∃ us, lexP (jnL (ts.map wrT)) = (us, 0, 0) ∧ us.map strip = ts.map strip := by
  obtain ⟨us, h1, h2⟩ := lex_glue (gapJ ts) (jnL (ts.map wrT)) 0 0 (gapJ_ok ts h) (by rw [gapJ_len]; omega) (Nat.zero_le _) (by rw [gapJ_glu]; rfl)
  refine ⟨us, ?_, by rw [h2, gapJ_map]⟩
  unfold lexP
  rw [if_neg (by omega), h1]
theorem wr_strip (t : Tk) : wrT (strip t) = wrT t := rfl
theorem may_strip (t : Tk) : mayT (strip t) = mayT t := rfl
theorem map_strip {α : Type} {f : Tk → α} (hf : ∀ t, f (strip t) = f t) (ts : List Tk) : (ts.map strip).map f = ts.map f := by
  rw [List.map_map]
  exact List.map_congr_left fun t _ => hf t
theorem strip_wr {us ts : List Tk} (h : us.map strip = ts.map strip) : us.map wrT = ts.map wrT := by
  rw [← map_strip wr_strip us, h, map_strip wr_strip]
theorem strip_may {us ts : List Tk} (h : us.map strip = ts.map strip) (hm : ∀ t ∈ ts, mayT t = true) : ∀ t ∈ us, mayT t = true := fun t ht => by
  have : strip t ∈ ts.map strip := by rw [← h]; exact List.mem_map.2 ⟨t, ht, rfl⟩
  obtain ⟨u, hu, e⟩ := List.mem_map.1 this
  rw [← may_strip, ← e, may_strip]
  exact hm u hu

end Go.Proofs.YtoifmiloaefanaaDoor
/-
  alike: tokens that are the same but for their places.
-/
namespace Go.Proofs.YtoifmiloaefanaaDoor
open Go.RowKit

theorem strip_at {us ts : List Tk} (h : us.map strip = ts.map strip) {j : Nat} (h1 : j < us.length) (h2 : j < ts.length) : us[j].k = ts[j].k ∧ us[j].tx = ts[j].tx ∧ us[j].n = ts[j].n := by
  have e : strip us[j] = strip ts[j] := by
    have := congrArg (fun l => l[j]?) h
    simp only [List.getElem?_map, List.getElem?_eq_getElem h1, List.getElem?_eq_getElem h2, Option.map_some] at this
    exact Option.some.inj this
  unfold strip at e
  simp at e
  exact e
set_option maxRecDepth 100000 in
set_option maxHeartbeats 2000000 in
theorem alike_yes (a1 a2 : Option Addr) (n c1 c2 : Nat) (us ts : List Tk) (w : World) (h1 : us.length = n) (h2 : ts.length = n) (he : us.map strip = ts.map strip) (R1 : TkR w a1 us) (R2 : TkR w a2 ts) (hn : n ≤ 16777216) :
    Calls Tryd.prog 12 #[.slice a1 n c1, .slice a2 n c2] w fun e w' => e = .returned (.bool true) ∧ Below w.heap.size w w' := by
  have HR1 := hid R1
  have HR2 := hid R2
  have HE := hid he
  have hbn : ((n : Int) == (n : Int)) = true := by simp
  clear R1 R2 he
  go_enter Tryd.func12, Tryd.ntmps12
  go_wp2_with fail
  go_loopw [5] (fun iv wr => ∃ j : Nat, iv = .int .i64 (j : Int) ∧ j ≤ n ∧ Below w.heap.size w wr) (fun iv _ => n - (intOf iv).toNat)
  case atStart => exact ⟨0, rfl, Nat.zero_le _, Below.refl _ _⟩
  case round =>
    obtain ⟨j, rfl, hj, hBe⟩ := hrel
    by_cases hjn : j < n
    · have hj1 : j < us.length := by omega
      have hj2 : j < ts.length := by omega
      obtain ⟨e1, e2, e3⟩ := strip_at HE.out hj1 hj2
      obtain ⟨g1, rfl, hg1, hc1⟩ := (HR1.out.next hBe).resolve_left (by intro e; rw [e] at hj1; simp at hj1)
      obtain ⟨g2, rfl, hg2, hc2⟩ := (HR2.out.next hBe).resolve_left (by intro e; rw [e] at hj2; simp at hj2)
      obtain ⟨s0, s1, s2, s3⟩ := hc1 j hj1
      obtain ⟨t0, t1, t2, t3⟩ := hc2 j hj2
      rw [e1] at s0
      rw [e2] at s1
      rw [e3] at s2
      have hjn' : (j : Int) < (n : Int) := by omega
      have HB := hid (hBe.trans (below_drew w.heap.size wr))
      clear hBe hc1 hc2 hg1 hg2 e1 e2 e3 s3 t3
      generalize strOfNums ts[j].tx = S at *
      generalize ts[j].k = kk at *
      generalize ts[j].n = nn at *
      have q1 : (kk != kk) = false := by simp
      have q2 : (nn != nn) = false := by simp
      have q3 : (S.toList == S.toList) = true := by simp
      go_wp2_with fail
      go_region
      go_wp2_with fail
      exact ⟨⟨j + 1, by go_num, by omega, HB.out⟩, by simp [intOf]; omega⟩
    · have hjn' : ¬ (j : Int) < (n : Int) := by omega
      have HB := hid hBe
      clear hBe
      go_wp2_with fail
      go_ret
      exact ⟨rfl, HB.out⟩

end Go.Proofs.YtoifmiloaefanaaDoor
/-
  weight: how many bytes tokens that may be take.
-/
namespace Go.Proofs.YtoifmiloaefanaaDoor
open Go.RowKit

theorem itoL_div {v : Nat} (h : 9 < v) : (itoL (v : Int)).length = (itoL ((v / 10 : Nat) : Int)).length + 1 := by
  rw [itoL_big (by omega), List.length_append]
  rfl
theorem itoL_le {v : Nat} (h : ¬ 9 < v) : (itoL (v : Int)).length = 1 := by
  rw [itoL_small (by omega)]
  rfl
theorem wrT_size {t : Tk} (hm : mayT t = true) : (t.k = 2 → (wrT t).length = t.tx.length + 2) ∧ (t.k ≠ 2 → t.k ≠ 3 → (wrT t).length = t.tx.length) ∧ (t.k = 3 → t.tx.length = 0 ∧ ∃ v : Nat, t.n = (v : Int) ∧ v ≤ 1099511627776 ∧ (wrT t).length = (itoL (v : Int)).length) := by
  obtain ⟨k, l, n, a⟩ := t
  refine ⟨fun h => ?_, fun h2 h3 => ?_, fun h => ?_⟩
  · simp only at h
    subst h
    unfold wrT wrL
    simp
  · simp only at h2 h3
    have hk : k = 1 ∨ k = 4 := by
      by_cases h1 : k = 1
      · exact .inl h1
      by_cases h4 : k = 4
      · exact .inr h4
      unfold mayT at hm
      simp [h3, h2, h1, h4] at hm
    unfold wrT wrL
    simp only
    rw [if_neg h3, if_pos hk]
  · simp only at h
    subst h
    unfold mayT at hm
    simp at hm
    obtain ⟨rfl, h0, h1⟩ := hm
    obtain ⟨v, rfl⟩ : ∃ v : Nat, n = (v : Int) := ⟨n.toNat, by omega⟩
    refine ⟨rfl, v, rfl, by omega, ?_⟩
    unfold wrT
    simp
theorem jnL_nextL {ts : List Tk} {j : Nat} (hj : j < ts.length) : (jnL ((ts.map wrT).take (j + 1))).length = (jnL ((ts.map wrT).take j)).length + (if j = 0 then 0 else 1) + (wrT ts[j]).length := by
  obtain ⟨h1, h2⟩ := jnL_next hj
  by_cases q : j = 0
  · rw [h2 q, if_pos q]
    subst q
    simp [jnL]
  · rw [h1 (by omega), if_neg q]
    simp
    omega
set_option maxRecDepth 100000 in
set_option maxHeartbeats 4000000 in
theorem weight_any (a : Option Addr) (n c : Nat) (ts : List Tk) (w : World) (hn : ts.length = n) (hN : n ≤ 16777216) (hR : TkR w a ts) (hm : ∀ t ∈ ts, mayT t = true) (hb : ∀ j, j ≤ n → (jnL ((ts.map wrT).take j)).length ≤ 1099511627776) (hx : ∀ t ∈ ts, t.tx.length ≤ 16777216) :
    Calls Tryd.prog 11 #[.slice a n c] w fun e w' => e = .returned (.int .i64 ((jnL (ts.map wrT)).length : Int)) ∧ w' = w := by
  have HR := hid hR
  have HM := hid hm
  have Hb := hid hb
  have HX := hid hx
  clear hR hm hb hx
  go_enter Tryd.func11, Tryd.ntmps11
  go_wp2_with fail
  go_loop [3, 4, 5] (fun kv iv _ => ∃ j : Nat, iv = .int .i64 (j : Int) ∧ kv = .int .i64 ((jnL ((ts.map wrT).take j)).length : Int) ∧ j ≤ n) (fun _ iv _ => n - (intOf iv).toNat)
  case atStart => exact ⟨0, rfl, rfl, Nat.zero_le _⟩
  case round =>
    obtain ⟨j, rfl, rfl, hj⟩ := hrel
    by_cases hjn : j < n
    · have hjt : j < ts.length := by omega
      have hjn' : (j : Int) < (n : Int) := by omega
      obtain ⟨g, rfl, hg, hcs⟩ := HR.out.resolve_left (by intro e; rw [e] at hjt; simp at hjt)
      obtain ⟨t0, t1, t2, t3⟩ := hcs j hjt
      have hnx := jnL_nextL hjt
      obtain ⟨z1, z2, z3⟩ := wrT_size (HM.out _ (List.getElem_mem hjt))
      have hb0 := Hb.out j (by omega)
      have hb1 := Hb.out (j + 1) (by omega)
      have hxl := HX.out _ (List.getElem_mem hjt)
      have hsz := str_size ts[j].tx
      obtain ⟨L, HL⟩ : ∃ L, Hid (L = (jnL ((ts.map wrT).take j)).length) := ⟨_, rfl⟩
      obtain ⟨L2, HL2⟩ : ∃ L2, Hid (L2 = (jnL ((ts.map wrT).take (j + 1))).length) := ⟨_, rfl⟩
      rw [← HL2.out, ← HL.out] at hnx
      rw [← HL.out] at hb0 ⊢
      rw [← HL2.out] at hb1
      have HG : Hid (∀ (x : Int) , x = (L2 : Int) → ∀ iv, iv = ((j : Int) + 1) → ∃ j' : Nat, Value.int .i64 iv = Value.int .i64 (j' : Int) ∧ Value.int .i64 x = .int .i64 ((jnL ((ts.map wrT).take j')).length : Int) ∧ j' ≤ n) := fun x hx iv hiv => ⟨j + 1, by rw [hiv, Int.natCast_add]; rfl, by rw [hx, HL2.out], by omega⟩
      clear hcs hg HL HL2 t3
      generalize ts[j] = t at *
      obtain ⟨tk, tl, tn, ta⟩ := t
      simp only at t0 t1 t2 z1 z2 z3 hxl hsz hnx
      generalize strOfNums tl = U at *
      have hU : U.size ≤ 16777216 := by omega
      have HSZ := hid hsz
      have HNX := hid hnx
      clear hsz hnx hxl
      by_cases k2 : tk = 2
      · have Hz := hid (z1 k2)
        subst k2
        clear z1 z2 z3
        by_cases j0 : j = 0
        · subst j0
          go_wp2_with fail
          refine ⟨HG.out _ ?_ _ (by omega), by simp [intOf]; omega⟩
          have := HNX.out
          have := Hz.out
          have := HSZ.out
          simp at *
          omega
        · have j0' : (0 : Int) < (j : Int) := by omega
          go_wp2_with fail
          refine ⟨HG.out _ ?_ _ rfl, by simp [intOf]; omega⟩
          have h1 := HNX.out
          have h2 := Hz.out
          have h3 := HSZ.out
          rw [if_neg j0] at h1
          omega
      by_cases k3 : tk = 3
      · obtain ⟨e0, v, rfl, hv, hz⟩ := z3 k3
        have Hz := hid hz
        have He := hid e0
        subst k3
        clear z1 z2 z3 hz e0
        obtain ⟨K, HK⟩ : ∃ K : Nat, Hid (K = L + (if j = 0 then 0 else 1)) := ⟨_, rfl⟩
        have hKb : K ≤ 1099511627777 := by
          have := HK.out
          split at this <;> omega
        have HD : Hid (L2 = K + (itoL (v : Int)).length) := by
          have h1 := HNX.out
          have h2 := Hz.out
          have h3 := HK.out
          show _ = _
          omega
        have hU0 : U.size = 0 := by have := HSZ.out; have := He.out; omega
        by_cases j0 : j = 0
        · have HK0 : Hid (K = L) := by have := HK.out; rw [if_pos j0] at this; exact this
          subst j0
          go_wp2_with fail
          go_loop [3, 5] (fun kv vv => ∃ (x y : Nat), kv = .int .i64 (x : Int) ∧ vv = .int .i64 (y : Int) ∧ y ≤ 1099511627776 ∧ x + (itoL (y : Int)).length = K + 1 + (itoL (v : Int)).length) (fun _ vv => (intOf vv).toNat)
          case atStart => exact ⟨K + 1, v, by have := HK0.out; simp; omega, rfl, hv, rfl⟩
          case round =>
            obtain ⟨x, y, rfl, rfl, hy, hxy⟩ := hrel
            have HXY := hid hxy
            have hxb : x ≤ 2199023255552 := by
              have := itoL_len 12 v (by omega)
              omega
            by_cases q : 9 < y
            · have q' : (9 : Int) < (y : Int) := by omega
              have hq : ((y : Int)).tdiv 10 = ((y / 10 : Nat) : Int) := by rw [Int.tdiv_eq_ediv_of_nonneg (by omega)]; omega
              have Hq := hid q
              clear hxy
              obtain ⟨y', hy'⟩ : ∃ y' : Nat, y' = y / 10 := ⟨_, rfl⟩
              rw [← hy'] at hq
              have Hy' := hid hy'
              have hyb : (y' : Int) ≤ 1099511627776 := by omega
              clear hy'
              go_wp2_with fail
              refine ⟨⟨x + 1, y', by go_num, rfl, by omega, ?_⟩, by have := Hy'.out; have := Hq.out; simp [intOf]; omega⟩
              have h1 := itoL_div Hq.out
              have h2 := HXY.out
              rw [← Hy'.out] at h1
              omega
            · have q' : ¬ (9 : Int) < (y : Int) := by omega
              have h1 := itoL_le q
              have HEQ : Hid (x = L2) := by have := HD.out; show _ = _; omega
              clear hxy
              go_wp2_with fail
              refine ⟨HG.out _ (by rw [HEQ.out]) _ (by omega), by simp [intOf]; omega⟩
        · have HK0 : Hid (K = L + 1) := by have := HK.out; rw [if_neg j0] at this; exact this
          have j0' : (0 : Int) < (j : Int) := by omega
          go_wp2_with fail
          go_loop [3, 5] (fun kv vv => ∃ (x y : Nat), kv = .int .i64 (x : Int) ∧ vv = .int .i64 (y : Int) ∧ y ≤ 1099511627776 ∧ x + (itoL (y : Int)).length = K + 1 + (itoL (v : Int)).length) (fun _ vv => (intOf vv).toNat)
          case atStart => exact ⟨K + 1, v, by have := HK0.out; simp; omega, rfl, hv, rfl⟩
          case round =>
            obtain ⟨x, y, rfl, rfl, hy, hxy⟩ := hrel
            have HXY := hid hxy
            have hxb : x ≤ 2199023255552 := by
              have := itoL_len 12 v (by omega)
              omega
            by_cases q : 9 < y
            · have q' : (9 : Int) < (y : Int) := by omega
              have hq : ((y : Int)).tdiv 10 = ((y / 10 : Nat) : Int) := by rw [Int.tdiv_eq_ediv_of_nonneg (by omega)]; omega
              have Hq := hid q
              clear hxy
              obtain ⟨y', hy'⟩ : ∃ y' : Nat, y' = y / 10 := ⟨_, rfl⟩
              rw [← hy'] at hq
              have Hy' := hid hy'
              have hyb : (y' : Int) ≤ 1099511627776 := by omega
              clear hy'
              go_wp2_with fail
              refine ⟨⟨x + 1, y', by go_num, rfl, by omega, ?_⟩, by have := Hy'.out; have := Hq.out; simp [intOf]; omega⟩
              have h1 := itoL_div Hq.out
              have h2 := HXY.out
              rw [← Hy'.out] at h1
              omega
            · have q' : ¬ (9 : Int) < (y : Int) := by omega
              have h1 := itoL_le q
              have HEQ : Hid (x = L2) := by have := HD.out; show _ = _; omega
              clear hxy
              go_wp2_with fail
              refine ⟨HG.out _ (by rw [HEQ.out]) _ rfl, by simp [intOf]; omega⟩
      · have Hz := hid (z2 k2 k3)
        have k2' : (tk == 2) = false := by simpa using k2
        have k3' : (tk == 3) = false := by simpa using k3
        clear z1 z2 z3 k2 k3
        by_cases j0 : j = 0
        · subst j0
          go_wp2_with fail
          refine ⟨HG.out _ ?_ _ (by omega), by simp [intOf]; omega⟩
          have h1 := HNX.out
          have h2 := Hz.out
          have h3 := HSZ.out
          simp at h1
          omega
        · have j0' : (0 : Int) < (j : Int) := by omega
          go_wp2_with fail
          refine ⟨HG.out _ ?_ _ rfl, by simp [intOf]; omega⟩
          have h1 := HNX.out
          have h2 := Hz.out
          have h3 := HSZ.out
          rw [if_neg j0] at h1
          omega
    · obtain rfl : j = n := by omega
      have hjn' : ¬ (j : Int) < (j : Int) := by omega
      have htk : (ts.map wrT).take j = ts.map wrT := List.take_of_length_le (by simp; omega)
      rw [htk]
      go_wp2_with fail
      go_ret
      exact ⟨rfl, rfl⟩

end Go.Proofs.YtoifmiloaefanaaDoor
