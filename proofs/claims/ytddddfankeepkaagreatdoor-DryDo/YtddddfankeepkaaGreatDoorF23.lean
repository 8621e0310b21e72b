import Derived.Test.YtddddfankeepkaaGreatDoorF22
namespace Go.Proofs.YtddddfankeepkaaGreatDoor
open Go.RowKit
/-! ### a view that may be -/
structure VoP (v : PV) (nx : Int) : Prop where
 nm : nmB v.nm = true
 i1 : 1 ≤ v.id
 i2 : v.id < nx
 s1 : 1 ≤ v.sz
 s2 : v.sz ≤ 262144
 o1 : 0 ≤ v.og
 o2 : v.og < v.id
 kd : v.kd = 0 ∨ v.kd = 1
 mp : NF (-1) v.mp v.sz
structure MayP (x : VW) : Prop where
 c1 : 1 ≤ x.cp
 c2 : x.cp ≤ 262144
 f1 : 0 ≤ x.fr
 f2 : x.fr ≤ x.cp
 n1 : 1 ≤ x.nx
 n2 : x.nx ≤ 1073741825
 len : x.vs.length ≤ 64
 vol : ∀ v ∈ x.vs, VoP v x.nx
 byN : x.vs.Pairwise ltV
 byI : x.vs.Pairwise (fun a b => a.id ≠ b.id)
theorem volN_iff (v : PV) (nx : Int) : volN v nx = true ↔ 1 ≤ v.id ∧ v.id < nx ∧ 1 ≤ v.sz ∧ v.sz ≤ 262144 ∧ 0 ≤ v.og ∧ v.og < v.id := by
 unfold volN
 constructor
 ·intro h
  repeat (split at h; exact absurd h (by simp))
  omega
 ·intro h
  rw [if_neg (by omega), if_neg (by omega), if_neg (by omega), if_neg (by omega), if_neg (by omega), if_neg (by omega)]
theorem volK_iff (v : PV) : volK v = true ↔ (v.kd = 0 ∨ v.kd = 1) ∧ NF (-1) v.mp v.sz := by
 unfold volK
 rw [← rgO_nf]
 by_cases h0 : v.kd = 0
 ·rw [if_pos h0]; simp [h0]
 ·rw [if_neg h0]
  by_cases h1 : v.kd = 1
  ·rw [if_pos h1]; simp [h1]
  ·rw [if_neg h1]; simp [h0, h1]
theorem mayH_iff (x : VW) : mayH x = true ↔ 1 ≤ x.cp ∧ x.cp ≤ 262144 ∧ 0 ≤ x.fr ∧ x.fr ≤ x.cp ∧ 1 ≤ x.nx ∧ x.nx ≤ 1073741825 ∧ x.vs.length ≤ 64 := by
 constructor
 ·intro h
  have := mayH_yes h
  omega
 ·intro h
  unfold mayH
  rw [if_neg (by omega), if_neg (by omega), if_neg (by omega), if_neg (by omega), if_neg (by omega), if_neg (by omega), if_neg (by omega)]
theorem pw_adj {vs : List PV} (h : ∀ m (hm : m + 1 < vs.length), ltS vs[m].nm vs[m + 1].nm) : vs.Pairwise ltV := by
 rw [List.pairwise_iff_getElem]
 intro i j hi hj hij
 induction j with
 | zero => omega
 | succ j ih =>
  by_cases e : i = j
  ·subst e; exact h i hj
  ·exact ltS_trans (ih (by omega) (by omega)) (h j hj)
theorem mayB_iff (x : VW) : mayB x = true ↔ MayP x := by
 unfold mayB
 rw [Bool.and_eq_true, List.all_eq_true, mayH_iff]
 constructor
 ·rintro ⟨hh, hv⟩
  have hk : ∀ k (hk : k < x.vs.length), volM x k hk = true := fun k hk => hv ⟨k, hk⟩ (List.mem_finRange _)
  have hp : ∀ k (hk : k < x.vs.length), nmB x.vs[k].nm = true ∧ (k = 0 ∨ nmLe x.vs[k].nm (x.vs[k - 1]'(by omega)).nm = false) ∧ volN x.vs[k] x.nx = true ∧ volK x.vs[k] = true ∧ ∀ v ∈ x.vs.take k, v.id ≠ x.vs[k].id := fun k hk' => by
   have := hk k hk'
   unfold volM at this
   simp only [Bool.and_eq_true, Bool.or_eq_true, decide_eq_true_eq, Bool.not_eq_true', List.all_eq_true, beq_eq_false_iff_ne, ne_eq] at this
   exact ⟨this.1.1.1.1, this.1.1.1.2, this.1.1.2, this.1.2, this.2⟩
  refine ⟨hh.1, hh.2.1, hh.2.2.1, hh.2.2.2.1, hh.2.2.2.2.1, hh.2.2.2.2.2.1, hh.2.2.2.2.2.2, ?_, ?_, ?_⟩
  ·intro v hv
   obtain ⟨k, hk', rfl⟩ := List.getElem_of_mem hv
   obtain ⟨a, _, b, c, _⟩ := hp k hk'
   have b := (volN_iff _ _).1 b
   have c := (volK_iff _).1 c
   exact ⟨a, b.1, b.2.1, b.2.2.1, b.2.2.2.1, b.2.2.2.2.1, b.2.2.2.2.2, c.1, c.2⟩
  ·refine pw_adj fun m hm => ?_
   obtain ⟨_, a, _⟩ := hp (m + 1) hm
   exact nmLe_false (a.resolve_left (by omega))
  ·rw [List.pairwise_iff_getElem]
   intro i j hi hj hij
   obtain ⟨_, _, _, _, a⟩ := hp j hj
   exact a _ (List.mem_iff_getElem.2 ⟨i, by rw [List.length_take]; omega, List.getElem_take⟩)
 ·intro h
  refine ⟨⟨h.c1, h.c2, h.f1, h.f2, h.n1, h.n2, h.len⟩, fun i _ => ?_⟩
  obtain ⟨k, hk⟩ := i
  have v := h.vol _ (List.getElem_mem hk)
  show volM x k hk = true
  unfold volM
  simp only [Bool.and_eq_true, Bool.or_eq_true, decide_eq_true_eq, Bool.not_eq_true', List.all_eq_true, beq_eq_false_iff_ne, ne_eq]
  refine ⟨⟨⟨⟨v.nm, ?_⟩, (volN_iff _ _).2 ⟨v.i1, v.i2, v.s1, v.s2, v.o1, v.o2⟩⟩, (volK_iff _).2 ⟨v.kd, v.mp⟩⟩, ?_⟩
  ·by_cases e : k = 0
   ·exact .inl e
   ·exact .inr (nmLe_of_lt (pw_get h.byN (by omega) hk (by omega)))
  ·intro u hu
   obtain ⟨i, hi, rfl⟩ := List.getElem_of_mem hu
   rw [List.length_take] at hi
   rw [List.getElem_take]
   exact (List.pairwise_iff_getElem.1 h.byI) i k (by omega) hk (by omega)
/-! ### what is not refused -/
structure TkP (x : VW) (o : OW) (n : Nat) : Prop where
 k1 : 1 ≤ o.k
 k2 : o.k ≤ 11
 frm : isF o.k.toNat o.nm o.ot o.fr o.tt n = true
 nm : uN o.k.toNat = true → nmB o.nm = true
 ot : uO o.k.toNat = true → nmB o.ot = true
 da : uD o.k.toNat = true → n = 512
 look : ∀ f ∈ lks o.k.toNat, lkE f x o (plcF x.vs o.nm 0) (plcF x.vs o.ot 0) = 0
theorem first_zero : ∀ l : List Int, firstE l = 0 ↔ ∀ e ∈ l, e = 0
 | [] => by simp [firstE]
 | e :: l => by
  unfold firstE
  by_cases h : e = 0
  ·rw [if_pos h, first_zero l]; simp [h]
  ·rw [if_neg h]; simp [h]
theorem fmE_zero {o : OW} {n : Nat} (h : fmE o n = 0) : 1 ≤ o.k ∧ o.k ≤ 11 ∧ isF o.k.toNat o.nm o.ot o.fr o.tt n = true ∧ (uN o.k.toNat = true → nmB o.nm = true) ∧ (uO o.k.toNat = true → nmB o.ot = true) ∧ (uD o.k.toNat = true → n = 512) := by
 have h2 : ckO o.k o.nm o.ot o.fr o.tt n = 0 ∨ ckO o.k o.nm o.ot o.fr o.tt n = 106 ∨ ckO o.k o.nm o.ot o.fr o.tt n = 107 := by
  unfold fmE at h
  split at h
  ·rename_i q; exact .inr q
  ·exact .inl h
 clear h
 unfold ckO at h2
 by_cases a : o.k < 1 ∨ 11 < o.k
 ·rw [if_pos a] at h2; omega
 rw [if_neg a] at h2
 by_cases b : isF o.k.toNat o.nm o.ot o.fr o.tt n = false
 ·rw [if_pos b] at h2; omega
 rw [if_neg b] at h2
 by_cases c : (uN o.k.toNat && !nmB o.nm) = true
 ·rw [if_pos c] at h2; omega
 rw [if_neg c] at h2
 by_cases d : (uO o.k.toNat && !nmB o.ot) = true
 ·rw [if_pos d] at h2; omega
 rw [if_neg d] at h2
 by_cases e : (uD o.k.toNat && (n : Int) != 512) = true
 ·rw [if_pos e] at h2; omega
 refine ⟨by omega, by omega, by simpa using b, fun q => ?_, fun q => ?_, fun q => ?_⟩
 ·simpa [q] using c
 ·simpa [q] using d
 ·rw [q] at e
  simp at e
  omega
theorem tkE_zero {x : VW} {o : OW} {n : Nat} (h : tkE x o n = 0) : TkP x o n := by
 unfold tkE at h
 by_cases hf : fmE o n = 0
 ·rw [if_pos hf, first_zero] at h
  obtain ⟨a, b, c, d, e, g⟩ := fmE_zero hf
  exact ⟨a, b, c, d, e, g, fun f hf => h _ (List.mem_map.2 ⟨f, hf, rfl⟩)⟩
 ·rw [if_neg hf] at h
  exact absurd h hf
/-! ### what is not refused leaves a view that may be -/
theorem MayP.set {x : VW} (h : MayP x) {k : Nat} (hk : k < x.vs.length) {v : PV} (hn : v.nm = x.vs[k].nm) (hi : v.id = x.vs[k].id) (hv : VoP v x.nx) : MayP ⟨x.cp, x.fr, x.nx, x.vs.set k v⟩ := by
 refine ⟨h.c1, h.c2, h.f1, h.f2, h.n1, h.n2, by show (x.vs.set k v).length ≤ 64; rw [List.length_set]; exact h.len, ?_, ?_, ?_⟩
 ·intro u hu
  rcases List.mem_or_eq_of_mem_set hu with q | q
  ·exact h.vol u q
  ·rw [q]; exact hv
 ·show (x.vs.set k v).Pairwise ltV
  rw [List.pairwise_iff_getElem]
  intro i j hi' hj hij
  rw [List.length_set] at hi' hj
  have := pw_get h.byN hi' hj hij
  unfold ltV
  rw [List.getElem_set, List.getElem_set]
  by_cases e1 : k = i
  ·subst e1
   rw [if_pos rfl, if_neg (by omega), hn]; exact this
  ·rw [if_neg e1]
   by_cases e2 : k = j
   ·subst e2
    rw [if_pos rfl, hn]; exact this
   ·rw [if_neg e2]; exact this
 ·show (x.vs.set k v).Pairwise (fun a b => a.id ≠ b.id)
  rw [List.pairwise_iff_getElem]
  intro i j hi' hj hij
  rw [List.length_set] at hi' hj
  have := (List.pairwise_iff_getElem.1 h.byI) i j hi' hj hij
  rw [List.getElem_set, List.getElem_set]
  by_cases e1 : k = i
  ·subst e1
   rw [if_pos rfl, if_neg (by omega), hi]; exact this
  ·rw [if_neg e1]
   by_cases e2 : k = j
   ·subst e2
    rw [if_pos rfl, hi]; exact this
   ·rw [if_neg e2]; exact this
theorem MayP.erase {x : VW} (h : MayP x) (k : Nat) : MayP ⟨x.cp, x.fr, x.nx, x.vs.eraseIdx k⟩ :=
 ⟨h.c1, h.c2, h.f1, h.f2, h.n1, h.n2, Nat.le_trans (List.length_eraseIdx_le x.vs k) h.len, fun v hv => h.vol v (List.mem_of_mem_eraseIdx hv), h.byN.sublist (List.eraseIdx_sublist _ _), h.byI.sublist (List.eraseIdx_sublist _ _)⟩
theorem lay_byI {vs : List PV} {v : PV} (h : vs.Pairwise (fun a b => a.id ≠ b.id)) (hv : ∀ u ∈ vs, u.id ≠ v.id) : (layP vs v).Pairwise (fun a b => a.id ≠ b.id) := by
 unfold layP
 rw [List.append_assoc, List.pairwise_append]
 refine ⟨h.sublist (List.take_sublist _ _), ?_, ?_⟩
 ·rw [List.singleton_append, List.pairwise_cons]
  exact ⟨fun u hu => (hv u (List.mem_of_mem_drop hu)).symm, h.sublist (List.drop_sublist _ _)⟩
 ·intro a ha b hb
  rw [List.mem_append, List.mem_singleton] at hb
  rcases hb with rfl | hb
  ·exact hv a (List.mem_of_mem_take ha)
  ·have := h
   rw [← List.take_append_drop (layI vs v.nm) vs, List.pairwise_append] at this
   exact this.2.2 a ha b hb
theorem MayP.lay {x : VW} (h : MayP x) {v : PV} {nx : Int} (hl : x.vs.length ≤ 63) (hx : x.nx ≤ nx) (h2 : nx ≤ 1073741825) (hn : ∀ u ∈ x.vs, u.nm ≠ v.nm) (hi : ∀ u ∈ x.vs, u.id ≠ v.id) (hv : VoP v nx) : MayP ⟨x.cp, x.fr, nx, layP x.vs v⟩ := by
 refine ⟨h.c1, h.c2, h.f1, h.f2, by show 1 ≤ nx; have := h.n1; omega, h2, by show (layP x.vs v).length ≤ 64; rw [lay_len]; omega, ?_, lay_sorted h.byN hn, lay_byI h.byI hi⟩
 intro u hu
 rcases lay_mem.1 hu with rfl | hu
 ·exact hv
 ·have q := h.vol u hu
  exact ⟨q.nm, q.i1, by show u.id < nx; have := q.i2; omega, q.s1, q.s2, q.o1, q.o2, q.kd, q.mp⟩
theorem MayP.add {x : VW} (h : MayP x) {o : OW} {v : PV} (h54 : lkE 54 x o (plcF x.vs o.nm 0) (plcF x.vs o.ot 0) = 0) (h52 : lkE 52 x o (plcF x.vs o.nm 0) (plcF x.vs o.ot 0) = 0) (hn : nmB o.nm = true) (s1 : 1 ≤ v.sz) (s2 : v.sz ≤ 262144) (o1 : 0 ≤ v.og) (o2 : v.og < x.nx) (kd : v.kd = 0 ∨ v.kd = 1) (mp : NF (-1) v.mp v.sz) : MayP (addP x o v) := by
 have e52 : plcF x.vs o.nm 0 < 0 := by
  have := (unl_zero (by decide)).1 h52
  simpa using this
 have e54 : ¬ 64 ≤ x.vs.length ∧ x.nx ≤ 1073741824 := by
  unfold lkE at h54
  by_cases q : 64 ≤ x.vs.length
  ·simp [q] at h54
  ·refine ⟨q, ?_⟩
   simp only [q, if_false] at h54
   have := (unl_zero (by decide)).1 h54
   simpa using this
 unfold addP
 rw [pw64 (by have := h.n1; omega)]
 exact h.lay (by omega) (by omega) (by omega) (plc_free e52) (fun u hu => by have := (h.vol u hu).i2; show u.id ≠ x.nx; omega) ⟨hn, h.n1, by show x.nx < _; omega, s1, s2, o1, o2, kd, mp⟩
theorem MayP.tk {x : VW} {o : OW} {n : Nat} (h : MayP x) (ht : tkE x o n = 0) : MayP (tkX x o) := by
 have T := tkE_zero ht
 unfold tkX
 have hL := T.look
 have hN := T.nm
 have hO := T.ot
 obtain ⟨kk, hkk⟩ : ∃ k : Nat, k = o.k.toNat := ⟨_, rfl⟩
 have k1 : 1 ≤ kk := by have := T.k1; omega
 have k2 : kk ≤ 11 := by have := T.k2; omega
 rw [← hkk] at hL hN hO ⊢
 have lk : ∀ {f : Nat} {b : Bool} {e : Int}, e ≠ 0 → f ∈ lks kk → (∀ x : VW, lkE f x o (plcF x.vs o.nm 0) (plcF x.vs o.ot 0) = lkE f x o (plcF x.vs o.nm 0) (plcF x.vs o.ot 0)) → lkE f x o (plcF x.vs o.nm 0) (plcF x.vs o.ot 0) = unl b e → b = true := fun he hf _ hu => (unl_zero he).1 (by rw [← hu]; exact hL _ hf)
 have there : 55 ∈ lks kk → ∃ k, ∃ hk : k < x.vs.length, plcF x.vs o.nm 0 = (k : Int) ∧ x.vs[k].nm = o.nm := fun hf => plc_there (by simpa using lk (f := 55) (b := decide (0 ≤ plcF x.vs o.nm 0)) (e := 104) (by decide) hf (fun _ => rfl) rfl)
 have other : 51 ∈ lks kk → ∃ k, ∃ hk : k < x.vs.length, plcF x.vs o.ot 0 = (k : Int) ∧ x.vs[k].nm = o.ot := fun hf => plc_there (by simpa using lk (f := 51) (b := decide (0 ≤ plcF x.vs o.ot 0)) (e := 104) (by decide) hf (fun _ => rfl) rfl)
 have tn : ∀ i : Nat, ((i : Int)).toNat = i := fun i => by omega
 rcases nat_kinds k1 k2 with rfl | rfl | rfl | rfl | rfl | rfl | rfl | rfl | rfl | rfl | rfl
 ·have e59 := lk (f := 59) (b := decide (1 ≤ o.tt ∧ o.tt ≤ 262144)) (e := 106) (by decide) (by decide) (fun _ => rfl) rfl
  simp only [decide_eq_true_eq] at e59
  exact h.add (hL 54 (by decide)) (hL 52 (by decide)) (hN (by decide)) e59.1 e59.2 (Int.le_refl _) (by show 0 < x.nx; have := h.n1; omega) (.inl rfl) (NF.nil _ _)
 ·obtain ⟨k, hk, e, _⟩ := other (by decide)
  have v := h.vol _ (List.getElem_mem hk)
  simp only [doX, e, volAt_eq hk]
  exact h.add (hL 54 (by decide)) (hL 52 (by decide)) (hN (by decide)) v.s1 v.s2 (by show 0 ≤ x.vs[k].id; have := v.i1; omega) v.i2 (.inr rfl) v.mp
 ·obtain ⟨k, hk, e, _⟩ := other (by decide)
  have v := h.vol _ (List.getElem_mem hk)
  simp only [doX, e, volAt_eq hk]
  exact h.add (hL 54 (by decide)) (hL 52 (by decide)) (hN (by decide)) v.s1 v.s2 (by show 0 ≤ x.vs[k].id; have := v.i1; omega) v.i2 (.inl rfl) v.mp
 ·obtain ⟨k, hk, e, _⟩ := there (by decide)
  have v := h.vol _ (List.getElem_mem hk)
  have e59 := lk (f := 59) (b := decide (1 ≤ o.tt ∧ o.tt ≤ 262144)) (e := 106) (by decide) (by decide) (fun _ => rfl) rfl
  simp only [decide_eq_true_eq] at e59
  simp only [doX, e, volAt_eq hk, tn]
  exact h.set hk rfl rfl ⟨v.nm, v.i1, v.i2, e59.1, e59.2, v.o1, v.o2, v.kd, v.mp.cut_end v.s2 e59.1 e59.2⟩
 ·obtain ⟨k, hk, e, _⟩ := there (by decide)
  have v := h.vol _ (List.getElem_mem hk)
  have e64 := lk (f := 64) (b := decide (plcF x.vs o.ot 0 < 0)) (e := 105) (by decide) (by decide) (fun _ => rfl) rfl
  have e64 := plc_free (by simpa using e64)
  simp only [doX, e, volAt_eq hk, tn]
  have hl := List.length_eraseIdx_of_lt hk
  refine (h.erase k).lay (v := setNm x.vs[k] o.ot) (by show (x.vs.eraseIdx k).length ≤ 63; have := h.len; omega) (Int.le_refl _) h.n2 (fun u hu => e64 u (List.mem_of_mem_eraseIdx hu)) (fun u hu => ?_) ⟨hO (by decide), v.i1, v.i2, v.s1, v.s2, v.o1, v.o2, v.kd, v.mp⟩
  obtain ⟨i, hi, rfl⟩ := List.getElem_of_mem hu
  show (x.vs.eraseIdx k)[i].id ≠ x.vs[k].id
  rw [hl] at hi
  by_cases q : i < k
  ·rw [List.getElem_eraseIdx_of_lt (by omega) q]
   exact (List.pairwise_iff_getElem.1 h.byI) i k (by omega) hk q
  ·rw [List.getElem_eraseIdx_of_ge (by omega) (by omega)]
   exact ((List.pairwise_iff_getElem.1 h.byI) k (i + 1) hk (by omega) (by omega)).symm
 ·exact h.erase _
 ·obtain ⟨k, hk, e, _⟩ := there (by decide)
  obtain ⟨j, hj, e2, _⟩ := other (by decide)
  have v := h.vol _ (List.getElem_mem hk)
  have u := h.vol _ (List.getElem_mem hj)
  simp only [doX, e, e2, volAt_eq hk, volAt_eq hj, tn]
  exact h.set hk rfl rfl ⟨v.nm, v.i1, v.i2, u.s1, u.s2, v.o1, v.o2, v.kd, u.mp⟩
 ·obtain ⟨k, hk, e, _⟩ := there (by decide)
  have v := h.vol _ (List.getElem_mem hk)
  have e69 := lk (f := 69) (b := decide (0 ≤ o.fr ∧ o.fr < (volAt x (plcF x.vs o.nm 0)).sz)) (e := 107) (by decide) (by decide) (fun _ => rfl) rfl
  simp only [decide_eq_true_eq, e, volAt_eq hk] at e69
  simp only [doX, e, volAt_eq hk, tn]
  have := v.s2
  exact h.set hk rfl rfl ⟨v.nm, v.i1, v.i2, v.s1, v.s2, v.o1, v.o2, v.kd, v.mp.join (Int.le_refl _) (by show -1 < o.fr; omega) (by show wrap64 (o.fr + 1) ≤ x.vs[k].sz; rw [pw64 (by omega)]; omega) v.s2⟩
 ·obtain ⟨k, hk, e, _⟩ := there (by decide)
  have v := h.vol _ (List.getElem_mem hk)
  have e56 := lk (f := 56) (b := decide (0 ≤ o.fr ∧ o.tt ≤ (volAt x (plcF x.vs o.nm 0)).sz ∧ o.fr ≤ o.tt)) (e := 107) (by decide) (by decide) (fun _ => rfl) rfl
  simp only [decide_eq_true_eq, e, volAt_eq hk] at e56
  simp only [doX, e, volAt_eq hk, tn]
  exact h.set hk rfl rfl ⟨v.nm, v.i1, v.i2, v.s1, v.s2, v.o1, v.o2, v.kd, v.mp.cut_in e56.1 (by show o.fr ≤ x.vs[k].sz; omega)⟩
 ·obtain ⟨k, hk, e, _⟩ := there (by decide)
  have v := h.vol _ (List.getElem_mem hk)
  have e56 := lk (f := 56) (b := decide (0 ≤ o.fr ∧ o.tt ≤ (volAt x (plcF x.vs o.nm 0)).sz ∧ o.fr ≤ o.tt)) (e := 107) (by decide) (by decide) (fun _ => rfl) rfl
  simp only [decide_eq_true_eq, e, volAt_eq hk] at e56
  simp only [doX, e, volAt_eq hk, tn]
  exact h.set hk rfl rfl ⟨v.nm, v.i1, v.i2, v.s1, v.s2, v.o1, v.o2, v.kd, v.mp.join (Int.le_refl _) (by show -1 < o.fr; omega) (by show o.tt ≤ x.vs[k].sz; omega) v.s2⟩
 ·have e73 := lk (f := 73) (b := decide (x.cp < o.tt ∧ o.tt ≤ 262144)) (e := 106) (by decide) (by decide) (fun _ => rfl) rfl
  simp only [decide_eq_true_eq] at e73
  have := h.f2
  have := h.c1
  exact ⟨by show 1 ≤ o.tt; omega, e73.2, h.f1, by show x.fr ≤ o.tt; omega, h.n1, h.n2, h.len, h.vol, h.byN, h.byI⟩
end Go.Proofs.YtddddfankeepkaaGreatDoor
