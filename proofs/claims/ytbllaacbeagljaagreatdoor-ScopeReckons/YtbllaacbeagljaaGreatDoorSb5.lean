/-
  scope: numbers made of nodes.
-/
import Derived.Test.YtbllaacbeagljaaGreatDoorSb4
import Derived.Maps.AppendAt
import Derived.Laws.OwnMore
import Derived.Lib.AppendZeros
import Derived.Deep.RegionHeld3
namespace Go.Proofs.YtbllaacbeagljaaGreatDoor
open Go.RowKit Go.Maps

/-- a number's value, made of a node; its lists lie in blocks of P -/
def NumR (P : Nat → Prop) (w : World) : Nat → Value → Nd → Prop
  | 0, _, _ => False
  | d + 1, v, t => (t.k = 20 ∧ v = .iface 110 (.agg #[.int .i64 t.at_, .int .i64 t.n])) ∨
      (22 ≤ t.k ∧ t.k ≤ 26 ∧ ∃ v1 v2, ∃ h : 2 ≤ t.kids.length, v = .iface 125 (.agg #[.int .i64 t.at_, .int .i64 t.k, v1, v2]) ∧ NumR P w d v1 (t.kids[0]'(by omega)) ∧ NumR P w d v2 (t.kids[1]'(by omega))) ∨
      ((t.k = 27 ∨ t.k = 28) ∧ ∃ g c, v = .iface (if t.k = 27 then 122 else 123) (.agg #[.int .i64 t.at_, .slice (some ⟨g, 0, none⟩) t.kids.length c]) ∧ (0 < t.kids.length ∧ t.kids.length ≤ c) ∧ t.kids.length ≤ 16777216 ∧ g < w.heap.size ∧ P g ∧ ∀ i (hi : i < t.kids.length), ∃ vi, w.cell? ⟨g, i, none⟩ = some vi ∧ NumR P w d vi t.kids[i])
theorem NumR.keep {P : Nat → Prop} {w w' : World} (hs : w.heap.size ≤ w'.heap.size) (hb : ∀ g, g < w.heap.size → P g → w'.heap[g]? = w.heap[g]?) : ∀ {d : Nat} {v : Value} {t : Nd}, NumR P w d v t → NumR P w' d v t
  | 0, _, _, h => h
  | d + 1, v, t, h => by
    rcases h with h | ⟨h1, h2, v1, v2, h3, h4, h5, h6⟩ | ⟨h1, g, c, h2, h3, h4, h5, hp, h6⟩
    · exact .inl h
    · exact .inr (.inl ⟨h1, h2, v1, v2, h3, h4, NumR.keep hs hb h5, NumR.keep hs hb h6⟩)
    · refine .inr (.inr ⟨h1, g, c, h2, h3, h4, Nat.lt_of_lt_of_le h5 hs, hp, fun i hi => ?_⟩)
      obtain ⟨vi, h7, h8⟩ := h6 i hi
      exact ⟨vi, (World.cell?_of_block (w := w) (a := ⟨g, i, none⟩) (hb g h5 hp)).trans h7, NumR.keep hs hb h8⟩
theorem NumR.next {P : Nat → Prop} {w w' : World} {d : Nat} {v : Value} {t : Nd} (h : NumR P w d v t) (hb : Below w.heap.size w w') : NumR P w' d v t := h.keep hb.size fun g hg _ => hb.block g hg
theorem NumR.mono {P Q : Nat → Prop} {w : World} (hb : ∀ g, g < w.heap.size → P g → Q g) : ∀ {d : Nat} {v : Value} {t : Nd}, NumR P w d v t → NumR Q w d v t
  | 0, _, _, h => h
  | d + 1, v, t, h => by
    rcases h with h | ⟨h1, h2, v1, v2, h3, h4, h5, h6⟩ | ⟨h1, g, c, h2, h3, h4, h5, hp, h6⟩
    · exact .inl h
    · exact .inr (.inl ⟨h1, h2, v1, v2, h3, h4, NumR.mono hb h5, NumR.mono hb h6⟩)
    · refine .inr (.inr ⟨h1, g, c, h2, h3, h4, h5, hb g h5 hp, fun i hi => ?_⟩)
      obtain ⟨vi, h7, h8⟩ := h6 i hi
      exact ⟨vi, h7, NumR.mono hb h8⟩
theorem NumR.iface {P : Nat → Prop} {w : World} : ∀ {d : Nat} {v : Value} {t : Nd}, NumR P w d v t → ∃ T x, v = .iface T x
  | 0, _, _, h => h.elim
  | d + 1, v, t, h => by
    rcases h with h | ⟨h1, h2, v1, v2, h3, h4, h5, h6⟩ | ⟨h1, g, c, h2, h3, h4, h5, hp, h6⟩
    · exact ⟨_, _, h.2⟩
    · exact ⟨_, _, h4⟩
    · exact ⟨_, _, h2⟩

/-- as many kids as there must be -/
def ArK : Nat → Nd → Prop
  | 0, _ => False
  | d + 1, t => (t.k = 20 ∨ (22 ≤ t.k ∧ t.k ≤ 26 ∧ 2 ≤ t.kids.length) ∨ ((t.k = 27 ∨ t.k = 28) ∧ 0 < t.kids.length)) ∧ ∀ i (hi : i < t.kids.length), ArK d t.kids[i]
theorem ArK.ar : ∀ {d : Nat} {t : Nd}, ArK d t → ArN d t
  | 0, _, h => h
  | d + 1, t, h => ⟨by have := h.1; omega, fun i hi => ArK.ar (h.2 i hi)⟩

theorem info75 : (Tryz.prog.info? 75).map (fun i => (i.zero, i.size, i.bytes)) = some (some .nilIface, 1, 16) := by kernel_rfl
/-- values of one's own, in a list -/
def OwI (B : Nat) (w : World) (v : Value) (vs : List Value) : Prop := w.ownsRow B 75 1 v vs.length vs
theorem OwI.nil (B : Nat) (w : World) : OwI B w (.slice none 0 0) [] := ⟨rfl, .inl ⟨rfl, rfl⟩⟩
theorem OwI.next {B : Nat} {w w' : World} {v : Value} {vs : List Value} (h : OwI B w v vs) (hb : Below w.heap.size w w') : OwI B w' v vs := own_keep h fun g hg => by obtain ⟨_, h2, _⟩ := own_blk h hg; exact hb.block g h2
theorem OwI.form {B : Nat} {w : World} {v : Value} {vs : List Value} (h : OwI B w v vs) : ∃ a c, v = .slice a vs.length c := by
  rcases h.2 with ⟨e, q⟩ | ⟨g, cap, cur, e, _⟩
  · exact ⟨none, 0, by rw [e, q]⟩
  · exact ⟨_, _, e⟩
theorem OwI.push {B : Nat} {w : World} {v : Value} {vs : List Value} (ty : TypeId) (h : OwI B w v vs) (T : TypeId) (x : Value) {g : Nat} (hg : w.heap[g]? = some (.cells #[.iface T x] 75 (0, 0))) (hl : vs.length ≤ 16777216) (hw : B ≤ w.heap.size) :
    ∃ v' w', (Builtin.append_ #[119, 119] ty #[v, .slice (some ⟨g, 0, none⟩) 1 1]).run Tryz.prog w = .ok v' w' ∧ OwI B w' v' (vs ++ [Value.iface T x]) ∧ Gr w w' v v' := by
  obtain ⟨i0, hi, hz0, hz1, hz2⟩ := info_parts info75
  obtain ⟨v', w', hr, h2, h3, _, h5⟩ := run_append_own_at (P := Tryz.prog) w B 119 ty 75 i0 _ 1 16 Tryz.underlying119 hi hz0 hz1 hz2 rfl (by decide) v vs.length vs h ⟨g, 0, none⟩ 1 1 [.iface T x] rfl (fun j u hu => by
    rw [Addr.add_lit, Nat.zero_add]
    simp only [World.cell?, hg]
    simpa using hu) (fun u hu => by simp only [List.mem_cons, List.not_mem_nil, or_false] at hu; subst hu; rfl) (by unfold maxLen; omega) (by omega) hw
  refine ⟨v', w', hr, ?_, ⟨h3.os, h3.tape, h3.output, h3.size, h3.block, h5.elim .inl fun e => .inr ⟨_, e, Nat.le_refl _⟩⟩⟩
  unfold OwI
  simpa using h2
theorem OwI.at {B : Nat} {w : World} {v : Value} {vs : List Value} (h : OwI B w v vs) (h0 : 0 < vs.length) : ∃ g c, v = .slice (some ⟨g, 0, none⟩) vs.length c ∧ vs.length ≤ c ∧ B ≤ g ∧ g < w.heap.size ∧ ∀ i (hi : i < vs.length), w.cell? ⟨g, i, none⟩ = some vs[i] := by
  have h' := h
  rcases h.2 with ⟨e, q⟩ | ⟨g, cap, cur, e, hb, hh, r⟩
  · omega
  · have hcap : vs.length ≤ cap := r.1
    refine ⟨g, cap, e, hcap, hb, (Array.getElem?_eq_some_iff.1 hh).1, fun i hi => ?_⟩
    rw [e] at h'
    have h2 := World.ownsRow.cellAt h' i (by omega)
    rw [h2]
    simp [hi]

/-- values, made of nodes one by one -/
def NumL (P : Nat → Prop) (w : World) (d : Nat) (vs : List Value) (ks : List Nd) : Prop := vs.length = ks.length ∧ ∀ i (hi : i < ks.length) (hv : i < vs.length), NumR P w d vs[i] ks[i]
/-- numberOf at depth d -/
def NoS (d : Nat) : Prop := ∀ (t : Nd) (D : Nat) (a : Option Addr) (l c : Nat) (w : World), ArK d t → KR (fun _ => False) w D a l t.kids →
  Calls Tryz.prog 37 #[.agg (ncs t.k (strOfNums t.tx) t.n t.at_ a l c)] w fun e w' => (∃ v, e = .returned v ∧ NumR (fun g => w.heap.size ≤ g) w' d v t) ∧ Below w.heap.size w w'
set_option maxRecDepth 100000 in
set_option maxHeartbeats 4000000 in
theorem numbers_ar (d : Nat) (ih : NoS d) (ks : List Nd) (D : Nat) (a : Option Addr) (l c : Nat) (w : World) (hA : ∀ i (hi : i < ks.length), ArK d ks[i]) (hK : KR (fun _ => False) w D a l ks) :
    Calls Tryz.prog 56 #[.slice a l c] w fun e w' => (∃ v vs, e = .returned v ∧ OwI w.heap.size w' v vs ∧ NumL (fun g => w.heap.size ≤ g) w' d vs ks) ∧ Below w.heap.size w w' := by
  obtain ⟨rfl, hlm⟩ := hK.len
  obtain ⟨PO, hPO⟩ : ∃ PO : Ending → World → Prop, PO = fun e w' => (∃ v vs, e = .returned v ∧ OwI w.heap.size w' v vs ∧ NumL (fun g => w.heap.size ≤ g) w' d vs ks) ∧ Below w.heap.size w w' := ⟨_, rfl⟩
  rw [← hPO]
  have HPO := hid hPO
  have HK := hid hK
  have HI := hid ih
  have HA := hid hA
  clear hK ih hA hPO
  go_enter Tryz.func56, Tryz.ntmps56
  go_wp2_with fail
  go_loopw [3, 8] (fun nv iv wr => ∃ (i : Nat) (vs : List Value), iv = .int .i64 (i : Int) ∧ i ≤ ks.length ∧ OwI w.heap.size wr nv vs ∧ vs.length = i ∧ (∀ j (hj : j < ks.length) (hv : j < vs.length), NumR (fun g => w.heap.size ≤ g ∧ some g ≠ nv.ownBlock) wr d vs[j] ks[j]) ∧ Below w.heap.size w wr) (fun _ iv _ => ks.length - (intOf iv).toNat)
  case atStart => exact ⟨0, [], rfl, Nat.zero_le _, OwI.nil _ _, rfl, fun j _ hv => by simp at hv, Below.refl _ _⟩
  case round =>
    obtain ⟨i, vs, rfl, hi, hO, hvl, hN, hBe⟩ := hrel
    obtain ⟨na, nc, rfl⟩ := hO.form
    by_cases hin : i < ks.length
    · have hin' : (i : Int) < (ks.length : Int) := by omega
      have hKw := HK.out.next hBe
      cases D with
      | zero => have := hKw.1; omega
      | succ D =>
        obtain ⟨-, -, hrow⟩ := hKw
        obtain ⟨g, o, a', l', c', rfl, -, hgl, ⟨m0, m1, m2, m3, m4⟩, -, hKk⟩ := hrow i hin
        obtain ⟨W9, hW9⟩ : ∃ W9, W9 = wr.alloc (.cells (ncs ks[i].k (strOfNums ks[i].tx) ks[i].n ks[i].at_ a' l' c') 25) := ⟨_, rfl⟩
        have bl9 : Below wr.heap.size wr W9 := by rw [hW9]; exact below1 _ _
        have hbe9 := hBe.trans (bl9.mono hBe.size)
        have H37 := hid (HI.out ks[i] D a' l' c' W9 (HA.out i hin) (hKk.next bl9))
        have HO9 := hid (hO.next bl9)
        have HN9 : Hid (∀ j (hj : j < ks.length) (hv : j < vs.length), NumR (fun g => w.heap.size ≤ g ∧ some g ≠ (Value.slice na vs.length nc).ownBlock) W9 d vs[j] ks[j]) := hid fun j hj hv => (hN j hj hv).next bl9
        have HB9 := hid hbe9
        have HW9 := hid hW9
        have HVL := hid hvl
        generalize strOfNums ks[i].tx = Sk at *
        generalize ks[i].k = kk at *
        generalize ks[i].n = kn at *
        generalize ks[i].at_ = ka at *
        clear hrow hO hN hBe bl9 hbe9 hW9 hKk hvl
        go_wp2_with fail
        rw [← HW9.out]
        refine Calls.mono H37.out ?_
        rintro e w2 ⟨⟨v, rfl, hv⟩, hb2⟩
        obtain ⟨T, x, rfl⟩ := hv.iface
        have hO2 := HO9.out.next hb2
        have hB2 := HB9.out.trans (hb2.mono HB9.out.size)
        obtain ⟨W3, hW3⟩ : ∃ W3, W3 = w2.alloc (.cells #[.iface T x] 75) := ⟨_, rfl⟩
        have bl3 : Below w2.heap.size w2 W3 := by rw [hW3]; exact below1 _ _
        have hO3 := hO2.next bl3
        have hB3 := hB2.trans (bl3.mono hB2.size)
        obtain ⟨nv', w4, hrun, hO4, hgr⟩ := hO3.push 119 T x (g := w2.heap.size) (by rw [hW3]; exact heap_new _ _) (by have := HVL.out; omega) hB3.size
        have hB4 : Below w.heap.size w w4 := hB3.trans (hgr.below hB3.size (fun g hg => (own_blk hO3 hg).1))
        have hNN : ∀ j (hj : j < ks.length) (hv : j < (vs ++ [Value.iface T x]).length), NumR (fun g => w.heap.size ≤ g ∧ some g ≠ nv'.ownBlock) w4 d (vs ++ [Value.iface T x])[j] ks[j] := by
          have hown9 : ∀ g, (Value.slice na vs.length nc).ownBlock = some g → g < W9.heap.size := fun g hg => (own_blk HO9.out hg).2.1
          have key : ∀ {v0 : Value} {t0 : Nd}, NumR (fun g => w.heap.size ≤ g ∧ some g ≠ (Value.slice na vs.length nc).ownBlock) W3 d v0 t0 → NumR (fun g => w.heap.size ≤ g ∧ some g ≠ nv'.ownBlock) w4 d v0 t0 := fun {v0 t0} h0 => by
            have h1 : NumR (fun g => (w.heap.size ≤ g ∧ some g ≠ (Value.slice na vs.length nc).ownBlock) ∧ g < W3.heap.size) W3 d v0 t0 := h0.mono fun g hg hp => ⟨hp, hg⟩
            refine (h1.keep hgr.size (fun g hg hp => hgr.block g hg hp.1.2)).mono (fun g _ hp => ⟨hp.1.1, fun e => ?_⟩)
            rcases hgr.own with h2 | ⟨g', h2, h3⟩
            · rw [h2] at e; exact hp.1.2 e
            · rw [h2] at e
              have : g = g' := by simpa using e
              omega
          intro j hj hv'
          by_cases hjv : j < vs.length
          · rw [List.getElem_append_left hjv]
            exact key (((HN9.out j hj hjv).next hb2).next bl3)
          · have hji : j = vs.length := by simp at hv'; omega
            subst hji
            rw [List.getElem_append_right (by omega)]
            simp only [Nat.sub_self, List.getElem_cons_zero]
            have hv2 : NumR (fun g => W9.heap.size ≤ g) w2 d (.iface T x) ks[vs.length] := by have e := HVL.out; simp only [e]; exact hv
            refine key ((hv2.next bl3).mono (fun g _ hp => ⟨by have := HB9.out.size; omega, fun e => ?_⟩))
            have := hown9 g e.symm
            omega
        have HNN := hid hNN
        have HO4 := hid hO4
        have HB4 := hid hB4
        have HRUN := hid hrun
        have HW3 := hid hW3
        have HVL2 : Hid ((vs ++ [Value.iface T x]).length = i + 1) := hid (by have := HVL.out; simp; omega)
        clear hv hb2 hO2 hB2 hW3 bl3 hO3 hB3 hrun hO4 hgr hB4 hNN HO9 HN9 HB9
        rw [HW3.out] at HRUN
        go_wp2_with (at_builtin; refine Lib.wpList_append_run _ rfl _ _ _ _ rfl _ _ rfl rfl _ _ HRUN.out ?_)
        exact ⟨⟨i + 1, _, by go_num, by omega, HO4.out, HVL2.out, HNN.out, HB4.out⟩, by simp [intOf]; omega⟩
    · subst hvl
      have hin' : ¬ (vs.length : Int) < (ks.length : Int) := by omega
      have HF : Hid ((∃ v vs', Ending.returned (.slice na vs.length nc) = .returned v ∧ OwI w.heap.size wr v vs' ∧ NumL (fun g => w.heap.size ≤ g) wr d vs' ks) ∧ Below w.heap.size w wr) :=
        hid ⟨⟨_, vs, rfl, hO, by omega, fun j hj hv => (hN j hj hv).mono (fun g _ hp => hp.1)⟩, hBe⟩
      clear hO hN hBe
      go_wp2_with fail
      show PO (.returned (.slice na vs.length nc)) _
      rw [HPO.out]
      exact HF.out

end Go.Proofs.YtbllaacbeagljaaGreatDoor
