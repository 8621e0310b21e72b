import Derived.Test.YtoifmiloaefanaaDoorZTm0
/-
  CopyTokens of tokens that are read, wherever they begin.
-/
namespace Go.Proofs.YtoifmiloaefanaaDoor
open Go.RowKit

theorem TkO.next {w w' : World} {a : Option Addr} {c : Nat} {ts : List Tk} (h : TkO w a c ts) (hb : Below w.heap.size w w') : TkO w' a c ts := by
  rcases h with h | ⟨g, off, e, hg, hc⟩
  · exact .inl h
  · refine .inr ⟨g, off, e, fun h => by have := hg h; have := hb.size; omega, fun j v hv => ?_⟩
    have hl : 0 < ts.length := by
      have := (List.getElem?_eq_some_iff.1 hv).1
      rw [flatT_len] at this
      omega
    have := hc j v hv
    simp only [World.cell?] at this ⊢
    rw [hb.block g (hg hl)]
    exact this
theorem OwT.joinO {B : Nat} {w : World} {v : Value} {a : Option Addr} {c : Nat} {ts us : List Tk} (ty : TypeId) (h : OwT B w v ts) (hu : TkO w a c us) (hl : ts.length + us.length ≤ 16777216) (hw : B ≤ w.heap.size) :
    ∃ v' w', (Builtin.append_ #[23, 23] ty #[v, .slice a us.length c]).run Tryd.prog w = .ok v' w' ∧ OwT B w' v' (ts ++ us) ∧ Gr w w' v v' := by
  obtain ⟨i0, hi, hz0, hz1, hz2⟩ := info_parts info29
  rcases hu with (⟨rfl, rfl, rfl⟩ | ⟨ad, rfl, rfl⟩) | ⟨g, off, rfl, _, hc⟩
  · refine ⟨v, w, run_append_owned_none (P := Tryd.prog) (w := w) B 23 ty 29 i0 4 Tryd.underlying23 hi v ts.length (flatT ts) h, by rw [List.append_nil]; exact h, ⟨rfl, rfl, rfl, Nat.le_refl _, fun _ _ _ => rfl, .inl rfl⟩⟩
  · obtain ⟨v', w', hr, h2, h3, _, h5⟩ := run_append_own_at (P := Tryd.prog) w B 23 ty 29 i0 _ 4 40 Tryd.underlying23 hi hz0 hz1 hz2 rfl (by decide) v ts.length (flatT ts) h ad 0 c [] rfl (fun j x hx => by simp at hx) (fun u hu => by simp at hu) (by unfold maxLen; simp at hl; omega) (by simp at hl; omega) hw
    refine ⟨v', w', hr, ?_, ⟨h3.os, h3.tape, h3.output, h3.size, h3.block, h5.elim .inl fun e => .inr ⟨_, e, Nat.le_refl _⟩⟩⟩
    rw [List.append_nil]
    unfold OwT
    simpa using h2
  · obtain ⟨v', w', hr, h2, h3, _, h5⟩ := run_append_own_at (P := Tryd.prog) w B 23 ty 29 i0 _ 4 40 Tryd.underlying23 hi hz0 hz1 hz2 rfl (by decide) v ts.length (flatT ts) h ⟨g, off, none⟩ us.length c (flatT us) (flatT_len us) (fun j x hx => by
      rw [Addr.add_lit]
      exact hc j x hx) (cellsT_one us) (by unfold maxLen; omega) (by omega) hw
    refine ⟨v', w', hr, ?_, ⟨h3.os, h3.tape, h3.output, h3.size, h3.block, h5.elim .inl fun e => .inr ⟨_, e, Nat.le_refl _⟩⟩⟩
    unfold OwT
    rw [flatT_app, List.length_append]
    exact h2
set_option maxRecDepth 100000 in
set_option maxHeartbeats 1000000 in
theorem CopyTokens_rd (a : Option Addr) (n c : Nat) (ts : List Tk) (w : World) (hn : ts.length = n) (hO : TkO w a c ts) (hl : n ≤ 16777216) : Calls Tryd.prog 20 #[.slice a n c] w fun e w' => ∃ g cc, e = .returned (.slice (some ⟨g, 0, none⟩) n cc) ∧ w.heap.size ≤ g ∧ OwT w.heap.size w' (.slice (some ⟨g, 0, none⟩) n cc) ts ∧ Below w.heap.size w w' := by
  have h0 : OwT w.heap.size (w.alloc (.cells #[] 29)) (.slice (some ⟨w.heap.size, 0, none⟩) 0 0) [] := ⟨rfl, .inr ⟨w.heap.size, 0, #[], rfl, Nat.le_refl _, heap_new _ _, Nat.le_refl _, by unfold maxLen; omega, rfl, rfl⟩⟩
  obtain ⟨v', w', hr, k1, k2⟩ := h0.joinO 23 (hO.next (below1 _ _)) (by simp; omega) (by simp)
  obtain ⟨a1, c1, rfl⟩ := k1.form
  rw [List.nil_append] at k1
  obtain ⟨g, rfl⟩ : ∃ g, a1 = some ⟨g, 0, none⟩ := by
    rcases k2.own with e | ⟨g, e, _⟩
    · simp [Value.ownBlock] at e
      rcases k1.2 with ⟨e2, _⟩ | ⟨g2, cap, cur, e2, _⟩
      · cases a1 with
        | none => simp at e
        | some x => cases e2
      · simp at e2
        exact ⟨g2, e2.1⟩
    · rcases k1.2 with ⟨e2, _⟩ | ⟨g2, cap, cur, e2, _⟩
      · cases a1 with
        | none => simp [Value.ownBlock] at e
        | some x => cases e2
      · simp at e2
        exact ⟨g2, e2.1⟩
  rw [List.nil_append, hn] at *
  have HK : Hid (w.heap.size ≤ g ∧ OwT w.heap.size w' (.slice (some ⟨g, 0, none⟩) n c1) ts ∧ Below w.heap.size w w') := ⟨(own_blk k1 rfl).1, k1, (below1 _ _).trans (k2.below (by simp) (fun g hg => by simp [Value.ownBlock] at hg; omega))⟩
  clear h0 k1 k2 hO
  go_enter Tryd.func20, Tryd.ntmps20
  go_wp2_with (at_builtin; refine Lib.wpList_append_run _ rfl _ _ _ _ rfl _ _ rfl rfl _ _ hr ?_)
  go_ret
  exact ⟨g, c1, rfl, HK.out.1, HK.out.2.1, HK.out.2.2⟩

end Go.Proofs.YtoifmiloaefanaaDoor
/-
  other: the tokens with other contents.
-/
namespace Go.Proofs.YtoifmiloaefanaaDoor
open Go.RowKit

theorem OwT.set4 {B : Nat} {w : World} {g n c : Nat} {ts : List Tk} (h : OwT B w (.slice (Option.some ⟨g, 0, none⟩) n c) ts) (hn : ts.length = n) (i : Nat) (t : Tk) (hi : i < ts.length) : OwT B ((((w.setCell ⟨g, i * 4, none⟩ (.int .i64 t.k)).setCell ⟨g, i * 4 + 1, none⟩ (.string (strOfNums t.tx))).setCell ⟨g, i * 4 + 2, none⟩ (.int .i64 t.n)).setCell ⟨g, i * 4 + 3, none⟩ (.int .i64 t.a)) (.slice (Option.some ⟨g, 0, none⟩) n c) (ts.set i t) := by
  subst hn
  unfold OwT at *
  have h1 := (World.ownsRow.stored h (i * 4) (.int .i64 t.k)).1
  have h2 := (World.ownsRow.stored h1 (i * 4 + 1) (.string (strOfNums t.tx))).1
  have h3 := (World.ownsRow.stored h2 (i * 4 + 2) (.int .i64 t.n)).1
  have h4 := (World.ownsRow.stored h3 (i * 4 + 3) (.int .i64 t.a)).1
  rw [List.length_set, flatT_set ts i t hi]
  exact h4
/-- back to front, the first k -/
def revK (ts : List Tk) : Nat → List Tk
  | 0 => ts
  | k + 1 => (revK ts k).set k (ts.getD (ts.length - 1 - k) tkZ)
theorem revK_len (ts : List Tk) : ∀ k, (revK ts k).length = ts.length
  | 0 => rfl
  | k + 1 => by rw [revK, List.length_set, revK_len ts k]
/-- the other tokens -/
def othL (ts : List Tk) (turn : Int) : List Tk := if turn = 1 ∧ 0 < ts.length then ts.set (ts.length / 2) ⟨1, [98], 0, 0⟩ else if turn = 2 then revK ts ts.length else ts
theorem set4_below {B : Nat} {a w : World} (h : Below B a w) {g : Nat} (hg : B ≤ g) (o : Nat) (v0 v1 v2 v3 : Value) : Below B a ((((w.setCell ⟨g, o, none⟩ v0).setCell ⟨g, o + 1, none⟩ v1).setCell ⟨g, o + 2, none⟩ v2).setCell ⟨g, o + 3, none⟩ v3) :=
  (((h.setCell (p := ⟨g, o, none⟩) hg _).setCell (p := ⟨g, o + 1, none⟩) hg _).setCell (p := ⟨g, o + 2, none⟩) hg _).setCell (p := ⟨g, o + 3, none⟩) hg _
/-- what other answers -/
def OtQ (w : World) (n : Nat) (ls : List Tk) (e : Ending) (w' : World) : Prop := ∃ g cc, e = .returned (.slice (some ⟨g, 0, none⟩) n cc) ∧ w.heap.size ≤ g ∧ OwT w.heap.size w' (.slice (some ⟨g, 0, none⟩) n cc) ls ∧ Below w.heap.size w w'
set_option maxRecDepth 100000 in
set_option maxHeartbeats 1000000 in
theorem other_same (a : Option Addr) (n c : Nat) (ts : List Tk) (turn : Int) (w : World) (hn : ts.length = n) (hN : n ≤ 1048576) (hO : TkO w a c ts) (h1 : turn ≠ 1) (h2 : turn ≠ 2) : Calls Tryd.prog 14 #[.slice a n c, .int .i64 turn] w (OtQ w n ts) := by
  have HC := hid (CopyTokens_rd a n c ts w hn hO (by omega))
  obtain ⟨PQ, hPQ⟩ : ∃ PQ, PQ = OtQ w n ts := ⟨_, rfl⟩
  rw [← hPQ]
  have HPQ := hid hPQ
  clear hO hPQ
  go_enter Tryd.func14, Tryd.ntmps14
  go_wp2_with fail
  refine Calls.mono HC.out ?_
  rintro e w1 ⟨g, cc, rfl, k1, k2, k3⟩
  have HK := hid (And.intro k1 (And.intro k2 k3))
  clear k1 k2 k3 HC
  go_wp2_with fail
  go_loopw [6] (fun iv wr => iv = .int .i64 0 ∧ wr = w1) (fun _ _ => 0)
  case atStart => exact ⟨rfl, rfl⟩
  case round =>
    obtain ⟨rfl, rfl⟩ := hrel
    go_wp2_with fail
    rw [HPQ.out]
    exact ⟨g, cc, rfl, HK.out.1, HK.out.2.1, HK.out.2.2⟩

set_option maxRecDepth 100000 in
set_option maxHeartbeats 1000000 in
theorem other_one (a : Option Addr) (n c : Nat) (ts : List Tk) (w : World) (hn : ts.length = n) (hN : n ≤ 1048576) (hO : TkO w a c ts) : Calls Tryd.prog 14 #[.slice a n c, .int .i64 1] w (OtQ w n (if 0 < n then ts.set (n / 2) ⟨1, [98], 0, 0⟩ else ts)) := by
  have HC := hid (CopyTokens_rd a n c ts w hn hO (by omega))
  by_cases h0 : 0 < n
  · rw [if_pos h0]
    obtain ⟨PQ, hPQ⟩ : ∃ PQ, PQ = OtQ w n (ts.set (n / 2) ⟨1, [98], 0, 0⟩) := ⟨_, rfl⟩
    rw [← hPQ]
    have HPQ := hid hPQ
    have h0' : (0 : Int) < (n : Int) := by omega
    have hq : ((n : Int)).tdiv 2 = ((n / 2 : Nat) : Int) := by rw [Int.tdiv_eq_ediv_of_nonneg (by omega)]; omega
    clear hO hPQ
    go_enter Tryd.func14, Tryd.ntmps14
    go_wp2_with fail
    refine Calls.mono HC.out ?_
    rintro e w1 ⟨g, cc, rfl, k1, k2, k3⟩
    have hi : n / 2 < ts.length := by omega
    obtain ⟨c0, c1, c2, c3⟩ := k2.cell4 hn.symm (n / 2) hi
    have f0 := World.ownsRow.frozenAt (by unfold OwT at k2; rw [hn] at k2; exact k2) (n / 2 * 4)
    have f1 := World.ownsRow.frozenAt (by unfold OwT at k2; rw [hn] at k2; exact k2) (n / 2 * 4 + 1)
    have f2 := World.ownsRow.frozenAt (by unfold OwT at k2; rw [hn] at k2; exact k2) (n / 2 * 4 + 2)
    have f3 := World.ownsRow.frozenAt (by unfold OwT at k2; rw [hn] at k2; exact k2) (n / 2 * 4 + 3)
    have HK : Hid (w.heap.size ≤ g ∧ ∀ W, W = (((w1.setCell ⟨g, n / 2 * 4, none⟩ (.int .i64 1)).setCell ⟨g, n / 2 * 4 + 1, none⟩ (.string ⟨#[98]⟩)).setCell ⟨g, n / 2 * 4 + 2, none⟩ (.int .i64 0)).setCell ⟨g, n / 2 * 4 + 3, none⟩ (.int .i64 0) → OwT w.heap.size W (.slice (some ⟨g, 0, none⟩) n cc) (ts.set (n / 2) ⟨1, [98], 0, 0⟩) ∧ Below w.heap.size w W) := ⟨k1, fun W hW => by
      have h4 := k2.set4 hn (n / 2) ⟨1, [98], 0, 0⟩ hi
      have e0 : strOfNums [98] = (⟨#[98]⟩ : ByteArray) := rfl
      simp only [e0] at h4
      rw [← hW] at h4
      exact ⟨h4, by rw [hW]; exact set4_below k3 k1 _ _ _ _ _⟩⟩
    have hm : n / 2 < n := by omega
    have hm' : ((n / 2 : Nat) : Int) < (n : Int) := by omega
    clear k1 k2 k3 HC
    generalize n / 2 = m at *
    go_wp2_with fail
    obtain ⟨WX, hWX⟩ : ∃ WX, WX = (((w1.setCell ⟨g, m * 4, none⟩ (.int .i64 1)).setCell ⟨g, m * 4 + 1, none⟩ (.string ⟨#[98]⟩)).setCell ⟨g, m * 4 + 2, none⟩ (.int .i64 0)).setCell ⟨g, m * 4 + 3, none⟩ (.int .i64 0) := ⟨_, rfl⟩
    rw [← hWX]
    have HX := hid (HK.out.2 WX hWX)
    have HX1 := hid HK.out.1
    clear hWX HK c0 c1 c2 c3 f0 f1 f2 f3
    go_loopw [6] (fun iv wr => iv = .int .i64 0 ∧ wr = WX) (fun _ _ => 0)
    case atStart => exact ⟨rfl, rfl⟩
    case round =>
      obtain ⟨rfl, rfl⟩ := hrel
      go_wp2_with fail
      rw [HPQ.out]
      exact ⟨g, cc, rfl, HX1.out, HX.out.1, HX.out.2⟩
  · rw [if_neg h0]
    obtain ⟨PQ, hPQ⟩ : ∃ PQ, PQ = OtQ w n ts := ⟨_, rfl⟩
    rw [← hPQ]
    have HPQ := hid hPQ
    obtain rfl : n = 0 := by omega
    clear hO hPQ
    go_enter Tryd.func14, Tryd.ntmps14
    go_wp2_with fail
    refine Calls.mono HC.out ?_
    rintro e w1 ⟨g, cc, rfl, k1, k2, k3⟩
    have HK := hid (And.intro k1 (And.intro k2 k3))
    clear k1 k2 k3 HC
    go_wp2_with fail
    go_loopw [6] (fun iv wr => iv = .int .i64 0 ∧ wr = w1) (fun _ _ => 0)
    case atStart => exact ⟨rfl, rfl⟩
    case round =>
      obtain ⟨rfl, rfl⟩ := hrel
      go_wp2_with fail
      rw [HPQ.out]
      exact ⟨g, cc, rfl, HK.out.1, HK.out.2.1, HK.out.2.2⟩

end Go.Proofs.YtoifmiloaefanaaDoor
/-
  other: back to front.
-/
namespace Go.Proofs.YtoifmiloaefanaaDoor
open Go.RowKit

set_option maxRecDepth 100000 in
set_option maxHeartbeats 1000000 in
theorem other_two (a : Option Addr) (n c : Nat) (ts : List Tk) (w : World) (hn : ts.length = n) (hN : n ≤ 1048576) (hO : TkO w a c ts) : Calls Tryd.prog 14 #[.slice a n c, .int .i64 2] w (OtQ w n (revK ts n)) := by
  have HC := hid (CopyTokens_rd a n c ts w hn hO (by omega))
  have HO := hid hO
  obtain ⟨PQ, hPQ⟩ : ∃ PQ, PQ = OtQ w n (revK ts n) := ⟨_, rfl⟩
  rw [← hPQ]
  have HPQ := hid hPQ
  clear hO hPQ
  go_enter Tryd.func14, Tryd.ntmps14
  go_wp2_with fail
  refine Calls.mono HC.out ?_
  rintro e w1 ⟨g, cc, rfl, k1, k2, k3⟩
  have HK := hid (And.intro k2 k3)
  have HK1 := hid k1
  clear k1 k2 k3 HC
  go_wp2_with fail
  go_loopw [6] (fun iv wr => ∃ k : Nat, iv = .int .i64 (k : Int) ∧ k ≤ n ∧ OwT w.heap.size wr (.slice (some ⟨g, 0, none⟩) n cc) (revK ts k) ∧ Below w.heap.size w wr) (fun iv _ => n - (intOf iv).toNat)
  case atStart => exact ⟨0, rfl, Nat.zero_le _, HK.out.1, HK.out.2⟩
  case round =>
    clear HK
    obtain ⟨k, rfl, hk, hOw, hB⟩ := hrel
    have hkl : k < n → k < (revK ts k).length := fun h => by rw [revK_len, hn]; exact h
    have hkn : n = (revK ts k).length := by rw [revK_len, hn]
    by_cases q : k < n
    · have q' : (k : Int) < (n : Int) := by omega
      obtain ⟨p, hp⟩ : ∃ p, p = n - 1 - k := ⟨_, rfl⟩
      have hp' : (n : Int) - 1 - (k : Int) = (p : Int) := by omega
      have hpn : (p : Int) < (n : Int) := by omega
      have hpt : p < ts.length := by omega
      obtain ⟨g0, off, rfl, _, hcs⟩ := (HO.out.next hB).resolve_left (by rintro (⟨_, _, e⟩ | ⟨_, _, e⟩) <;> (rw [e] at hn; simp at hn; omega))
      have cc4 : ∀ i, i < 4 → ∀ v, (cellsT ts[p])[i]? = some v → wr.cell? ⟨g0, off + (p * 4 + i), none⟩ = some v := fun i hi v hv => hcs _ _ ((flatT_at ts p hpt i hi).trans hv)
      have s0 : wr.cell? ⟨g0, off + p * 4, none⟩ = some (.int .i64 ts[p].k) := cc4 0 (by decide) _ rfl
      have s1 : wr.cell? ⟨g0, off + p * 4 + 1, none⟩ = some (.string (strOfNums ts[p].tx)) := cc4 1 (by decide) _ rfl
      have s2 : wr.cell? ⟨g0, off + p * 4 + 2, none⟩ = some (.int .i64 ts[p].n) := cc4 2 (by decide) _ rfl
      have s3 : wr.cell? ⟨g0, off + p * 4 + 3, none⟩ = some (.int .i64 ts[p].a) := cc4 3 (by decide) _ rfl
      have hkl' := hkl q
      obtain ⟨x, hx⟩ : ∃ x : Tk, x = (revK ts k)[k] := ⟨_, rfl⟩
      obtain ⟨c0, c1, c2, c3⟩ := hOw.cell4 hkn k hkl'
      rw [← hx] at c0 c1 c2 c3
      have fzz : ∀ o, wr.frozen? ⟨g, o, none⟩ = false := fun o => World.ownsRow.frozenAt (by unfold OwT at hOw; rw [← hkn] at hOw; exact hOw) o
      have f0 := fzz (k * 4)
      have f1 := fzz (k * 4 + 1)
      have f2 := fzz (k * 4 + 2)
      have f3 := fzz (k * 4 + 3)
      have HNX : Hid (∀ W, W = (((wr.setCell ⟨g, k * 4, none⟩ (.int .i64 ts[p].k)).setCell ⟨g, k * 4 + 1, none⟩ (.string (strOfNums ts[p].tx))).setCell ⟨g, k * 4 + 2, none⟩ (.int .i64 ts[p].n)).setCell ⟨g, k * 4 + 3, none⟩ (.int .i64 ts[p].a) → OwT w.heap.size W (.slice (some ⟨g, 0, none⟩) n cc) (revK ts (k + 1)) ∧ Below w.heap.size w W) := fun W hW => by
        have h4 := hOw.set4 hkn.symm k ts[p] hkl'
        rw [← hW] at h4
        refine ⟨?_, by rw [hW]; exact set4_below hB HK1.out _ _ _ _ _⟩
        rw [revK, hn, ← hp, List.getD_eq_getElem?_getD, List.getElem?_eq_getElem hpt]
        exact h4
      clear hOw hB cc4 hcs fzz hx hkl hkl' hkn hp
      generalize ts[p] = t at *
      obtain ⟨tk, tl, tn, ta⟩ := t
      simp only at s0 s1 s2 s3 HNX
      generalize strOfNums tl = U at *
      go_wp2_with fail
      exact ⟨⟨k + 1, by go_num, by omega, (HNX.out _ rfl).1, (HNX.out _ rfl).2⟩, by simp [intOf]; omega⟩
    · obtain rfl : k = n := by omega
      have HE := hid (And.intro hOw hB)
      clear hOw hB hkl hkn
      go_wp2_with fail
      rw [HPQ.out]
      exact ⟨g, cc, rfl, HK1.out, HE.out.1, HE.out.2⟩

end Go.Proofs.YtoifmiloaefanaaDoor
